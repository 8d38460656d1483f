/-
  What outputs decide: the model.
-/
import Derived.Test.YtiaoenkgapfgaaaDoorWc
import Derived.Test.YtiaoenkgapfgaaaDoorWd
namespace Go.Proofs.YtiaoenkgapfgaaaDoor
open Go.RowKit Sets

/-- A call hands back the result r, whose list is its own. -/
def ResN (r : Rs) (w : World) (e : Ending) (w' : World) : Prop := ∃ A' c', e = .returned (.agg #[.int .i64 r.1, .slice A' r.2.length c']) ∧ OwnN w' w.heap.size A' c' r.2 ∧ Below w.heap.size w w'

theorem own_one_box (w : World) (o : Obj) (x : Int) (hx : I64 x) : OwnN ((w.alloc o).alloc (.cells #[.int .i64 x] 3)) (w.heap.size + 1) (some ⟨w.heap.size + 1, 0, none⟩) 1 [x] := by
  have h := ownI_one (w.alloc o) x
  obtain ⟨A, c, e, h2⟩ := h.form (fun y hy => by rw [List.mem_singleton.1 hy]; exact hx)
  have hz : (w.alloc o).heap.size = w.heap.size + 1 := by simp
  rw [hz] at e h2
  injection e with e1 e2 e3
  subst e1 e3
  exact h2
theorem own_nil_box (w : World) (o : Obj) : OwnN ((w.alloc o).alloc (.cells #[] 3)) (w.heap.size + 1) (some ⟨w.heap.size + 1, 0, none⟩) 0 [] :=
  ⟨Nat.le_refl _, by omega, (fun x hx => by cases hx), (fun g o' s e => by injection e with e; injection e with e1 _; subst e1; exact ⟨Nat.le_refl _, by simp⟩), .inl rfl⟩
theorem OwnN.two {V : World} {base c g : Nat} {A : Option Addr} {ns : List Int} (h : OwnN V base A c ns) (hg : g < base) (a b : Value) : OwnN ((V.setCell ⟨g, 0, none⟩ a).setCell ⟨g, 1, none⟩ b) base A c ns := by
  obtain ⟨h1, h2, h3, h4, h5⟩ := h
  refine ⟨h1, h2, h3, fun g' o s e => ⟨(h4 g' o s e).1, by rw [two_size]; exact (h4 g' o s e).2⟩, h5.imp id ?_⟩
  rintro ⟨g', e, hr, ho⟩
  have hgg : g' ≠ g := by have := (h4 g' 0 none e).1; omega
  refine ⟨g', e, fun i hi => by rw [two_other hgg]; exact hr i hi, fun o ho' => by rw [two_other hgg]; exact ho.1 o ho', fun o => by rw [World.frozen?_setCell, World.frozen?_setCell]; exact ho.2.1 o, by rw [two_size]; exact ho.2.2⟩
theorem box_cells (w : World) (x : Int) (A : Option Addr) (n c : Nat) (t : TypeId) (o : Obj) : ((w.alloc (.cells #[.int .i64 x, .slice A n c] t)).alloc o).cell? ⟨w.heap.size, 0, none⟩ = some (.int .i64 x) ∧ ((w.alloc (.cells #[.int .i64 x, .slice A n c] t)).alloc o).cell? ⟨w.heap.size, 1, none⟩ = some (.slice A n c) := by
  have b1 : Below (w.heap.size + 1) (w.alloc (.cells #[.int .i64 x, .slice A n c] t)) ((w.alloc (.cells #[.int .i64 x, .slice A n c] t)).alloc o) := (Below.refl _ _).alloc (by simp) _
  constructor
  · rw [b1.cell (p := ⟨w.heap.size, 0, none⟩) (by simp), World.cell?_alloc_new]; rfl
  · rw [b1.cell (p := ⟨w.heap.size, 1, none⟩) (by simp), World.cell?_alloc_new]; rfl
theorem out_i64 {ns : List Int} (h : outB ns = true) {k : Nat} (hk : k < ns.length) : I64 (ns.getD k 0) := by
  have := (outB_at h).2 k hk
  unfold I64; omega
theorem num_i64 {ns : List Int} (h : outB ns = true) (hp : 0 < ns.length) (p : Int) : I64 (numV p ns) := by
  have ho := outB_at h
  have h1 := smK_bound ho.2 ns.length (Nat.le_refl _)
  obtain ⟨i, hi, e1⟩ := mn_mem (ns := ns) (ns.length - 1) (by omega)
  obtain ⟨j, hj, e2⟩ := mx_mem (ns := ns) (ns.length - 1) (by omega)
  have a1 := ho.2 i (by omega)
  have a2 := ho.2 j (by omega)
  have a3 := ho.2 0 hp
  unfold numV I64
  split
  · omega
  · split
    · omega
    · split
      · rw [e1]; omega
      · split
        · rw [e2]; omega
        · omega


/-- a result that is one number: the end of the walk -/
theorem dec_one {r : Rs} {x : Int} (h : r = (0, [x])) (w : World) (hx : I64 x) : ResN r w (.returned (.agg #[.int .i64 0, .slice (some ⟨w.heap.size + 1, 0, none⟩) 1 1])) ((w.alloc (.cells #[.int .i64 0, .slice (some ⟨w.heap.size + 1, 0, none⟩) 1 1] 27)).alloc (.cells #[.int .i64 x] 3)) := by
  rw [h]
  exact ⟨_, _, rfl, (own_one_box w _ x hx).base (by omega), ((Below.refl _ _).alloc (Nat.le_refl _) _).alloc (by simp) _⟩
theorem dec_nil {r : Rs} {k : Int} (h : r = (k, [])) (w : World) : ResN r w (.returned (.agg #[.int .i64 k, .slice (some ⟨w.heap.size + 1, 0, none⟩) 0 0])) ((w.alloc (.cells #[.int .i64 k, .slice (some ⟨w.heap.size + 1, 0, none⟩) 0 0] 27)).alloc (.cells #[] 3)) := by
  rw [h]
  exact ⟨_, _, rfl, (own_nil_box w _).base (by omega), ((Below.refl _ _).alloc (Nat.le_refl _) _).alloc (by simp) _⟩

theorem box_facts (w : World) (t : TypeId) : (w.alloc (.cells #[.int .i64 0, .slice none 0 0] t)).cell? ⟨w.heap.size, 0, none⟩ = some (.int .i64 0) ∧ (w.alloc (.cells #[.int .i64 0, .slice none 0 0] t)).cell? ⟨w.heap.size, 1, none⟩ = some (.slice none 0 0) ∧ ∀ o, (w.alloc (.cells #[.int .i64 0, .slice none 0 0] t)).frozen? ⟨w.heap.size, o, none⟩ = false :=
  ⟨by rw [World.cell?_alloc_new]; rfl, by rw [World.cell?_alloc_new]; rfl, fun o => World.frozen?_alloc_at _ _ _ _ rfl⟩
theorem cell_old {w V : World} {o : Obj} {k : Nat} {ob : Obj} (b : Below (w.alloc o).heap.size (w.alloc o) V) : (V.alloc ob).cell? ⟨w.heap.size, k, none⟩ = V.cell? ⟨w.heap.size, k, none⟩ :=
  Below.cell (B := V.heap.size) ((Below.refl _ _).alloc (Nat.le_refl _) _) (p := ⟨w.heap.size, k, none⟩) (Nat.lt_of_lt_of_le (by simp) b.size)
theorem own_nil_at (V : World) {base : Nat} (h : base ≤ V.heap.size) : OwnN (V.alloc (.cells #[] 3)) base (some ⟨V.heap.size, 0, none⟩) 0 [] :=
  ⟨Nat.le_refl _, by omega, (fun x hx => by cases hx), (fun g o' s e => by injection e with e; injection e with e1 _; subst e1; exact ⟨h, by simp⟩), .inl rfl⟩
theorem own_one_at (V : World) {base : Nat} (x : Int) (hx : I64 x) (h : base ≤ V.heap.size) : OwnN (V.alloc (.cells #[.int .i64 x] 3)) base (some ⟨V.heap.size, 0, none⟩) 1 [x] := by
  obtain ⟨A, c, e, h2⟩ := (ownI_one V x).form (fun y hy => by rw [List.mem_singleton.1 hy]; exact hx)
  injection e with e1 e2 e3
  subst e1 e3
  exact h2.base h
/-- a result that is stored into its cell: the end of the walk -/
theorem dec_fin {r : Rs} {ms : List Int} {k : Int} {fn : Func} {a : Act} {A : Option Addr} {c : Nat} {w V : World} {x y : Value} (hv : r = (k, ms)) (hb : Below w.heap.size w V) (h0 : V.cell? ⟨w.heap.size, 0, none⟩ = some x) (h1 : V.cell? ⟨w.heap.size, 1, none⟩ = some y)
    (ho : OwnN V (w.heap.size + 1) A c ms) (hd : a.defers = [])
    (hr : ∀ {F : World}, F.cell? ⟨w.heap.size, 0, none⟩ = some (.int .i64 k) → F.cell? ⟨w.heap.size, 1, none⟩ = some (.slice A ms.length c) → (results fn a.tmps).run Tryd.prog F = .ok (.agg #[.int .i64 k, .slice A ms.length c]) F) :
    bodyPost Tryd.prog fn (ResN r w) Exit.ret a ((V.setCell ⟨w.heap.size, 0, none⟩ (.int .i64 k)).setCell ⟨w.heap.size, 1, none⟩ (.slice A ms.length c)) := by
  obtain ⟨k0, k1⟩ := set_two h0 h1 (.int .i64 k) (.slice A ms.length c)
  refine bodyPost_ret (hr k0 k1) hd ?_
  rw [hv]
  exact ⟨A, c, rfl, (ho.two (by omega) _ _).base (by omega), two_below hb (Nat.le_refl _) _ _⟩
/-- the same, where the list's block is laid behind -/
theorem dec_fin2 {r : Rs} {ms : List Int} {k : Int} {fn : Func} {a : Act} {A : Option Addr} {c : Nat} {w V : World} {x y : Value} {ob : Obj} (hv : r = (k, ms)) (hb : Below w.heap.size w V) (hlt : w.heap.size < V.heap.size) (h0 : V.cell? ⟨w.heap.size, 0, none⟩ = some x) (h1 : V.cell? ⟨w.heap.size, 1, none⟩ = some y)
    (ho : OwnN (V.alloc ob) (w.heap.size + 1) A c ms) (hd : a.defers = [])
    (hr : ∀ {F : World}, F.cell? ⟨w.heap.size, 0, none⟩ = some (.int .i64 k) → F.cell? ⟨w.heap.size, 1, none⟩ = some (.slice A ms.length c) → (results fn a.tmps).run Tryd.prog F = .ok (.agg #[.int .i64 k, .slice A ms.length c]) F) :
    bodyPost Tryd.prog fn (ResN r w) Exit.ret a (((V.setCell ⟨w.heap.size, 0, none⟩ (.int .i64 k)).setCell ⟨w.heap.size, 1, none⟩ (.slice A ms.length c)).alloc ob) := by
  have bV : Below V.heap.size V (V.alloc ob) := (Below.refl _ _).alloc (Nat.le_refl _) _
  rw [← World.setCell_alloc_past ob _ _ _ (by simpa [World.setCell] using hlt), ← World.setCell_alloc_past ob _ _ _ hlt]
  exact dec_fin hv (hb.trans (bV.mono (Nat.le_of_lt hlt))) ((bV.cell (p := ⟨w.heap.size, 0, none⟩) hlt).trans h0) ((bV.cell (p := ⟨w.heap.size, 1, none⟩) hlt).trans h1) ho hd hr

set_option maxRecDepth 100000 in
set_option maxHeartbeats 8000000 in
theorem specDec4_any (p : Int) (A : Option Addr) (c : Nat) (ns : List Int) (w : World) (h : IntsAt w w.heap.size A c ns) (hout : outB ns = true) (hp1 : 1 ≤ p) (hp2 : p ≤ 10) :
    Calls Tryd.prog 24 #[.int .i64 p, .slice A ns.length c] w (ResN (dcV p ns) w) := by
  have hbx : Below w.heap.size w (w.alloc (.cells #[.int .i64 0, .slice none 0 0] 27)) := (Below.refl _ _).alloc (Nat.le_refl _) _
  have HI := Lib.hid (h.step hbx)
  have HB := Lib.hid hbx
  have HO := Lib.hid hout
  clear h hbx hout
  by_cases hz : ns.length = 0
  · obtain rfl : ns = [] := List.eq_nil_of_length_eq_zero hz
    clear hz HI HO
    by_cases hp : p = 10
    · subst hp
      have HV := Lib.hid (show dcV 10 [] = (0, [0]) by rfl)
      obtain ⟨k0, k1⟩ := box_cells w 0 (some ⟨w.heap.size + 1, 0, none⟩) 1 1 27 (.cells #[.int .i64 0] 3)
      have K := Lib.hid (And.intro k0 k1)
      clear k0 k1
      go_enter Tryd.func24, Tryd.ntmps24
      go_wp2
      try trivial
      obtain ⟨k0, k1⟩ := K.out
      exact bodyPost_ret (v := .agg #[.int .i64 0, .slice (some ⟨w.heap.size + 1, 0, none⟩) 1 1]) (by simp [results, Tryd.results24, go_sem, k0, k1]) rfl (dec_one HV.out w (by unfold I64; omega))
    · have HV := Lib.hid (show dcV p [] = (1, []) by unfold dcV; simp [hp])
      have hp' : (p == 10) = false := by simp [hp]
      obtain ⟨k0, k1⟩ := box_cells w 1 (some ⟨w.heap.size + 1, 0, none⟩) 0 0 27 (.cells #[] 3)
      have K := Lib.hid (And.intro k0 k1)
      clear k0 k1 hp
      go_enter Tryd.func24, Tryd.ntmps24
      go_wp2
      try trivial
      obtain ⟨k0, k1⟩ := K.out
      exact bodyPost_ret (v := .agg #[.int .i64 1, .slice (some ⟨w.heap.size + 1, 0, none⟩) 0 0]) (by simp [results, Tryd.results24, go_sem, k0, k1]) rfl (dec_nil HV.out w)
  · have hpos : 0 < ns.length := by omega
    have hn0 : ((ns.length : Int) == 0) = false := by simp; intro h; exact hz (by simp [h])
    have HP := Lib.hid hpos
    have dcv : ∀ q : Int, q ≠ 1 → q ≠ 2 → q ≠ 5 → q ≠ 6 → dcV q ns = (0, [numV q ns]) := fun q a1 a2 a3 a4 => by unfold dcV; rw [if_neg hz, if_neg a1, if_neg a2, if_neg a3, if_neg a4]
    have NUM := Lib.hid dcv
    have HZ := Lib.hid hz
    clear hpos hz dcv
    rcases (by omega : p = 1 ∨ p = 2 ∨ p = 3 ∨ p = 4 ∨ p = 5 ∨ p = 6 ∨ p = 7 ∨ p = 8 ∨ p = 9 ∨ p = 10) with rfl | rfl | rfl | rfl | rfl | rfl | rfl | rfl | rfl | rfl
    · by_cases hm : 1 < ns.length
      · have hm' : (1 : Int) < (ns.length : Int) := by omega
        have HV := Lib.hid (show dcV 1 ns = (2, []) by unfold dcV; rw [if_neg HZ.out, if_pos rfl, if_pos hm])
        obtain ⟨k0, k1⟩ := box_cells w 2 (some ⟨w.heap.size + 1, 0, none⟩) 0 0 27 (.cells #[] 3)
        have K := Lib.hid (And.intro k0 k1)
        clear k0 k1 hm
        go_enter Tryd.func24, Tryd.ntmps24
        go_wp2
        try trivial
        obtain ⟨k0, k1⟩ := K.out
        exact bodyPost_ret (v := .agg #[.int .i64 2, .slice (some ⟨w.heap.size + 1, 0, none⟩) 0 0]) (by simp [results, Tryd.results24, go_sem, k0, k1]) rfl (dec_nil HV.out w)
      · have hm' : decide ((1 : Int) < (ns.length : Int)) = false := decide_eq_false (by omega)
        have HV := Lib.hid (show dcV 1 ns = (0, [numV 1 ns]) by unfold dcV; rw [if_neg HZ.out, if_pos rfl, if_neg hm]; unfold numV; simp)
        obtain ⟨x, hx⟩ : ∃ x, numV 1 ns = x := ⟨_, rfl⟩
        have HX := Lib.hid hx
        obtain ⟨k0, k1⟩ := box_cells w 0 (some ⟨w.heap.size + 1, 0, none⟩) 1 1 27 (.cells #[.int .i64 x] 3)
        have K := Lib.hid (And.intro k0 k1)
        clear k0 k1 hx hm
        go_enter Tryd.func24, Tryd.ntmps24
        go_wp2_with (go_at_call 45; refine (specNumOne_any _ _ ns _ HI.out HP.out HO.out).mono ?_; rw [HX.out]; rintro e w' ⟨rfl, rfl⟩)
        obtain ⟨k0, k1⟩ := K.out
        exact bodyPost_ret (v := .agg #[.int .i64 0, .slice (some ⟨w.heap.size + 1, 0, none⟩) 1 1]) (by simp [results, Tryd.results24, go_sem, k0, k1]) rfl (dec_one (by rw [HV.out, HX.out]) w (by rw [← HX.out]; exact num_i64 HO.out HP.out 1))
    · have BOX := Lib.hid (box_facts w 27)
      go_enter Tryd.func24, Tryd.ntmps24
      go_wp2_with fail
      refine (specSame4_any _ _ ns _ HI.out HP.out).mono ?_
      rintro e w1 ⟨rfl, b1⟩
      have B1 := Lib.hid b1
      have HI1 := Lib.hid (HI.out.step b1)
      clear b1
      cases hs : smB ns
      · have HV := Lib.hid (show dcV 2 ns = (2, []) by unfold dcV; rw [if_neg HZ.out, if_neg (by omega), if_pos rfl, if_neg (by rw [hs]; simp)])
        have q0 := (B1.out.cell (p := ⟨w.heap.size, 0, none⟩) (by simp)).trans BOX.out.1
        have q1 := (B1.out.cell (p := ⟨w.heap.size, 1, none⟩) (by simp)).trans BOX.out.2.1
        have f0 := (B1.out.frozen (p := ⟨w.heap.size, 0, none⟩) (by simp)).trans (BOX.out.2.2 0)
        have f1 := (B1.out.frozen (p := ⟨w.heap.size, 1, none⟩) (by simp)).trans (BOX.out.2.2 1)
        clear hs
        have bV : Below w1.heap.size w1 (w1.alloc (.cells #[] 3)) := (Below.refl _ _).alloc (Nat.le_refl _) _
        have hlt : w.heap.size < w1.heap.size := Nat.lt_of_lt_of_le (by simp) B1.out.size
        have Q0 := (bV.cell (p := ⟨w.heap.size, 0, none⟩) hlt).trans q0
        have Q1 := (bV.cell (p := ⟨w.heap.size, 1, none⟩) hlt).trans q1
        have F0 := (bV.frozen (p := ⟨w.heap.size, 0, none⟩) hlt).trans f0
        have F1 := (bV.frozen (p := ⟨w.heap.size, 1, none⟩) hlt).trans f1
        clear bV
        go_wp2
        refine dec_fin2 (x := .int .i64 0) (y := .slice none 0 0) HV.out (V := w1) (HB.out.trans ((B1.out).mono HB.out.size)) hlt q0 q1 (own_nil_at w1 (by have := B1.out.size; simpa using this)) rfl ?_
        intro F k0 k1
        try simp at k0 k1
        simp [results, Tryd.results24, go_sem, k0, k1]
      · have HV := Lib.hid (show dcV 2 ns = (0, [numV 2 ns]) by unfold dcV; rw [if_neg HZ.out, if_neg (by omega), if_pos rfl, if_pos hs]; unfold numV; simp)
        obtain ⟨x, hx⟩ : ∃ x, numV 2 ns = x := ⟨_, rfl⟩
        have HX := Lib.hid hx
        have q0 := (B1.out.cell (p := ⟨w.heap.size, 0, none⟩) (by simp)).trans BOX.out.1
        have q1 := (B1.out.cell (p := ⟨w.heap.size, 1, none⟩) (by simp)).trans BOX.out.2.1
        have f0 := (B1.out.frozen (p := ⟨w.heap.size, 0, none⟩) (by simp)).trans (BOX.out.2.2 0)
        have f1 := (B1.out.frozen (p := ⟨w.heap.size, 1, none⟩) (by simp)).trans (BOX.out.2.2 1)
        clear hs hx
        have bV : Below w1.heap.size w1 (w1.alloc (.cells #[.int .i64 x] 3)) := (Below.refl _ _).alloc (Nat.le_refl _) _
        have hlt : w.heap.size < w1.heap.size := Nat.lt_of_lt_of_le (by simp) B1.out.size
        have Q0 := (bV.cell (p := ⟨w.heap.size, 0, none⟩) hlt).trans q0
        have Q1 := (bV.cell (p := ⟨w.heap.size, 1, none⟩) hlt).trans q1
        have F0 := (bV.frozen (p := ⟨w.heap.size, 0, none⟩) hlt).trans f0
        have F1 := (bV.frozen (p := ⟨w.heap.size, 1, none⟩) hlt).trans f1
        clear bV
        go_wp2_with (go_at_call 45; refine (specNumTwo_any _ _ ns _ HI1.out HP.out HO.out).mono ?_; rw [HX.out]; rintro e w' ⟨rfl, rfl⟩)
        refine dec_fin2 (x := .int .i64 0) (y := .slice none 0 0) (by rw [HV.out, HX.out]) (V := w1) (HB.out.trans ((B1.out).mono HB.out.size)) hlt q0 q1 (own_one_at w1 x (by rw [← HX.out]; exact num_i64 HO.out HP.out 2) (by have := B1.out.size; simpa using this)) rfl ?_
        intro F k0 k1
        try simp at k0 k1
        simp [results, Tryd.results24, go_sem, k0, k1]
    · have HV := Lib.hid (NUM.out 3 (by omega) (by omega) (by omega) (by omega))
      obtain ⟨x, hx⟩ : ∃ x, numV 3 ns = x := ⟨_, rfl⟩
      have HX := Lib.hid hx
      obtain ⟨k0, k1⟩ := box_cells w 0 (some ⟨w.heap.size + 1, 0, none⟩) 1 1 27 (.cells #[.int .i64 x] 3)
      have K := Lib.hid (And.intro k0 k1)
      clear k0 k1 hx
      go_enter Tryd.func24, Tryd.ntmps24
      go_wp2_with (go_at_call 45; refine (specNumTop_any _ _ ns _ HI.out HP.out HO.out).mono ?_; rw [HX.out]; rintro e w' ⟨rfl, rfl⟩)
      obtain ⟨k0, k1⟩ := K.out
      exact bodyPost_ret (v := .agg #[.int .i64 0, .slice (some ⟨w.heap.size + 1, 0, none⟩) 1 1]) (by simp [results, Tryd.results24, go_sem, k0, k1]) rfl (dec_one (by rw [HV.out, HX.out]) w (by rw [← HX.out]; exact num_i64 HO.out HP.out 3))
    · have HV := Lib.hid (NUM.out 4 (by omega) (by omega) (by omega) (by omega))
      obtain ⟨x, hx⟩ : ∃ x, numV 4 ns = x := ⟨_, rfl⟩
      have HX := Lib.hid hx
      obtain ⟨k0, k1⟩ := box_cells w 0 (some ⟨w.heap.size + 1, 0, none⟩) 1 1 27 (.cells #[.int .i64 x] 3)
      have K := Lib.hid (And.intro k0 k1)
      clear k0 k1 hx
      go_enter Tryd.func24, Tryd.ntmps24
      go_wp2_with (go_at_call 45; refine (specNumFst_any _ _ ns _ HI.out HP.out HO.out).mono ?_; rw [HX.out]; rintro e w' ⟨rfl, rfl⟩)
      obtain ⟨k0, k1⟩ := K.out
      exact bodyPost_ret (v := .agg #[.int .i64 0, .slice (some ⟨w.heap.size + 1, 0, none⟩) 1 1]) (by simp [results, Tryd.results24, go_sem, k0, k1]) rfl (dec_one (by rw [HV.out, HX.out]) w (by rw [← HX.out]; exact num_i64 HO.out HP.out 4))
    · have HV := Lib.hid (show dcV 5 ns = (0, ns) by unfold dcV; rw [if_neg HZ.out]; simp)
      have BOX := Lib.hid (box_facts w 27)
      obtain ⟨i0, hi0, hz0, hz1, hz2⟩ := infoI
      have HLN := Lib.hid (outB_at HO.out).1
      obtain ⟨hfit, hlc, hc, hzz | ⟨b, off, rfl, hB2, hrow⟩⟩ := HI.out
      · exact absurd hzz HZ.out
      have hE := ownI_empty (w.alloc (.cells #[.int .i64 0, .slice none 0 0] 27))
      have hb0 : Below (w.alloc (.cells #[.int .i64 0, .slice none 0 0] 27)).heap.size (w.alloc (.cells #[.int .i64 0, .slice none 0 0] 27)) ((w.alloc (.cells #[.int .i64 0, .slice none 0 0] 27)).alloc (.cells #[] 3)) := (Below.refl _ _).alloc (Nat.le_refl _) _
      have HNEW := Lib.hid (ints_cells (w := ((w.alloc (.cells #[.int .i64 0, .slice none 0 0] 27)).alloc (.cells #[] 3))) (b := b) (o := off) (ns := ns) fun i hi => (hb0.cell (p := ⟨b, off + i * 1, none⟩) hB2).trans (hrow i hi))
      have HF := Lib.hid hfit
      have hl : (intCells ns).length = ns.length * 1 := by simp [intCells]
      have hzs : (w.alloc (.cells #[.int .i64 0, .slice none 0 0] 27)).heap.size = w.heap.size + 1 := by simp
      have HZS := Lib.hid hzs
      rw [hzs] at hE hb0
      have hlm : ns.length ≤ 12 := HLN.out
      clear hfit hrow hzs
      go_enter Tryd.func24, Tryd.ntmps24
      go_wp2_with (at_builtin; refine wpList_append_own _ rfl (.tmp 36) (.tmp 37) 23 rfl (w.heap.size + 1) 3 i0 _ 1 8 Tryd.underlying23 hi0 hz0 hz1 hz2 rfl (by decide) _ ([] : List Int).length (intCells []) rfl hE ⟨b, off, none⟩ ns.length c (intCells ns) rfl hl HNEW.out (intCells_one ns) ?hc3 ?hc4 ?hc5 ?_; rotate_right; intro v' w1 hown2 hgrow _; obtain ⟨A2, c2, rfl, hO⟩ := (show OwnI w1 (w.heap.size + 1) v' ns by unfold OwnI; simpa [intCells] using hown2).form HF.out; have hb1 := Below.grown (row := (Value.slice (some ⟨w.heap.size + 1, 0, none⟩) 0 0).ownBlock) hb0 hgrow (by simp) (fun k hk => (hE.lt k hk).1); have q0 := (hb1.cell (p := ⟨w.heap.size, 0, none⟩) (by simp)).trans BOX.out.1; have q1 := (hb1.cell (p := ⟨w.heap.size, 1, none⟩) (by simp)).trans BOX.out.2.1; have f0 := (hb1.frozen (p := ⟨w.heap.size, 0, none⟩) (by simp)).trans (BOX.out.2.2 0); have f1 := (hb1.frozen (p := ⟨w.heap.size, 1, none⟩) (by simp)).trans (BOX.out.2.2 1); have OO := Lib.hid hO; have B1 := Lib.hid hb1; clear hO hb1 hown2 hgrow)
      case hc3 => unfold maxLen; simp; omega
      case hc4 => simp; omega
      case hc5 => simp
      refine dec_fin (x := .int .i64 0) (y := .slice none 0 0) HV.out (V := w1) (HB.out.trans ((B1.out).mono (by omega))) q0 q1 OO.out rfl ?_
      intro F k0 k1
      try simp at k0 k1
      simp [results, Tryd.results24, go_sem, k0, k1]
    · have HV := Lib.hid (show dcV 6 ns = (0, srK ns ns.length) by unfold dcV; rw [if_neg HZ.out]; simp)
      have BOX := Lib.hid (box_facts w 27)
      have HLN := Lib.hid (outB_at HO.out).1
      go_enter Tryd.func24, Tryd.ntmps24
      go_wp2_with fail
      refine (specSort_any _ _ ns _ HI.out HP.out HLN.out).mono ?_
      rintro e w1 ⟨A2, c2, rfl, hO, b1⟩
      have B1 := Lib.hid b1
      have OO := Lib.hid hO
      clear b1 hO
      have q0 := (B1.out.cell (p := ⟨w.heap.size, 0, none⟩) (by simp)).trans BOX.out.1
      have q1 := (B1.out.cell (p := ⟨w.heap.size, 1, none⟩) (by simp)).trans BOX.out.2.1
      have f0 := (B1.out.frozen (p := ⟨w.heap.size, 0, none⟩) (by simp)).trans (BOX.out.2.2 0)
      have f1 := (B1.out.frozen (p := ⟨w.heap.size, 1, none⟩) (by simp)).trans (BOX.out.2.2 1)
      go_wp2
      refine dec_fin (x := .int .i64 0) (y := .slice none 0 0) HV.out (V := w1) (HB.out.trans ((B1.out).mono HB.out.size)) q0 q1 (by have := OO.out; simpa using this) rfl ?_
      intro F k0 k1
      try simp at k0 k1
      simp [results, Tryd.results24, go_sem, k0, k1]
    · have HV := Lib.hid (NUM.out 7 (by omega) (by omega) (by omega) (by omega))
      obtain ⟨x, hx⟩ : ∃ x, numV 7 ns = x := ⟨_, rfl⟩
      have HX := Lib.hid hx
      obtain ⟨k0, k1⟩ := box_cells w 0 (some ⟨w.heap.size + 1, 0, none⟩) 1 1 27 (.cells #[.int .i64 x] 3)
      have K := Lib.hid (And.intro k0 k1)
      clear k0 k1 hx
      go_enter Tryd.func24, Tryd.ntmps24
      go_wp2_with (go_at_call 45; refine (specNumSum_any _ _ ns _ HI.out HP.out HO.out).mono ?_; rw [HX.out]; rintro e w' ⟨rfl, rfl⟩)
      obtain ⟨k0, k1⟩ := K.out
      exact bodyPost_ret (v := .agg #[.int .i64 0, .slice (some ⟨w.heap.size + 1, 0, none⟩) 1 1]) (by simp [results, Tryd.results24, go_sem, k0, k1]) rfl (dec_one (by rw [HV.out, HX.out]) w (by rw [← HX.out]; exact num_i64 HO.out HP.out 7))
    · have HV := Lib.hid (NUM.out 8 (by omega) (by omega) (by omega) (by omega))
      obtain ⟨x, hx⟩ : ∃ x, numV 8 ns = x := ⟨_, rfl⟩
      have HX := Lib.hid hx
      obtain ⟨k0, k1⟩ := box_cells w 0 (some ⟨w.heap.size + 1, 0, none⟩) 1 1 27 (.cells #[.int .i64 x] 3)
      have K := Lib.hid (And.intro k0 k1)
      clear k0 k1 hx
      go_enter Tryd.func24, Tryd.ntmps24
      go_wp2_with (go_at_call 45; refine (specNumMin_any _ _ ns _ HI.out HP.out HO.out).mono ?_; rw [HX.out]; rintro e w' ⟨rfl, rfl⟩)
      obtain ⟨k0, k1⟩ := K.out
      exact bodyPost_ret (v := .agg #[.int .i64 0, .slice (some ⟨w.heap.size + 1, 0, none⟩) 1 1]) (by simp [results, Tryd.results24, go_sem, k0, k1]) rfl (dec_one (by rw [HV.out, HX.out]) w (by rw [← HX.out]; exact num_i64 HO.out HP.out 8))
    · have HV := Lib.hid (NUM.out 9 (by omega) (by omega) (by omega) (by omega))
      obtain ⟨x, hx⟩ : ∃ x, numV 9 ns = x := ⟨_, rfl⟩
      have HX := Lib.hid hx
      obtain ⟨k0, k1⟩ := box_cells w 0 (some ⟨w.heap.size + 1, 0, none⟩) 1 1 27 (.cells #[.int .i64 x] 3)
      have K := Lib.hid (And.intro k0 k1)
      clear k0 k1 hx
      go_enter Tryd.func24, Tryd.ntmps24
      go_wp2_with (go_at_call 45; refine (specNumMax_any _ _ ns _ HI.out HP.out HO.out).mono ?_; rw [HX.out]; rintro e w' ⟨rfl, rfl⟩)
      obtain ⟨k0, k1⟩ := K.out
      exact bodyPost_ret (v := .agg #[.int .i64 0, .slice (some ⟨w.heap.size + 1, 0, none⟩) 1 1]) (by simp [results, Tryd.results24, go_sem, k0, k1]) rfl (dec_one (by rw [HV.out, HX.out]) w (by rw [← HX.out]; exact num_i64 HO.out HP.out 9))
    · have HV := Lib.hid (NUM.out 10 (by omega) (by omega) (by omega) (by omega))
      obtain ⟨x, hx⟩ : ∃ x, numV 10 ns = x := ⟨_, rfl⟩
      have HX := Lib.hid hx
      obtain ⟨k0, k1⟩ := box_cells w 0 (some ⟨w.heap.size + 1, 0, none⟩) 1 1 27 (.cells #[.int .i64 x] 3)
      have K := Lib.hid (And.intro k0 k1)
      clear k0 k1 hx
      go_enter Tryd.func24, Tryd.ntmps24
      go_wp2_with (go_at_call 45; refine (specNumCnt_any _ _ ns _ HI.out HP.out HO.out).mono ?_; rw [HX.out]; rintro e w' ⟨rfl, rfl⟩)
      obtain ⟨k0, k1⟩ := K.out
      exact bodyPost_ret (v := .agg #[.int .i64 0, .slice (some ⟨w.heap.size + 1, 0, none⟩) 1 1]) (by simp [results, Tryd.results24, go_sem, k0, k1]) rfl (dec_one (by rw [HV.out, HX.out]) w (by rw [← HX.out]; exact num_i64 HO.out HP.out 10))
end Go.Proofs.YtiaoenkgapfgaaaDoor
