/-
  Contract of the program's lists of parts of tests.
-/
import Derived.Test.YthkjcljhfjaabaaGreatDoorKcM
import Derived.Test.YthkjcljhfjaabaaGreatDoorKeM
import Derived.Test.YthkjcljhfjaabaaGreatDoorSuM
namespace Go.Proofs.YthkjcljhfjaabaaGreatDoor
open Go.RowKit Go.Shelf Sets
attribute [local go_sem] Oper.semAt_some

theorem OwnRes2.of {base : Nat} {xs : List Sp} {ok : Bool} {w w' : World} {v : Value} (h1 : OwnS w' base v xs) (h2 : Fits xs) (h3 : Below w.heap.size w w') : OwnRes2 base xs ok w (.returned (.tuple #[v, .bool ok])) w' := ⟨v, rfl, h1, h2, h3⟩
theorem spans_fits (L : Bool) (a b : Int) (ps : List Bs) : Fits (spansOf L a b ps) := by
  intro x hx
  unfold spansOf at hx
  obtain ⟨p, _, rfl⟩ := List.mem_map.1 (List.mem_filter.1 hx).1
  have := pieceV_small L a b p
  unfold I64
  omega
theorem OwnS.kept {W W' : World} {base : Nat} {v : Value} {xs : List Sp} {row : Option Nat} (h : OwnS W base v xs) (hg : W.grownBy W' row) (hr : ∀ r, row = some r → r < base ∨ ∃ o, W.heap[r]? = some o ∧ o.isCells = false) : OwnS W' base v xs := by
  refine ⟨h.1, h.2.imp id ?_⟩
  rintro ⟨g, cap, cur, rfl, hb, hc, r⟩
  refine ⟨g, cap, cur, rfl, hb, (hg.block g (Array.getElem?_eq_some_iff.1 hc).1 fun e => ?_).trans hc, r⟩
  rcases hr g e.symm with h1 | ⟨o, h1, h2⟩
  · omega
  · rw [hc] at h1; cases h1; cases h2
theorem partsB_snoc {L : Bool} {a b : Int} {ps : List Bs} {x : Bs} (h1 : ps.all (pieceB L a b) = true) (h2 : pieceB L a b x = true) : (ps ++ [x]).all (pieceB L a b) = true := by
  rw [List.all_append, h1, List.all_cons, h2]; rfl
theorem spans_skip {L : Bool} {a b : Int} {ps : List Bs} {x : Bs} (h : (pieceV L a b x).2 < (pieceV L a b x).1) : spansOf L a b (ps ++ [x]) = spansOf L a b ps := by
  rw [spansOf_append]
  unfold spansOf
  rw [List.map_cons, List.map_nil, List.filter_cons, if_neg (by simp; omega)]
  simp
theorem spans_add {L : Bool} {a b : Int} {ps : List Bs} {x : Bs} (h : (pieceV L a b x).1 ≤ (pieceV L a b x).2) : spansOf L a b (ps ++ [x]) = spansOf L a b ps ++ [((pieceV L a b x).1, (pieceV L a b x).2)] := by
  rw [spansOf_append]
  unfold spansOf
  rw [List.map_cons, List.map_nil, List.filter_cons, if_pos (by simp; omega)]
  rfl

theorem grow_fact {W5 w6 : World} {tmp : Obj} {row : Option Nat} {k : Nat} (hg : (W5.alloc tmp).grownBy w6 row) (hk : k < W5.heap.size) (hne : some k ≠ row) : w6.heap[k]? = W5.heap[k]? ∧ (∀ o, w6.cell? ⟨k, o, none⟩ = W5.cell? ⟨k, o, none⟩) ∧ ∀ o, w6.frozen? ⟨k, o, none⟩ = W5.frozen? ⟨k, o, none⟩ := by
  have h : w6.heap[k]? = W5.heap[k]? := (hg.block k (by simp; omega) hne).trans (Below.heap_alloc _ _ _ hk)
  exact ⟨h, fun o => World.cell?_of_block (w := W5) (a := ⟨k, o, none⟩) h, fun o => World.frozen?_of_block (w := W5) (a := ⟨k, o, none⟩) h⟩
theorem list_yes {L : Bool} {a b : Int} {s : Bs} (h1 : (splitC s).all (pieceB L a b) = true) (h2 : (spansOf L a b (splitC s)).length ≤ 51) : listB L a b s = setOfB (spansOf L a b (splitC s)) ∧ listV L a b s = setOfV (spansOf L a b (splitC s)) := by
  have h : listB L a b s = setOfB (spansOf L a b (splitC s)) := by
    unfold listB partsB
    rw [h1, decide_eq_true h2]; rfl
  refine ⟨h, ?_⟩
  unfold listV
  rw [h]
  cases hb : setOfB (spansOf L a b (splitC s))
  · rw [setOfV_no hb]; rfl
  · rfl
theorem list_no {L : Bool} {a b : Int} {s : Bs} (h : partsB L a b (splitC s) = false) : listB L a b s = false ∧ listV L a b s = [] := by
  have h1 : listB L a b s = false := by unfold listB; rw [h]; rfl
  refine ⟨h1, ?_⟩
  unfold listV
  rw [h1]
  rfl
theorem OwnS.isCells {W : World} {base : Nat} {v : Value} {xs : List Sp} (h : OwnS W base v xs) (j : Nat) (o : Obj) (hj : v.ownBlock = some j) (ho : W.heap[j]? = some o) : o.isCells = true := by
  rcases h.2 with ⟨rfl, _⟩ | ⟨g, cap, cur, rfl, _, hgb, _⟩
  · simp [Value.ownBlock] at hj
  · obtain rfl : g = j := by simpa [Value.ownBlock] using hj
    rw [hgb] at ho; cases ho; rfl

/-- the world between two rounds -/
def PS (L : Bool) (a b : Int) (w : World) (G : Nat) (xs : List ByteArray) (W : World) : Prop :=
  (Below w.heap.size w W ∧ G + 3 ≤ W.heap.size) ∧ ColAt W w.heap.size L a b ∧ (W.cell? ⟨w.heap.size + 1, 0, none⟩ = some (.slice none 0 0) ∧ W.frozen? ⟨w.heap.size + 1, 0, none⟩ = false) ∧
  (W.cell? ⟨w.heap.size + 2, 0, none⟩ = some (.bool false) ∧ W.frozen? ⟨w.heap.size + 2, 0, none⟩ = false) ∧ ((bytesOf xs).all (pieceB L a b) = true ∧ (spansOf L a b (bytesOf xs)).length ≤ 51) ∧
  ∃ v, W.cell? ⟨w.heap.size + 3, 0, none⟩ = some v ∧ W.frozen? ⟨w.heap.size + 3, 0, none⟩ = false ∧ OwnS W (G + 3) v (spansOf L a b (bytesOf xs))
/-- the world where a round has left -/
def PX (L : Bool) (a b : Int) (w : World) (xs : List ByteArray) (W : World) : Prop :=
  Below w.heap.size w W ∧ (∀ q, partsB L a b (bytesOf xs ++ q) = false) ∧ W.cell? ⟨w.heap.size + 1, 0, none⟩ = some (.slice none 0 0) ∧ W.cell? ⟨w.heap.size + 2, 0, none⟩ = some (.bool false)
theorem PS.keep {L : Bool} {a b : Int} {w : World} {G : Nat} {xs : List ByteArray} {W W' : World} {row : Option Nat} (h : PS L a b w G xs W) (hG : G = w.heap.size + 4) (hg : W.grownBy W' row) (hr : ∀ r, row = some r → r = G ∨ (G ≤ r ∧ ∃ o, W.heap[r]? = some o ∧ o.isCells = false)) : PS L a b w G xs W' := by
  subst hG
  obtain ⟨⟨h1, hz⟩, ⟨q0, q1, q2⟩, ⟨h2, h3⟩, ⟨h4, h5⟩, h6, v, h7, h8, h9⟩ := h
  have hne : ∀ k, k < w.heap.size + 4 → some k ≠ row := fun k hk e => by rcases hr k e.symm with h | ⟨h, _⟩ <;> omega
  have hc : ∀ k o, k < w.heap.size + 4 → W'.cell? ⟨k, o, none⟩ = W.cell? ⟨k, o, none⟩ := fun k o hk => World.cell?_of_block (w := W) (a := ⟨k, o, none⟩) (hg.block k (by omega) (hne k hk))
  have hf : ∀ k o, k < w.heap.size + 4 → W'.frozen? ⟨k, o, none⟩ = W.frozen? ⟨k, o, none⟩ := fun k o hk => World.frozen?_of_block (w := W) (a := ⟨k, o, none⟩) (hg.block k (by omega) (hne k hk))
  refine ⟨⟨h1.grown hg h1.size (fun k e => by rcases hr k e with h | ⟨h, _⟩ <;> omega), Nat.le_trans hz hg.size⟩, ⟨(hc _ _ (by omega)).trans q0, (hc _ _ (by omega)).trans q1, (hc _ _ (by omega)).trans q2⟩, ⟨(hc _ _ (by omega)).trans h2, (hf _ _ (by omega)).trans h3⟩, ⟨(hc _ _ (by omega)).trans h4, (hf _ _ (by omega)).trans h5⟩, h6, v, (hc _ _ (by omega)).trans h7, (hf _ _ (by omega)).trans h8, h9.kept hg fun r e => ?_⟩
  rcases hr r e with h | ⟨_, h⟩
  · exact .inl (by omega)
  · exact .inr h
theorem PX.keep {L : Bool} {a b : Int} {w : World} {G : Nat} {xs : List ByteArray} {W W' : World} {row : Option Nat} (h : PX L a b w xs W) (hG : G = w.heap.size + 4) (hg : W.grownBy W' row) (hr : ∀ r, row = some r → G ≤ r) : PX L a b w xs W' := by
  subst hG
  obtain ⟨h1, h2, h3, h4⟩ := h
  have hne : ∀ k, k < w.heap.size + 4 → some k ≠ row := fun k hk e => by have := hr k e.symm; omega
  exact ⟨h1.grown hg h1.size (fun k e => by have := hr k e; omega), h2, hg.cell h3 (hne _ (by simp only; omega)), hg.cell h4 (hne _ (by simp only; omega))⟩

set_option maxRecDepth 100000 in
set_option maxHeartbeats 4000000 in
theorem implParts_any (L : Bool) (a b : Int) (s : ByteArray) (hs : s.size ≤ 1048600) (w : World) (hL : LibIs w) :
    Calls Tryz.prog 38 #[colV L a b, .string s] w (OwnRes2 w.heap.size (listV L a b s.data.toList) (listB L a b s.data.toList) w) := by
  have LL := Lib.hid hL
  have HS := Lib.hid hs
  have hsx : s.size ≤ 9223372036854775807 := by omega
  clear hL hs
  refine (callsIn_wide (n := 6)).1 ?_
  refine callsIn_of_wp_marks Tryz.func38 rfl trivial ?_ rfl
  simp only [Tryz.ntmps38, List.size_toArray, List.length_cons, List.length_nil, Nat.reduceAdd, Nat.reduceSub, Array.replicate_succ, Array.replicate_zero, List.push_toArray, List.append_toArray, List.nil_append, List.cons_append]
  gi_wp2_with fail
  obtain ⟨W3, hW3⟩ : ∃ W, W = ((w.alloc (.cells #[.bool L, .int .i64 a, .int .i64 b] 27)).alloc (.cells #[.slice none 0 0] 24)).alloc (.cells #[.bool false] 4) := ⟨_, rfl⟩
  obtain ⟨x1, x2, x3, f1, f2, f3, bW, zW⟩ := three_first w _ _ _ _ _ _ W3 hW3
  rw [← hW3]
  obtain ⟨W4, hW4⟩ : ∃ W, W = W3.alloc (.cells #[.slice none 0 0] 24) := ⟨_, rfl⟩
  rw [← hW4]
  have b4 : Below W3.heap.size W3 W4 := by rw [hW4]; exact (Below.refl _ _).alloc (Nat.le_refl _) _
  have z4 : W4.heap.size = w.heap.size + 4 := by rw [hW4]; simp; omega
  have y0 := (cell_newS W3 (.slice none 0 0) 24).1
  have yf := (cell_newS W3 (.slice none 0 0) 24).2
  rw [← hW4, zW] at y0 yf
  have hP4 : Below w.heap.size w W4 := bW.trans (b4.mono bW.size)
  have c0 := (b4.cell (p := ⟨w.heap.size, 0, none⟩) (by simp only; omega)).trans (x1 0)
  have c1 := (b4.cell (p := ⟨w.heap.size, 1, none⟩) (by simp only; omega)).trans (x1 1)
  have c2 := (b4.cell (p := ⟨w.heap.size, 2, none⟩) (by simp only; omega)).trans (x1 2)
  have r1 := (b4.cell (p := ⟨w.heap.size + 1, 0, none⟩) (by simp only; omega)).trans (x2 0)
  have r2 := (b4.cell (p := ⟨w.heap.size + 2, 0, none⟩) (by simp only; omega)).trans (x3 0)
  have rf1 := (b4.frozen (p := ⟨w.heap.size + 1, 0, none⟩) (by simp only; omega)).trans (f2 0)
  have rf2 := (b4.frozen (p := ⟨w.heap.size + 2, 0, none⟩) (by simp only; omega)).trans (f3 0)
  have hI0 : ∀ W, Below W4.heap.size W4 W → W4.heap.size + 3 ≤ W.heap.size → PS L a b w W4.heap.size [] W := fun W hb hz => by
    refine ⟨⟨hP4.trans (hb.mono hP4.size), hz⟩, ⟨(hb.cell (by simp only; omega)).trans c0, (hb.cell (by simp only; omega)).trans c1, (hb.cell (by simp only; omega)).trans c2⟩, ⟨(hb.cell (by simp only; omega)).trans r1, (hb.frozen (by simp only; omega)).trans rf1⟩, ⟨(hb.cell (by simp only; omega)).trans r2, (hb.frozen (by simp only; omega)).trans rf2⟩, ⟨rfl, by simp [bytesOf, spansOf]⟩, _, (hb.cell (by simp only; omega)).trans y0, (hb.frozen (by simp only; omega)).trans yf, ?_⟩
    exact OwnS.nil _ _
  have HI0 := Lib.hid hI0
  have Z4 := Lib.hid z4
  clear hI0 hW3 hW4 x1 x2 x3 f1 f2 f3 bW zW b4 y0 yf hP4 c0 c1 c2 r1 r2 rf1 rf2 z4
  refine ⟨trivial, (SplitSeq_in _ s ⟨#[44]⟩ _).mono ?_⟩
  rintro e w1 ⟨rfl, hw1⟩
  have z1 : w1.heap.size = W4.heap.size + 3 := by rw [hw1]; simp
  have hI1 := HI0.out w1 (by rw [hw1]; exact (((Below.refl _ _).alloc (Nat.le_refl _) _).alloc (by simp) _).alloc (by simp; omega) _) (by omega)
  have hbox := fun h6 => pieces_box 5 h6 s 44 (by have := HS.out; omega) W4 w1 (by rw [hw1]; exact Below.refl _ _) z1
  have HB := Lib.hid hbox
  have HI := Lib.hid hI1
  have Z1 := Lib.hid z1
  clear hw1 hbox hI1 z1
  gi_wp2
  refine rangeFunc_box (F := Fence.wide) rfl (by omega) (gf := 120) (lb := #[.pointer (some ⟨W4.heap.size + 1, 0, none⟩), .pointer (some ⟨W4.heap.size, 0, none⟩), .pointer (some ⟨W4.heap.size + 2, 0, none⟩)]) rfl trivial (enters_of Tryz.func120 (by kernel_rfl) rfl)
    (HB.out (by omega)) (by have := Z1.out; omega) (by have := Z1.out; omega) (fun _ => rfl)
    (PS L a b w W4.heap.size) (PX L a b w)
    (fun xs A B row h hg hr => h.keep Z4.out hg fun r e => .inr ⟨by have := (hr r e).1; have := Z1.out; omega, (hr r e).2⟩)
    (fun xs A B row h hg hr => h.keep Z4.out hg fun r e => by have := (hr r e).1; have := Z1.out; omega)
    (fun xs A B h hg => h.keep Z4.out hg fun r e => .inl (by cases e; rfl))
    (fun xs A B h hg => h.keep Z4.out hg fun r e => by cases e; exact Nat.le_refl _)
    HI.out
    (fun x => { tmps := #[colV L a b, .string s, .pointer (some ⟨w.heap.size, 0, none⟩), undef, .pointer (some ⟨w.heap.size + 1, 0, none⟩), .pointer (some ⟨w.heap.size + 2, 0, none⟩), .pointer (some ⟨w.heap.size + 3, 0, none⟩), .string x, undef, undef, .string s, .func (.func 120) #[] #[.pointer (some ⟨W4.heap.size + 1, 0, none⟩), .pointer (some ⟨W4.heap.size, 0, none⟩), .pointer (some ⟨W4.heap.size + 2, 0, none⟩)], .string x, undef, undef, undef, undef, undef, undef, undef, undef, undef, undef, undef, undef, undef, undef, undef, undef, undef, undef, undef, undef, undef], defers := [] }) ?assign ?body ?done ?stop
  case assign =>
    intro l x W K hK
    gi_wp2
    exact hK
  case body =>
    rintro l pre x W hPS ⟨q, hq⟩ hsz
    obtain ⟨⟨hB, hz⟩, ⟨c0, c1, c2⟩, ⟨r1, rf1⟩, ⟨r2, rf2⟩, ⟨hall, hlen⟩, v, k0, kf, hown⟩ := hPS
    obtain ⟨A, cp, rfl, hread, hbase⟩ := hown.form (spans_fits L a b _)
    have z4 := Z4.out
    have hxs : x.size ≤ 1048600 := by
      have hm : x.data.toList ∈ splitG 44 s.data.toList := by rw [← hq, bytesOf_snoc]; simp
      have h1 := splitG_mem_len 44 _ _ hm
      have h2 := HS.out
      rw [Lib.size_eq] at h2 ⊢
      omega
    have hLW := LL.out.step hB
    have pc := fun W hW => implPart_any L a b x hxs W hW
    have hbad := fun qs h => partsB_fail (L := L) (a := a) (b := b) (ps := bytesOf pre) (x := x.data.toList) qs h
    have hmany := fun qs h1 h2 => partsB_many (L := L) (a := a) (b := b) (ps := bytesOf pre) (x := x.data.toList) qs h1 h2
    have hsnoc := partsB_snoc (x := x.data.toList) hall
    have hskip := spans_skip (L := L) (a := a) (b := b) (ps := bytesOf pre) (x := x.data.toList)
    have hadd := spans_add (L := L) (a := a) (b := b) (ps := bytesOf pre) (x := x.data.toList)
    have hsm := pieceV_small L a b x.data.toList
    rw [← bytesOf_snoc] at hsnoc hskip hadd
    generalize pieceV L a b x.data.toList = y at pc hmany hskip hadd hsm
    generalize pieceB L a b x.data.toList = ok at pc hbad hsnoc
    obtain ⟨y1, y2⟩ := y
    simp only at hskip hadd hmany hsm
    have PC := Lib.hid pc
    have HBAD := Lib.hid hbad
    have HMANY := Lib.hid hmany
    have HSNOC := Lib.hid hsnoc
    have HSKIP := Lib.hid hskip
    have HADD := Lib.hid hadd
    have HSM := Lib.hid hsm
    have HLEN := Lib.hid hlen
    have HBN := Lib.hid bytesOf_snoc
    clear pc hbad hmany hsnoc hskip hadd hsm hall hq HB HI HI0
    generalize spansOf L a b (bytesOf pre) = acc at k0 hown hread hlen HMANY HSKIP HADD HLEN
    clear z4
    gi_wp2_with fail
    have z4 := Z4.out
    refine ⟨trivial, (CallsIn.inRound l (callsIn_wide.2 (PC.out _ hLW))).mono ?_⟩
    rintro e W2 ⟨rfl, b2⟩
    unfold spV
    have b3 : Below W.heap.size W (W2.alloc (.cells #[.int .i64 y1, .int .i64 y2] 55)) := b2.alloc b2.size _
    obtain ⟨u0, u1, _⟩ := sp_box W2 (.int .i64 y1) (.int .i64 y2) 55
    have zu : W2.heap.size < (W2.alloc (.cells #[.int .i64 y1, .int .i64 y2] 55)).heap.size := by simp
    have m1 := (b3.cell (p := ⟨w.heap.size + 1, 0, none⟩) (by simp only; omega)).trans r1
    have mf1 := (b3.frozen (p := ⟨w.heap.size + 1, 0, none⟩) (by simp only; omega)).trans rf1
    have m2 := (b3.cell (p := ⟨w.heap.size + 2, 0, none⟩) (by simp only; omega)).trans r2
    have mf2 := (b3.frozen (p := ⟨w.heap.size + 2, 0, none⟩) (by simp only; omega)).trans rf2
    have n0 := (b3.cell (p := ⟨w.heap.size, 0, none⟩) (by simp only; omega)).trans c0
    have n1 := (b3.cell (p := ⟨w.heap.size, 1, none⟩) (by simp only; omega)).trans c1
    have n2 := (b3.cell (p := ⟨w.heap.size, 2, none⟩) (by simp only; omega)).trans c2
    have m3 := (b3.cell (p := ⟨w.heap.size + 3, 0, none⟩) (by simp only; omega)).trans k0
    have mf3 := (b3.frozen (p := ⟨w.heap.size + 3, 0, none⟩) (by simp only; omega)).trans kf
    have B3 := hB.trans (b3.mono hB.size)
    have zz : w.heap.size + 4 ≤ (W2.alloc (.cells #[.int .i64 y1, .int .i64 y2] 55)).heap.size := by have := b3.size; omega
    have ownB := hown.below b3
    have HLT : Hid (∀ i, (Value.slice A acc.length cp).ownBlock = some i → W4.heap.size + 3 ≤ i) := Lib.hid fun i hi => (hown.lt i hi).1
    clear c0 c1 c2 r1 rf1 r2 rf2 k0 kf hown hread hbase hlen hLW hB b2
    cases ok
    · have hb := Lib.hid fun q => HBAD.out q rfl
      have BB := Lib.hid b3
      have BW := Lib.hid B3
      clear n0 n1 n2 m3 mf3 ownB u0 u1 zu b3 B3 HSNOC z4
      gi_wp2
      have z4 := Z4.out
      exact ⟨((keepsOthers_below BB.out).trans (KeepsOthers.setCell _ _ _)).trans (KeepsOthers.setCell _ _ _), (BW.out.setCell (p := ⟨w.heap.size + 1, 0, none⟩) (by simp only; omega) _).setCell (p := ⟨w.heap.size + 2, 0, none⟩) (by simp only; omega) _,
        (fun q => by rw [HBN.out, List.append_assoc]; exact hb.out q), by
          rw [World.cell?_setCell_other _ _ _ _ (by simp)]
          exact World.cell?_setCell_same' _ _ _ (by rw [m1]; rfl), World.cell?_setCell_same' _ _ _ (by rw [World.cell?_setCell_other _ _ _ _ (by simp), m2]; rfl)⟩
    · have hsn := Lib.hid (HSNOC.out rfl)
      clear HSNOC HBAD
      clear z4
      gi_wp2_with fail
      have z4 := Z4.out
      refine ⟨trivial, (CallsIn.inRound l (callsIn_wide.2 (empty_b y1 y2 _))).mono ?_⟩
      rintro e W5 ⟨rfl, b5⟩
      have d1 := (b5.cell (p := ⟨w.heap.size + 1, 0, none⟩) (by simp only; omega)).trans m1
      have df1 := (b5.frozen (p := ⟨w.heap.size + 1, 0, none⟩) (by simp only; omega)).trans mf1
      have d2 := (b5.cell (p := ⟨w.heap.size + 2, 0, none⟩) (by simp only; omega)).trans m2
      have df2 := (b5.frozen (p := ⟨w.heap.size + 2, 0, none⟩) (by simp only; omega)).trans mf2
      have a0 := (b5.cell (p := ⟨w.heap.size, 0, none⟩) (by simp only; omega)).trans n0
      have a1 := (b5.cell (p := ⟨w.heap.size, 1, none⟩) (by simp only; omega)).trans n1
      have a2 := (b5.cell (p := ⟨w.heap.size, 2, none⟩) (by simp only; omega)).trans n2
      have d3 := (b5.cell (p := ⟨w.heap.size + 3, 0, none⟩) (by simp only; omega)).trans m3
      have df3 := (b5.frozen (p := ⟨w.heap.size + 3, 0, none⟩) (by simp only; omega)).trans mf3
      have p0 := (b5.cell (p := ⟨W2.heap.size, 0, none⟩) zu).trans u0
      have p1 := (b5.cell (p := ⟨W2.heap.size, 1, none⟩) zu).trans u1
      have B5 := Lib.hid (B3.trans (b5.mono B3.size))
      have b35 := Lib.hid (b3.trans (b5.mono b3.size))
      have own5 := Lib.hid (ownB.below b5)
      have z5 : W4.heap.size + 3 ≤ W5.heap.size ∧ w.heap.size + 4 ≤ W5.heap.size ∧ W.heap.size ≤ W5.heap.size := by have h1 := b3.size; have h2 := b5.size; simp at h1 h2; omega
      obtain ⟨z51, z52, z53⟩ := z5
      clear m1 mf1 m2 mf2 n0 n1 n2 m3 mf3 u0 u1 zu b3 b5 B3 ownB zz
      by_cases hlt : y2 < y1
      · have hsp := Lib.hid (HSKIP.out hlt)
        clear z4
        gi_wp2
        have z4 := Z4.out
        exact ⟨keepsOthers_below b35.out, KeepsB.below b35.out hz, ⟨B5.out, z51⟩, ⟨a0, a1, a2⟩, ⟨d1, df1⟩, ⟨d2, df2⟩, ⟨hsn.out, by rw [hsp.out]; exact HLEN.out⟩, _, d3, df3, by rw [hsp.out]; exact own5.out⟩
      · have hsp := Lib.hid (HADD.out (by omega))
        have hltd : decide (y2 < y1) = false := decide_eq_false hlt
        by_cases h51 : acc.length = 51
        · have hb := Lib.hid fun q => HMANY.out q h51 (by omega)
          have h51i : ((acc.length : Int) == 51) = true := by rw [h51]; rfl
          clear z4
          gi_wp2
          have z4 := Z4.out
          exact ⟨((keepsOthers_below b35.out).trans (KeepsOthers.setCell _ _ _)).trans (KeepsOthers.setCell _ _ _), (B5.out.setCell (p := ⟨w.heap.size + 1, 0, none⟩) (by simp only; omega) _).setCell (p := ⟨w.heap.size + 2, 0, none⟩) (by simp only; omega) _,
            (fun q => by rw [HBN.out, List.append_assoc]; exact hb.out q), by
              rw [World.cell?_setCell_other _ _ _ _ (by simp)]
              exact World.cell?_setCell_same' _ _ _ (by rw [d1]; rfl), World.cell?_setCell_same' _ _ _ (by rw [World.cell?_setCell_other _ _ _ _ (by simp), d2]; rfl)⟩
        · have h51i : ((acc.length : Int) == 51) = false := beq_eq_false_iff_ne.2 (by omega)
          obtain ⟨i0, hi0, hz0, hz1, hz2⟩ := infoSp
          have hacc : acc.length ≤ 50 := by have := HLEN.out; omega
          have own6 := World.ownsRow.alloc own5.out (.cells #[.int .i64 y1, .int .i64 y2] 55)
          clear z4
          gi_wp2_with (gi_at_builtin; refine wpListIn_append_own _ rfl (.tmp 26) (.tmp 28) 24 rfl (W4.heap.size + 3) 55 i0 _ 2 16 Tryz.underlying24 hi0 hz0 hz1 hz2 rfl (by decide) _ acc.length (cellsOf acc) rfl own6 ⟨W5.heap.size, 0, none⟩ 1 1 [.int .i64 y1, .int .i64 y2] rfl rfl (cell_one _ _ _ _ rfl) (by simp [Value.oneCell']) (by unfold maxLen; omega) (by omega) (by simp; omega) ?_; intro v' w6 own7 hgrow _; obtain ⟨gg, cc, rfl⟩ := ownsRow_succ own7; have e3 := ((grow_fact hgrow (k := w.heap.size + 3) (by omega) (fun e => by have := HLT.out _ e.symm; have := Z4.out; omega)).2.1 0).trans d3; have ef3 := ((grow_fact hgrow (k := w.heap.size + 3) (by omega) (fun e => by have := HLT.out _ e.symm; have := Z4.out; omega)).2.2 0).trans df3)
          have z4 := Z4.out
          have gf := fun (k : Nat) (hk : k < W4.heap.size + 3) => grow_fact hgrow (k := k) (by omega) (fun e => by have := HLT.out _ e.symm; have := Z4.out; omega)
          have hz7 := hgrow.size
          simp at hz7
          have hlow : ∀ k o, k < w.heap.size + 3 → (w6.setCell ⟨w.heap.size + 3, 0, none⟩ (.slice (some ⟨gg, 0, none⟩) (acc.length + 1) cc)).cell? ⟨k, o, none⟩ = W5.cell? ⟨k, o, none⟩ := fun k o hk => by
            rw [World.cell?_setCell_other _ _ _ _ (fun h => by injection h with h1 _; omega)]
            exact (gf k (by omega)).2.1 o
          have hlowf : ∀ k o, k < w.heap.size + 3 → (w6.setCell ⟨w.heap.size + 3, 0, none⟩ (.slice (some ⟨gg, 0, none⟩) (acc.length + 1) cc)).frozen? ⟨k, o, none⟩ = W5.frozen? ⟨k, o, none⟩ := fun k o hk => by
            rw [World.frozen?_setCell]
            exact (gf k (by omega)).2.2 o
          have hks := KeepsOthers.setCell w6 ⟨w.heap.size + 3, 0, none⟩ (.slice (some ⟨gg, 0, none⟩) (acc.length + 1) cc)
          refine ⟨(((keepsOthers_below b35.out).trans (KeepsOthers.alloc _ _)).trans (KeepsOthers.of_grownBy hgrow fun j o hj ho => OwnS.isCells own6 j o hj ho)).trans hks, ⟨?_, ?_⟩, ⟨?_, ?_⟩, ⟨(hlow _ _ (by omega)).trans a0, (hlow _ _ (by omega)).trans a1, (hlow _ _ (by omega)).trans a2⟩, ⟨(hlow _ _ (by omega)).trans d1, (hlowf _ _ (by omega)).trans df1⟩, ⟨(hlow _ _ (by omega)).trans d2, (hlowf _ _ (by omega)).trans df2⟩,
            ⟨hsn.out, by rw [hsp.out]; simp; omega⟩, _, World.cell?_setCell_same' _ _ _ (by rw [e3]; rfl), by rw [World.frozen?_setCell]; exact ef3, ?_⟩
          · exact Nat.le_trans (by omega : W.heap.size ≤ w6.heap.size) hks.size
          · intro k h1 h2
            rw [Below.heap_setCell _ _ _ _ (by show k ≠ w.heap.size + 3; omega), (gf k (by omega)).1]
            exact b35.out.block k (by omega)
          · exact ((B5.out.alloc B5.out.size (.cells #[.int .i64 y1, .int .i64 y2] 55)).grown hgrow (by simp; omega) (fun j hj => by have := HLT.out j hj; omega)).setCell (p := ⟨w.heap.size + 3, 0, none⟩) (by simp only; omega) _
          · exact Nat.le_trans (by omega) hks.size
          · rw [hsp.out]
            exact ownsRow_setCell_below (OwnS.of_append own7) (by simp only; omega) _
  case done =>
    rintro D xs W hD hxs hPS hK
    obtain ⟨⟨hB, hz⟩, _, ⟨r1, rf1⟩, ⟨r2, rf2⟩, ⟨hall, hlen⟩, v, k0, kf, hown⟩ := hPS
    have hsp := hxs
    rw [splitG_44] at hsp
    rw [hsp] at hall hlen hown
    have hres := Lib.hid (list_yes hall hlen)
    have hfa := spans_fits L a b (splitC s.data.toList)
    generalize spansOf L a b (splitC s.data.toList) = acc at hown hres hfa
    obtain ⟨A, cp, rfl, hread, hA0⟩ := hown.form0 hfa
    have BB := Lib.hid hB
    clear hall hlen hsp hxs hown HB HI HI0 hB
    gi_wp2_with fail
    refine ⟨trivial, (callsIn_wide.2 (implOf_any A cp acc _ hread hA0)).mono ?_⟩
    rintro e W5 ⟨v5, rfl, own5, fit5, b5⟩
    obtain ⟨A5, c5, rfl, _, _⟩ := own5.form fit5
    have z4 := Z4.out
    have z1 := Z1.out
    have d1 := (b5.cell (p := ⟨w.heap.size + 1, 0, none⟩) (by simp only; omega)).trans r1
    have df1 := (b5.frozen (p := ⟨w.heap.size + 1, 0, none⟩) (by simp only; omega)).trans rf1
    have d2 := (b5.cell (p := ⟨w.heap.size + 2, 0, none⟩) (by simp only; omega)).trans r2
    have df2 := (b5.frozen (p := ⟨w.heap.size + 2, 0, none⟩) (by simp only; omega)).trans rf2
    have hK5 := (keepsOthers_below b5).same D _ hK rfl
    have B5 := Lib.hid (BB.out.trans (b5.mono BB.out.size))
    have zW := hz
    have OW := Lib.hid own5
    have FT := Lib.hid fit5
    have HK5 := Lib.hid hK5
    clear hread hA0 k0 kf r1 rf1 r2 rf2 b5 own5 fit5 hK5 z4 z1
    generalize setOfV acc = ys at OW FT hres
    generalize setOfB acc = ok at hres
    gi_wp2
    have z4 := Z4.out
    have z1 := Z1.out
    have hK' := ((KeepsOthers.setCell W5 ⟨w.heap.size + 1, 0, none⟩ (.slice A5 ys.length c5)).trans (KeepsOthers.setCell _ ⟨w.heap.size + 2, 0, none⟩ (.bool ok))).same D _ HK5.out rfl
    refine ⟨by simp, .inl ⟨_, _, rfl, run_takeDeferred hK', ?_⟩⟩
    have e1 : ((W5.setCell ⟨w.heap.size + 1, 0, none⟩ (.slice A5 ys.length c5)).setCell ⟨w.heap.size + 2, 0, none⟩ (.bool ok)).cell? ⟨w.heap.size + 1, 0, none⟩ = some (.slice A5 ys.length c5) := by
      rw [World.cell?_setCell_other _ _ _ _ (by simp)]
      exact World.cell?_setCell_same' _ _ _ (by rw [d1]; rfl)
    have e2 : ((W5.setCell ⟨w.heap.size + 1, 0, none⟩ (.slice A5 ys.length c5)).setCell ⟨w.heap.size + 2, 0, none⟩ (.bool ok)).cell? ⟨w.heap.size + 2, 0, none⟩ = some (.bool ok) :=
      World.cell?_setCell_same' _ _ _ (by rw [World.cell?_setCell_other _ _ _ _ (by simp), d2]; rfl)
    have h1 := cell_kept e1 (grownBy_putObj' _ D (.deferred none)) (fun r e => by cases e; exact ⟨_, hK', rfl⟩)
    have h2 := cell_kept e2 (grownBy_putObj' _ D (.deferred none)) (fun r e => by cases e; exact ⟨_, hK', rfl⟩)
    have o1 := ownsRow_setCell_below OW.out (a := ⟨w.heap.size + 1, 0, none⟩) (by simp only; omega) (.slice A5 ys.length c5)
    have o2 := ownsRow_setCell_below o1 (a := ⟨w.heap.size + 2, 0, none⟩) (by simp only; omega) (.bool ok)
    have o3 := ownsRow_putObj o2 (.deferred none) hK' rfl
    refine ⟨.tuple #[.slice A5 ys.length c5, .bool ok], ?_, ?_⟩
    · simp [results, Tryz.f38, go_sem, h1, h2]
    · rw [hres.out.1, hres.out.2]
      exact ⟨_, rfl, OwnS.mono o3 (by omega), FT.out, ((B5.out.setCell (p := ⟨w.heap.size + 1, 0, none⟩) (by simp only; omega) _).setCell (p := ⟨w.heap.size + 2, 0, none⟩) (by simp only; omega) _).trans (belowK_b (w := w) (Nat.le_refl _) _ D _ _ (by omega) hK' rfl rfl)⟩
  case stop =>
    rintro D pre W hD ⟨q, hq⟩ ⟨hB, hbad, r1, r2⟩ hK
    have hb := hbad q
    rw [hq, splitG_44] at hb
    obtain ⟨l1, l2⟩ := list_no hb
    have h1 := cell_kept r1 (grownBy_putObj' _ D (.deferred none)) (fun r e => by cases e; exact ⟨_, hK, rfl⟩)
    have h2 := cell_kept r2 (grownBy_putObj' _ D (.deferred none)) (fun r e => by cases e; exact ⟨_, hK, rfl⟩)
    clear HB HI HI0 hb hbad hq
    gi_wp2
    have z4 := Z4.out
    have z1 := Z1.out
    refine ⟨by simp, .inl ⟨_, _, rfl, run_takeDeferred hK, ?_⟩⟩
    refine ⟨.tuple #[.slice none 0 0, .bool false], ?_, ?_⟩
    · simp [results, Tryz.f38, go_sem, h1, h2]
    · rw [l1, l2]
      exact ⟨_, rfl, OwnS.nil _ _, fits_nil, hB.trans (belowK_b (w := w) (Nat.le_refl _) W D _ _ (by omega) hK rfl rfl)⟩
end Go.Proofs.YthkjcljhfjaabaaGreatDoor
