/-
  Results in memory: copies, sizes, equality.
-/
import Derived.Test.YtppciomdbabepaaDoorUaM
import Derived.Test.YtppciomdbabepaaDoorUgM
namespace Go.Proofs.YtppciomdbabepaaDoor
open Go.RowKit Sets

abbrev Rs := Int × List Int
/-- A value that is a result. -/
def ResAt (w : World) (B : Nat) (v : Value) (r : Rs) : Prop := ∃ A c, v = .agg #[.int .i64 r.1, .slice A r.2.length c] ∧ IntsAt w B A c r.2
theorem ResAt.below {w w' : World} {B : Nat} {v : Value} {r : Rs} (h : ResAt w B v r) (hb : Below B w w') : ResAt w' B v r := by
  obtain ⟨A, c, hv, h1⟩ := h
  exact ⟨A, c, hv, h1.below hb⟩
theorem ResAt.mono {w : World} {B B' : Nat} {v : Value} {r : Rs} (h : ResAt w B v r) (hb : B ≤ B') : ResAt w B' v r := by
  obtain ⟨A, c, hv, h1⟩ := h
  exact ⟨A, c, hv, h1.mono hb⟩
theorem ResAt.step {w w' : World} {v : Value} {r : Rs} (h : ResAt w w.heap.size v r) (hb : Below w.heap.size w w') : ResAt w' w'.heap.size v r := (h.below hb).mono hb.size
/-- A block that holds the two cells of a result. -/
def RBox (w : World) (g : Nat) (x : Int) (A : Option Addr) (n c : Nat) : Prop :=
  w.cell? ⟨g, 0, none⟩ = some (.int .i64 x) ∧ w.cell? ⟨g, 1, none⟩ = some (.slice A n c) ∧ g < w.heap.size
theorem RBox.made (w : World) (x : Int) (A : Option Addr) (n c : Nat) (t : TypeId) : RBox (w.alloc (.cells #[.int .i64 x, .slice A n c] t)) w.heap.size x A n c := by
  refine ⟨?_, ?_, by simp⟩ <;> (rw [World.cell?_alloc_new]; rfl)
theorem RBox.step {w w' : World} {g : Nat} {x : Int} {A : Option Addr} {n c : Nat} (h : RBox w g x A n c) (hb : Below w.heap.size w w') : RBox w' g x A n c :=
  ⟨(hb.cell (p := ⟨g, 0, none⟩) h.2.2).trans h.1, (hb.cell (p := ⟨g, 1, none⟩) h.2.2).trans h.2.1, Nat.lt_of_lt_of_le h.2.2 hb.size⟩

def iEq (xs ys : List Int) (k : Nat) : Bool := xs.getD k 0 == ys.getD k 0
def isB (xs ys : List Int) : Bool := decide (xs.length = ys.length) && (List.range xs.length).all (iEq xs ys)
/-- the two results are equal -/
def resB (a b : Rs) : Bool := (a.1 == b.1) && isB a.2 b.2

set_option maxRecDepth 100000 in
theorem szIntS_any (A : Option Addr) (n c : Nat) (left : Int) (w : World) (hn : n ≤ 9223372036854775807) (h1 : -1 ≤ left) (h2 : left ≤ 1048576) :
    Calls Tryd.prog 21 #[.slice A n c, .int .i64 left] w fun e w' => e = .returned (.int .i64 (if left < n then -1 else left - n)) ∧ w = w' := by
  go_enter Tryd.func21, Tryd.ntmps21
  by_cases hlt : left < n
  · rw [if_pos hlt]
    have h3 : left - (n : Int) < 0 := by omega
    go_wp2
    go_ret
    exact ⟨rfl, rfl⟩
  · rw [if_neg hlt]
    have h3 : 0 ≤ left - (n : Int) := by omega
    go_wp2
    go_ret
    exact ⟨rfl, rfl⟩
set_option maxRecDepth 100000 in
theorem szResult_any (v : Value) (r : Rs) (left : Int) (w : World) (h : ResAt w w.heap.size v r) (h1 : -1 ≤ left) (h2 : left ≤ 1048576) :
    Calls Tryd.prog 13 #[v, .int .i64 left] w fun e w' => ∃ q : Int, e = .returned (.int .i64 q) ∧ -1 ≤ q ∧ q ≤ max left (-1) ∧ (0 ≤ q → r.2.length ≤ 1048576) ∧ Below w.heap.size w w' := by
  obtain ⟨A, c, rfl, hI⟩ := h
  have HN := Lib.hid (show r.2.length ≤ 9223372036854775807 by have := hI.2.1; have := hI.2.2.1; omega)
  clear hI
  obtain ⟨x, ns⟩ := r
  simp only [] at HN ⊢
  have HB : Hid (Below w.heap.size w (w.alloc (.cells #[.int .i64 x, .slice A ns.length c] 32))) := Lib.hid ((Below.refl _ _).alloc (Nat.le_refl _) _)
  go_enter Tryd.func13, Tryd.ntmps13
  by_cases hlt : left < ns.length
  · go_wp2_with (go_at_call 21; refine (szIntS_any _ _ _ _ _ HN.out (by omega) (by omega)).mono ?_; rintro e w' ⟨rfl, rfl⟩; rw [if_pos hlt])
    go_ret
    exact ⟨-1, rfl, by omega, by omega, fun h => absurd h (by omega), HB.out⟩
  · have h3 : 0 ≤ left - (ns.length : Int) := by omega
    go_wp2_with (go_at_call 21; refine (szIntS_any _ _ _ _ _ HN.out (by omega) (by omega)).mono ?_; rintro e w' ⟨rfl, rfl⟩; rw [if_neg hlt])
    go_ret
    exact ⟨left - ns.length, rfl, by omega, by omega, fun _ => by omega, HB.out⟩

set_option maxRecDepth 100000 in
set_option maxHeartbeats 1000000 in
theorem toResult_any (v : Value) (r : Rs) (w : World) (h : ResAt w w.heap.size v r) (hn : r.2.length ≤ 1048576) :
    Calls Tryd.prog 15 #[v] w fun e w' => ∃ v', e = .returned v' ∧ ResAt w' w'.heap.size v' r ∧ Below w.heap.size w w' := by
  obtain ⟨A, c, rfl, hI⟩ := h
  have HI := Lib.hid hI
  clear hI
  obtain ⟨x, ns⟩ := r
  simp only [] at HI hn ⊢
  go_enter Tryd.func15, Tryd.ntmps15
  obtain ⟨W, hW⟩ : ∃ W, W = ((w.alloc (.cells #[.int .i64 x, .slice A ns.length c] 32)).alloc (.cells #[.int .i64 0, .slice none 0 0] 24)).alloc (.cells #[.int .i64 x, .slice none 0 0] 24) := ⟨_, rfl⟩
  obtain ⟨x1, x2, x3, f2, f3, bW, zW⟩ := three_blocks w _ _ _ _ _ _ W hW
  go_wp2_with fail
  rw [← hW]
  clear hW
  refine (toIntS_any A c ns _ (HI.out.step bW) hn).mono ?_
  rintro e w1 ⟨rfl, ro, oo, b1⟩
  have r0 := (b1.cell (p := ⟨w.heap.size + 1, 0, none⟩) (by simp only; omega)).trans (x2 0)
  have r1 := (b1.cell (p := ⟨w.heap.size + 1, 1, none⟩) (by simp only; omega)).trans (x2 1)
  have s0 := (b1.cell (p := ⟨w.heap.size + 2, 0, none⟩) (by simp only; omega)).trans (x3 0)
  have s1 := (b1.cell (p := ⟨w.heap.size + 2, 1, none⟩) (by simp only; omega)).trans (x3 1)
  have rf0 := (b1.frozen (p := ⟨w.heap.size + 1, 0, none⟩) (by simp only; omega)).trans (f2 0)
  have rf1 := (b1.frozen (p := ⟨w.heap.size + 1, 1, none⟩) (by simp only; omega)).trans (f2 1)
  have sf1 := (b1.frozen (p := ⟨w.heap.size + 2, 1, none⟩) (by simp only; omega)).trans (f3 1)
  simp at r0 r1 s0 s1
  have B1 := Lib.hid (bW.trans (b1.mono bW.size))
  have ZW := Lib.hid (And.intro zW oo.2.2)
  have RO := Lib.hid ro
  have HF := Lib.hid HI.out.1
  obtain ⟨b', hb'⟩ : ∃ b', b' = W.heap.size := ⟨_, rfl⟩
  have HB' := Lib.hid hb'
  rw [← hb']
  clear x1 x2 x3 f2 f3 bW zW b1 hb' ro oo
  go_wp2
  have zz := ZW.out
  have zb := HB'.out
  have u0 := (World.cell?_setCell_other w1 ⟨w.heap.size + 1 + 1, 1, none⟩ ⟨w.heap.size + 1, 0, none⟩ (.slice (some ⟨b', 0, none⟩) ns.length ns.length) (fun e => by injection e with e _; omega)).trans r0
  have u1 := (World.cell?_setCell_other w1 ⟨w.heap.size + 1 + 1, 1, none⟩ ⟨w.heap.size + 1, 1, none⟩ (.slice (some ⟨b', 0, none⟩) ns.length ns.length) (fun e => by injection e with e _; omega)).trans r1
  obtain ⟨k0, k1⟩ := set_two u0 u1 (.int .i64 x) (.slice (some ⟨b', 0, none⟩) ns.length ns.length)
  have hsz : (((w1.setCell ⟨w.heap.size + 1 + 1, 1, none⟩ (.slice (some ⟨b', 0, none⟩) ns.length ns.length)).setCell ⟨w.heap.size + 1, 0, none⟩ (.int .i64 x)).setCell ⟨w.heap.size + 1, 1, none⟩ (.slice (some ⟨b', 0, none⟩) ns.length ns.length)).heap.size = w1.heap.size := by simp [World.setCell]
  refine bodyPost_ret (v := .agg #[.int .i64 x, .slice (some ⟨b', 0, none⟩) ns.length ns.length]) (by simp [results, Tryd.results15, go_sem, k0, k1]) rfl ⟨_, rfl, ⟨some ⟨b', 0, none⟩, ns.length, rfl, IntRow.ints (fun i hi => ?_) (by rw [hsz, zb]; omega) HF.out (Nat.le_refl _) (by omega)⟩, two_below (B1.out.setCell (by simp only; omega) _) (by omega) _ _⟩
  rw [two_other (by omega), World.cell?_setCell_other _ _ _ _ (fun e => by injection e with e _; omega), zb]
  exact RO.out i hi

set_option maxRecDepth 100000 in
theorem eqResult_same (v1 v2 : Value) (r : Rs) (w : World) (h1 : ResAt w w.heap.size v1 r) (h2 : ResAt w w.heap.size v2 r) :
    Calls Tryd.prog 8 #[v1, v2] w fun e w' => e = .returned (.bool true) ∧ Below w.heap.size w w' := by
  obtain ⟨A1, c1, rfl, hI1⟩ := h1
  obtain ⟨A2, c2, rfl, hI2⟩ := h2
  obtain ⟨x, ns⟩ := r
  simp only [] at hI1 hI2 ⊢
  obtain ⟨W, hW⟩ : ∃ W, W = (w.alloc (.cells #[.int .i64 x, .slice A1 ns.length c1] 24)).alloc (.cells #[.int .i64 x, .slice A2 ns.length c2] 24) := ⟨_, rfl⟩
  obtain ⟨x1, x2, bW, zW⟩ := two_blocks w _ _ _ _ W hW
  clear x1 x2 zW
  have BW := Lib.hid bW
  have H1 := Lib.hid hI1
  have H2 := Lib.hid hI2
  clear bW hI1 hI2
  have hxx : (x != x) = false := by simp
  go_enter Tryd.func8, Tryd.ntmps8
  go_wp2_with fail
  rw [← hW]
  clear hW
  refine (eqIntS_same A1 A2 c1 c2 ns _ (H1.out.step BW.out) (H2.out.step BW.out)).mono ?_
  rintro e w1 ⟨rfl, b1⟩
  have B1 := Lib.hid (BW.out.trans (b1.mono BW.out.size))
  clear b1
  go_wp2
  go_ret
  exact ⟨rfl, B1.out⟩

end Go.Proofs.YtppciomdbabepaaDoor
