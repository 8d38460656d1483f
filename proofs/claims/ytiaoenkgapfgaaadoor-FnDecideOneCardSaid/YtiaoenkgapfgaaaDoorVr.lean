/-
  Results in memory: copies, sizes, equality.
-/
import Derived.Test.YtiaoenkgapfgaaaDoorUaM
import Derived.Test.YtiaoenkgapfgaaaDoorUgM
namespace Go.Proofs.YtiaoenkgapfgaaaDoor
open Go.RowKit Sets

abbrev Rs := Int × List Int
/-- A value that is a result. -/
def ResAt (w : World) (B : Nat) (v : Value) (r : Rs) : Prop := ∃ A c, v = .agg #[.int .i64 r.1, .slice A r.2.length c] ∧ IntsAt w B A c r.2
theorem ResAt.below {w w' : World} {B : Nat} {v : Value} {r : Rs} (h : ResAt w B v r) (hb : Below B w w') : ResAt w' B v r := by
  obtain ⟨A, c, hv, h1⟩ := h
  exact ⟨A, c, hv, h1.below hb⟩
theorem ResAt.mono {w : World} {B B' : Nat} {v : Value} {r : Rs} (h : ResAt w B v r) (hb : B ≤ B') : ResAt w B' v r := by
  obtain ⟨A, c, hv, h1⟩ := h
  exact ⟨A, c, hv, h1.mono hb⟩
theorem ResAt.step {w w' : World} {v : Value} {r : Rs} (h : ResAt w w.heap.size v r) (hb : Below w.heap.size w w') : ResAt w' w'.heap.size v r := (h.below hb).mono hb.size
/-- A block that holds the two cells of a result. -/
def RBox (w : World) (g : Nat) (x : Int) (A : Option Addr) (n c : Nat) : Prop :=
  w.cell? ⟨g, 0, none⟩ = some (.int .i64 x) ∧ w.cell? ⟨g, 1, none⟩ = some (.slice A n c) ∧ g < w.heap.size
theorem RBox.made (w : World) (x : Int) (A : Option Addr) (n c : Nat) (t : TypeId) : RBox (w.alloc (.cells #[.int .i64 x, .slice A n c] t)) w.heap.size x A n c := by
  refine ⟨?_, ?_, by simp⟩ <;> (rw [World.cell?_alloc_new]; rfl)
theorem RBox.step {w w' : World} {g : Nat} {x : Int} {A : Option Addr} {n c : Nat} (h : RBox w g x A n c) (hb : Below w.heap.size w w') : RBox w' g x A n c :=
  ⟨(hb.cell (p := ⟨g, 0, none⟩) h.2.2).trans h.1, (hb.cell (p := ⟨g, 1, none⟩) h.2.2).trans h.2.1, Nat.lt_of_lt_of_le h.2.2 hb.size⟩

def iEq (xs ys : List Int) (k : Nat) : Bool := xs.getD k 0 == ys.getD k 0
def isB (xs ys : List Int) : Bool := decide (xs.length = ys.length) && (List.range xs.length).all (iEq xs ys)
/-- the two results are equal -/
def resB (a b : Rs) : Bool := (a.1 == b.1) && isB a.2 b.2

set_option maxRecDepth 100000 in
set_option maxHeartbeats 2000000 in
theorem slicesEqualI_any (A1 A2 : Option Addr) (c1 c2 : Nat) (xs ys : List Int) (w : World) (h1 : IntsAt w w.heap.size A1 c1 xs) (h2 : IntsAt w w.heap.size A2 c2 ys) :
    Calls Tryd.prog 23 #[.slice A1 xs.length c1, .slice A2 ys.length c2] w fun e w' => e = .returned (.bool (isB xs ys)) ∧ Below w.heap.size w w' := by
  obtain ⟨_, _, _, hrow⟩ := h1
  obtain ⟨_, _, _, hrow2⟩ := h2
  by_cases hl : xs.length = ys.length
  · have hne : ((xs.length : Int) != (ys.length : Int)) = false := by simp [hl]
    have HL := Lib.hid hl
    have hv := Lib.hid (show isB xs ys = (List.range xs.length).all (iEq xs ys) by unfold isB; rw [decide_eq_true hl]; rfl)
    clear hl
    go_enter Tryd.func23, Tryd.ntmps23
    go_wp2
    clear hne
    go_loopw [13] (fun i wr => ∃ k : Nat, k ≤ xs.length ∧ i = .int .i64 k ∧ Hid (∀ j, j < k → iEq xs ys j = true) ∧ Below w.heap.size w wr) (fun i _ => xs.length - (intOf i).toNat)
    case atStart => exact ⟨0, Nat.zero_le _, rfl, Lib.hid (fun i hi => absurd hi (by omega)), Below.refl _ _⟩
    case round =>
      obtain ⟨k, hk, rfl, hall, hb⟩ := hrel
      by_cases hlt : k < xs.length
      · rcases hrow with hz | ⟨b, off, rfl, hB, hrow⟩
        · omega
        · rcases hrow2 with hz | ⟨b2, off2, rfl, hB2, hrow2⟩
          · have := HL.out; omega
          · have hkl : (k : Int) < (xs.length : Int) := by omega
            have hkl2 : (k : Int) < (ys.length : Int) := by have := HL.out; omega
            have u1 := hrow k hlt
            have v1 := hrow2 k (by have := HL.out; omega)
            rw [Nat.mul_one] at u1 v1
            have d1 := (hb.cell (p := ⟨b, off + k, none⟩) hB).trans u1
            have e1 := (hb.cell (p := ⟨b2, off2 + k, none⟩) hB2).trans v1
            obtain ⟨x, hx⟩ : ∃ x, xs.getD k 0 = x := ⟨_, rfl⟩
            obtain ⟨y, hy⟩ : ∃ y, ys.getD k 0 = y := ⟨_, rfl⟩
            have HT := Lib.hid (show iEq xs ys k = (x == y) by unfold iEq; rw [hx, hy])
            rw [hx] at d1
            rw [hy] at e1
            have HB := Lib.hid hb
            have HA := Lib.hid hall
            clear u1 v1 hx hy hrow hrow2 hb hall
            by_cases hxy : x = y
            · subst hxy
              have hxx : (x != x) = false := by simp
              go_wp2
              go_quiet (fail)
              go_wp2
              go_roundw
              case rel =>
                refine ⟨k + 1, hlt, by go_num, Lib.hid (fun i hi => ?_), below_drewN HB.out _⟩
                by_cases e : i = k
                · rw [e, HT.out]; simp
                · exact HA.out i (by omega)
              case measure => simp [intOf]; omega
            · have hxx : (x != y) = true := by simp [hxy]
              have HF := Lib.hid (show iEq xs ys k = false by rw [HT.out]; simp [hxy])
              clear hxy
              go_wp2
              go_quiet (fail)
              go_wp2
              go_ret
              exact ⟨by rw [hv.out, all_no hlt HF.out]; rfl, below_drewN HB.out _⟩
      · obtain rfl : k = xs.length := by omega
        have HA := Lib.hid (show isB xs ys = true by rw [hv.out]; exact all_yes hall.out)
        clear hall
        go_wp2
        go_ret
        exact ⟨by rw [HA.out]; rfl, hb⟩
  · have hne : ((xs.length : Int) != (ys.length : Int)) = true := by simp; omega
    have hv := Lib.hid (show isB xs ys = false by unfold isB; rw [decide_eq_false hl]; rfl)
    clear hl
    go_enter Tryd.func23, Tryd.ntmps23
    go_wp2
    go_ret
    exact ⟨by rw [hv.out]; rfl, Below.refl _ _⟩

set_option maxRecDepth 100000 in
set_option maxHeartbeats 2000000 in
theorem implRS_any (v1 : Value) (r1 : Rs) (v2 : Value) (r2 : Rs) (w : World) (h1 : ResAt w w.heap.size v1 r1) (h2 : ResAt w w.heap.size v2 r2) :
    Calls Tryd.prog 10 #[v1, v2] w fun e w' => e = .returned (.bool (resB r1 r2)) ∧ Below w.heap.size w w' := by
  obtain ⟨A1, c1, rfl, hI1⟩ := h1
  obtain ⟨A2, c2, rfl, hI2⟩ := h2
  obtain ⟨x, xs⟩ := r1
  obtain ⟨y, ys⟩ := r2
  simp only [] at hI1 hI2 ⊢
  obtain ⟨W, hW⟩ : ∃ W, W = ((w.alloc (.cells #[.int .i64 x, .slice A1 xs.length c1] 27)).alloc (.cells #[.int .i64 y, .slice A2 ys.length c2] 27)) := ⟨_, rfl⟩
  obtain ⟨x1, x2, bW, zW⟩ := two_blocks w _ _ _ _ W hW
  clear x1 x2 zW
  have BW := Lib.hid bW
  have H1 := Lib.hid hI1
  have H2 := Lib.hid hI2
  clear bW hI1 hI2
  by_cases hx : x = y
  · subst hx
    have hxx : (x == x) = true := by simp
    have hv := Lib.hid (show resB (x, xs) (x, ys) = isB xs ys by unfold resB; simp)
    go_enter Tryd.func10, Tryd.ntmps10
    go_wp2_with fail
    rw [← hW]
    clear hW hxx
    refine (slicesEqualI_any A1 A2 c1 c2 xs ys W (H1.out.step BW.out) (H2.out.step BW.out)).mono ?_
    rintro e w1 ⟨rfl, b1⟩
    go_wp2
    go_ret
    exact ⟨by rw [hv.out]; rfl, BW.out.trans (b1.mono BW.out.size)⟩
  · have hxx : (x == y) = false := by simp [hx]
    have hv := Lib.hid (show resB (x, xs) (y, ys) = false by unfold resB; simp [hx])
    clear hx
    subst hW
    go_enter Tryd.func10, Tryd.ntmps10
    go_wp2
    try trivial
    go_ret
    exact ⟨by rw [hv.out]; rfl, BW.out⟩

end Go.Proofs.YtiaoenkgapfgaaaDoor
