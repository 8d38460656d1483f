/-
  Contracts of the draws of two sets that may be exchanged or changed.
-/
import Derived.Test.YtcjoidoodggfkaaDs
namespace Go.Proofs.Ytcjoidoodggfkaa
open Go.RowKit Sets

set_option maxHeartbeats 1000000 in
theorem drawWithin_any (A : Option Addr) (n c : Nat) (z : Nat → Int) (w : World) (h : Bytes w A n c z) :
    Calls Try.prog 31 #[.slice A n c] w (Draw2 w) := by
  have H := Lib.hid h
  clear h
  go_enter Try.func31, Try.ntmps31
  go_wp2_with fail
  refine (two_any A n c z w H.out).mono ?_
  rintro e w1 ⟨v1, v2, xs, ys, rfl, own1, hf1, hl1, own2, hf2, hl2, b1⟩
  have hs1 := b1.size
  go_wp2_with fail
  refine (open_any A n c z w1 (H.out.step b1)).mono ?_
  rintro e w2 ⟨rfl, hR2, b2⟩
  have hs2 := b2.size
  have hlt2 := hR2.lt
  go_wp2_with fail
  refine (pick_step _ _ _ _ _ _ z _ w2 hR2 (by omega) (by omega) (by omega)).mono ?_
  rintro e w3 ⟨j, rfl, hj0, hj1, hR3, hg3⟩
  have b13 := b2.trans (gr_to_below hg3 hs2 (Nat.le_refl _))
  have o1 := own1.below b13
  have o2 := own2.below b13
  have b03 := b1.trans (b13.mono hs1)
  by_cases j0 : j = 0
  · subst j0
    go_wp2
    go_ret2
    exact ⟨_, _, ys, xs, rfl, o2, hf2, hl2, o1, hf1, hl1, b03⟩
  · have e0 : (j == 0) = false := beq_eq_false_iff_ne.2 j0
    go_wp2
    go_ret2
    exact ⟨_, _, xs, ys, rfl, o1, hf1, hl1, o2, hf2, hl2, b03⟩

def Draw2b (w : World) (e : Ending) (w' : World) : Prop := ∃ (v1 v2 : Value) (xs ys : List Sp), e = .returned (.tuple #[v1, v2]) ∧ OwnS w' w.heap.size v1 xs ∧ Fits xs ∧ xs.length ≤ 400 ∧ OwnS w' w.heap.size v2 ys ∧ Fits ys ∧ ys.length ≤ 400 ∧ Below w.heap.size w w'
set_option maxHeartbeats 1000000 in
theorem drawSame_any (A : Option Addr) (n c : Nat) (z : Nat → Int) (w : World) (h : Bytes w A n c z) :
    Calls Try.prog 34 #[.slice A n c] w (Draw2b w) := by
  have H := Lib.hid h
  clear h
  go_enter Try.func34, Try.ntmps34
  go_wp2_with fail
  refine (two_any A n c z w H.out).mono ?_
  rintro e w1 ⟨v1, v2, xs, ys, rfl, own1, hf1, hl1, own2, hf2, hl2, b1⟩
  have hs1 := b1.size
  go_wp2_with fail
  refine (open_any A n c z w1 (H.out.step b1)).mono ?_
  rintro e w2 ⟨rfl, hR2, b2⟩
  have hs2 := b2.size
  have hlt2 := hR2.lt
  go_wp2_with fail
  refine (pick_step _ _ _ _ _ _ z _ w2 hR2 (by omega) (by omega) (by omega)).mono ?_
  rintro e w3 ⟨j, rfl, hj0, hj1, hR3, hg3⟩
  have hs3 := hg3.size
  have b13 := b2.trans (gr_to_below hg3 hs2 (Nat.le_refl _))
  have o1 := own1.below b13
  have o2 := own2.below b13
  have b03 := b1.trans (b13.mono hs1)
  by_cases j0 : j = 0
  · subst j0
    obtain ⟨A1, c1, hv1, hr1, _⟩ := o1.form hf1
    subst hv1
    have HR1 := Lib.hid hr1
    clear hr1
    go_wp2_with fail
    refine (mutate_any _ _ _ _ _ _ z _ _ xs w3 hR3 (by omega) HR1.out (by omega)).mono ?_
    rintro e w4 ⟨v4, xs4, p4, rfl, own4, hf4, hl4, hp4, hR4, hg4⟩
    have hs4 := hg4.size
    have b14 := b13.trans (gr_to_below hg4 (by omega) (Nat.le_refl _))
    obtain ⟨A4, c4, hv4, hr4, _⟩ := own4.form hf4
    subst hv4
    have HR4 := Lib.hid hr4
    clear hr4
    go_wp2_with fail
    refine (mutate_any _ _ _ _ _ _ z _ _ xs4 w4 hR4 (by omega) HR4.out (by omega)).mono ?_
    rintro e w5 ⟨v5, xs5, p5, rfl, own5, hf5, hl5, hp5, hR5, hg5⟩
    have hs5 := hg5.size
    have b15 := b14.trans (gr_to_below hg5 (by omega) (Nat.le_refl _))
    have o15 := own1.below b15
    have b05 := b1.trans (b15.mono hs1)
    go_wp2
    go_ret2
    exact ⟨_, _, xs, xs5, rfl, o15, hf1, by omega, own5.mono (by omega), hf5, by omega, b05⟩
  · have e0 : (j == 0) = false := beq_eq_false_iff_ne.2 j0
    go_wp2
    go_ret2
    exact ⟨_, _, xs, ys, rfl, o1, hf1, by omega, o2, hf2, by omega, b03⟩

end Go.Proofs.Ytcjoidoodggfkaa
