/-
  Contracts of the draws of a list of spans, and of a set and a number.
-/
import Derived.Test.YthdmoaimgbffmaaDs
namespace Go.Proofs.Ythdmoaimgbffmaa
open Go.RowKit Sets

set_option maxRecDepth 100000 in
set_option maxHeartbeats 1000000 in
theorem drawOf_any (A : Option Addr) (n c : Nat) (z : Nat → Int) (w : World) (h : Bytes w A n c z) :
    Calls Try.prog 11 #[.slice A n c] w (Draw1 w) := by
  go_enter Try.func11, Try.ntmps11
  go_wp2_with fail
  refine (open_any A n c z w h).mono ?_
  rintro e w1 ⟨rfl, hR1, b1⟩
  have hs1 := b1.size
  have hlt1 := hR1.lt
  go_wp2_with fail
  refine (spans_any _ _ _ _ _ _ z w1 hR1 (by omega)).mono ?_
  rintro e w2 ⟨v, xs, p1, rfl, hown, hf, hl, hp1, hR2, hg2⟩
  have hs2 := hg2.size
  have HF := Lib.hid hf
  rcases Nat.eq_zero_or_pos xs.length with hz | hpos
  · have hx : xs = [] := List.eq_nil_of_length_eq_zero hz
    subst hx
    obtain ⟨A1, c1, hv, _, _⟩ := hown.form hf
    subst hv
    go_wp2
    go_ret
    exact ⟨_, [], rfl, hown.mono (by omega), HF.out, by omega, b1.trans (gr_to_below hg2 hs1 (Nat.le_refl _))⟩
  · obtain ⟨g2, cap2, hv2, hb2, hg2', hlc2, hcm2, hrow2, hfr2, hown2⟩ := hown.block hpos
    subst hv2
    have hk4 : (0 : Int) < (xs.length : Int) := by omega
    go_wp2_with fail
    refine (pick_step _ _ _ _ _ _ z _ w2 hR2 (by omega) (by omega) (by omega)).mono ?_
    rintro e w3 ⟨j, rfl, hj0, hj1, hR3, hg3⟩
    have hs3 := hg3.size
    have hown3 := hown.gr hg3 hlt1
    have hg13 := gr_trans hg2 hg3
    by_cases j0 : j = 0
    · subst j0
      go_wp2_with fail
      refine (num_step _ _ _ _ _ _ z [100, -200, -99, 99] _ _ _ w3 rfl rfl rfl hR3 (by omega) (by decide) (by decide)).mono ?_
      rintro e w4 ⟨a, rfl, ha, hR4, hg4⟩
      have ha1 : I64 a := by unfold I64; simp at ha; omega
      have hs4 := hg4.size
      have hown4 := hown3.gr hg4 hlt1
      obtain ⟨g3, cap3, hv3, hb3, hg3', _, _, hrow3, hfr3, hown5⟩ := hown4.block hpos
      injection hv3 with hv3 _ hv4
      injection hv3 with hv3
      injection hv3 with hv3
      subst hv3 hv4
      obtain ⟨d1, d2⟩ := hrow3 0 hpos
      simp only [Nat.zero_add, Nat.zero_mul] at d1 d2
      have f1 := hfr3 1
      have hset := Lib.hid (OwnS.set_hi hown5 hpos a)
      have hbb := b1.trans (gr_to_below (gr_trans hg13 hg4) hs1 (Nat.le_refl _))
      clear hown hown3 hown4 hrow2 hfr2 hrow3 hfr3 hown2 hown5
      go_wp2
      go_ret
      exact ⟨_, _, rfl, hset.out.mono (by omega), fits_set HF.out 0 (HF.out.lo 0) ha1, by rw [List.length_set]; omega, hbb.setCell (p := ⟨g2, 1, none⟩) (by show w.heap.size ≤ g2; omega) _⟩
    · have e0 : (j == 0) = false := beq_eq_false_iff_ne.2 j0
      go_wp2
      go_ret
      exact ⟨_, xs, rfl, hown3.mono (by omega), HF.out, by omega, b1.trans (gr_to_below hg13 hs1 (Nat.le_refl _))⟩

def DrawN (w : World) (e : Ending) (w' : World) : Prop := ∃ (v : Value) (xs : List Sp) (m : Int), e = .returned (.tuple #[v, .int .i64 m]) ∧ OwnS w' w.heap.size v xs ∧ Fits xs ∧ xs.length ≤ 300 ∧ -200 ≤ m ∧ m ≤ 200 ∧ Below w.heap.size w w'
set_option maxRecDepth 100000 in
set_option maxHeartbeats 1000000 in
theorem drawHas_any (A : Option Addr) (n c : Nat) (z : Nat → Int) (w : World) (h : Bytes w A n c z) :
    Calls Try.prog 24 #[.slice A n c] w (DrawN w) := by
  have H := Lib.hid h
  clear h
  go_enter Try.func24, Try.ntmps24
  go_wp2_with fail
  refine (drawValid_any A n c z w H.out).mono ?_
  rintro e w1 ⟨v1, xs, rfl, own1, hf1, hl1, b1⟩
  have hs1 := b1.size
  obtain ⟨A1, c1, hv1, hr1, _⟩ := own1.form hf1
  subst hv1
  clear hr1
  go_wp2_with fail
  refine (open_any A n c z w1 (H.out.step b1)).mono ?_
  rintro e w2 ⟨rfl, hR2, b2⟩
  have hs2 := b2.size
  go_wp2_with fail
  refine (num_step _ _ _ _ _ _ z [0, 3, 5, 7, 12, -5, 100] _ _ _ w2 rfl rfl rfl hR2 (by omega) (by decide) (by decide)).mono ?_
  rintro e w3 ⟨a, rfl, ha, hR3, hg3⟩
  have ha1 : -200 ≤ a := by simp at ha; omega
  have ha2 : a ≤ 200 := by simp at ha; omega
  have b13 := b2.trans (gr_to_below hg3 hs2 (Nat.le_refl _))
  have o1 := own1.below b13
  have b03 := b1.trans (b13.mono hs1)
  clear ha
  go_wp2
  go_ret2
  exact ⟨_, xs, a, rfl, o1, hf1, hl1, ha1, ha2, b03⟩
end Go.Proofs.Ythdmoaimgbffmaa
