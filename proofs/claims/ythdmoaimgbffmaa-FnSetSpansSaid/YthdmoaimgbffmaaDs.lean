/-
  Contracts of the draws that the laws on sets make.
-/
import Derived.Test.YthdmoaimgbffmaaMu
namespace Go.Proofs.Ythdmoaimgbffmaa
open Go.RowKit Sets

theorem setOfV_len (xs : List Sp) : (setOfV xs).length ≤ 12 := by
  unfold setOfV
  split
  · rename_i h
    unfold setOfB at h
    rw [Bool.and_eq_true] at h
    exact of_decide_eq_true h.2
  · simp

set_option maxRecDepth 100000 in
theorem draw_any (g B : Nat) (A : Option Addr) (n c p : Nat) (z : Nat → Int) (w : World) (h : Rdr w g B A n c p z) (hp : p ≤ 900000) :
    Calls Try.prog 63 #[.pointer (some ⟨g, 0, none⟩)] w (SpansRes g B A n c p 11 12 z w) := by
  have hg := h.lt
  go_enter Try.func63, Try.ntmps63
  go_wp2_with fail
  refine (spans_any g B A n c p z w h hp).mono ?_
  rintro e w1 ⟨v, xs, p1, rfl, hown, hf, hl, hp1, hR1, hg1⟩
  obtain ⟨A1, c1, hv, hr, _⟩ := hown.form hf
  subst hv
  go_wp2_with fail
  refine (specOf_any _ _ xs _ hr).mono ?_
  rintro e w2 ⟨v2, rfl, hown2, hf2, b2⟩
  go_wp2
  go_ret
  exact ⟨_, _, p1, rfl, hown2.mono hg1.size, hf2, setOfV_len xs, hp1, hR1.below b2, gr_trans hg1 (gr_below g b2)⟩

def Draw1 (w : World) (e : Ending) (w' : World) : Prop := ∃ (v : Value) (xs : List Sp), e = .returned v ∧ OwnS w' w.heap.size v xs ∧ Fits xs ∧ xs.length ≤ 300 ∧ Below w.heap.size w w'
def Draw2 (w : World) (e : Ending) (w' : World) : Prop := ∃ (v1 v2 : Value) (xs ys : List Sp), e = .returned (.tuple #[v1, v2]) ∧ OwnS w' w.heap.size v1 xs ∧ Fits xs ∧ xs.length ≤ 300 ∧ OwnS w' w.heap.size v2 ys ∧ Fits ys ∧ ys.length ≤ 300 ∧ Below w.heap.size w w'

theorem Bytes.step {w w' : World} {A : Option Addr} {n c : Nat} {z : Nat → Int} (h : Bytes w A n c z) (hb : Below w.heap.size w w') : Bytes w' A n c z := by
  refine ⟨h.1, h.2.1, h.2.2.1, fun hn => ?_⟩
  obtain ⟨b, off, e, hlt, hr⟩ := h.2.2.2 hn
  exact ⟨b, off, e, Nat.lt_of_lt_of_le hlt hb.size, fun i hi => by rw [hb.cell (p := ⟨b, off + i, none⟩) hlt]; exact hr i hi⟩

set_option maxRecDepth 100000 in
theorem drawValid_any (A : Option Addr) (n c : Nat) (z : Nat → Int) (w : World) (h : Bytes w A n c z) :
    Calls Try.prog 52 #[.slice A n c] w (Draw1 w) := by
  go_enter Try.func52, Try.ntmps52
  go_wp2_with fail
  refine (open_any A n c z w h).mono ?_
  rintro e w1 ⟨rfl, hR1, b1⟩
  go_wp2_with fail
  refine (draw_any _ _ _ _ _ _ z w1 hR1 (by omega)).mono ?_
  rintro e w2 ⟨v, xs, p1, rfl, hown, hf, hl, hp1, hR2, hg2⟩
  obtain ⟨A1, c1, hv, hr, _⟩ := hown.form hf
  subst hv
  go_wp2_with fail
  refine (mutate_any _ _ _ _ _ _ z _ _ xs w2 hR2 (by omega) hr (by omega)).mono ?_
  rintro e w3 ⟨v3, ys, p3, rfl, hown3, hf3, hl3, hp3, hR3, hg3⟩
  have hs1 := b1.size
  have hs2 := hg2.size
  go_wp2
  go_ret
  exact ⟨_, ys, rfl, hown3.mono (by omega), hf3, by omega, b1.trans (gr_to_below (gr_trans hg2 hg3) hs1 (Nat.le_refl _))⟩

set_option maxRecDepth 100000 in
set_option maxHeartbeats 1000000 in
theorem two_any (A : Option Addr) (n c : Nat) (z : Nat → Int) (w : World) (h : Bytes w A n c z) :
    Calls Try.prog 48 #[.slice A n c] w (Draw2 w) := by
  go_enter Try.func48, Try.ntmps48
  go_wp2_with fail
  refine (open_any A n c z w h).mono ?_
  rintro e w1 ⟨rfl, hR1, b1⟩
  have hs1 := b1.size
  have hlt1 := hR1.lt
  go_wp2_with fail
  refine (draw_any _ _ _ _ _ _ z w1 hR1 (by omega)).mono ?_
  rintro e w2 ⟨va, xs, p1, rfl, owna, hfa, hla, hp1, hR2, hg2⟩
  have hs2 := hg2.size
  go_wp2_with fail
  refine (draw_any _ _ _ _ _ _ z w2 hR2 (by omega)).mono ?_
  rintro e w3 ⟨vb, ys, p2, rfl, ownb, hfb, hlb, hp2, hR3, hg3⟩
  have hs3 := hg3.size
  have owna3 := owna.gr hg3 hlt1
  go_wp2_with fail
  refine (pick_step _ _ _ _ _ _ z _ w3 hR3 (by omega) (by omega) (by omega)).mono ?_
  rintro e w4 ⟨j, rfl, hj0, hj1, hR4, hg4⟩
  have hs4 := hg4.size
  have owna4 := owna3.gr hg4 hlt1
  have ownb4 := ownb.gr hg4 (by omega)
  have hg14 := gr_trans hg2 (gr_trans hg3 hg4)
  obtain ⟨A1, c1, hv1, hr1, _⟩ := owna4.form hfa
  obtain ⟨A2, c2, hv2, hr2, _⟩ := ownb4.form hfb
  subst hv1 hv2
  clear hR1 hR2 hR3 owna ownb owna3
  have HR1 := Lib.hid hr1
  have HR2 := Lib.hid hr2
  clear hr1 hr2
  by_cases j0 : j = 0
  · subst j0
    go_wp2_with fail
    refine (join_any _ _ _ _ xs ys true false _ HR1.out HR2.out).mono ?_
    rintro e w5 ⟨v5, rfl, own5, hf5, b5⟩
    go_wp2
    go_ret2
    exact ⟨_, _, xs, _, rfl, (owna4.below b5).mono (by omega), hfa, by omega, own5.mono (by omega), hf5, by have := fromF_len (fun j => jf true false (flag xs j) (flag ys j)) 199; omega,
      b1.trans ((gr_to_below hg14 hs1 (Nat.le_refl _)).trans (b5.mono (by omega)))⟩
  · have e0 : (j == 0) = false := beq_eq_false_iff_ne.2 j0
    by_cases j1 : j = 1
    · subst j1
      go_wp2_with fail
      refine (mutate_any _ _ _ _ _ _ z _ _ xs w4 hR4 (by omega) HR1.out (by omega)).mono ?_
      rintro e w5 ⟨v5, xs', p5, rfl, own5, hf5, hl5, hp5, hR5, hg5⟩
      have hs5 := hg5.size
      have hr2' := ((ownb4.gr hg5 (by omega)).form hfb)
      obtain ⟨A2', c2', hv2', hr2', _⟩ := hr2'
      injection hv2' with hA2 _ hc2
      subst hA2 hc2
      have HR5 := Lib.hid hr2'
      clear hr2'
      go_wp2_with fail
      refine (mutate_any _ _ _ _ _ _ z _ _ ys w5 hR5 (by omega) HR5.out (by omega)).mono ?_
      rintro e w6 ⟨v6, ys', p6, rfl, own6, hf6, hl6, hp6, hR6, hg6⟩
      have hs6 := hg6.size
      go_wp2
      go_ret2
      exact ⟨_, _, xs', ys', rfl, (own5.gr hg6 (by omega)).mono (by omega), hf5, by omega, own6.mono (by omega), hf6, by omega, b1.trans (gr_to_below (gr_trans hg14 (gr_trans hg5 hg6)) hs1 (Nat.le_refl _))⟩
    · have e1 : (j == 1) = false := beq_eq_false_iff_ne.2 j1
      go_wp2
      go_ret2
      exact ⟨_, _, xs, ys, rfl, owna4.mono (by omega), hfa, by omega, ownb4.mono (by omega), hfb, by omega, b1.trans (gr_to_below hg14 hs1 (Nat.le_refl _))⟩

set_option maxRecDepth 100000 in
theorem drawMinus_any (A : Option Addr) (n c : Nat) (z : Nat → Int) (w : World) (h : Bytes w A n c z) :
    Calls Try.prog 29 #[.slice A n c] w (Draw2 w) := by
  go_enter Try.func29, Try.ntmps29
  go_wp2_with fail
  refine (two_any A n c z w h).mono ?_
  rintro e w1 ⟨v1, v2, xs, ys, rfl, r⟩
  go_wp2
  go_ret2
  exact ⟨_, _, xs, ys, rfl, r⟩
set_option maxRecDepth 100000 in
theorem drawUnion_any (A : Option Addr) (n c : Nat) (z : Nat → Int) (w : World) (h : Bytes w A n c z) :
    Calls Try.prog 17 #[.slice A n c] w (Draw2 w) := by
  go_enter Try.func17, Try.ntmps17
  go_wp2_with fail
  refine (two_any A n c z w h).mono ?_
  rintro e w1 ⟨v1, v2, xs, ys, rfl, r⟩
  go_wp2
  go_ret2
  exact ⟨_, _, xs, ys, rfl, r⟩
end Go.Proofs.Ythdmoaimgbffmaa
