/-
  The walk of the law on sizes of sets.
-/
import Derived.Test.YthdmoaimgbffmaaDs
namespace Go.Proofs.Ythdmoaimgbffmaa
open Go.RowKit Sets

theorem valid_of {xs : List Sp} (h1 : xs.length ≤ 12) (h2 : Norm xs) (h3 : Within xs) : validB xs = true := (validB_iff xs).2 ((valid_iff xs).2 ⟨h1, h2, h3⟩)
theorem minus_ok {xs ys : List Sp} (h : minusB xs ys = true) : validB xs = true ∧ validB ys = true ∧ minusV xs ys = minusP xs ys ∧ meetV xs ys = meetP xs ys ∧ validB (minusP xs ys) = true := by
  have hV : minusV xs ys = minusP xs ys := by unfold minusV; rw [if_pos h]
  have h' := h
  unfold minusB at h
  rw [Bool.and_eq_true] at h
  have hb := h.1
  unfold bothB at hb
  rw [Bool.and_eq_true] at hb
  obtain ⟨hx, hy⟩ := hb
  have a := norm_of_valid hx
  have b := norm_of_valid hy
  have s := minusP_spec xs ys a.1 a.2 b.1 b.2
  exact ⟨hx, hy, hV, by unfold meetV; rw [if_pos h.1], valid_of (of_decide_eq_true h.2) s.1 s.2.1⟩
theorem meet_valid {xs ys : List Sp} (hx : validB xs = true) (hy : validB ys = true) (h : (meetP xs ys).length ≤ 12) : validB (meetP xs ys) = true := by
  have a := norm_of_valid hx
  have b := norm_of_valid hy
  exact valid_of h (meetP_spec xs ys a.1 b.1).1 (meetP_within xs ys a.1 a.2 b.1)
theorem sizes_add {xs ys : List Sp} (h : minusB xs ys = true) (hm : (meetV xs ys).length ≤ 12) : sizeV (minusV xs ys) + sizeV (meetV xs ys) = sizeV xs := by
  obtain ⟨hx, hy, e1, e2, hv⟩ := minus_ok h
  rw [e1, e2, sizeV_yes hv, sizeV_yes (meet_valid hx hy (by rw [← e2]; exact hm)), sizeV_yes hx]
  have a := norm_of_valid hx
  have b := norm_of_valid hy
  exact size_parts xs ys a.1 a.2 b.1 b.2
theorem sizeV_bound (xs : List Sp) : 0 ≤ sizeV xs ∧ sizeV xs ≤ 2388 := by
  cases h : validB xs
  · rw [sizeV_no h]; omega
  · rw [sizeV_yes h, ← sizeK_all]; exact sizeK_bound h _ (Nat.le_refl _)

end Go.Proofs.Ythdmoaimgbffmaa
