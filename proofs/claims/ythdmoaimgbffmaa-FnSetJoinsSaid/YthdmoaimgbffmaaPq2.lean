/-
  Plain facts on numbers of unions, meets and differences.
-/
import Derived.Test.YthdmoaimgbffmaaPm2
namespace Go.Proofs.Ythdmoaimgbffmaa
open Go.RowKit Sets

theorem has_eq {xs : List Sp} (h : validB xs = true) (n : Int) : hasB xs n = haveB xs n := by unfold hasB; rw [h]; rfl
theorem have_eq {xs ys zs : List Sp} {n : Int} {f : Bool → Bool → Bool} (h : memS zs n ↔ f (haveB xs n) (haveB ys n) = true) : haveB zs n = f (haveB xs n) (haveB ys n) := by
  rw [Bool.eq_iff_iff, haveB_iff]
  exact h
theorem joins_law {xs ys : List Sp} (h1 : unionB xs ys = true) (h2 : minusB xs ys = true) (hl : (meetV xs ys).length ≤ 12) (n : Int) :
    hasB (unionV xs ys) n = (hasB xs n || hasB ys n) ∧ hasB (meetV xs ys) n = (hasB xs n && hasB ys n) ∧ hasB (minusV xs ys) n = (hasB xs n && !hasB ys n) := by
  obtain ⟨hx, hy, hu, hum⟩ := union_facts h1
  obtain ⟨_, _, hd, hdm⟩ := minus_facts h2
  obtain ⟨m1, m2, m3⟩ := meetV_facts hx hy
  have hm := mk_valid hl m1 m2
  rw [has_eq hx, has_eq hy, has_eq hu, has_eq hd, has_eq hm]
  refine ⟨have_eq (f := or) ?_, have_eq (f := and) ?_, have_eq (f := fun p q => p && !q) ?_⟩
  · rw [hum n, Bool.or_eq_true, haveB_iff, haveB_iff]
  · rw [m3 n, Bool.and_eq_true, haveB_iff, haveB_iff]
  · rw [hdm n]
    simp only [Bool.and_eq_true, Bool.not_eq_true', ← Bool.not_eq_true, haveB_iff]
end Go.Proofs.Ythdmoaimgbffmaa
