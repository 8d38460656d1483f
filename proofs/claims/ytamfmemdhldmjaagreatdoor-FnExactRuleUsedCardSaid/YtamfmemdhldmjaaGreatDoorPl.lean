/-
  Plain facts on sets that the laws on containment, meets and differences want.
-/
import Derived.Test.YtamfmemdhldmjaaGreatDoorIt
namespace Go.Proofs.YtamfmemdhldmjaaGreatDoor
open Go.RowKit Sets

theorem mk_valid {xs : List Sp} (h1 : xs.length ≤ 12) (h2 : Norm xs) (h3 : Within xs) : validB xs = true := (validB_iff xs).2 ((valid_iff xs).2 ⟨h1, h2, h3⟩)
theorem ext_sets {xs ys : List Sp} (hx : validB xs = true) (hy : validB ys = true) : xs = ys ↔ ∀ n, memS xs n ↔ memS ys n :=
  ⟨fun h n => by rw [h], fun h => norm_unique _ _ (norm_of_valid hx).1 (norm_of_valid hy).1 h⟩
theorem within_iff {xs ys : List Sp} (hx : validB xs = true) (hy : validB ys = true) : withinB xs ys = true ↔ ∀ n, memS xs n → memS ys n := by
  unfold withinB bothB
  rw [hx, hy]
  simp only [Bool.and_self, Bool.true_and, decide_eq_true_eq]
  exact minus_nil hx hy
theorem within_noL {xs ys : List Sp} (h : validB xs = false) : withinB xs ys = false := by unfold withinB bothB; rw [h]; rfl
theorem within_noR {xs ys : List Sp} (h : validB ys = false) : withinB xs ys = false := by unfold withinB bothB; rw [h, Bool.and_false]; rfl
theorem meetV_yes {xs ys : List Sp} (hx : validB xs = true) (hy : validB ys = true) : meetV xs ys = meetP xs ys := by unfold meetV bothB; rw [hx, hy]; rfl
theorem meetV_facts {xs ys : List Sp} (hx : validB xs = true) (hy : validB ys = true) : Norm (meetV xs ys) ∧ Within (meetV xs ys) ∧ ∀ n, memS (meetV xs ys) n ↔ memS xs n ∧ memS ys n := by
  rw [meetV_yes hx hy]
  have a := norm_of_valid hx
  have b := norm_of_valid hy
  have s := meetP_spec xs ys a.1 b.1
  exact ⟨s.1, meetP_within xs ys a.1 a.2 b.1, s.2.1⟩
theorem within_meet {xs ys : List Sp} (hx : validB xs = true) (hy : validB ys = true) : withinB xs ys = sameB (meetV xs ys) xs := by
  rw [Bool.eq_iff_iff, within_iff hx hy, same_iff]
  obtain ⟨m1, m2, m3⟩ := meetV_facts hx hy
  constructor
  · intro h
    exact norm_unique _ _ m1 (norm_of_valid hx).1 fun n => (m3 n).trans ⟨fun p => p.1, fun p => ⟨p, h n p⟩⟩
  · intro h n hn
    rw [← h] at hn
    exact ((m3 n).1 hn).2
theorem same_within {xs ys : List Sp} (hx : validB xs = true) (hy : validB ys = true) : sameB xs ys = (withinB xs ys && withinB ys xs) := by
  rw [Bool.eq_iff_iff, same_iff, Bool.and_eq_true, within_iff hx hy, within_iff hy hx, ext_sets hx hy]
  exact ⟨fun h => ⟨fun n => (h n).1, fun n => (h n).2⟩, fun h n => ⟨h.1 n, h.2 n⟩⟩
theorem sameB_comm (xs ys : List Sp) : sameB xs ys = sameB ys xs := by
  rw [Bool.eq_iff_iff, same_iff, same_iff]
  exact eq_comm
theorem sameB_self (xs : List Sp) : sameB xs xs = true := (same_iff xs xs).2 rfl
theorem meetV_comm (xs ys : List Sp) : meetV xs ys = meetV ys xs := by
  cases hx : validB xs
  · have a : meetV xs ys = [] := by unfold meetV bothB; rw [hx]; rfl
    have b : meetV ys xs = [] := by unfold meetV bothB; rw [hx, Bool.and_false]; rfl
    rw [a, b]
  · cases hy : validB ys
    · have a : meetV xs ys = [] := by unfold meetV bothB; rw [hy, Bool.and_false]; rfl
      have b : meetV ys xs = [] := by unfold meetV bothB; rw [hy]; rfl
      rw [a, b]
    · obtain ⟨m1, _, m3⟩ := meetV_facts hx hy
      obtain ⟨k1, _, k3⟩ := meetV_facts hy hx
      exact norm_unique _ _ m1 k1 fun n => (m3 n).trans (And.comm.trans (k3 n).symm)
theorem meet_within {xs ys : List Sp} (hx : validB xs = true) (hy : validB ys = true) (hl : (meetV xs ys).length ≤ 12) : withinB (meetV xs ys) xs = true ∧ withinB (meetV xs ys) ys = true := by
  obtain ⟨m1, m2, m3⟩ := meetV_facts hx hy
  have hv := mk_valid hl m1 m2
  exact ⟨(within_iff hv hx).2 fun n h => ((m3 n).1 h).1, (within_iff hv hy).2 fun n h => ((m3 n).1 h).2⟩
theorem minus_facts {xs ys : List Sp} (h : minusB xs ys = true) : validB xs = true ∧ validB ys = true ∧ validB (minusV xs ys) = true ∧ ∀ n, memS (minusV xs ys) n ↔ memS xs n ∧ ¬ memS ys n := by
  have hV : minusV xs ys = minusP xs ys := by unfold minusV; rw [if_pos h]
  unfold minusB bothB at h
  rw [Bool.and_eq_true, Bool.and_eq_true] at h
  obtain ⟨⟨hx, hy⟩, hl⟩ := h
  have a := norm_of_valid hx
  have b := norm_of_valid hy
  have s := minusP_spec xs ys a.1 a.2 b.1 b.2
  rw [hV]
  exact ⟨hx, hy, mk_valid (of_decide_eq_true hl) s.1 s.2.1, s.2.2⟩
theorem minus_law {xs ys : List Sp} (h : minusB xs ys = true) : meetV (minusV xs ys) ys = [] ∧ withinB (minusV xs ys) xs = true ∧ meetV (minusV xs ys) xs = minusV xs ys := by
  obtain ⟨hx, hy, hv, hm⟩ := minus_facts h
  obtain ⟨m1, m2, m3⟩ := meetV_facts hv hy
  obtain ⟨k1, k2, k3⟩ := meetV_facts hv hx
  refine ⟨norm_unique _ _ m1 trivial fun n => ⟨fun p => ?_, fun p => absurd p (memS_nil n)⟩, (within_iff hv hx).2 fun n p => ((hm n).1 p).1, norm_unique _ _ k1 (norm_of_valid hv).1 fun n => (k3 n).trans ⟨fun p => p.1, fun p => ⟨p, ((hm n).1 p).1⟩⟩⟩
  have q := (m3 n).1 p
  exact absurd q.2 ((hm n).1 q.1).2
end Go.Proofs.YtamfmemdhldmjaaGreatDoor
