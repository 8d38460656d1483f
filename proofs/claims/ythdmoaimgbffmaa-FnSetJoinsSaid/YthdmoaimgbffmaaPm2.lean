/-
  Plain facts on unions of sets that the laws want.
-/
import Derived.Test.YthdmoaimgbffmaaPl
import Derived.Test.YthdmoaimgbffmaaSu
import Derived.Test.YthdmoaimgbffmaaSz
namespace Go.Proofs.Ythdmoaimgbffmaa
open Go.RowKit Sets

theorem bothB_comm (xs ys : List Sp) : bothB xs ys = bothB ys xs := Bool.and_comm _ _
theorem unionP_comm (xs ys : List Sp) : unionP xs ys = unionP ys xs := fromF_congr _ _ (fun _ => Bool.or_comm _ _) _
theorem unionB_comm (xs ys : List Sp) : unionB xs ys = unionB ys xs := by unfold unionB; rw [bothB_comm, unionP_comm]
theorem unionV_comm (xs ys : List Sp) : unionV xs ys = unionV ys xs := by unfold unionV; rw [unionB_comm, unionP_comm]
theorem flags_within {xs : List Sp} (h : Within xs) (n : Int) (hn : memS xs n) : -99 ≤ n ∧ n ≤ 99 := by
  obtain ⟨x, hx, q⟩ := hn
  have := h x hx
  omega
theorem union_facts {xs ys : List Sp} (h : unionB xs ys = true) : validB xs = true ∧ validB ys = true ∧ validB (unionV xs ys) = true ∧ ∀ n, memS (unionV xs ys) n ↔ memS xs n ∨ memS ys n := by
  have hV : unionV xs ys = unionP xs ys := by unfold unionV; rw [if_pos h]
  unfold unionB bothB at h
  rw [Bool.and_eq_true, Bool.and_eq_true] at h
  obtain ⟨⟨hx, hy⟩, hl⟩ := h
  obtain ⟨a1, a2⟩ := norm_of_valid hx
  obtain ⟨b1, b2⟩ := norm_of_valid hy
  obtain ⟨f1, f2, f3⟩ := fromF_spec (fun j => flag xs j || flag ys j) 199
  rw [hV]
  refine ⟨hx, hy, mk_valid (of_decide_eq_true hl) f1 (fun x hx => by have := f2 x hx; omega), fun n => (f3 n).trans ?_⟩
  constructor
  · rintro ⟨j, hj, hf, rfl⟩
    rw [Bool.or_eq_true, flag_iff, flag_iff] at hf
    exact hf
  · intro h
    have hb : -99 ≤ n ∧ n ≤ 99 := h.elim (flags_within a2 n) (flags_within b2 n)
    have e : (((n + 99).toNat : Nat) : Int) - 99 = n := by omega
    refine ⟨(n + 99).toNat, by omega, ?_, by omega⟩
    show (flag xs _ || flag ys _) = true
    rw [Bool.or_eq_true, flag_iff, flag_iff, e]
    exact h
theorem cnt_sub (f g h : Nat → Bool) (hs : ∀ j, f j = true → g j = true ∨ h j = true) : ∀ k, cnt f k ≤ cnt g k + cnt h k
  | 0 => by simp [cnt]
  | k + 1 => by
    have ih := cnt_sub f g h hs k
    simp only [cnt]
    have := hs k
    cases hf : f k <;> cases hg : g k <;> cases hh : h k <;> simp [hf, hg, hh] at this ⊢ <;> omega
theorem union_law {xs ys : List Sp} (h : unionB xs ys = true) : withinB xs (unionV xs ys) = true ∧ withinB ys (unionV xs ys) = true ∧ sizeV (unionV xs ys) ≤ sizeV xs + sizeV ys := by
  obtain ⟨hx, hy, hv, hm⟩ := union_facts h
  refine ⟨(within_iff hx hv).2 fun n p => (hm n).2 (.inl p), (within_iff hy hv).2 fun n p => (hm n).2 (.inr p), ?_⟩
  obtain ⟨a1, a2⟩ := norm_of_valid hx
  obtain ⟨b1, b2⟩ := norm_of_valid hy
  obtain ⟨c1, c2⟩ := norm_of_valid hv
  rw [sizeV_yes hv, sizeV_yes hx, sizeV_yes hy, size_cnt _ c1 c2, size_cnt _ a1 a2, size_cnt _ b1 b2]
  refine cnt_sub _ _ _ (fun j hj => ?_) _
  rw [flag_iff] at hj ⊢
  rw [flag_iff]
  exact (hm _).1 hj
theorem join_back {xs ys : List Sp} (h : minusB xs ys = true) (hl : (meetV xs ys).length ≤ 12) : unionB (minusV xs ys) (meetV xs ys) = true ∧ unionV (minusV xs ys) (meetV xs ys) = xs := by
  obtain ⟨hx, hy, hv, hm⟩ := minus_facts h
  obtain ⟨m1, m2, m3⟩ := meetV_facts hx hy
  have hmv := mk_valid hl m1 m2
  obtain ⟨a1, a2⟩ := norm_of_valid hx
  have hu : unionP (minusV xs ys) (meetV xs ys) = xs := by
    unfold unionP
    refine eq_fromF xs a1 a2 _ fun j _ => ?_
    rw [Bool.or_eq_true, flag_iff, flag_iff, hm, m3]
    constructor
    · rintro (q | q)
      · exact q.1
      · exact q.1
    · intro q
      by_cases hc : memS ys ((j : Int) - 99)
      · exact .inr ⟨q, hc⟩
      · exact .inl ⟨q, hc⟩
  have hb : unionB (minusV xs ys) (meetV xs ys) = true := by
    unfold unionB bothB
    rw [hv, hmv, hu]
    exact decide_eq_true ((validB_iff xs).1 hx).1
  exact ⟨hb, by unfold unionV; rw [if_pos hb]; exact hu⟩
end Go.Proofs.Ythdmoaimgbffmaa
