/-
  Plain facts on the set of some spans.
-/
import Derived.Test.YthdmoaimgbffmaaPl
import Derived.Test.YthdmoaimgbffmaaSu
namespace Go.Proofs.Ythdmoaimgbffmaa
open Go.RowKit Sets

theorem setOf_facts {xs : List Sp} (h : setOfB xs = true) : validB (setOfV xs) = true ∧ setOfB (setOfV xs) = true ∧ setOfV (setOfV xs) = setOfV xs ∧ ∀ n, -99 ≤ n → n ≤ 99 → hasB (setOfV xs) n = haveB xs n := by
  have e := setOfV_yes h
  obtain ⟨f1, f2, f3⟩ := fromF_spec (flag xs) 199
  have hl : (fromF (flag xs) 199).length ≤ 12 := by
    unfold setOfB at h
    rw [Bool.and_eq_true] at h
    exact of_decide_eq_true h.2
  have hw : Within (fromF (flag xs) 199) := fun x hx => by have := f2 x hx; omega
  have hv := mk_valid hl f1 hw
  rw [e]
  have hlim : LimAll (fromF (flag xs) 199) := fun j hj => by
    have := ends_valid hv _ (List.getElem_mem hj)
    unfold Ythdmoaimgbffmaa.lo Ythdmoaimgbffmaa.hi
    rw [List.getD_eq_getElem?_getD, List.getElem?_eq_getElem hj]
    exact (limB_iff _ _).2 ⟨⟨this.1, this.2.1⟩, this.2.2.1, this.2.2.2⟩
  have e2 := join_eq f1 hw (fun _ => Iff.rfl)
  have hb : setOfB (fromF (flag xs) 199) = true := by rw [setOf_in (by omega) hlim, e2]; exact decide_eq_true hl
  refine ⟨hv, hb, by rw [setOfV_yes hb, e2], fun n h1 h2 => ?_⟩
  have : hasB (fromF (flag xs) 199) n = haveB (fromF (flag xs) 199) n := by unfold hasB; rw [hv]; rfl
  rw [this, Bool.eq_iff_iff, haveB_iff, haveB_iff, f3 n]
  constructor
  · rintro ⟨j, _, hj, rfl⟩
    exact (flag_iff xs j).1 hj
  · intro hm
    have e : (((n + 99).toNat : Nat) : Int) - 99 = n := by omega
    exact ⟨(n + 99).toNat, by omega, by rw [flag_iff, e]; exact hm, by omega⟩
theorem have_take {xs : List Sp} {k : Nat} (hk : k < xs.length) (n : Int) : haveB (xs.take (k + 1)) n = (haveB (xs.take k) n || (decide (lo xs k ≤ n) && decide (n ≤ hi xs k))) := by
  rw [take_lohi hk, haveB_append]
  congr 1
  simp [haveB]
theorem have_take_hit {xs : List Sp} {k : Nat} (hk : k < xs.length) {n : Int} (h : haveB (xs.take k) n = true) : haveB (xs.take (k + 1)) n = true := by rw [have_take hk, h]; rfl
theorem have_take_new {xs : List Sp} {k : Nat} (hk : k < xs.length) {n : Int} (h : haveB (xs.take k) n = false) (h1 : lo xs k ≤ n) (h2 : n ≤ hi xs k) : haveB (xs.take (k + 1)) n = true := by rw [have_take hk, h, decide_eq_true h1, decide_eq_true h2]; rfl
theorem have_take_not {xs : List Sp} {k : Nat} (hk : k < xs.length) {n : Int} (h : haveB (xs.take k) n = false) (h1 : ¬ (lo xs k ≤ n ∧ n ≤ hi xs k)) : haveB (xs.take (k + 1)) n = false := by
  rw [have_take hk, h]
  by_cases a : lo xs k ≤ n
  · rw [decide_eq_true a, decide_eq_false (fun b => h1 ⟨a, b⟩)]; rfl
  · rw [decide_eq_false a]; rfl
end Go.Proofs.Ythdmoaimgbffmaa
