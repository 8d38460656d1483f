/-
  What policies decide: the cases of the laws.
-/
import Derived.Test.YtiaoenkgapfgaaaDoorWj
import Derived.Test.YtiaoenkgapfgaaaDoorWk
import Derived.Test.YtiaoenkgapfgaaaDoorWu
import Derived.Deep.RegionHeld3
namespace Go.Proofs.YtiaoenkgapfgaaaDoor
open Go.RowKit Sets

theorem OwnR.res {w : World} {lo hi : Nat} {A : Option Addr} {c : Nat} {x : Int} {ns : List Int} (h : OwnR w lo hi A c ns) : ResAt w w.heap.size (.agg #[.int .i64 x, .slice A ns.length c]) (x, ns) := ⟨A, c, rfl, h.1.ints⟩
theorem isB_self (xs : List Int) : isB xs xs = true := by
  unfold isB
  rw [decide_eq_true rfl, all_yes (fun i _ => by unfold iEq; simp)]; rfl
theorem resB_self (r : Rs) : resB r r = true := by unfold resB; rw [isB_self]; simp
theorem dc_cases (p : Int) (ns : List Int) : ((dcV p ns).1 = 2 ∧ (dcV p ns).2 = [] ∧ p ≤ 2 ∧ 2 ≤ ns.length) ∨ ((dcV p ns).1 = 1 ∧ ns.length = 0 ∧ p ≠ 10) ∨ ((dcV p ns).1 = 0 ∧ (((p = 5 ∨ p = 6) ∧ (dcV p ns).2.length = ns.length) ∨ (p ≠ 5 ∧ p ≠ 6 ∧ (dcV p ns).2.length = 1))) := by
  unfold dcV
  by_cases hz : ns.length = 0
  · rw [if_pos hz]
    by_cases hp : p = 10
    · rw [if_pos hp]; exact .inr (.inr ⟨rfl, .inr ⟨by omega, by omega, rfl⟩⟩)
    · rw [if_neg hp]; exact .inr (.inl ⟨rfl, hz, hp⟩)
  · rw [if_neg hz]
    by_cases h1 : p = 1
    · rw [if_pos h1]
      by_cases hm : 1 < ns.length
      · rw [if_pos hm]; exact .inl ⟨rfl, rfl, by omega, by omega⟩
      · rw [if_neg hm]; exact .inr (.inr ⟨rfl, .inr ⟨by omega, by omega, rfl⟩⟩)
    · rw [if_neg h1]
      by_cases h2 : p = 2
      · rw [if_pos h2]
        by_cases hs : smB ns = true
        · rw [if_pos hs]; exact .inr (.inr ⟨rfl, .inr ⟨by omega, by omega, rfl⟩⟩)
        · rw [if_neg hs]
          refine .inl ⟨rfl, rfl, by omega, ?_⟩
          rcases (by omega : ns.length = 1 ∨ 2 ≤ ns.length) with h | h
          · exfalso
            apply hs
            unfold smB
            rw [h]
            simp
          · exact h
      · rw [if_neg h2]
        by_cases h5 : p = 5
        · rw [if_pos h5]; exact .inr (.inr ⟨rfl, .inl ⟨.inl h5, rfl⟩⟩)
        · rw [if_neg h5]
          by_cases h6 : p = 6
          · rw [if_pos h6]; exact .inr (.inr ⟨rfl, .inl ⟨.inr h6, srK_len _ _⟩⟩)
          · rw [if_neg h6]; exact .inr (.inr ⟨rfl, .inr ⟨h5, h6, rfl⟩⟩)
theorem do_cases (p : Int) (ns : List Int) : ((doV p ns).1 = 3 ∧ (doV p ns).2 = []) ∨ ((doV p ns).1 = 2 ∧ (doV p ns).2 = [] ∧ p ≤ 2 ∧ 2 ≤ ns.length) ∨ ((doV p ns).1 = 1 ∧ ns.length = 0 ∧ p ≠ 10) ∨ ((doV p ns).1 = 0 ∧ (((p = 5 ∨ p = 6) ∧ (doV p ns).2.length = ns.length) ∨ (p ≠ 5 ∧ p ≠ 6 ∧ (doV p ns).2.length = 1))) := by
  unfold doV
  split
  · exact .inr (dc_cases p ns)
  · exact .inl ⟨rfl, rfl⟩
/-- one output alone -/
theorem do_one {p : Int} {y : Int} {ys : List Int} (h : (doV p (y :: ys)).1 ≠ 3) : doV p [y] = (0, [if p = 10 then 1 else y]) := by
  unfold doV at h
  split at h
  · rename_i hh
    rw [Bool.and_eq_true, Bool.and_eq_true, decide_eq_true_eq, decide_eq_true_eq] at hh
    have ho := outB_at hh.2
    have h0 := ho.2 0 (by simp)
    have ho1 : outB [y] = true := by
      unfold outB
      simp at h0 ⊢
      exact h0
    unfold doV
    rw [if_pos (by rw [ho1, decide_eq_true hh.1.1, decide_eq_true hh.1.2]; rfl)]
    unfold dcV
    rw [if_neg (by simp)]
    by_cases h1 : p = 1
    · rw [if_pos h1, if_neg (by simp), if_neg (by omega)]; rfl
    rw [if_neg h1]
    by_cases h2 : p = 2
    · rw [if_pos h2, if_pos (by simp [smB]), if_neg (by omega)]; rfl
    rw [if_neg h2]
    by_cases h5 : p = 5
    · rw [if_pos h5, if_neg (by omega)]
    rw [if_neg h5]
    by_cases h6 : p = 6
    · rw [if_pos h6, if_neg (by omega)]; simp [srK, insR, posR]
    rw [if_neg h6]
    unfold numV
    by_cases h10 : p = 10
    · rw [if_pos h10, if_pos h10]; rfl
    rw [if_neg h10, if_neg h10]
    by_cases h7 : p = 7
    · rw [if_pos h7]; simp [smK]
    rw [if_neg h7]
    by_cases h8 : p = 8
    · rw [if_pos h8]; simp [mnK]
    rw [if_neg h8]
    by_cases h9 : p = 9 ∨ p = 3
    · rw [if_pos h9]; simp [mxK]
    rw [if_neg h9]; simp
  · exact absurd rfl h
theorem implDO_l (a1 a2 a3 : Addr) (p : Int) (A : Option Addr) (c : Nat) (ns : List Int) (l : Nat) (hl : ns.length = l) (w : World) (h : EndsIs w a1 a2 a3) (hI : IntsAt w w.heap.size A c ns) :
    Calls Tryd.prog 9 #[.int .i64 p, .slice A l c] w (ResN (doV p ns) w) := by
  subst hl
  exact implDO_any a1 a2 a3 p A c ns w h hI
theorem specDO_l (p : Int) (A : Option Addr) (c : Nat) (ns : List Int) (l : Nat) (hl : ns.length = l) (w : World) (hI : IntsAt w w.heap.size A c ns) :
    Calls Tryd.prog 11 #[.int .i64 p, .slice A l c] w (ResN (doV p ns) w) := by
  subst hl
  exact specDO_any p A c ns w hI
/-- the first output alone, of a list that is not empty -/
theorem first_ints {w : World} {B : Nat} {A : Option Addr} {c : Nat} {ns : List Int} (h : IntsAt w B A c ns) (hp : 0 < ns.length) : IntsAt w B A c [ns.getD 0 0] := by
  obtain ⟨h1, h2, h3, h4⟩ := h
  refine ⟨fun x hx => ?_, by simp; omega, h3, .inr ?_⟩
  · rw [List.mem_singleton.1 hx, List.getD_eq_getElem?_getD, List.getElem?_eq_getElem hp]; exact h1 _ (List.getElem_mem hp)
  · rcases h4 with h4 | ⟨b, off, e, hB, hr⟩
    · omega
    · refine ⟨b, off, e, hB, fun i hi => ?_⟩
      simp at hi
      subst hi
      exact hr 0 hp
theorem do_one' {p : Int} {ns : List Int} (hn : 0 < ns.length) (h : (doV p ns).1 ≠ 3) : doV p [ns.getD 0 0] = (0, [if p = 10 then 1 else ns.getD 0 0]) := by
  cases ns with
  | nil => simp at hn
  | cons y ys => exact do_one h
end Go.Proofs.YtiaoenkgapfgaaaDoor
