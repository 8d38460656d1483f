/-
  Contracts of the sizes of sets, in both programs.
-/
import Derived.Test.YtiaoenkgapfgaaaDoorRdM
namespace Go.Proofs.YtiaoenkgapfgaaaDoor
open Go.RowKit Sets

def sizeV (xs : List Sp) : Int := if validB xs = true then sizeS xs else 0
theorem sizeV_no {xs : List Sp} (h : validB xs = false) : sizeV xs = 0 := by unfold sizeV; rw [h]; rfl
theorem sizeV_yes {xs : List Sp} (h : validB xs = true) : sizeV xs = sizeS xs := by unfold sizeV; rw [if_pos h]
/-- The size of the first k spans. -/
def sizeK (xs : List Sp) (k : Nat) : Int := sizeS (xs.take k)
theorem sizeS_append (s t : List Sp) : sizeS (s ++ t) = sizeS s + sizeS t := by
  induction s with
  | nil => simp [sizeS]
  | cons x s ih => simp only [List.cons_append, sizeS, ih]; omega
theorem sizeK_succ (xs : List Sp) (k : Nat) (h : k < xs.length) : sizeK xs (k + 1) = sizeK xs k + (hi xs k - lo xs k + 1) := by
  unfold sizeK lo hi
  rw [List.take_succ_eq_append_getElem h, sizeS_append, List.getD_eq_getElem?_getD, List.getElem?_eq_getElem h]
  simp [sizeS]
theorem sizeK_all (xs : List Sp) : sizeK xs xs.length = sizeS xs := by unfold sizeK; rw [List.take_length]
theorem valid_at {xs : List Sp} (h : validB xs = true) {k : Nat} (hk : k < xs.length) : -99 ≤ lo xs k ∧ lo xs k ≤ hi xs k ∧ hi xs k ≤ 99 := by
  have := ((validB_iff xs).1 h).2 k hk
  exact ⟨this.1, this.2.2.1, this.2.1⟩
theorem valid_len {xs : List Sp} (h : validB xs = true) : xs.length ≤ 12 := ((validB_iff xs).1 h).1
theorem sizeK_bound {xs : List Sp} (h : validB xs = true) (k : Nat) (hk : k ≤ xs.length) : 0 ≤ sizeK xs k ∧ sizeK xs k ≤ 2388 := by
  have hv := (valid_iff xs).1 ((validB_iff xs).1 h)
  have hn : Norm (xs.take k) := (norm_of_append (s := xs.take k) (t := xs.drop k) (by rw [List.take_append_drop]; exact hv.2.1)).1
  have hb := sizeS_bound (xs.take k) hn (fun x hx => hv.2.2 x (List.mem_of_mem_take hx))
  have : (xs.take k).length ≤ 12 := by rw [List.length_take]; have := hv.1; omega
  unfold sizeK
  omega

end Go.Proofs.YtiaoenkgapfgaaaDoor
