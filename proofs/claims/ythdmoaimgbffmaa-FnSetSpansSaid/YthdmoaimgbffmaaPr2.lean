/-
  Plain facts on spans in the reverse order.
-/
import Derived.Test.YthdmoaimgbffmaaPl
import Derived.Test.YthdmoaimgbffmaaSu
namespace Go.Proofs.Ythdmoaimgbffmaa
open Go.RowKit Sets

theorem rev_lim (xs : List Sp) (h : LimAll xs) : LimAll xs.reverse := fun j hj => by
  have hj' : j < xs.length := by simpa using hj
  have := h (xs.length - 1 - j) (by omega)
  unfold Ythdmoaimgbffmaa.lo Ythdmoaimgbffmaa.hi at *
  rw [List.getD_eq_getElem?_getD, List.getElem?_reverse hj', ← List.getD_eq_getElem?_getD]
  exact this
theorem lim_rev (xs : List Sp) : LimAll xs.reverse ↔ LimAll xs := ⟨fun h => by have := rev_lim _ h; rwa [List.reverse_reverse] at this, rev_lim xs⟩
theorem flag_rev (xs : List Sp) : fromF (flag xs.reverse) 199 = fromF (flag xs) 199 := fromF_congr _ _ (fun j => by unfold flag haveB; rw [List.any_reverse]) _
theorem setOfB_rev (xs : List Sp) : setOfB xs.reverse = setOfB xs := by
  unfold setOfB
  rw [flag_rev, List.length_reverse]
  congr 2
  exact decide_eq_decide.2 (lim_rev xs)
theorem setOfV_rev (xs : List Sp) : setOfV xs.reverse = setOfV xs := by unfold setOfV; rw [setOfB_rev, flag_rev]
theorem drop_rev {xs : List Sp} {m : Nat} (h : m < xs.length) : (xs.drop m).reverse = (xs.drop (m + 1)).reverse ++ [(lo xs m, hi xs m)] := by
  rw [List.drop_eq_getElem_cons h, List.reverse_cons]
  unfold Ythdmoaimgbffmaa.lo Ythdmoaimgbffmaa.hi
  rw [List.getD_eq_getElem?_getD, List.getElem?_eq_getElem h]
  rfl
theorem fits_rev {xs : List Sp} (h : Fits xs) (m : Nat) : Fits (xs.drop m).reverse := fun x hx => h x (List.mem_of_mem_drop (List.mem_reverse.1 hx))
end Go.Proofs.Ythdmoaimgbffmaa
