/-
  Contract of the program's complement of a set.
-/
import Derived.Test.YtiaoenkgapfgaaaDoorSz
import Derived.Test.YtiaoenkgapfgaaaDoorOw
namespace Go.Proofs.YtiaoenkgapfgaaaDoor
open Go.RowKit Sets

theorem drop_lohi {xs : List Sp} {k : Nat} (h : k < xs.length) : xs.drop k = (lo xs k, hi xs k) :: xs.drop (k + 1) := by
  rw [List.drop_eq_getElem_cons h]
  unfold lo YtiaoenkgapfgaaaDoor.hi
  rw [List.getD_eq_getElem?_getD, List.getElem?_eq_getElem h]
  rfl
theorem other_more {acc xs : List Sp} {k : Nat} {next : Int} (h : acc ++ otherP next (xs.drop k) = otherP (-99) xs) (hk : k < xs.length) (hlt : next < lo xs k) :
    acc ++ [(next, lo xs k - 1)] ++ otherP (hi xs k + 1) (xs.drop (k + 1)) = otherP (-99) xs := by
  rw [← h, drop_lohi hk, otherP, gapS, if_pos hlt, List.append_assoc]
theorem other_same {acc xs : List Sp} {k : Nat} {next : Int} (h : acc ++ otherP next (xs.drop k) = otherP (-99) xs) (hk : k < xs.length) (hlt : ¬ next < lo xs k) :
    acc ++ otherP (hi xs k + 1) (xs.drop (k + 1)) = otherP (-99) xs := by
  rw [← h, drop_lohi hk, otherP, gapS, if_neg hlt, List.nil_append]
theorem other_end {acc xs : List Sp} {next : Int} (h : acc ++ otherP next (xs.drop xs.length) = otherP (-99) xs) : acc ++ lastS next = otherP (-99) xs := by
  rw [← h, List.drop_length, otherP]
theorem fits_snoc {acc : List Sp} {a b : Int} (h : Fits acc) (ha : I64 a) (hb : I64 b) : Fits (acc ++ [(a, b)]) := by
  intro z hz
  rcases List.mem_append.1 hz with hz | hz
  · exact h z hz
  · rw [List.mem_singleton.1 hz]; exact ⟨ha, hb⟩

/-- The loop variable's block is not the row that an append may have written. -/
theorem x_at {wr w1 : World} {a b c d : Int} {row : Option Nat} (hg : World.grownBy ((wr.alloc (.cells #[.int .i64 a, .int .i64 b] 126)).alloc (.cells #[.int .i64 c, .int .i64 d] 126)) w1 row) (hr : ∀ k, row = some k → k < wr.heap.size) :
    w1.cell? ⟨wr.heap.size, 1, none⟩ = some (.int .i64 b) := by
  refine World.grownBy.cell hg ?_ (fun e => by have := hr _ e.symm; simp at this)
  rw [World.cell?_alloc_lt _ _ _ (by simp)]
  exact World.cell?_alloc_new _ _ _ _

end Go.Proofs.YtiaoenkgapfgaaaDoor
