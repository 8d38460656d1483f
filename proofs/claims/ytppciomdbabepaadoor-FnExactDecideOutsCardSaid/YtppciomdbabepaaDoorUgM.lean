/-
  The count of a table's size.
-/
import Derived.Test.YtppciomdbabepaaDoorUaM
import Derived.Test.YtppciomdbabepaaDoorRd4
namespace Go.Proofs.YtppciomdbabepaaDoor
open Go.RowKit Sets

/-- the bounds of the first k rules -/
def RlSmall (rs : List Rl) (k : Nat) : Prop := ∀ i, i < k → (rs.getD i ([], 0)).1.length ≤ 1048576 ∧ ∀ j, j < (rs.getD i ([], 0)).1.length → ((rs.getD i ([], 0)).1.getD j []).length ≤ 1048576
end Go.Proofs.YtppciomdbabepaaDoor

namespace Go.Proofs.YtppciomdbabepaaDoor
open Go.RowKit Sets

theorem two_blocks (w : World) (c1 c2 : Array Value) (t1 t2 : TypeId) (W : World) (hW : W = (w.alloc (.cells c1 t1)).alloc (.cells c2 t2)) :
    (∀ o, W.cell? ⟨w.heap.size, o, none⟩ = c1[o]?) ∧ (∀ o, W.cell? ⟨w.heap.size + 1, o, none⟩ = c2[o]?) ∧ Below w.heap.size w W ∧ W.heap.size = w.heap.size + 2 := by
  subst hW
  have b1 : Below (w.heap.size + 1) (w.alloc (.cells c1 t1)) ((w.alloc (.cells c1 t1)).alloc (.cells c2 t2)) := (Below.refl _ _).alloc (by simp) _
  have z1 : (w.alloc (.cells c1 t1)).heap.size = w.heap.size + 1 := by simp
  refine ⟨fun o => ?_, fun o => ?_, ?_, by simp⟩
  · rw [b1.cell (p := ⟨w.heap.size, o, none⟩) (by simp), World.cell?_alloc_new]
  · rw [← z1, World.cell?_alloc_new]
  · exact ((Below.refl _ _).alloc (Nat.le_refl _) _).alloc (by simp) _
end Go.Proofs.YtppciomdbabepaaDoor
