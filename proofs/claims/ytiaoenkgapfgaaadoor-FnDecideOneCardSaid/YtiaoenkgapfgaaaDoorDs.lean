/-
  Contracts of the draws that the laws on sets make.
-/
import Derived.Test.YtiaoenkgapfgaaaDoorMu
namespace Go.Proofs.YtiaoenkgapfgaaaDoor
open Go.RowKit Sets

theorem setOfV_len (xs : List Sp) : (setOfV xs).length ≤ 12 := by
  unfold setOfV
  split
  · rename_i h
    unfold setOfB at h
    rw [Bool.and_eq_true] at h
    exact of_decide_eq_true h.2
  · simp

def Draw1 (w : World) (e : Ending) (w' : World) : Prop := ∃ (v : Value) (xs : List Sp), e = .returned v ∧ OwnS w' w.heap.size v xs ∧ Fits xs ∧ xs.length ≤ 300 ∧ Below w.heap.size w w'
def Draw2 (w : World) (e : Ending) (w' : World) : Prop := ∃ (v1 v2 : Value) (xs ys : List Sp), e = .returned (.tuple #[v1, v2]) ∧ OwnS w' w.heap.size v1 xs ∧ Fits xs ∧ xs.length ≤ 300 ∧ OwnS w' w.heap.size v2 ys ∧ Fits ys ∧ ys.length ≤ 300 ∧ Below w.heap.size w w'

theorem Bytes.step {w w' : World} {A : Option Addr} {n c : Nat} {z : Nat → Int} (h : Bytes w A n c z) (hb : Below w.heap.size w w') : Bytes w' A n c z := by
  refine ⟨h.1, h.2.1, h.2.2.1, fun hn => ?_⟩
  obtain ⟨b, off, e, hlt, hr⟩ := h.2.2.2 hn
  exact ⟨b, off, e, Nat.lt_of_lt_of_le hlt hb.size, fun i hi => by rw [hb.cell (p := ⟨b, off + i, none⟩) hlt]; exact hr i hi⟩

end Go.Proofs.YtiaoenkgapfgaaaDoor
