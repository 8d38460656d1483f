/-
  Results in memory: copies, sizes, equality.
-/
import Derived.Test.YtamfmemdhldmjaaUaM
import Derived.Test.YtamfmemdhldmjaaUgM
namespace Go.Proofs.Ytamfmemdhldmjaa
open Go.RowKit Sets

abbrev Rs := Int × List Int
/-- A value that is a result. -/
def ResAt (w : World) (B : Nat) (v : Value) (r : Rs) : Prop := ∃ A c, v = .agg #[.int .i64 r.1, .slice A r.2.length c] ∧ IntsAt w B A c r.2
theorem ResAt.below {w w' : World} {B : Nat} {v : Value} {r : Rs} (h : ResAt w B v r) (hb : Below B w w') : ResAt w' B v r := by
  obtain ⟨A, c, hv, h1⟩ := h
  exact ⟨A, c, hv, h1.below hb⟩
theorem ResAt.mono {w : World} {B B' : Nat} {v : Value} {r : Rs} (h : ResAt w B v r) (hb : B ≤ B') : ResAt w B' v r := by
  obtain ⟨A, c, hv, h1⟩ := h
  exact ⟨A, c, hv, h1.mono hb⟩
theorem ResAt.step {w w' : World} {v : Value} {r : Rs} (h : ResAt w w.heap.size v r) (hb : Below w.heap.size w w') : ResAt w' w'.heap.size v r := (h.below hb).mono hb.size
/-- A block that holds the two cells of a result. -/
def RBox (w : World) (g : Nat) (x : Int) (A : Option Addr) (n c : Nat) : Prop :=
  w.cell? ⟨g, 0, none⟩ = some (.int .i64 x) ∧ w.cell? ⟨g, 1, none⟩ = some (.slice A n c) ∧ g < w.heap.size
theorem RBox.made (w : World) (x : Int) (A : Option Addr) (n c : Nat) (t : TypeId) : RBox (w.alloc (.cells #[.int .i64 x, .slice A n c] t)) w.heap.size x A n c := by
  refine ⟨?_, ?_, by simp⟩ <;> (rw [World.cell?_alloc_new]; rfl)
theorem RBox.step {w w' : World} {g : Nat} {x : Int} {A : Option Addr} {n c : Nat} (h : RBox w g x A n c) (hb : Below w.heap.size w w') : RBox w' g x A n c :=
  ⟨(hb.cell (p := ⟨g, 0, none⟩) h.2.2).trans h.1, (hb.cell (p := ⟨g, 1, none⟩) h.2.2).trans h.2.1, Nat.lt_of_lt_of_le h.2.2 hb.size⟩

def iEq (xs ys : List Int) (k : Nat) : Bool := xs.getD k 0 == ys.getD k 0
def isB (xs ys : List Int) : Bool := decide (xs.length = ys.length) && (List.range xs.length).all (iEq xs ys)
/-- the two results are equal -/
def resB (a b : Rs) : Bool := (a.1 == b.1) && isB a.2 b.2

end Go.Proofs.Ytamfmemdhldmjaa
