/-
  An argument that is a column, or a text.
-/
import Derived.Test.YtamfmemdhldmjaaGreatDoorRows
import Derived.Test.YtamfmemdhldmjaaGreatDoorCl
import Derived.Test.YtamfmemdhldmjaaGreatDoorOp
import Derived.Lib.SmallJoins
import Derived.ChangeMaps5
import Derived.RowKit
namespace Go.Proofs.YtamfmemdhldmjaaGreatDoor
open Go.ChangeShapes Go.WideShapes Go.ChangeAt Go.RowKit Sets
open Go.ChangeMaps (open_string)

theorem cellsCol : Tryz.prog.cellsOf 67 = 3 := by kernel_rfl
set_option maxRecDepth 100000 in
theorem openCol {H : Type} {enc : TypeId × Value → H} {W : World} {base : Nat} {v : Value} {d : DataW H} {p : List MemPlace}
    (hv : Value.okWide Tryz.prog W .any base 67 v) (h : DataW.Trod enc Tryz.prog W 0 (fun _ => true) true 67 v d p) :
    ∃ (L : Bool) (a b : Int), v = colV L a b ∧ I64 a ∧ I64 b := by
  obtain ⟨c0, c1, c2, y0, y1, y2, m, rfl, rfl, rfl, hy0, hy1, hy2⟩ := Joins.open_agg3 Tryz.underlying67 (by kernel_rfl) cellsCol hv h
  obtain ⟨x, e0, _⟩ := DataW.trod_bool Tryz.underlying4 hy0
  obtain ⟨a, e1, _, w1⟩ := DataW.trod_int Tryz.underlying3 hy1
  obtain ⟨b, e2, _, w2⟩ := DataW.trod_int Tryz.underlying3 hy2
  simp only [List.cons.injEq, and_true] at e0 e1 e2
  subst e0 e1 e2
  refine ⟨x, a, b, rfl, ?_, ?_⟩
  · simpa [Lit.wf, IntKind.min, IntKind.max, IntKind.signed, IntKind.bits, I64] using w1
  · simpa [Lit.wf, IntKind.min, IntKind.max, IntKind.signed, IntKind.bits, I64] using w2
end Go.Proofs.YtamfmemdhldmjaaGreatDoor
