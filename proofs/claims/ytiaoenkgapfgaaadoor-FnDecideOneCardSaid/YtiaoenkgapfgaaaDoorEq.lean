/-
  Two spans compared by == and !=.
-/
import Derived.Test.YtiaoenkgapfgaaaDoorRd
namespace Go.Proofs.YtiaoenkgapfgaaaDoor
open Go.RowKit Sets

theorem fieldsSpan : (Tryd.prog.fieldsOf 126).toList.map (fun f => (f.name, f.type, f.offset)) = [("Lo", 3, 0), ("Hi", 3, 1)] := by kernel_rfl
theorem structSpan : Tryd.prog.underlying 126 = some (.struct (Tryd.prog.fieldsOf 126)) := by kernel_rfl
theorem stoodSpan : Tryd.prog.stoodInHeld 126 = false := by kernel_rfl
theorem fields_of {l : List Field} {n0 n1 : String} {t0 t1 o0 o1 : Nat} (h : l.map (fun f => (f.name, f.type, f.offset)) = [(n0, t0, o0), (n1, t1, o1)]) :
    ∃ f g, l = [f, g] ∧ f.name = n0 ∧ f.type = t0 ∧ f.offset = o0 ∧ g.name = n1 ∧ g.type = t1 ∧ g.offset = o1 := by
  match l, h with
  | [f, g], h =>
    simp only [List.map_cons, List.map_nil, List.cons.injEq, Prod.mk.injEq, and_true] at h
    exact ⟨f, g, rfl, h.1.1, h.1.2.1, h.1.2.2, h.2.1, h.2.2.1, h.2.2.2⟩

theorem run_neq_span (a b c d : Int) (w : World) :
    (binOp .neq 126 (.agg #[.int .i64 a, .int .i64 b]) (.agg #[.int .i64 c, .int .i64 d])).run Tryd.prog w = .ok (.bool (!((a == c) && (b == d)))) w := by
  obtain ⟨f, g, hfs, hn0, ht0, ho0, hn1, ht1, ho1⟩ := fields_of fieldsSpan
  have hu : Tryd.prog.underlying 3 = some (.int .i64) := Tryd.underlying3
  simp only [binOp]
  simp only [Op.equal, Op.maxDepth]
  rw [Sem.run_bind]
  rw [show (10000 : Nat) = 9999 + 1 from rfl, run_equalIn_struct w 9999 _ _ _ structSpan stoodSpan, hfs]
  simp [Op.eqFields, hn0, ht0, ho0, hn1, ht1, ho1, part]
  rw [show (9999 : Nat) = 9998 + 1 from rfl, run_equalIn_int w 9998 _ _ _ a c hu]
  simp only [Result.andThen_ok]
  rw [run_equalIn_int w 9998 _ _ _ b d hu]
  cases a == c <;> cases b == d <;> rfl
end Go.Proofs.YtiaoenkgapfgaaaDoor
