/-
  Two spans compared by == and !=.
-/
import Derived.Test.YtppciomdbabepaaRd
namespace Go.Proofs.Ytppciomdbabepaa
open Go.RowKit Sets

theorem fieldsSpan : (Try.prog.fieldsOf 97).toList.map (fun f => (f.name, f.type, f.offset)) = [("Lo", 3, 0), ("Hi", 3, 1)] := by kernel_rfl
theorem structSpan : Try.prog.underlying 97 = some (.struct (Try.prog.fieldsOf 97)) := by kernel_rfl
theorem stoodSpan : Try.prog.stoodInHeld 97 = false := by kernel_rfl
theorem fields_of {l : List Field} {n0 n1 : String} {t0 t1 o0 o1 : Nat} (h : l.map (fun f => (f.name, f.type, f.offset)) = [(n0, t0, o0), (n1, t1, o1)]) :
    ∃ f g, l = [f, g] ∧ f.name = n0 ∧ f.type = t0 ∧ f.offset = o0 ∧ g.name = n1 ∧ g.type = t1 ∧ g.offset = o1 := by
  match l, h with
  | [f, g], h =>
    simp only [List.map_cons, List.map_nil, List.cons.injEq, Prod.mk.injEq, and_true] at h
    exact ⟨f, g, rfl, h.1.1, h.1.2.1, h.1.2.2, h.2.1, h.2.2.1, h.2.2.2⟩

theorem run_neq_span (a b c d : Int) (w : World) :
    (binOp .neq 97 (.agg #[.int .i64 a, .int .i64 b]) (.agg #[.int .i64 c, .int .i64 d])).run Try.prog w = .ok (.bool (!((a == c) && (b == d)))) w := by
  obtain ⟨f, g, hfs, hn0, ht0, ho0, hn1, ht1, ho1⟩ := fields_of fieldsSpan
  have hu : Try.prog.underlying 3 = some (.int .i64) := Try.underlying3
  simp only [binOp]
  simp only [Op.equal, Op.maxDepth]
  rw [Sem.run_bind]
  rw [show (10000 : Nat) = 9999 + 1 from rfl, run_equalIn_struct w 9999 _ _ _ structSpan stoodSpan, hfs]
  simp [Op.eqFields, hn0, ht0, ho0, hn1, ht1, ho1, part]
  rw [show (9999 : Nat) = 9998 + 1 from rfl, run_equalIn_int w 9998 _ _ _ a c hu]
  simp only [Result.andThen_ok]
  rw [run_equalIn_int w 9998 _ _ _ b d hu]
  cases a == c <;> cases b == d <;> rfl
end Go.Proofs.Ytppciomdbabepaa
