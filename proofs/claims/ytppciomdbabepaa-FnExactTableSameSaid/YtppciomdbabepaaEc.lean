/-
  Two columns compared by == and !=.
-/
import Derived.Test.YtppciomdbabepaaEq
import Derived.Test.YtppciomdbabepaaCl
namespace Go.Proofs.Ytppciomdbabepaa
open Go.RowKit Sets

theorem fieldsCol : (Try.prog.fieldsOf 61).toList.map (fun f => (f.name, f.type, f.offset)) = [("Letters", 4, 0), ("Lo", 3, 1), ("Hi", 3, 2)] := by kernel_rfl
theorem structCol : Try.prog.underlying 61 = some (.struct (Try.prog.fieldsOf 61)) := by kernel_rfl
theorem stoodCol : Try.prog.stoodInHeld 61 = false := by kernel_rfl
theorem fields_of3 {l : List Field} {n0 n1 n2 : String} {t0 t1 t2 o0 o1 o2 : Nat} (h : l.map (fun f => (f.name, f.type, f.offset)) = [(n0, t0, o0), (n1, t1, o1), (n2, t2, o2)]) :
    ∃ f g k, l = [f, g, k] ∧ f.name = n0 ∧ f.type = t0 ∧ f.offset = o0 ∧ g.name = n1 ∧ g.type = t1 ∧ g.offset = o1 ∧ k.name = n2 ∧ k.type = t2 ∧ k.offset = o2 := by
  match l, h with
  | [f, g, k], h =>
    simp only [List.map_cons, List.map_nil, List.cons.injEq, Prod.mk.injEq, and_true] at h
    exact ⟨f, g, k, rfl, h.1.1, h.1.2.1, h.1.2.2, h.2.1.1, h.2.1.2.1, h.2.1.2.2, h.2.2.1, h.2.2.2.1, h.2.2.2.2⟩

theorem run_eql_col (L : Bool) (a b : Int) (w : World) :
    (binOp .eql 61 (colV L a b) (colV L a b)).run Try.prog w = .ok (.bool true) w := by
  obtain ⟨f, g, k, hfs, hn0, ht0, ho0, hn1, ht1, ho1, hn2, ht2, ho2⟩ := fields_of3 fieldsCol
  have hu : Try.prog.underlying 3 = some (.int .i64) := Try.underlying3
  have hb : Try.prog.underlying 4 = some .bool := Try.underlying4
  simp only [binOp, colV]
  simp only [Op.equal, Op.maxDepth]
  rw [Sem.run_bind]
  rw [show (10000 : Nat) = 9999 + 1 from rfl, run_equalIn_struct w 9999 _ _ _ structCol stoodCol, hfs]
  simp [Op.eqFields, hn0, ht0, ho0, hn1, ht1, ho1, hn2, ht2, ho2, part]
  rw [show (9999 : Nat) = 9998 + 1 from rfl, run_equalIn_bool w 9998 _ L L hb]
  simp only [Result.andThen_ok]
  rw [run_equalIn_int w 9998 _ _ _ a a hu]
  simp only [Result.andThen_ok]
  rw [run_equalIn_int w 9998 _ _ _ b b hu]
  cases L <;> simp <;> rfl
theorem run_neq_col (L : Bool) (a b : Int) (w : World) :
    (binOp .neq 61 (colV L a b) (colV L a b)).run Try.prog w = .ok (.bool false) w := by
  obtain ⟨f, g, k, hfs, hn0, ht0, ho0, hn1, ht1, ho1, hn2, ht2, ho2⟩ := fields_of3 fieldsCol
  have hu : Try.prog.underlying 3 = some (.int .i64) := Try.underlying3
  have hb : Try.prog.underlying 4 = some .bool := Try.underlying4
  simp only [binOp, colV]
  simp only [Op.equal, Op.maxDepth]
  rw [Sem.run_bind]
  rw [show (10000 : Nat) = 9999 + 1 from rfl, run_equalIn_struct w 9999 _ _ _ structCol stoodCol, hfs]
  simp [Op.eqFields, hn0, ht0, ho0, hn1, ht1, ho1, hn2, ht2, ho2, part]
  rw [show (9999 : Nat) = 9998 + 1 from rfl, run_equalIn_bool w 9998 _ L L hb]
  simp only [Result.andThen_ok]
  rw [run_equalIn_int w 9998 _ _ _ a a hu]
  simp only [Result.andThen_ok]
  rw [run_equalIn_int w 9998 _ _ _ b b hu]
  cases L <;> simp <;> rfl
end Go.Proofs.Ytppciomdbabepaa
