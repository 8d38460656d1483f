/-
  Rows of spans that a call makes and appends to.
-/
import Derived.Test.YtiaoenkgapfgaaaDoorGn
import Derived.Maps.AppendAt
namespace Go.Proofs.YtiaoenkgapfgaaaDoor
open Go.RowKit Sets

/-- The cells of a list of spans. -/
def cellsOf : List Sp → List Value
  | [] => []
  | x :: xs => .int .i64 x.1 :: .int .i64 x.2 :: cellsOf xs
theorem cellsOf_append (xs ys : List Sp) : cellsOf (xs ++ ys) = cellsOf xs ++ cellsOf ys := by
  induction xs with
  | nil => rfl
  | cons x xs ih => simp [cellsOf, ih]
theorem cellsOf_length (xs : List Sp) : (cellsOf xs).length = xs.length * 2 := by
  induction xs with
  | nil => rfl
  | cons x xs ih => simp [cellsOf, ih]; omega
theorem cellsOf_at (xs : List Sp) : ∀ i, i < xs.length → (cellsOf xs)[i * 2]? = some (.int .i64 (lo xs i)) ∧ (cellsOf xs)[i * 2 + 1]? = some (.int .i64 (hi xs i)) := by
  induction xs with
  | nil => intro i hi; simp at hi
  | cons x xs ih =>
    intro i hi
    cases i with
    | zero => exact ⟨rfl, rfl⟩
    | succ i =>
      have := ih i (by simpa using hi)
      rw [show (i + 1) * 2 = i * 2 + 1 + 1 by omega]
      simpa [cellsOf, lo, YtiaoenkgapfgaaaDoor.hi] using this

/-- v is a slice of the call's own (blocks from base on) that holds xs. -/
def OwnS (w : World) (base : Nat) (v : Value) (xs : List Sp) : Prop := w.ownsRow base 126 2 v xs.length (cellsOf xs)
theorem OwnS.nil (w : World) (base : Nat) : OwnS w base (.slice none 0 0) [] := World.ownsRow_nil w base _ 2
theorem OwnS.form {w : World} {base : Nat} {v : Value} {xs : List Sp} (h : OwnS w base v xs) (hf : Fits xs) :
    ∃ A c, v = .slice A xs.length c ∧ Reads w w.heap.size A c xs ∧ ∀ b off, A = some ⟨b, off, none⟩ → base ≤ b := by
  obtain ⟨_, ⟨rfl, hn⟩ | ⟨g, cap, cur, rfl, hb, hg, hnc, hcm, hcs, hcur⟩⟩ := h
  · have : xs = [] := List.eq_nil_of_length_eq_zero hn
    subst this
    exact ⟨none, 0, rfl, ⟨by simp, by omega, hf, .inl rfl⟩, fun b off h => by cases h⟩
  · refine ⟨_, cap, rfl, ⟨hnc, by unfold maxLen at hcm; omega, hf, .inr ⟨g, 0, rfl, ?_, fun i hi => ?_⟩⟩, fun b off h => by injection h with h; injection h with h; omega⟩
    · exact (Array.getElem?_eq_some_iff.1 hg).1
    · have hc := cellsOf_at xs i hi
      have hcell : ∀ o, o < xs.length * 2 → w.cell? ⟨g, 0 + o, none⟩ = (cellsOf xs)[o]? := by
        intro o ho
        rw [← hcur, List.getElem?_take_of_lt ho, Nat.zero_add]
        simp [World.cell?, hg]
      exact ⟨by rw [hcell _ (by omega)]; exact hc.1, by rw [Nat.add_assoc, hcell _ (by omega)]; exact hc.2⟩
theorem OwnS.grown {w w' : World} {base : Nat} {v : Value} {xs : List Sp} {B : Nat} (h : OwnS w base v xs) (hb : Below B w w') (hB : ∀ k, v.ownBlock = some k → k < B) : OwnS w' base v xs := by
  refine ⟨h.1, h.2.imp id ?_⟩
  rintro ⟨g, cap, cur, rfl, hb', hg, r⟩
  exact ⟨g, cap, cur, rfl, hb', by rw [hb.block g (hB g rfl)]; exact hg, r⟩
theorem OwnS.below {w w' : World} {base : Nat} {v : Value} {xs : List Sp} (h : OwnS w base v xs) (hb : Below w.heap.size w w') : OwnS w' base v xs :=
  h.grown hb fun k hk => (World.ownsRow.lt h k hk).2
theorem OwnS.mono {w : World} {base base' : Nat} {v : Value} {xs : List Sp} (h : OwnS w base v xs) (hb : base' ≤ base) : OwnS w base' v xs := by
  refine ⟨h.1, h.2.imp id ?_⟩
  rintro ⟨g, cap, cur, hv, hb', r⟩
  exact ⟨g, cap, cur, hv, by omega, r⟩

theorem OwnS.of_append {w : World} {base : Nat} {v : Value} {xs : List Sp} {a b : Int} (h : w.ownsRow base 126 2 v (xs.length + 1) (cellsOf xs ++ [.int .i64 a, .int .i64 b])) : OwnS w base v (xs ++ [(a, b)]) := by
  unfold OwnS
  rw [cellsOf_append, List.length_append]
  exact h
theorem OwnS.lt {w : World} {base : Nat} {v : Value} {xs : List Sp} (h : OwnS w base v xs) : ∀ k, v.ownBlock = some k → base ≤ k ∧ k < w.heap.size := World.ownsRow.lt h
theorem cell_one (w : World) (g : Nat) (a b : Int) (hg : g = w.heap.size) : ∀ (j : Nat) (u : Value), [Value.int .i64 a, .int .i64 b][j]? = some u → (w.alloc (.cells #[.int .i64 a, .int .i64 b] 126)).cell? ((⟨g, 0, none⟩ : Addr).add j) = some u := by
  subst hg
  intro j u hu
  have hadd : (⟨w.heap.size, 0, none⟩ : Addr).add j = ⟨w.heap.size, j, none⟩ := by unfold Addr.add; split <;> simp_all
  rw [hadd, World.cell?_alloc_new]
  simpa using hu
theorem infoSp : ∃ i0, Tryd.prog.info? 126 = some i0 ∧ i0.zero = some (.agg #[.int .i64 0, .int .i64 0]) ∧ i0.size = 2 ∧ i0.bytes = 16 := info_parts infoSpan
def lenV : Value → Nat | .slice _ n _ => n | _ => 0
end Go.Proofs.YtiaoenkgapfgaaaDoor
