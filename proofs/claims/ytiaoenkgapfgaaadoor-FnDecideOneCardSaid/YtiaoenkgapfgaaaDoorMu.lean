/-
  Contracts of the copies and the changed copies of drawn sets.
-/
import Derived.Test.YtiaoenkgapfgaaaDoorDw
namespace Go.Proofs.YtiaoenkgapfgaaaDoor
open Go.RowKit Sets

theorem news_of {w : World} {b off : Nat} {xs : List Sp} (h : RowAt w b off xs) : ∀ (j : Nat) (u : Value), (cellsOf xs)[j]? = some u → w.cell? ((⟨b, off, none⟩ : Addr).add j) = some u := by
  intro j u hu
  have hadd : (⟨b, off, none⟩ : Addr).add j = ⟨b, off + j, none⟩ := by unfold Addr.add; split <;> simp_all
  rw [hadd]
  have hj : j < xs.length * 2 := by
    rw [← cellsOf_length]
    rcases Nat.lt_or_ge j (cellsOf xs).length with h | h
    · exact h
    · rw [List.getElem?_eq_none h] at hu; cases hu
  have hi : j / 2 < xs.length := by omega
  have hc := cellsOf_at xs (j / 2) hi
  have hr := h (j / 2) hi
  rcases Nat.mod_two_eq_zero_or_one j with e | e
  · have ej : j = j / 2 * 2 := by omega
    rw [ej] at hu
    rw [hc.1] at hu
    rw [ej, hr.1]; exact hu
  · have ej : j = j / 2 * 2 + 1 := by omega
    rw [ej] at hu
    rw [hc.2] at hu
    rw [ej, ← Nat.add_assoc, hr.2]; exact hu
theorem one_cells (xs : List Sp) : ∀ u ∈ cellsOf xs, u.oneCell' = true := by
  induction xs with
  | nil => intro u hu; cases hu
  | cons x xs ih =>
    intro u hu
    simp only [cellsOf, List.mem_cons] at hu
    rcases hu with rfl | rfl | hu
    · rfl
    · rfl
    · exact ih u hu

theorem cellsOf_set_lo (b : Int) : ∀ (xs : List Sp) (i : Nat), i < xs.length → cellsOf (xs.set i (b, hi xs i)) = (cellsOf xs).set (i * 2) (.int .i64 b)
  | [], i, h => by simp at h
  | x :: xs, 0, _ => rfl
  | x :: xs, i + 1, h => by
    have ih := cellsOf_set_lo b xs i (by simpa using h)
    rw [show (i + 1) * 2 = i * 2 + 1 + 1 by omega]
    simp only [List.set_cons_succ, cellsOf, List.cons.injEq, true_and]
    rw [← ih]
    rfl
theorem OwnS.set_lo {w : World} {base g cap : Nat} {xs : List Sp} (h : w.ownsRow base 126 2 (.slice (some ⟨g, 0, none⟩) xs.length cap) xs.length (cellsOf xs)) {i : Nat} (hi : i < xs.length) (b : Int) :
    OwnS (w.setCell ⟨g, i * 2, none⟩ (.int .i64 b)) base (.slice (some ⟨g, 0, none⟩) xs.length cap) (xs.set i (b, YtiaoenkgapfgaaaDoor.hi xs i)) := by
  unfold OwnS
  rw [cellsOf_set_lo b xs i hi, List.length_set]
  exact (World.ownsRow.stored h (i * 2) (.int .i64 b)).1
theorem fits_set {xs : List Sp} (h : Fits xs) (i : Nat) {x : Sp} (h1 : I64 x.1) (h2 : I64 x.2) : Fits (xs.set i x) := by
  intro y hy
  rcases List.mem_or_eq_of_mem_set hy with hy | rfl
  · exact h y hy
  · exact ⟨h1, h2⟩
theorem gr_cell (w : World) (g g2 o : Nat) (v : Value) (a : World) (h : a.grownBy w (some g)) (hg2 : a.heap.size ≤ g2) : a.grownBy (w.setCell ⟨g2, o, none⟩ v) (some g) :=
  ⟨h.os, h.tape, h.output, by have := h.size; simpa [World.setCell] using this, fun i hi hne => by
    rw [Below.heap_setCell _ _ _ _ (show i ≠ g2 by omega)]; exact h.block i hi hne⟩
theorem Rdr.cellSet {w : World} {g B : Nat} {A : Option Addr} {n c p : Nat} {z : Nat → Int} (h : Rdr w g B A n c p z) {g2 : Nat} (hg : g < g2) (o : Nat) (v : Value) : Rdr (w.setCell ⟨g2, o, none⟩ v) g B A n c p z where
  blk := by rw [Below.heap_setCell _ _ _ _ (show g ≠ g2 by omega)]; exact h.blk
  hn := h.hn
  hc := h.hc
  hB := h.hB
  byte := h.byte
  row hp := by
    obtain ⟨b, off, e, hb', hrow⟩ := h.row hp
    refine ⟨b, off, e, hb', fun i hi => ?_⟩
    have := h.hB
    rw [World.cell?_setCell_other _ _ _ _ (fun e => by injection e with e _; omega)]
    exact hrow i hi

end Go.Proofs.YtiaoenkgapfgaaaDoor
