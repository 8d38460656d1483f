/-
  Rows that a call makes, and steps of the world.
-/
import Derived.Test.YtiaoenkgapfgaaaDoorRd
import Derived.Laws.MakeOwn
namespace Go.Proofs.YtiaoenkgapfgaaaDoor
open Go.RowKit Sets

theorem infoSpan : (Tryd.prog.info? 126).map (fun i => (i.zero, i.size, i.bytes)) = some (some (.agg #[.int .i64 0, .int .i64 0]), 2, 16) := by kernel_rfl

/-- A block of the call's own: n spans, none frozen. -/
def OwnRow (w : World) (g n : Nat) : Prop := (∀ o, o < n * 2 → ∃ v, w.cell? ⟨g, o, none⟩ = some v) ∧ (∀ o, w.frozen? ⟨g, o, none⟩ = false) ∧ g < w.heap.size
theorem OwnRow.below {w w' : World} {B g n : Nat} (h : OwnRow w g n) (hb : Below B w w') (hB : g < B) : OwnRow w' g n :=
  ⟨fun o ho => by rw [hb.cell (p := ⟨g, o, none⟩) hB]; exact h.1 o ho, fun o => by rw [hb.frozen (p := ⟨g, o, none⟩) hB]; exact h.2.1 o, Nat.lt_of_lt_of_le h.2.2 hb.size⟩

/-- The two stores of a span at place k. -/
def put2 (w : World) (g o : Nat) (a b : Int) : World := (w.setCell ⟨g, o, none⟩ (.int .i64 a)).setCell ⟨g, o + 1, none⟩ (.int .i64 b)
theorem put2_cell (w : World) (g o : Nat) (a b : Int) (o' : Nat) (h0 : ∃ v, w.cell? ⟨g, o, none⟩ = some v) (h1 : ∃ v, w.cell? ⟨g, o + 1, none⟩ = some v) :
    (put2 w g o a b).cell? ⟨g, o', none⟩ = if o' = o then some (.int .i64 a) else if o' = o + 1 then some (.int .i64 b) else w.cell? ⟨g, o', none⟩ := by
  obtain ⟨v0, h0⟩ := h0
  obtain ⟨v1, h1⟩ := h1
  have hne : (⟨g, o, none⟩ : Addr) ≠ ⟨g, o + 1, none⟩ := by intro h; injection h with _ h; omega
  unfold put2
  by_cases e0 : o' = o
  · subst e0
    rw [if_pos rfl, World.cell?_setCell_other _ _ _ _ hne.symm]
    exact World.cell?_setCell_same' _ _ _ (by rw [h0]; rfl)
  · rw [if_neg e0]
    by_cases e1 : o' = o + 1
    · subst e1
      rw [if_pos rfl]
      refine World.cell?_setCell_same' _ _ _ ?_
      rw [World.cell?_setCell_other _ _ _ _ hne, h1]; rfl
    · rw [if_neg e1, World.cell?_setCell_other _ _ _ _ (fun h => by injection h with _ h; omega), World.cell?_setCell_other _ _ _ _ (fun h => by injection h with _ h; omega)]
theorem put2_below {B : Nat} {w a : World} (h : Below B w a) (g o : Nat) (x y : Int) (hB : B ≤ g) : Below B w (put2 a g o x y) := (h.setCell (p := ⟨g, o, none⟩) hB _).setCell (p := ⟨g, o + 1, none⟩) hB _
theorem put2_own {w : World} {g n o : Nat} (h : OwnRow w g n) (a b : Int) (h0 : ∃ v, w.cell? ⟨g, o, none⟩ = some v) (h1 : ∃ v, w.cell? ⟨g, o + 1, none⟩ = some v) : OwnRow (put2 w g o a b) g n := by
  refine ⟨fun o' ho => ?_, fun o' => ?_, ?_⟩
  · rw [put2_cell w g o a b o' h0 h1]
    split
    · exact ⟨_, rfl⟩
    · split
      · exact ⟨_, rfl⟩
      · exact h.1 o' ho
  · unfold put2
    rw [World.frozen?_setCell, World.frozen?_setCell]; exact h.2.1 o'
  · have := h.2.2
    simpa [put2, World.setCell] using this
theorem put2_row {w : World} {g k : Nat} {ys : List Sp} (h : RowAt w g 0 ys) (hk : k = ys.length) (a b : Int) (h0 : ∃ v, w.cell? ⟨g, k * 2, none⟩ = some v) (h1 : ∃ v, w.cell? ⟨g, k * 2 + 1, none⟩ = some v) :
    RowAt (put2 w g (k * 2) a b) g 0 (ys ++ [(a, b)]) := by
  subst hk
  intro i hi
  rw [put2_cell _ _ _ _ _ _ h0 h1, put2_cell _ _ _ _ _ _ h0 h1]
  simp only [List.length_append, List.length_cons, List.length_nil] at hi
  unfold YtiaoenkgapfgaaaDoor.lo YtiaoenkgapfgaaaDoor.hi
  rcases Nat.lt_or_ge i ys.length with hlt | hge
  · have := h i hlt
    unfold YtiaoenkgapfgaaaDoor.lo YtiaoenkgapfgaaaDoor.hi at this
    rw [if_neg (by omega), if_neg (by omega), if_neg (by omega), if_neg (by omega), List.getD_eq_getElem?_getD, List.getElem?_append_left hlt, ← List.getD_eq_getElem?_getD]
    exact this
  · obtain rfl : i = ys.length := by omega
    rw [if_pos (by omega), if_neg (by omega), if_pos (by omega)]
    simp

theorem toBelow {P : Program} {f : FuncId} {args : Array Value} {w : World} {v : Ending} (h : Calls P f args w fun e w' => e = v ∧ ∃ n, w' = w.drewN n) : Calls P f args w fun e w' => e = v ∧ Below w.heap.size w w' :=
  h.mono fun _ _ ⟨he, n, hn⟩ => ⟨he, by rw [hn]; exact below_drewN (Below.refl _ _) n⟩
theorem sameBelow {P : Program} {f : FuncId} {args : Array Value} {w : World} {v : Ending} (h : Calls P f args w fun e w' => e = v ∧ w = w') : Calls P f args w fun e w' => e = v ∧ Below w.heap.size w w' :=
  h.mono fun _ _ ⟨he, hn⟩ => ⟨he, by rw [← hn]; exact Below.refl _ _⟩
theorem Reads.step {w w' : World} {A : Option Addr} {c : Nat} {xs : List Sp} (h : Reads w w.heap.size A c xs) (hb : Below w.heap.size w w') : Reads w' w'.heap.size A c xs := (h.below hb).mono hb.size
theorem Reads.of_own {w : World} {g : Nat} {xs : List Sp} (hr : RowAt w g 0 xs) (ho : OwnRow w g xs.length) (hf : Fits xs) (hn : xs.length ≤ 1048576) : Reads w w.heap.size (some ⟨g, 0, none⟩) xs.length xs :=
  ⟨Nat.le_refl _, by omega, hf, .inr ⟨g, 0, rfl, ho.2.2, hr⟩⟩

end Go.Proofs.YtiaoenkgapfgaaaDoor
