/-
  Copies of lists of columns.
-/
import Derived.Test.YtppciomdbabepaaUa
import Derived.Test.YtppciomdbabepaaLc
namespace Go.Proofs.Ytppciomdbabepaa
open Go.RowKit Sets

/-- A block of the call's own: m cells, none frozen. -/
def OwnBlk (w : World) (g m : Nat) : Prop := (∀ o, o < m → ∃ v, w.cell? ⟨g, o, none⟩ = some v) ∧ (∀ o, w.frozen? ⟨g, o, none⟩ = false) ∧ g < w.heap.size
theorem OwnBlk.below {w w' : World} {B g n : Nat} (h : OwnBlk w g n) (hb : Below B w w') (hB : g < B) : OwnBlk w' g n :=
  ⟨fun o ho => by rw [hb.cell (p := ⟨g, o, none⟩) hB]; exact h.1 o ho, fun o => by rw [hb.frozen (p := ⟨g, o, none⟩) hB]; exact h.2.1 o, Nat.lt_of_lt_of_le h.2.2 hb.size⟩
theorem OwnBlk.set {w : World} {g n : Nat} (h : OwnBlk w g n) (o : Nat) (v : Value) : OwnBlk (w.setCell ⟨g, o, none⟩ v) g n := by
  refine ⟨fun o' ho' => ?_, fun o' => by rw [World.frozen?_setCell]; exact h.2.1 o', by simpa [World.setCell] using h.2.2⟩
  by_cases e : o' = o
  · subst e
    obtain ⟨u, hu⟩ := h.1 o' ho'
    exact ⟨v, World.cell?_setCell_same' _ _ _ (by rw [hu]; rfl)⟩
  · rw [World.cell?_setCell_other _ _ _ _ (fun h => by injection h with _ h; omega)]
    exact h.1 o' ho'
theorem OwnBlk.made (w : World) (z : Array Value) (m : Nat) (t : TypeId) : OwnBlk (w.alloc (.cells (madeCells z m) t)) w.heap.size m := by
  refine ⟨fun o ho => ?_, fun o => World.frozen?_alloc_at _ _ _ _ rfl, by simp⟩
  rw [World.cell?_alloc_new]
  exact ⟨_, Array.getElem?_eq_getElem (by rw [size_madeCells]; exact ho)⟩
/-- What a cell of the block holds behind a store in it. -/
theorem set_at {w : World} {g n : Nat} (h : OwnBlk w g n) {o : Nat} (ho : o < n) (v : Value) (o' : Nat) : (w.setCell ⟨g, o, none⟩ v).cell? ⟨g, o', none⟩ = if o' = o then some v else w.cell? ⟨g, o', none⟩ := by
  by_cases e : o' = o
  · subst e
    rw [if_pos rfl]
    obtain ⟨u, hu⟩ := h.1 o' ho
    exact World.cell?_setCell_same' _ _ _ (by rw [hu]; rfl)
  · rw [if_neg e, World.cell?_setCell_other _ _ _ _ (fun h => by injection h with _ h; omega)]

theorem infoColumn : (Try.prog.info? 61).map (fun i => (i.zero, i.size, i.bytes)) = some (some (.agg #[.bool false, .int .i64 0, .int .i64 0]), 3, 24) := by kernel_rfl
/-- the first m columns lie in block g -/
def ColRow (w : World) (g : Nat) (cs : List Co) (m : Nat) : Prop := ∀ i, i < m → w.cell? ⟨g, i * 3, none⟩ = some (.bool (cs.getD i (false, 0, 0)).1) ∧ w.cell? ⟨g, i * 3 + 1, none⟩ = some (.int .i64 (cs.getD i (false, 0, 0)).2.1) ∧ w.cell? ⟨g, i * 3 + 2, none⟩ = some (.int .i64 (cs.getD i (false, 0, 0)).2.2)
theorem ColRow.below {w w' : World} {B g m : Nat} {cs : List Co} (h : ColRow w g cs m) (hb : Below B w w') (hB : g < B) : ColRow w' g cs m := fun i hi =>
  ⟨(hb.cell (p := ⟨g, i * 3, none⟩) hB).trans (h i hi).1, (hb.cell (p := ⟨g, i * 3 + 1, none⟩) hB).trans (h i hi).2.1, (hb.cell (p := ⟨g, i * 3 + 2, none⟩) hB).trans (h i hi).2.2⟩
theorem ColRow.put {w : World} {g n m : Nat} {cs : List Co} (ho : OwnBlk w g n) (h : ColRow w g cs m) (hm : m * 3 + 2 < n) {L : Bool} {a b : Int} (hv : cs.getD m (false, 0, 0) = (L, a, b)) :
    ColRow (((w.setCell ⟨g, m * 3, none⟩ (.bool L)).setCell ⟨g, m * 3 + 1, none⟩ (.int .i64 a)).setCell ⟨g, m * 3 + 2, none⟩ (.int .i64 b)) g cs (m + 1) := by
  have o1 := ho.set (m * 3) (.bool L)
  have o2 := o1.set (m * 3 + 1) (.int .i64 a)
  have key : ∀ o', (((w.setCell ⟨g, m * 3, none⟩ (.bool L)).setCell ⟨g, m * 3 + 1, none⟩ (.int .i64 a)).setCell ⟨g, m * 3 + 2, none⟩ (.int .i64 b)).cell? ⟨g, o', none⟩ = if o' = m * 3 + 2 then some (.int .i64 b) else if o' = m * 3 + 1 then some (.int .i64 a) else if o' = m * 3 then some (.bool L) else w.cell? ⟨g, o', none⟩ := fun o' => by
    rw [set_at o2 hm, set_at o1 (by omega), set_at ho (by omega)]
  intro i hi
  rw [key, key, key]
  by_cases e : i = m
  · subst e
    rw [hv, if_neg (by omega), if_neg (by omega), if_pos rfl, if_neg (by omega), if_pos rfl, if_pos rfl]
    exact ⟨rfl, rfl, rfl⟩
  · rw [if_neg (by omega), if_neg (by omega), if_neg (by omega), if_neg (by omega), if_neg (by omega), if_neg (by omega), if_neg (by omega), if_neg (by omega), if_neg (by omega)]
    exact h i (by omega)

set_option maxRecDepth 100000 in
set_option maxHeartbeats 1000000 in
theorem toColumnS_any (A : Option Addr) (c : Nat) (cs : List Co) (w : World) (h : ColsAt w w.heap.size A c cs) (hn : cs.length ≤ 1048576) :
    Calls Try.prog 43 #[.slice A cs.length c] w fun e w' => e = .returned (.slice (some ⟨w.heap.size, 0, none⟩) cs.length cs.length) ∧ ColsAt w' w'.heap.size (some ⟨w.heap.size, 0, none⟩) cs.length cs ∧ Below w.heap.size w w' := by
  obtain ⟨hlc, hc, hrow⟩ := h
  obtain ⟨i0, hi, hz0, hz1, hz2⟩ := info_parts infoColumn
  have hmk := fun W => run_make (P := Try.prog) W 28 61 i0 _ Try.underlying28 hi hz0 .i64 .i64 cs.length cs.length (by omega) (by omega) (by rw [hz2]; omega) (by omega)
  simp only [Int.toNat_natCast, hz1] at hmk
  clear hi hz0 hz1 hz2
  go_enter Try.func43, Try.ntmps43
  go_wp2
  have hown0 := OwnBlk.made w #[.bool false, .int .i64 0, .int .i64 0] (cs.length * 3) 61
  have hb0 : Below w.heap.size w (w.alloc (.cells (madeCells #[Value.bool false, .int .i64 0, .int .i64 0] (cs.length * 3)) 61)) := (Below.refl _ _).alloc (Nat.le_refl _) _
  generalize w.alloc (.cells (madeCells #[Value.bool false, .int .i64 0, .int .i64 0] (cs.length * 3)) 61) = W0 at hown0 hb0 ⊢
  clear hmk
  go_loopw [4] (fun i wr => ∃ k : Nat, k ≤ cs.length ∧ i = .int .i64 k ∧ ColRow wr w.heap.size cs k ∧ OwnBlk wr w.heap.size (cs.length * 3) ∧ Below w.heap.size w wr) (fun i _ => cs.length - (intOf i).toNat)
  case atStart => exact ⟨0, Nat.zero_le _, rfl, fun i hi => absurd hi (by omega), hown0, hb0⟩
  case round =>
    obtain ⟨k, hk, rfl, hdone, hown, hb⟩ := hrel
    by_cases hlt : k < cs.length
    · rcases hrow with hz | ⟨b, off, rfl, hB, hrow⟩
      · omega
      · have hkl : (k : Int) < (cs.length : Int) := by omega
        obtain ⟨c1, c2, c3⟩ := hrow k hlt
        have d1 := (hb.cell (p := ⟨b, off + k * 3, none⟩) hB).trans c1
        have d2 := (hb.cell (p := ⟨b, off + k * 3 + 1, none⟩) hB).trans c2
        have d3 := (hb.cell (p := ⟨b, off + k * 3 + 2, none⟩) hB).trans c3
        obtain ⟨⟨L, x, y⟩, hv⟩ : ∃ v, cs.getD k (false, 0, 0) = v := ⟨_, rfl⟩
        rw [hv] at d1 d2 d3
        have HV := Lib.hid hv
        clear c1 c2 c3 hv
        go_wp2_with (go_at_call 74; refine (toColumn_any _ _ _ _).mono ?_; rintro e w1 ⟨rfl, hb1⟩; have hown1 := hown.below hb1 hown.2.2; obtain ⟨v0, g0⟩ := hown1.1 (k * 3) (by omega); obtain ⟨v1, g1⟩ := hown1.1 (k * 3 + 1) (by omega); obtain ⟨v2, g2⟩ := hown1.1 (k * 3 + 2) (by omega); have f0 := hown1.2.1 (k * 3); have f1 := hown1.2.1 (k * 3 + 1); have f2 := hown1.2.1 (k * 3 + 2))
        have hp0 := ColRow.put hown1 (hdone.below hb1 hown.2.2) (by omega) HV.out
        have hp1 := ((hown1.set (k * 3) (.bool L)).set (k * 3 + 1) (.int .i64 x)).set (k * 3 + 2) (.int .i64 y)
        have hp2 := (((hb.trans (hb1.mono hb.size)).setCell (p := ⟨w.heap.size, k * 3, none⟩) (Nat.le_refl _) (.bool L)).setCell (p := ⟨w.heap.size, k * 3 + 1, none⟩) (Nat.le_refl _) (.int .i64 x)).setCell (p := ⟨w.heap.size, k * 3 + 2, none⟩) (Nat.le_refl _) (.int .i64 y)
        go_roundw
        case rel => exact ⟨k + 1, hlt, by go_num, hp0, hp1, hp2⟩
        case measure => simp [intOf]; omega
    · obtain rfl : k = cs.length := by omega
      go_wp2
      go_ret
      refine ⟨rfl, ⟨Nat.le_refl _, by omega, .inr ⟨w.heap.size, 0, rfl, hown.2.2, fun i hi => ?_⟩⟩, hb⟩
      rw [Nat.zero_add]
      exact hdone i hi
end Go.Proofs.Ytppciomdbabepaa
