/-
  Contracts of what the laws do with their arguments: the count of their size, the copies that they make.
-/
import Derived.Test.YtcjoidoodggfkabFi
import Derived.Laws.MakeOwn
namespace Go.Proofs.Ytcjoidoodggfkab
open Go.RowKit Sets

theorem szSpanS_any (A : Option Addr) (n c : Nat) (left : Int) (w : World) (hn : n ≤ 9223372036854775807) (h1 : -1 ≤ left) (h2 : left ≤ 1048576) :
    Calls Try.prog 13 #[.slice A n c, .int .i64 left] w fun e w' => e = .returned (.int .i64 (if left < n then -1 else left - n)) ∧ w = w' := by
  go_enter Try.func13, Try.ntmps13
  by_cases hlt : left < n
  · rw [if_pos hlt]
    have h3 : left - (n : Int) < 0 := by omega
    go_wp2
    go_ret
    exact ⟨rfl, rfl⟩
  · rw [if_neg hlt]
    have h3 : 0 ≤ left - (n : Int) := by omega
    go_wp2
    go_ret
    exact ⟨rfl, rfl⟩

theorem toSpan_any (a b : Int) (w : World) : Calls Try.prog 38 #[.agg #[.int .i64 a, .int .i64 b]] w fun e w' =>
    e = .returned (.agg #[.int .i64 a, .int .i64 b]) ∧ Below w.heap.size w w' := by
  go_enter Try.func38, Try.ntmps38
  go_wp2
  refine bodyPost_ret (v := .agg #[.int .i64 a, .int .i64 b]) (by simp [results, Try.results38, go_sem]) rfl ⟨rfl, ?_⟩
  exact ((((Below.refl _ _).alloc (Nat.le_refl _) _).alloc (by simp) _).alloc (by simp; omega) _)

theorem infoSpan : (Try.prog.info? 41).map (fun i => (i.zero, i.size, i.bytes)) = some (some (.agg #[.int .i64 0, .int .i64 0]), 2, 16) := by kernel_rfl

/-- A block of the call's own: n spans, none frozen. -/
def OwnRow (w : World) (g n : Nat) : Prop := (∀ o, o < n * 2 → ∃ v, w.cell? ⟨g, o, none⟩ = some v) ∧ (∀ o, w.frozen? ⟨g, o, none⟩ = false) ∧ g < w.heap.size
theorem OwnRow.below {w w' : World} {B g n : Nat} (h : OwnRow w g n) (hb : Below B w w') (hB : g < B) : OwnRow w' g n :=
  ⟨fun o ho => by rw [hb.cell (p := ⟨g, o, none⟩) hB]; exact h.1 o ho, fun o => by rw [hb.frozen (p := ⟨g, o, none⟩) hB]; exact h.2.1 o, Nat.lt_of_lt_of_le h.2.2 hb.size⟩

/-- The two stores of a span at place k. -/
def put2 (w : World) (g o : Nat) (a b : Int) : World := (w.setCell ⟨g, o, none⟩ (.int .i64 a)).setCell ⟨g, o + 1, none⟩ (.int .i64 b)
theorem put2_cell (w : World) (g o : Nat) (a b : Int) (o' : Nat) (h0 : ∃ v, w.cell? ⟨g, o, none⟩ = some v) (h1 : ∃ v, w.cell? ⟨g, o + 1, none⟩ = some v) :
    (put2 w g o a b).cell? ⟨g, o', none⟩ = if o' = o then some (.int .i64 a) else if o' = o + 1 then some (.int .i64 b) else w.cell? ⟨g, o', none⟩ := by
  obtain ⟨v0, h0⟩ := h0
  obtain ⟨v1, h1⟩ := h1
  have hne : (⟨g, o, none⟩ : Addr) ≠ ⟨g, o + 1, none⟩ := by intro h; injection h with _ h; omega
  unfold put2
  by_cases e0 : o' = o
  · subst e0
    rw [if_pos rfl, World.cell?_setCell_other _ _ _ _ hne.symm]
    exact World.cell?_setCell_same' _ _ _ (by rw [h0]; rfl)
  · rw [if_neg e0]
    by_cases e1 : o' = o + 1
    · subst e1
      rw [if_pos rfl]
      refine World.cell?_setCell_same' _ _ _ ?_
      rw [World.cell?_setCell_other _ _ _ _ hne, h1]; rfl
    · rw [if_neg e1, World.cell?_setCell_other _ _ _ _ (fun h => by injection h with _ h; omega), World.cell?_setCell_other _ _ _ _ (fun h => by injection h with _ h; omega)]
theorem put2_below {B : Nat} {w a : World} (h : Below B w a) (g o : Nat) (x y : Int) (hB : B ≤ g) : Below B w (put2 a g o x y) := (h.setCell (p := ⟨g, o, none⟩) hB _).setCell (p := ⟨g, o + 1, none⟩) hB _
theorem put2_own {w : World} {g n o : Nat} (h : OwnRow w g n) (a b : Int) (h0 : ∃ v, w.cell? ⟨g, o, none⟩ = some v) (h1 : ∃ v, w.cell? ⟨g, o + 1, none⟩ = some v) : OwnRow (put2 w g o a b) g n := by
  refine ⟨fun o' ho => ?_, fun o' => ?_, ?_⟩
  · rw [put2_cell w g o a b o' h0 h1]
    split
    · exact ⟨_, rfl⟩
    · split
      · exact ⟨_, rfl⟩
      · exact h.1 o' ho
  · unfold put2
    rw [World.frozen?_setCell, World.frozen?_setCell]; exact h.2.1 o'
  · have := h.2.2
    simpa [put2, World.setCell] using this
theorem put2_row {w : World} {g k : Nat} {ys : List Sp} (h : RowAt w g 0 ys) (hk : k = ys.length) (a b : Int) (h0 : ∃ v, w.cell? ⟨g, k * 2, none⟩ = some v) (h1 : ∃ v, w.cell? ⟨g, k * 2 + 1, none⟩ = some v) :
    RowAt (put2 w g (k * 2) a b) g 0 (ys ++ [(a, b)]) := by
  subst hk
  intro i hi
  rw [put2_cell _ _ _ _ _ _ h0 h1, put2_cell _ _ _ _ _ _ h0 h1]
  simp only [List.length_append, List.length_cons, List.length_nil] at hi
  unfold Ytcjoidoodggfkab.lo Ytcjoidoodggfkab.hi
  rcases Nat.lt_or_ge i ys.length with hlt | hge
  · have := h i hlt
    unfold Ytcjoidoodggfkab.lo Ytcjoidoodggfkab.hi at this
    rw [if_neg (by omega), if_neg (by omega), if_neg (by omega), if_neg (by omega), List.getD_eq_getElem?_getD, List.getElem?_append_left hlt, ← List.getD_eq_getElem?_getD]
    exact this
  · obtain rfl : i = ys.length := by omega
    rw [if_pos (by omega), if_neg (by omega), if_pos (by omega)]
    simp

theorem toSpanS_any (A : Option Addr) (c : Nat) (xs : List Sp) (w : World) (h : Reads w w.heap.size A c xs) (hn : xs.length ≤ 1048576) :
    Calls Try.prog 15 #[.slice A xs.length c] w fun e w' => e = .returned (.slice (some ⟨w.heap.size, 0, none⟩) xs.length xs.length) ∧
      RowAt w' w.heap.size 0 xs ∧ OwnRow w' w.heap.size xs.length ∧ Below w.heap.size w w' := by
  obtain ⟨hlc, hc, hfit, hrow⟩ := h
  obtain ⟨i0, hi, hz0, hz1, hz2⟩ := info_parts infoSpan
  have hmk := fun W => run_make (P := Try.prog) W 25 41 i0 _ Try.underlying25 hi hz0 .i64 .i64 xs.length xs.length (by omega) (by omega) (by rw [hz2]; omega) (by omega)
  simp only [Int.toNat_natCast, hz1] at hmk
  clear hi hz0 hz1 hz2
  go_enter Try.func15, Try.ntmps15
  go_wp2
  obtain ⟨W0, hW0⟩ : ∃ W0 : World, w.alloc (.cells (madeCells #[Value.int .i64 0, .int .i64 0] (xs.length * 2)) 41) = W0 := ⟨_, rfl⟩
  have hown0 : OwnRow W0 w.heap.size xs.length := by
    rw [← hW0]
    refine ⟨fun o ho => ?_, fun o => ?_, by simp⟩
    · rw [World.cell?_alloc_new]
      exact ⟨_, Array.getElem?_eq_getElem (by rw [size_madeCells]; exact ho)⟩
    · exact World.frozen?_alloc_at _ _ _ _ rfl
  have hb0 : Below w.heap.size w W0 := by rw [← hW0]; exact (Below.refl _ _).alloc (Nat.le_refl _) _
  rw [hW0]
  clear hW0 hmk
  go_loopw [4] (fun i wr => ∃ k : Nat, k ≤ xs.length ∧ i = .int .i64 k ∧ RowAt wr w.heap.size 0 (xs.take k) ∧ OwnRow wr w.heap.size xs.length ∧ Below w.heap.size w wr) (fun i _ => xs.length - (intOf i).toNat)
  case atStart => exact ⟨0, Nat.zero_le _, rfl, fun i hi => absurd hi (by simp), hown0, hb0⟩
  case round =>
    obtain ⟨k, hk, rfl, hdone, hown, hb⟩ := hrel
    by_cases hlt : k < xs.length
    · rcases hrow with rfl | ⟨b, off, rfl, hB, hrow⟩
      · simp at hlt
      · have hkl : (k : Int) < (xs.length : Int) := by omega
        obtain ⟨c1, c2⟩ := (hrow.below hb hB) k hlt
        go_wp2_with (go_at_call 38; refine (toSpan_any _ _ _).mono ?_; rintro e w1 ⟨rfl, hb1⟩; have hown1 := hown.below hb1 hown.2.2; obtain ⟨v0, g0⟩ := hown1.1 (k * 2) (by omega); obtain ⟨v1, g1⟩ := hown1.1 (k * 2 + 1) (by omega); have f0 := hown1.2.1 (k * 2); have f1 := hown1.2.1 (k * 2 + 1))
        have hp0 := put2_row (k := k) (ys := xs.take k) (hdone.below hb1 hown.2.2) (by rw [List.length_take]; omega) (lo xs k) (hi xs k) ⟨_, g0⟩ ⟨_, g1⟩
        have hp1 := put2_own hown1 (lo xs k) (hi xs k) ⟨_, g0⟩ ⟨_, g1⟩
        have hp2 := put2_below (hb.trans (hb1.mono hb.size)) w.heap.size (k * 2) (lo xs k) (hi xs k) (Nat.le_refl _)
        rw [← take_lohi hlt] at hp0
        go_roundw
        case rel => exact ⟨k + 1, hlt, by go_num, hp0, hp1, hp2⟩
        case measure => simp [intOf]; omega
    · go_wp2
      go_ret
      exact ⟨rfl, by rw [List.take_of_length_le (by omega)] at hdone; exact hdone, hown, hb⟩
theorem toBelow {P : Program} {f : FuncId} {args : Array Value} {w : World} {v : Ending} (h : Calls P f args w fun e w' => e = v ∧ ∃ n, w' = w.drewN n) : Calls P f args w fun e w' => e = v ∧ Below w.heap.size w w' :=
  h.mono fun _ _ ⟨he, n, hn⟩ => ⟨he, by rw [hn]; exact below_drewN (Below.refl _ _) n⟩
theorem sameBelow {P : Program} {f : FuncId} {args : Array Value} {w : World} {v : Ending} (h : Calls P f args w fun e w' => e = v ∧ w = w') : Calls P f args w fun e w' => e = v ∧ Below w.heap.size w w' :=
  h.mono fun _ _ ⟨he, hn⟩ => ⟨he, by rw [← hn]; exact Below.refl _ _⟩
theorem Reads.step {w w' : World} {A : Option Addr} {c : Nat} {xs : List Sp} (h : Reads w w.heap.size A c xs) (hb : Below w.heap.size w w') : Reads w' w'.heap.size A c xs := (h.below hb).mono hb.size
theorem Reads.of_own {w : World} {g : Nat} {xs : List Sp} (hr : RowAt w g 0 xs) (ho : OwnRow w g xs.length) (hf : Fits xs) (hn : xs.length ≤ 1048576) : Reads w w.heap.size (some ⟨g, 0, none⟩) xs.length xs :=
  ⟨Nat.le_refl _, by omega, hf, .inr ⟨g, 0, rfl, ho.2.2, hr⟩⟩

end Go.Proofs.Ytcjoidoodggfkab
