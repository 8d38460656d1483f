/-
  Contracts of what the laws do with their arguments: the count of their size, the copies that they make.
-/
import Derived.Test.YtiaoenkgapfgaaaDoorFi
import Derived.Test.YtiaoenkgapfgaaaDoorRd4
import Derived.Test.YtiaoenkgapfgaaaDoorGn
namespace Go.Proofs.YtiaoenkgapfgaaaDoor
open Go.RowKit Sets

set_option maxRecDepth 100000 in
theorem szSpanS_any (A : Option Addr) (n c : Nat) (left : Int) (w : World) (hn : n ≤ 9223372036854775807) (h1 : -1 ≤ left) (h2 : left ≤ 1048576) :
    Calls Tryd.prog 93 #[.slice A n c, .int .i64 left] w fun e w' => e = .returned (.int .i64 (if left < n then -1 else left - n)) ∧ w = w' := by
  go_enter Tryd.func93, Tryd.ntmps93
  by_cases hlt : left < n
  · rw [if_pos hlt]
    have h3 : left - (n : Int) < 0 := by omega
    go_wp2
    go_ret
    exact ⟨rfl, rfl⟩
  · rw [if_neg hlt]
    have h3 : 0 ≤ left - (n : Int) := by omega
    go_wp2
    go_ret
    exact ⟨rfl, rfl⟩

set_option maxRecDepth 100000 in
theorem toSpan_any (a b : Int) (w : World) : Calls Tryd.prog 110 #[.agg #[.int .i64 a, .int .i64 b]] w fun e w' =>
    e = .returned (.agg #[.int .i64 a, .int .i64 b]) ∧ Below w.heap.size w w' := by
  go_enter Tryd.func110, Tryd.ntmps110
  go_wp2
  refine bodyPost_ret (v := .agg #[.int .i64 a, .int .i64 b]) (by simp [results, Tryd.results110, go_sem]) rfl ⟨rfl, ?_⟩
  exact ((((Below.refl _ _).alloc (Nat.le_refl _) _).alloc (by simp) _).alloc (by simp; omega) _)

set_option maxRecDepth 100000 in
theorem toSpanS_any (A : Option Addr) (c : Nat) (xs : List Sp) (w : World) (h : Reads w w.heap.size A c xs) (hn : xs.length ≤ 1048576) :
    Calls Tryd.prog 99 #[.slice A xs.length c] w fun e w' => e = .returned (.slice (some ⟨w.heap.size, 0, none⟩) xs.length xs.length) ∧
      RowAt w' w.heap.size 0 xs ∧ OwnRow w' w.heap.size xs.length ∧ Below w.heap.size w w' := by
  obtain ⟨hlc, hc, hfit, hrow⟩ := h
  obtain ⟨i0, hi, hz0, hz1, hz2⟩ := info_parts infoSpan
  have hmk := fun W => run_make (P := Tryd.prog) W 106 126 i0 _ Tryd.underlying106 hi hz0 .i64 .i64 xs.length xs.length (by omega) (by omega) (by rw [hz2]; omega) (by omega)
  simp only [Int.toNat_natCast, hz1] at hmk
  clear hi hz0 hz1 hz2
  go_enter Tryd.func99, Tryd.ntmps99
  go_wp2
  obtain ⟨W0, hW0⟩ : ∃ W0 : World, w.alloc (.cells (madeCells #[Value.int .i64 0, .int .i64 0] (xs.length * 2)) 126) = W0 := ⟨_, rfl⟩
  have hown0 : OwnRow W0 w.heap.size xs.length := by
    rw [← hW0]
    refine ⟨fun o ho => ?_, fun o => ?_, by simp⟩
    · rw [World.cell?_alloc_new]
      exact ⟨_, Array.getElem?_eq_getElem (by rw [size_madeCells]; exact ho)⟩
    · exact World.frozen?_alloc_at _ _ _ _ rfl
  have hb0 : Below w.heap.size w W0 := by rw [← hW0]; exact (Below.refl _ _).alloc (Nat.le_refl _) _
  rw [hW0]
  clear hW0 hmk
  go_loopw [4] (fun i wr => ∃ k : Nat, k ≤ xs.length ∧ i = .int .i64 k ∧ RowAt wr w.heap.size 0 (xs.take k) ∧ OwnRow wr w.heap.size xs.length ∧ Below w.heap.size w wr) (fun i _ => xs.length - (intOf i).toNat)
  case atStart => exact ⟨0, Nat.zero_le _, rfl, fun i hi => absurd hi (by simp), hown0, hb0⟩
  case round =>
    obtain ⟨k, hk, rfl, hdone, hown, hb⟩ := hrel
    by_cases hlt : k < xs.length
    · rcases hrow with rfl | ⟨b, off, rfl, hB, hrow⟩
      · simp at hlt
      · have hkl : (k : Int) < (xs.length : Int) := by omega
        obtain ⟨c1, c2⟩ := (hrow.below hb hB) k hlt
        go_wp2_with (go_at_call 110; refine (toSpan_any _ _ _).mono ?_; rintro e w1 ⟨rfl, hb1⟩; have hown1 := hown.below hb1 hown.2.2; obtain ⟨v0, g0⟩ := hown1.1 (k * 2) (by omega); obtain ⟨v1, g1⟩ := hown1.1 (k * 2 + 1) (by omega); have f0 := hown1.2.1 (k * 2); have f1 := hown1.2.1 (k * 2 + 1))
        have hp0 := put2_row (k := k) (ys := xs.take k) (hdone.below hb1 hown.2.2) (by rw [List.length_take]; omega) (lo xs k) (hi xs k) ⟨_, g0⟩ ⟨_, g1⟩
        have hp1 := put2_own hown1 (lo xs k) (hi xs k) ⟨_, g0⟩ ⟨_, g1⟩
        have hp2 := put2_below (hb.trans (hb1.mono hb.size)) w.heap.size (k * 2) (lo xs k) (hi xs k) (Nat.le_refl _)
        rw [← take_lohi hlt] at hp0
        go_roundw
        case rel => exact ⟨k + 1, hlt, by go_num, hp0, hp1, hp2⟩
        case measure => simp [intOf]; omega
    · go_wp2
      go_ret
      exact ⟨rfl, by rw [List.take_of_length_le (by omega)] at hdone; exact hdone, hown, hb⟩
end Go.Proofs.YtiaoenkgapfgaaaDoor
