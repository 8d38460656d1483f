/-
  Contract of the model's flags: the numbers of spans, marked.
-/
import Derived.Test.YtiaoenkgapfgaaaDoorGn
namespace Go.Proofs.YtiaoenkgapfgaaaDoor
open Go.RowKit Sets

theorem infoBool : (Tryd.prog.info? 4).map (fun i => (i.zero, i.size, i.bytes)) = some (some (.bool false), 1, 1) := by kernel_rfl

/-- A row of 199 flags of the call's own. -/
def FlagRow (w : World) (g : Nat) (f : Nat → Bool) : Prop := (∀ j, j < 199 → w.cell? ⟨g, j, none⟩ = some (.bool (f j))) ∧ (∀ o, w.frozen? ⟨g, o, none⟩ = false) ∧ g < w.heap.size
theorem FlagRow.congr {w : World} {g : Nat} {f f' : Nat → Bool} (h : FlagRow w g f) (he : ∀ j, j < 199 → f j = f' j) : FlagRow w g f' := ⟨fun j hj => by rw [← he j hj]; exact h.1 j hj, h.2⟩
theorem FlagRow.below {w w' : World} {B g : Nat} {f : Nat → Bool} (h : FlagRow w g f) (hb : Below B w w') (hB : g < B) : FlagRow w' g f :=
  ⟨fun j hj => by rw [hb.cell (p := ⟨g, j, none⟩) hB]; exact h.1 j hj, fun o => by rw [hb.frozen (p := ⟨g, o, none⟩) hB]; exact h.2.1 o, Nat.lt_of_lt_of_le h.2.2 hb.size⟩
theorem FlagRow.set {w : World} {g : Nat} {f : Nat → Bool} (h : FlagRow w g f) (i : Nat) (hi : i < 199) (b : Bool) : FlagRow (w.setCell ⟨g, i, none⟩ (.bool b)) g (fun j => if j = i then b else f j) := by
  refine ⟨fun j hj => ?_, fun o => by rw [World.frozen?_setCell]; exact h.2.1 o, by simpa [World.setCell] using h.2.2⟩
  show _ = some (Value.bool (if j = i then b else f j))
  by_cases e : j = i
  · subst e
    rw [if_pos rfl]
    exact World.cell?_setCell_same' _ _ _ (by rw [h.1 j hj]; rfl)
  · rw [if_neg e, World.cell?_setCell_other _ _ _ _ (fun h => by injection h with _ h; omega)]
    exact h.1 j hj

def flagK (xs : List Sp) (k : Nat) (j : Nat) : Bool := haveB (xs.take k) ((j : Int) - 99)
def inS (xs : List Sp) (k : Nat) (m : Int) : Bool := decide (lo xs k ≤ m) && decide (m ≤ hi xs k)
def flagN (xs : List Sp) (k : Nat) (m : Int) (j : Nat) : Bool := flagK xs k j || (decide ((j : Int) < m + 99) && inS xs k ((j : Int) - 99))
theorem haveB_append (s t : List Sp) (n : Int) : haveB (s ++ t) n = (haveB s n || haveB t n) := by unfold haveB; rw [List.any_append]
theorem flagK_succ {xs : List Sp} {k : Nat} (hk : k < xs.length) (j : Nat) : flagK xs (k + 1) j = (flagK xs k j || inS xs k ((j : Int) - 99)) := by
  unfold flagK inS
  rw [take_lohi hk, haveB_append]
  congr 1
  simp [haveB]
theorem flagN_start (xs : List Sp) (k j : Nat) : flagN xs k (-99) j = flagK xs k j := by
  unfold flagN
  rw [decide_eq_false (by omega)]; simp
theorem flagN_end {xs : List Sp} {k : Nat} (hk : k < xs.length) (j : Nat) (hj : j < 199) : flagN xs k 100 j = flagK xs (k + 1) j := by
  unfold flagN
  rw [flagK_succ hk, decide_eq_true (by omega)]; simp
theorem flagN_hit {xs : List Sp} {k : Nat} {m : Int} {i : Nat} (hi : (i : Int) = m + 99) (h : inS xs k m = true) (j : Nat) : (if j = i then true else flagN xs k m j) = flagN xs k (m + 1) j := by
  by_cases e : j = i
  · subst e
    rw [if_pos rfl]
    unfold flagN
    rw [decide_eq_true (by omega), show ((j : Int) - 99) = m by omega, h]; simp
  · rw [if_neg e]
    unfold flagN
    by_cases hlt : (j : Int) < m + 99
    · rw [decide_eq_true hlt, decide_eq_true (show (j : Int) < m + 1 + 99 by omega)]
    · rw [decide_eq_false hlt, decide_eq_false (show ¬ (j : Int) < m + 1 + 99 by omega)]
theorem flagN_miss {xs : List Sp} {k : Nat} {m : Int} (h : inS xs k m = false) (j : Nat) : flagN xs k m j = flagN xs k (m + 1) j := by
  unfold flagN
  by_cases hlt : (j : Int) < m + 99
  · rw [decide_eq_true hlt, decide_eq_true (show (j : Int) < m + 1 + 99 by omega)]
  · by_cases e : (j : Int) < m + 1 + 99
    · rw [show ((j : Int) - 99) = m by omega, h]; simp
    · rw [decide_eq_false hlt, decide_eq_false e]

set_option maxRecDepth 100000 in
set_option maxHeartbeats 1000000 in
theorem flags_any (A : Option Addr) (c : Nat) (xs : List Sp) (w : World) (h : Reads w w.heap.size A c xs) :
    Calls Tryd.prog 115 #[.slice A xs.length c] w fun e w' => e = .returned (.slice (some ⟨w.heap.size, 0, none⟩) 199 199) ∧ FlagRow w' w.heap.size (flag xs) ∧ Below w.heap.size w w' := by
  obtain ⟨hlc, hc, hfit, hrow⟩ := h
  obtain ⟨i0, hi, hz0, hz1, hz2⟩ := info_parts infoBool
  have hmk := fun W => run_make (P := Tryd.prog) W 162 4 i0 _ Tryd.underlying162 hi hz0 .i64 .i64 199 199 (by omega) (by omega) (by rw [hz2]; omega) (by omega)
  simp only [hz1, show ((199 : Int).toNat) = 199 from rfl] at hmk
  clear hi hz0 hz1 hz2
  go_enter Tryd.func115, Tryd.ntmps115
  go_wp2
  obtain ⟨W0, hW0⟩ : ∃ W0 : World, w.alloc (.cells (madeCells #[Value.bool false] 199) 4) = W0 := ⟨_, rfl⟩
  have hf0 : FlagRow W0 w.heap.size (flagK xs 0) := by
    rw [← hW0]
    refine ⟨fun j hj => ?_, fun o => World.frozen?_alloc_at _ _ _ _ rfl, by simp⟩
    rw [World.cell?_alloc_new]
    have hjs : j < (madeCells #[Value.bool false] 199).size := by rw [size_madeCells]; exact hj
    rw [Array.getElem?_eq_getElem hjs]
    unfold madeCells flagK haveB
    simp
    rw [Nat.mod_one]; rfl
  have hb0 : Below w.heap.size w W0 := by rw [← hW0]; exact (Below.refl _ _).alloc (Nat.le_refl _) _
  rw [hW0]
  clear hW0 hmk
  have hg := hf0.2.2
  go_loopw [4] (fun i wr => ∃ k : Nat, k ≤ xs.length ∧ i = .int .i64 k ∧ FlagRow wr w.heap.size (flagK xs k) ∧ Below w.heap.size w wr) (fun i _ => xs.length - (intOf i).toNat)
  case atStart => exact ⟨0, Nat.zero_le _, rfl, hf0, hb0⟩
  case round =>
    obtain ⟨k, hk, rfl, hfk, hb⟩ := hrel
    by_cases hlt : k < xs.length
    · rcases hrow with rfl | ⟨b, off, rfl, hB, hrow⟩
      · simp at hlt
      · have hkl : (k : Int) < (xs.length : Int) := by omega
        obtain ⟨wo, hwo⟩ : ∃ wo : World, wo = wr := ⟨_, rfl⟩
        subst hwo
        go_wp2
        go_loopw [5] (fun n wr => ∃ m : Int, -99 ≤ m ∧ m ≤ 100 ∧ n = .int .i64 m ∧ FlagRow wr w.heap.size (flagN xs k m) ∧ Below w.heap.size w wr) (fun n _ => (100 - intOf n).toNat)
        case atStart => exact ⟨-99, by omega, by omega, rfl, hfk.congr fun j _ => (flagN_start xs k j).symm, hb⟩
        case round =>
          obtain ⟨m, hm1, hm2, rfl, hfm, hbm⟩ := hrel
          obtain ⟨c1, c2⟩ := (hrow.below hbm hB) k hlt
          by_cases hm : m ≤ 99
          · have e1 : 0 ≤ m - -99 := by omega
            have e2 : m - -99 < 199 := by omega
            have e3 : 0 ≤ m + 99 := by omega
            have e4 : m + 99 < 199 := by omega
            have hi2 : (m + 99).toNat < 199 := by omega
            have g1 := hfm.1 _ hi2
            have g2 := hfm.2.1 (m + 99).toNat
            have hset := hfm.set _ hi2 true
            have hin : Hid (inS xs k m = true → FlagRow (wr.setCell ⟨w.heap.size, (m + 99).toNat, none⟩ (.bool true)) w.heap.size (flagN xs k (m + 1))) :=
              Lib.hid fun h => hset.congr fun j _ => flagN_hit (by omega) h j
            have hout : Hid (inS xs k m = false → FlagRow wr w.heap.size (flagN xs k (m + 1))) := Lib.hid fun h => hfm.congr fun j _ => flagN_miss h j
            clear hset
            go_wp2
            all_goals
              go_roundw
              case rel => first
                | exact ⟨m + 1, by omega, by omega, rfl, hin.out (by unfold inS; rw [decide_eq_true ‹lo xs k ≤ m›, decide_eq_true ‹m ≤ hi xs k›]; rfl), hbm.setCell (p := ⟨w.heap.size, (m + 99).toNat, none⟩) (Nat.le_refl _) _⟩
                | exact ⟨m + 1, by omega, by omega, rfl, hout.out (by unfold inS; rw [decide_eq_false (show ¬ m ≤ hi xs k by omega)]; simp), hbm⟩
                | exact ⟨m + 1, by omega, by omega, rfl, hout.out (by unfold inS; rw [decide_eq_false (show ¬ lo xs k ≤ m by omega)]; simp), hbm⟩
              case measure => simp [intOf]; omega
          · obtain rfl : m = 100 := by omega
            have hend := hfm.congr fun j hj => flagN_end hlt j hj
            go_wp2
            go_roundw
            case rel => exact ⟨k + 1, hlt, by go_num, hend, hbm⟩
            case measure => simp [intOf]; omega
    · obtain rfl : k = xs.length := by omega
      go_wp2
      go_ret
      exact ⟨rfl, hfk.congr fun j _ => by unfold flagK flag; rw [List.take_length], hb⟩
end Go.Proofs.YtiaoenkgapfgaaaDoor
