/-
  Contract of the model's flags: the numbers of spans, marked.
-/
import Derived.Test.YtppciomdbabepaaDoorGn
namespace Go.Proofs.YtppciomdbabepaaDoor
open Go.RowKit Sets

theorem infoBool : (Tryd.prog.info? 4).map (fun i => (i.zero, i.size, i.bytes)) = some (some (.bool false), 1, 1) := by kernel_rfl

/-- A row of 199 flags of the call's own. -/
def FlagRow (w : World) (g : Nat) (f : Nat → Bool) : Prop := (∀ j, j < 199 → w.cell? ⟨g, j, none⟩ = some (.bool (f j))) ∧ (∀ o, w.frozen? ⟨g, o, none⟩ = false) ∧ g < w.heap.size
theorem FlagRow.congr {w : World} {g : Nat} {f f' : Nat → Bool} (h : FlagRow w g f) (he : ∀ j, j < 199 → f j = f' j) : FlagRow w g f' := ⟨fun j hj => by rw [← he j hj]; exact h.1 j hj, h.2⟩
theorem FlagRow.below {w w' : World} {B g : Nat} {f : Nat → Bool} (h : FlagRow w g f) (hb : Below B w w') (hB : g < B) : FlagRow w' g f :=
  ⟨fun j hj => by rw [hb.cell (p := ⟨g, j, none⟩) hB]; exact h.1 j hj, fun o => by rw [hb.frozen (p := ⟨g, o, none⟩) hB]; exact h.2.1 o, Nat.lt_of_lt_of_le h.2.2 hb.size⟩
theorem FlagRow.set {w : World} {g : Nat} {f : Nat → Bool} (h : FlagRow w g f) (i : Nat) (hi : i < 199) (b : Bool) : FlagRow (w.setCell ⟨g, i, none⟩ (.bool b)) g (fun j => if j = i then b else f j) := by
  refine ⟨fun j hj => ?_, fun o => by rw [World.frozen?_setCell]; exact h.2.1 o, by simpa [World.setCell] using h.2.2⟩
  show _ = some (Value.bool (if j = i then b else f j))
  by_cases e : j = i
  · subst e
    rw [if_pos rfl]
    exact World.cell?_setCell_same' _ _ _ (by rw [h.1 j hj]; rfl)
  · rw [if_neg e, World.cell?_setCell_other _ _ _ _ (fun h => by injection h with _ h; omega)]
    exact h.1 j hj

def flagK (xs : List Sp) (k : Nat) (j : Nat) : Bool := haveB (xs.take k) ((j : Int) - 99)
def inS (xs : List Sp) (k : Nat) (m : Int) : Bool := decide (lo xs k ≤ m) && decide (m ≤ hi xs k)
def flagN (xs : List Sp) (k : Nat) (m : Int) (j : Nat) : Bool := flagK xs k j || (decide ((j : Int) < m + 99) && inS xs k ((j : Int) - 99))
theorem haveB_append (s t : List Sp) (n : Int) : haveB (s ++ t) n = (haveB s n || haveB t n) := by unfold haveB; rw [List.any_append]
theorem flagK_succ {xs : List Sp} {k : Nat} (hk : k < xs.length) (j : Nat) : flagK xs (k + 1) j = (flagK xs k j || inS xs k ((j : Int) - 99)) := by
  unfold flagK inS
  rw [take_lohi hk, haveB_append]
  congr 1
  simp [haveB]
theorem flagN_start (xs : List Sp) (k j : Nat) : flagN xs k (-99) j = flagK xs k j := by
  unfold flagN
  rw [decide_eq_false (by omega)]; simp
theorem flagN_end {xs : List Sp} {k : Nat} (hk : k < xs.length) (j : Nat) (hj : j < 199) : flagN xs k 100 j = flagK xs (k + 1) j := by
  unfold flagN
  rw [flagK_succ hk, decide_eq_true (by omega)]; simp
theorem flagN_hit {xs : List Sp} {k : Nat} {m : Int} {i : Nat} (hi : (i : Int) = m + 99) (h : inS xs k m = true) (j : Nat) : (if j = i then true else flagN xs k m j) = flagN xs k (m + 1) j := by
  by_cases e : j = i
  · subst e
    rw [if_pos rfl]
    unfold flagN
    rw [decide_eq_true (by omega), show ((j : Int) - 99) = m by omega, h]; simp
  · rw [if_neg e]
    unfold flagN
    by_cases hlt : (j : Int) < m + 99
    · rw [decide_eq_true hlt, decide_eq_true (show (j : Int) < m + 1 + 99 by omega)]
    · rw [decide_eq_false hlt, decide_eq_false (show ¬ (j : Int) < m + 1 + 99 by omega)]
theorem flagN_miss {xs : List Sp} {k : Nat} {m : Int} (h : inS xs k m = false) (j : Nat) : flagN xs k m j = flagN xs k (m + 1) j := by
  unfold flagN
  by_cases hlt : (j : Int) < m + 99
  · rw [decide_eq_true hlt, decide_eq_true (show (j : Int) < m + 1 + 99 by omega)]
  · by_cases e : (j : Int) < m + 1 + 99
    · rw [show ((j : Int) - 99) = m by omega, h]; simp
    · rw [decide_eq_false hlt, decide_eq_false e]

end Go.Proofs.YtppciomdbabepaaDoor
