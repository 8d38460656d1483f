/-
  Contracts of the checks of columns, and of the sets of their values, of both programs.
-/
import Derived.Test.YtppciomdbabepaaDoorIv
import Derived.Test.YtppciomdbabepaaDoorJo
import Derived.Test.YtppciomdbabepaaDoorTv
namespace Go.Proofs.YtppciomdbabepaaDoor
open Go.RowKit Sets

/-- The value of a column. -/
abbrev colV (L : Bool) (a b : Int) : Value := .agg #[.bool L, .int .i64 a, .int .i64 b]
/-- A column in memory. -/
def ColAt (w : World) (g : Nat) (L : Bool) (a b : Int) : Prop := w.cell? ⟨g, 0, none⟩ = some (.bool L) ∧ w.cell? ⟨g, 1, none⟩ = some (.int .i64 a) ∧ w.cell? ⟨g, 2, none⟩ = some (.int .i64 b)
theorem ColAt.below {w w' : World} {B g : Nat} {L : Bool} {a b : Int} (h : ColAt w g L a b) (hb : Below B w w') (hB : g < B) : ColAt w' g L a b :=
  ⟨(hb.cell (p := ⟨g, 0, none⟩) hB).trans h.1, (hb.cell (p := ⟨g, 1, none⟩) hB).trans h.2.1, (hb.cell (p := ⟨g, 2, none⟩) hB).trans h.2.2⟩
theorem ColAt.box (w : World) (L : Bool) (a b : Int) (t : TypeId) : ColAt (w.alloc (.cells #[.bool L, .int .i64 a, .int .i64 b] t)) w.heap.size L a b := by
  refine ⟨?_, ?_, ?_⟩ <;> (rw [World.cell?_alloc_new]; rfl)

theorem colB_lim {L : Bool} {a b : Int} (h : limB a b = false) : colB L a b = false := by
  rw [← Bool.not_eq_true, colB_iff]
  intro k
  rw [(limB_iff a b).2 (by omega)] at h
  cases h
theorem colB_emp {L : Bool} {a b : Int} (h : b < a) : colB L a b = false := by
  rw [← Bool.not_eq_true, colB_iff]
  omega
theorem colB_num {a b : Int} (h : limB a b = true) (h2 : ¬ b < a) : colB false a b = true := by
  have := (limB_iff a b).1 h
  exact (colB_iff _ _ _).2 ⟨by omega, by omega, by omega, fun h => by cases h⟩
theorem colB_let {a b : Int} (h : limB a b = true) (h2 : ¬ b < a) : colB true a b = (decide (a = 0) && decide (b ≤ 25)) := by
  have := (limB_iff a b).1 h
  rw [Bool.eq_iff_iff, colB_iff, Bool.and_eq_true, decide_eq_true_eq, decide_eq_true_eq]
  exact ⟨fun k => k.2.2.2 rfl, fun k => ⟨by omega, by omega, by omega, fun _ => k⟩⟩

/-- A slice that is a set of the values of a column. -/
theorem colS_len (L : Bool) (a b : Int) : (colS L a b).length ≤ 1 := by
  unfold colS; split <;> simp
theorem colB_small {L : Bool} {a b : Int} (h : colB L a b = true) : -99 ≤ a ∧ a ≤ 99 ∧ -99 ≤ b ∧ b ≤ 99 := by
  have := (colB_iff _ _ _).1 h; omega

theorem fits_one {a b : Int} (ha : I64 a) (hb : I64 b) : Fits [(a, b)] := fun x hx => by rw [List.mem_singleton.1 hx]; exact ⟨ha, hb⟩
theorem ret_bool {x y : Bool} (h : x = y) : Ending.returned (.bool x) = .returned (.bool y) := by rw [h]

end Go.Proofs.YtppciomdbabepaaDoor
