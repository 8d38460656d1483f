/-
  Contract of the program's own check of a set.
-/
import Derived.Test.YtajjmdnbmicefabRd
namespace Go.Proofs.Ytajjmdnbmicefab
open Go.RowKit Sets

def isNumB (n : Int) : Bool := decide (-99 ≤ n) && decide (n ≤ 99)

theorem isNumber_any (n : Int) (w : World) : Calls Try.prog 17 #[.int .i64 n] w fun e w' => e = .returned (.bool (isNumB n)) ∧ w = w' := by
  unfold isNumB
  go_enter Try.func17, Try.ntmps17
  go_wp2
  all_goals go_ret
  all_goals refine ⟨?_, rfl⟩
  all_goals simp [*]
  all_goals omega

def limB (lo hi : Int) : Bool := isNumB lo && isNumB hi
theorem limB_iff (lo hi : Int) : limB lo hi = true ↔ (-99 ≤ lo ∧ lo ≤ 99) ∧ -99 ≤ hi ∧ hi ≤ 99 := by simp [limB, isNumB]

theorem inLimits_any (lo hi : Int) (w : World) : Calls Try.prog 14 #[.agg #[.int .i64 lo, .int .i64 hi]] w fun e w' => e = .returned (.bool (limB lo hi)) ∧ w.alloc (.cells #[.int .i64 lo, .int .i64 hi] 33) = w' := by
  go_enter Try.func14, Try.ntmps14
  unfold limB
  cases h1 : isNumB lo
  all_goals
    have H := Lib.hid h1
    clear h1
    go_wp2_with (go_at_call 17; refine (isNumber_any _ _).mono ?_; rintro e w' ⟨rfl, rfl⟩; try rw [H.out])
  all_goals go_ret
  all_goals exact ⟨rfl, rfl⟩

theorem empty_any (lo hi : Int) (w : World) : Calls Try.prog 15 #[.agg #[.int .i64 lo, .int .i64 hi]] w fun e w' => e = .returned (.bool (decide (hi < lo))) ∧ w.alloc (.cells #[.int .i64 lo, .int .i64 hi] 33) = w' := by
  go_enter Try.func15, Try.ntmps15
  go_wp2
  go_ret
  exact ⟨rfl, rfl⟩

theorem below3 {B : Nat} {w a : World} (h : Below B w a) (hB : B ≤ a.heap.size) (o1 o2 o3 : Obj) : Below B w (((a.alloc o1).alloc o2).alloc o3) :=
  ((h.alloc hB _).alloc (by simp; omega) _).alloc (by simp; omega) _
theorem below2 {B : Nat} {w a : World} (h : Below B w a) (hB : B ≤ a.heap.size) (o1 o2 : Obj) : Below B w ((a.alloc o1).alloc o2) :=
  (h.alloc hB _).alloc (by simp; omega) _

end Go.Proofs.Ytajjmdnbmicefab
