/-
  Contract of the program's own check of a set.
-/
import Derived.Test.YtppciomdbabepaaDoorRd
namespace Go.Proofs.YtppciomdbabepaaDoor
open Go.RowKit Sets

def isNumB (n : Int) : Bool := decide (-99 ≤ n) && decide (n ≤ 99)

def limB (lo hi : Int) : Bool := isNumB lo && isNumB hi
theorem limB_iff (lo hi : Int) : limB lo hi = true ↔ (-99 ≤ lo ∧ lo ≤ 99) ∧ -99 ≤ hi ∧ hi ≤ 99 := by simp [limB, isNumB]

theorem below3 {B : Nat} {w a : World} (h : Below B w a) (hB : B ≤ a.heap.size) (o1 o2 o3 : Obj) : Below B w (((a.alloc o1).alloc o2).alloc o3) :=
  ((h.alloc hB _).alloc (by simp; omega) _).alloc (by simp; omega) _
theorem below2 {B : Nat} {w a : World} (h : Below B w a) (hB : B ≤ a.heap.size) (o1 o2 : Obj) : Below B w ((a.alloc o1).alloc o2) :=
  (h.alloc hB _).alloc (by simp; omega) _

end Go.Proofs.YtppciomdbabepaaDoor
