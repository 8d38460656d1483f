/-
  Contracts of the functions that only read sets: searches, equality, sizes.
-/
import Derived.Test.YthkjcljhfjaabaaDoorRd
import Derived.Test.YthkjcljhfjaabaaDoorIv
import Derived.Test.YthkjcljhfjaabaaDoorEq
namespace Go.Proofs.YthkjcljhfjaabaaDoor
open Go.RowKit Sets

set_option maxRecDepth 100000 in
theorem implHave_any (A : Option Addr) (c : Nat) (xs : List Sp) (n : Int) (w : World) (h : Reads w w.heap.size A c xs) :
    Calls Tryd.prog 29 #[.slice A xs.length c, .int .i64 n] w fun e w' => e = .returned (.bool (haveB xs n)) ∧ Below w.heap.size w w' := by
  obtain ⟨hlc, hc, hfit, hrow⟩ := h
  go_enter Tryd.func29, Tryd.ntmps29
  go_wp2
  go_loopw [9] (fun i wr => ∃ k : Nat, k ≤ xs.length ∧ i = .int .i64 k ∧ (∀ j, j < k → ¬ (lo xs j ≤ n ∧ n ≤ hi xs j)) ∧ Below w.heap.size w wr) (fun i _ => xs.length - (intOf i).toNat)
  case atStart => exact ⟨0, Nat.zero_le _, rfl, fun j hj => absurd hj (by omega), Below.refl _ _⟩
  case round =>
    obtain ⟨k, hk, rfl, hno, hb⟩ := hrel
    by_cases hlt : k < xs.length
    · rcases hrow with rfl | ⟨b, off, rfl, hB, hrow⟩
      · simp at hlt
      · have hkl : (k : Int) < (xs.length : Int) := by omega
        obtain ⟨c1, c2⟩ := (hrow.below hb hB) k hlt
        go_wp2
        all_goals first
          | (go_ret; exact ⟨by rw [have_yes hlt ‹_› ‹_›]; rfl, hb.alloc hb.size _⟩)
          | (go_roundw
             case rel => exact ⟨k + 1, hlt, by go_num, (fun j hj => by
               rcases Nat.lt_or_ge j k with h | h
               · exact hno j h
               · obtain rfl : j = k := by omega
                 omega), hb.alloc hb.size _⟩
             case measure => simp [intOf]; omega)
    · have hv := Lib.hid (have_no (xs := xs) (n := n) fun j hj => hno j (by omega))
      go_wp2
      go_ret
      exact ⟨by rw [hv.out]; rfl, hb⟩

/-- What SetHas answers. -/
def hasB (xs : List Sp) (n : Int) : Bool := validB xs && haveB xs n

set_option maxRecDepth 100000 in
theorem implHas_any (A : Option Addr) (c : Nat) (xs : List Sp) (n : Int) (w : World) (h : Reads w w.heap.size A c xs) :
    Calls Tryd.prog 14 #[.slice A xs.length c, .int .i64 n] w fun e w' => e = .returned (.bool (hasB xs n)) ∧ Below w.heap.size w w' := by
  have H := Lib.hid h
  clear h
  unfold hasB
  go_enter Tryd.func14, Tryd.ntmps14
  cases hv : validB xs
  all_goals
    go_wp2_with (first | (go_at_call 28; refine (implValid_any _ _ _ _ H.out).mono ?_; rintro e w1 ⟨rfl, hb1⟩; have H1 := Lib.hid ((H.out.below hb1).mono hb1.size)) | (go_at_call 29; refine (implHave_any _ _ _ _ _ H1.out).mono ?_; rintro e w2 ⟨rfl, hb2⟩))
    go_ret
    first | exact ⟨rfl, hb1⟩ | exact ⟨rfl, hb1.trans (hb2.mono hb1.size)⟩

end Go.Proofs.YthkjcljhfjaabaaDoor

namespace Go.Proofs.YthkjcljhfjaabaaDoor
open Go.RowKit Sets

end Go.Proofs.YthkjcljhfjaabaaDoor
