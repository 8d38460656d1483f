/-
  The walk of the exact law FnExactSetFirst.
-/
import Derived.Test.YtcjoidoodggfkabLw
namespace Go.Proofs.Ytcjoidoodggfkab
open Go.RowKit Sets

set_option maxHeartbeats 1000000 in
theorem exactFirst_walk (A0 : Option Addr) (c0 : Nat) (xs0 : List Sp) (w : World) (h0 : Reads w w.heap.size A0 c0 xs0) :
    Calls Try.prog 12 #[.slice A0 xs0.length c0] w fun e w' => e = .returned (.bool true) ∧ Below w.heap.size w w' := by
  have hc0 := h0.2.1
  have hl0 := h0.1
  have hf0 := h0.2.2.1
  have H0_0 := Lib.hid h0
  clear h0
  by_cases hn0 : xs0.length ≤ 1048576
  rotate_left
  · have hfail := hn0
    have hsz0 : Hid ((if (1048576 : Int) < xs0.length then (-1 : Int) else (1048576 : Int) - xs0.length) = -1) := Lib.hid (if_pos (by omega))
    go_enter Try.func12, Try.ntmps12
    go_wp2_with fail
    refine (szSpanS_any _ _ _ _ _ (by omega) (by omega) (by omega)).mono ?_
    rw [hsz0.out]
    rintro e ws0 ⟨rfl, rfl⟩
    go_wp2
    go_ret
    exact ⟨rfl, Below.refl _ _⟩
  have hsz0 : Hid ((if (1048576 : Int) < xs0.length then (-1 : Int) else (1048576 : Int) - xs0.length) = (1048576 : Int) - xs0.length) := Lib.hid (if_neg (by omega))
  have hsn0 : 0 ≤ (1048576 : Int) - xs0.length := by omega
  have hb0 : xs0.length ≤ 1048576 := by omega
  go_enter Try.func12, Try.ntmps12
  go_wp2_with fail
  refine (szSpanS_any _ _ _ _ _ (by omega) (by omega) (by omega)).mono ?_
  rw [hsz0.out]
  rintro e ws0 ⟨rfl, rfl⟩
  have B0 : Below w.heap.size w w := Below.refl _ _
  go_wp2_with fail
  refine (toSpanS_any _ _ xs0 _ H0_0.out hb0).mono ?_
  rintro e w1 ⟨rfl, r1, o1, b1⟩
  have B1 : Below w.heap.size w w1 := B0.trans (b1.mono B0.size)
  have H0_1 := Lib.hid (H0_0.out.step b1)
  have S0_1 := Lib.hid (Reads.of_own r1 o1 hf0 hb0)
  go_wp2_with fail
  refine (toBelow (specFirst_any _ _ xs0 _ _ S0_1.out)).mono ?_
  rintro e w2 ⟨rfl, b2⟩
  have B2 : Below w.heap.size w w2 := B1.trans (b2.mono B1.size)
  have H0_2 := Lib.hid (H0_1.out.step b2)
  have S0_2 := Lib.hid (S0_1.out.step b2)
  go_wp2_with fail
  refine (toSpanS_any _ _ xs0 _ H0_2.out hb0).mono ?_
  rintro e w3 ⟨rfl, r3, o3, b3⟩
  have B3 : Below w.heap.size w w3 := B2.trans (b3.mono B2.size)
  have H0_3 := Lib.hid (H0_2.out.step b3)
  have X0_3 := Lib.hid (Reads.of_own r3 o3 hf0 hb0)
  go_wp2_with fail
  refine (implFirst_any _ _ xs0 _ X0_3.out).mono ?_
  rintro e w4 ⟨rfl, b4⟩
  have B4 : Below w.heap.size w w4 := B3.trans (b4.mono B3.size)
  have H0_4 := Lib.hid (H0_3.out.step b4)
  have X0_4 := Lib.hid (X0_3.out.step b4)
  have heq0 : (firstV xs0 != firstV xs0) = false := by simp
  have heq1 : (firstB xs0 != firstB xs0) = false := by simp
  go_wp2_with fail
  refine (toSpanS_any _ _ xs0 _ H0_4.out hb0).mono ?_
  rintro e w5 ⟨rfl, r5, o5, b5⟩
  have B5 : Below w.heap.size w w5 := B4.trans (b5.mono B4.size)
  have H0_5 := Lib.hid (H0_4.out.step b5)
  have X0_5 := Lib.hid (X0_4.out.step b5)
  have Y0_5 := Lib.hid (Reads.of_own r5 o5 hf0 hb0)
  go_wp2_with fail
  refine (eqSpanS_any _ _ _ _ xs0 xs0 _ X0_5.out Y0_5.out).mono ?_
  rw [(same_iff xs0 xs0).2 rfl]
  rintro e w6 ⟨rfl, b6⟩
  have B6 : Below w.heap.size w w6 := B5.trans (b6.mono B5.size)
  have H0_6 := Lib.hid (H0_5.out.step b6)
  go_wp2
  go_ret
  exact ⟨rfl, B6⟩
end Go.Proofs.Ytcjoidoodggfkab
