/-
  The walk of the exact law FnExactSetWithin.
-/
import Derived.Test.YtcjoidoodggfkabLw
import Derived.Test.YtcjoidoodggfkabRd4
import Derived.Test.YtcjoidoodggfkabIt
namespace Go.Proofs.Ytcjoidoodggfkab
open Go.RowKit Sets

set_option maxHeartbeats 1000000 in
theorem exactWithin_walk (A0 : Option Addr) (c0 : Nat) (xs0 : List Sp) (A1 : Option Addr) (c1 : Nat) (xs1 : List Sp) (w : World) (h0 : Reads w w.heap.size A0 c0 xs0) (h1 : Reads w w.heap.size A1 c1 xs1) :
    Calls Try.prog 9 #[.slice A0 xs0.length c0, .slice A1 xs1.length c1] w fun e w' => e = .returned (.bool true) ∧ Below w.heap.size w w' := by
  have hc0 := h0.2.1
  have hl0 := h0.1
  have hf0 := h0.2.2.1
  have H0_0 := Lib.hid h0
  clear h0
  have hc1 := h1.2.1
  have hl1 := h1.1
  have hf1 := h1.2.2.1
  have H1_0 := Lib.hid h1
  clear h1
  by_cases hn0 : xs0.length ≤ 1048576
  rotate_left
  · have hfail := hn0
    have hsz0 : Hid ((if (1048576 : Int) < xs0.length then (-1 : Int) else (1048576 : Int) - xs0.length) = -1) := Lib.hid (if_pos (by omega))
    go_enter Try.func9, Try.ntmps9
    go_wp2_with fail
    refine (szSpanS_any _ _ _ _ _ (by omega) (by omega) (by omega)).mono ?_
    rw [hsz0.out]
    rintro e ws0 ⟨rfl, rfl⟩
    go_wp2
    go_ret
    exact ⟨rfl, Below.refl _ _⟩
  by_cases hn1 : xs0.length + xs1.length ≤ 1048576
  rotate_left
  · have hfail := hn1
    have hsz0 : Hid ((if (1048576 : Int) < xs0.length then (-1 : Int) else (1048576 : Int) - xs0.length) = (1048576 : Int) - xs0.length) := Lib.hid (if_neg (by omega))
    have hsn0 : 0 ≤ (1048576 : Int) - xs0.length := by omega
    have hsz1 : Hid ((if (1048576 : Int) - xs0.length < xs1.length then (-1 : Int) else (1048576 : Int) - xs0.length - xs1.length) = -1) := Lib.hid (if_pos (by omega))
    go_enter Try.func9, Try.ntmps9
    go_wp2_with fail
    refine (szSpanS_any _ _ _ _ _ (by omega) (by omega) (by omega)).mono ?_
    rw [hsz0.out]
    rintro e ws0 ⟨rfl, rfl⟩
    go_wp2_with fail
    refine (szSpanS_any _ _ _ _ _ (by omega) (by omega) (by omega)).mono ?_
    rw [hsz1.out]
    rintro e ws1 ⟨rfl, rfl⟩
    go_wp2
    go_ret
    exact ⟨rfl, Below.refl _ _⟩
  have hsz0 : Hid ((if (1048576 : Int) < xs0.length then (-1 : Int) else (1048576 : Int) - xs0.length) = (1048576 : Int) - xs0.length) := Lib.hid (if_neg (by omega))
  have hsn0 : 0 ≤ (1048576 : Int) - xs0.length := by omega
  have hsz1 : Hid ((if (1048576 : Int) - xs0.length < xs1.length then (-1 : Int) else (1048576 : Int) - xs0.length - xs1.length) = (1048576 : Int) - xs0.length - xs1.length) := Lib.hid (if_neg (by omega))
  have hsn1 : 0 ≤ (1048576 : Int) - xs0.length - xs1.length := by omega
  have hb0 : xs0.length ≤ 1048576 := by omega
  have hb1 : xs1.length ≤ 1048576 := by omega
  go_enter Try.func9, Try.ntmps9
  go_wp2_with fail
  refine (szSpanS_any _ _ _ _ _ (by omega) (by omega) (by omega)).mono ?_
  rw [hsz0.out]
  rintro e ws0 ⟨rfl, rfl⟩
  go_wp2_with fail
  refine (szSpanS_any _ _ _ _ _ (by omega) (by omega) (by omega)).mono ?_
  rw [hsz1.out]
  rintro e ws1 ⟨rfl, rfl⟩
  have B0 : Below w.heap.size w w := Below.refl _ _
  go_wp2_with fail
  refine (toSpanS_any _ _ xs0 _ H0_0.out hb0).mono ?_
  rintro e w1 ⟨rfl, r1, o1, b1⟩
  have B1 : Below w.heap.size w w1 := B0.trans (b1.mono B0.size)
  have H0_1 := Lib.hid (H0_0.out.step b1)
  have H1_1 := Lib.hid (H1_0.out.step b1)
  have S0_1 := Lib.hid (Reads.of_own r1 o1 hf0 hb0)
  go_wp2_with fail
  refine (toSpanS_any _ _ xs1 _ H1_1.out hb1).mono ?_
  rintro e w2 ⟨rfl, r2, o2, b2⟩
  have B2 : Below w.heap.size w w2 := B1.trans (b2.mono B1.size)
  have H0_2 := Lib.hid (H0_1.out.step b2)
  have H1_2 := Lib.hid (H1_1.out.step b2)
  have S0_2 := Lib.hid (S0_1.out.step b2)
  have S1_2 := Lib.hid (Reads.of_own r2 o2 hf1 hb1)
  go_wp2_with fail
  refine (specWithin_any _ _ _ _ xs0 xs1 _ S0_2.out S1_2.out).mono ?_
  rintro e w3 ⟨rfl, b3⟩
  have B3 : Below w.heap.size w w3 := B2.trans (b3.mono B2.size)
  have H0_3 := Lib.hid (H0_2.out.step b3)
  have H1_3 := Lib.hid (H1_2.out.step b3)
  have S0_3 := Lib.hid (S0_2.out.step b3)
  have S1_3 := Lib.hid (S1_2.out.step b3)
  go_wp2_with fail
  refine (toSpanS_any _ _ xs0 _ H0_3.out hb0).mono ?_
  rintro e w4 ⟨rfl, r4, o4, b4⟩
  have B4 : Below w.heap.size w w4 := B3.trans (b4.mono B3.size)
  have H0_4 := Lib.hid (H0_3.out.step b4)
  have H1_4 := Lib.hid (H1_3.out.step b4)
  have X0_4 := Lib.hid (Reads.of_own r4 o4 hf0 hb0)
  go_wp2_with fail
  refine (toSpanS_any _ _ xs1 _ H1_4.out hb1).mono ?_
  rintro e w5 ⟨rfl, r5, o5, b5⟩
  have B5 : Below w.heap.size w w5 := B4.trans (b5.mono B4.size)
  have H0_5 := Lib.hid (H0_4.out.step b5)
  have H1_5 := Lib.hid (H1_4.out.step b5)
  have X0_5 := Lib.hid (X0_4.out.step b5)
  have X1_5 := Lib.hid (Reads.of_own r5 o5 hf1 hb1)
  go_wp2_with fail
  refine (implWithin_any _ _ _ _ xs0 xs1 _ X0_5.out X1_5.out).mono ?_
  rintro e w6 ⟨rfl, b6⟩
  have B6 : Below w.heap.size w w6 := B5.trans (b6.mono B5.size)
  have H0_6 := Lib.hid (H0_5.out.step b6)
  have H1_6 := Lib.hid (H1_5.out.step b6)
  have X0_6 := Lib.hid (X0_5.out.step b6)
  have X1_6 := Lib.hid (X1_5.out.step b6)
  have heq0 : (withinB xs0 xs1 != withinB xs0 xs1) = false := by simp
  go_wp2_with fail
  refine (toSpanS_any _ _ xs0 _ H0_6.out hb0).mono ?_
  rintro e w7 ⟨rfl, r7, o7, b7⟩
  have B7 : Below w.heap.size w w7 := B6.trans (b7.mono B6.size)
  have H0_7 := Lib.hid (H0_6.out.step b7)
  have H1_7 := Lib.hid (H1_6.out.step b7)
  have X0_7 := Lib.hid (X0_6.out.step b7)
  have X1_7 := Lib.hid (X1_6.out.step b7)
  have Y0_7 := Lib.hid (Reads.of_own r7 o7 hf0 hb0)
  go_wp2_with fail
  refine (eqSpanS_any _ _ _ _ xs0 xs0 _ X0_7.out Y0_7.out).mono ?_
  rw [(same_iff xs0 xs0).2 rfl]
  rintro e w8 ⟨rfl, b8⟩
  have B8 : Below w.heap.size w w8 := B7.trans (b8.mono B7.size)
  have H0_8 := Lib.hid (H0_7.out.step b8)
  have H1_8 := Lib.hid (H1_7.out.step b8)
  have X1_8 := Lib.hid (X1_7.out.step b8)
  go_wp2_with fail
  refine (toSpanS_any _ _ xs1 _ H1_8.out hb1).mono ?_
  rintro e w9 ⟨rfl, r9, o9, b9⟩
  have B9 : Below w.heap.size w w9 := B8.trans (b9.mono B8.size)
  have H0_9 := Lib.hid (H0_8.out.step b9)
  have H1_9 := Lib.hid (H1_8.out.step b9)
  have X1_9 := Lib.hid (X1_8.out.step b9)
  have Y1_9 := Lib.hid (Reads.of_own r9 o9 hf1 hb1)
  go_wp2_with fail
  refine (eqSpanS_any _ _ _ _ xs1 xs1 _ X1_9.out Y1_9.out).mono ?_
  rw [(same_iff xs1 xs1).2 rfl]
  rintro e w10 ⟨rfl, b10⟩
  have B10 : Below w.heap.size w w10 := B9.trans (b10.mono B9.size)
  have H0_10 := Lib.hid (H0_9.out.step b10)
  have H1_10 := Lib.hid (H1_9.out.step b10)
  go_wp2
  go_ret
  exact ⟨rfl, B10⟩
end Go.Proofs.Ytcjoidoodggfkab
