/-
  The walk of the law that comparisons divide columns.
-/
import Derived.Test.YthkjcljhfjaabaaGreatDoorDfM
import Derived.Test.YthkjcljhfjaabaaGreatDoorKi
import Derived.Test.YthkjcljhfjaabaaGreatDoorKmM
import Derived.Test.YthkjcljhfjaabaaGreatDoorTn
import Derived.Test.YthkjcljhfjaabaaGreatDoorTeM
import Derived.Test.YthkjcljhfjaabaaGreatDoorIm
import Derived.Test.YthkjcljhfjaabaaGreatDoorSuM
namespace Go.Proofs.YthkjcljhfjaabaaGreatDoor
open Go.RowKit Go.Sort Sets

theorem below_of_drew {w w' : World} {n : Nat} (h : w' = w.drewN n) : Below w.heap.size w w' := by rw [h]; exact below_drewN (Below.refl _ _) n
set_option maxRecDepth 100000 in
set_option maxHeartbeats 8000000 in
theorem testBounds_walk (A : Option Addr) (n c : Nat) (z : Nat → Int) (w : World) (h : Bytes w A n c z) (hL : LibIs w) :
    Calls Tryz.prog 7 #[.slice A n c] w fun e w' => e = .returned (.bool true) ∧ Below w.heap.size w w' := by
  have hnc := h.1
  have hc := h.2.1
  by_cases hn : 1048576 < n
  · have hn1 : (1048576 : Int) < (n : Int) := by omega
    go_enter Tryz.func7, Tryz.ntmps7
    go_wp2
    go_ret
    exact ⟨rfl, Below.refl _ _⟩
  have hn1 : decide ((1048576 : Int) < (n : Int)) = false := decide_eq_false (by omega)
  have P0 := Lib.hid hL
  clear hL
  go_enter Tryz.func7, Tryz.ntmps7
  go_wp2_with fail
  refine (drawFV_any A n c z w h).mono ?_
  rintro e w1 ⟨L, a, b, m, rfl, a1, a2, b1, b2, m1, m2, bl1⟩
  have bx1 : Below w1.heap.size w1 (w1.alloc (.cells #[.bool L, .int .i64 a, .int .i64 b] 27)) := (Below.refl _ _).alloc (Nat.le_refl _) _
  have P_1 := Lib.hid ((P0.out.step bl1).step bx1)
  have B_1 := Lib.hid (bl1.trans (bx1.mono bl1.size))
  obtain ⟨C0_1, C1_1, C2_1⟩ := ColAt.box w1 L a b 27
  have zC_1 : Hid (w1.heap.size < (w1.alloc (.cells #[.bool L, .int .i64 a, .int .i64 b] 27)).heap.size) := Lib.hid (by simp)
  clear bx1 bl1
  have fi := fun w hp => implFV_any L a b m w hp
  have fs := fun w => specFV_any L a b m w
  obtain ⟨s, hse⟩ : ∃ s : ByteArray, s = ⟨(fV L a b m).toArray⟩ := ⟨_, rfl⟩
  have e1 : s.data.toList = fV L a b m := by rw [hse]
  simp only [strV, ← hse] at fi fs
  have hq : (s.toList != s.toList) = false := by simp
  have FI := Lib.hid fi
  have FS := Lib.hid fs
  clear fi fs hse
  cases hi : inB L a b m
  · have hs0 : s.data.toList = [] := by rw [e1, fV_no hi]
    have hq1 : s.toList = [] := by rw [Lib.toList_data, hs0]
    have hq2 : s.toList.isEmpty = true := by rw [hq1]; rfl
    clear hs0 e1 hi
    go_wp2_with fail
    refine (FI.out _ P_1.out.1).mono ?_
    rintro e w2 ⟨rfl, b2⟩
    obtain ⟨C0_2, C1_2, C2_2⟩ := ColAt.below (g := w1.heap.size) ⟨C0_1, C1_1, C2_1⟩ b2 zC_1.out
    have zC_2 := Lib.hid (Nat.lt_of_lt_of_le zC_1.out b2.size)
    clear C0_1 C1_1 C2_1
    have P_2 := Lib.hid (P_1.out.step b2)
    have B_2 := Lib.hid (B_1.out.trans (b2.mono B_1.out.size))
    clear b2
    go_wp2_with fail
    refine (FS.out _).mono ?_
    rintro e w3 ⟨rfl, b3⟩
    obtain ⟨C0_3, C1_3, C2_3⟩ := ColAt.below (g := w1.heap.size) ⟨C0_2, C1_2, C2_2⟩ b3 zC_2.out
    have zC_3 := Lib.hid (Nat.lt_of_lt_of_le zC_2.out b3.size)
    clear C0_2 C1_2 C2_2
    have P_3 := Lib.hid (P_2.out.step b3)
    have B_3 := Lib.hid (B_2.out.trans (b3.mono B_2.out.size))
    clear b3
    go_wp2_with fail
    refine (FS.out _).mono ?_
    rintro e w4 ⟨rfl, b4⟩
    obtain ⟨C0_4, C1_4, C2_4⟩ := ColAt.below (g := w1.heap.size) ⟨C0_3, C1_3, C2_3⟩ b4 zC_3.out
    have zC_4 := Lib.hid (Nat.lt_of_lt_of_le zC_3.out b4.size)
    clear C0_3 C1_3 C2_3
    have P_4 := Lib.hid (P_3.out.step b4)
    have B_4 := Lib.hid (B_3.out.trans (b4.mono B_3.out.size))
    clear b4
    go_wp2
    go_ret
    exact ⟨rfl, B_4.out⟩
  · have hs1 : s.data.toList = vT L m := by rw [e1, fV_yes hi]
    have hq1 : ¬ s.toList = [] := by rw [Lib.toList_data, hs1]; exact (vT_bytes hi).1
    have hq2 : s.toList.isEmpty = false := by simpa using hq1
    have hs3 : s.size ≤ 3 := by rw [Lib.size_eq, hs1]; exact (vT_bytes hi).2.2.1
    obtain ⟨l1, l2⟩ := less_test hi
    obtain ⟨r1, r2⟩ := from_test hi
    obtain ⟨⟨u1, u2⟩, u3, u4, u5⟩ := bounds_law hi
    obtain ⟨sa, hsa⟩ : ∃ sa : ByteArray, sa = ⟨#[60]⟩ ++ s := ⟨_, rfl⟩
    obtain ⟨sb, hsb⟩ : ∃ sb : ByteArray, sb = ⟨#[62, 61]⟩ ++ s := ⟨_, rfl⟩
    have ea : sa.data.toList = 60 :: vT L m := by rw [hsa, ByteArray.data_append, Array.toList_append, hs1]; rfl
    have eb : sb.data.toList = 62 :: 61 :: vT L m := by rw [hsb, ByteArray.data_append, Array.toList_append, hs1]; rfl
    have za : sa.size ≤ 1048600 := by rw [hsa, ByteArray.size_append]; have : (⟨#[60]⟩ : ByteArray).size = 1 := rfl; omega
    have zb : sb.size ≤ 1048600 := by rw [hsb, ByteArray.size_append]; have : (⟨#[62, 61]⟩ : ByteArray).size = 2 := rfl; omega
    have n1 : ¬ 9223372036854775807 < 1 + s.size := by omega
    have n2 : ¬ 9223372036854775807 < 2 + s.size := by omega
    have pa := fun w hL => implPT_any L a b sa za w hL
    have pb := fun w hL => implPT_any L a b sb zb w hL
    rw [ea, l1, l2] at pa
    rw [eb, r1, r2] at pb
    have hsame : sameB (colS L a b) (colS L a b) = true := (same_iff _ _).2 rfl
    generalize (if a ≤ m - 1 then [(a, m - 1)] else []) = xs at pa u1 u2 u3 u5
    rw [hsa] at pa
    rw [hsb] at pb
    have PA := Lib.hid pa
    have PB := Lib.hid pb
    have U1 := Lib.hid u1
    have U2 := Lib.hid u2
    have U3 := Lib.hid u3
    have U4 := Lib.hid u4
    have U5 := Lib.hid u5
    have HSM := Lib.hid hsame
    clear pa pb u1 u2 u3 u4 u5 hsame l1 l2 r1 r2 ea eb za zb hsa hsb hs1 e1 hi
    go_wp2_with fail
    refine (FI.out _ P_1.out.1).mono ?_
    rintro e w2 ⟨rfl, b2⟩
    obtain ⟨C0_2, C1_2, C2_2⟩ := ColAt.below (g := w1.heap.size) ⟨C0_1, C1_1, C2_1⟩ b2 zC_1.out
    have zC_2 := Lib.hid (Nat.lt_of_lt_of_le zC_1.out b2.size)
    clear C0_1 C1_1 C2_1
    have P_2 := Lib.hid (P_1.out.step b2)
    have B_2 := Lib.hid (B_1.out.trans (b2.mono B_1.out.size))
    clear b2
    go_wp2_with fail
    refine (FS.out _).mono ?_
    rintro e w3 ⟨rfl, b3⟩
    obtain ⟨C0_3, C1_3, C2_3⟩ := ColAt.below (g := w1.heap.size) ⟨C0_2, C1_2, C2_2⟩ b3 zC_2.out
    have zC_3 := Lib.hid (Nat.lt_of_lt_of_le zC_2.out b3.size)
    clear C0_2 C1_2 C2_2
    have P_3 := Lib.hid (P_2.out.step b3)
    have B_3 := Lib.hid (B_2.out.trans (b3.mono B_2.out.size))
    clear b3
    go_wp2_with fail
    refine (PA.out _ P_3.out).mono ?_
    rintro e w4 ⟨v4, rfl, o4, f4, b4⟩
    obtain ⟨AX, cX, hv4, r4, zaX⟩ := o4.form0 f4
    subst hv4
    obtain ⟨C0_4, C1_4, C2_4⟩ := ColAt.below (g := w1.heap.size) ⟨C0_3, C1_3, C2_3⟩ b4 zC_3.out
    have zC_4 := Lib.hid (Nat.lt_of_lt_of_le zC_3.out b4.size)
    clear C0_3 C1_3 C2_3
    have P_4 := Lib.hid (P_3.out.step b4)
    have B_4 := Lib.hid (B_3.out.trans (b4.mono B_3.out.size))
    clear b4
    have SX_4 := Lib.hid r4
    have ZX := Lib.hid zaX
    clear o4 r4 zaX
    go_wp2_with fail
    refine (PB.out _ P_4.out).mono ?_
    rintro e w5 ⟨v5, rfl, o5, f5, b5⟩
    obtain ⟨AY, cY, hv5, r5, zaY⟩ := o5.form0 f5
    subst hv5
    obtain ⟨C0_5, C1_5, C2_5⟩ := ColAt.below (g := w1.heap.size) ⟨C0_4, C1_4, C2_4⟩ b5 zC_4.out
    have zC_5 := Lib.hid (Nat.lt_of_lt_of_le zC_4.out b5.size)
    clear C0_4 C1_4 C2_4
    have P_5 := Lib.hid (P_4.out.step b5)
    have B_5 := Lib.hid (B_4.out.trans (b5.mono B_4.out.size))
    have SX_5 := Lib.hid (SX_4.out.step b5)
    clear b5
    have SY_5 := Lib.hid r5
    have ZY := Lib.hid zaY
    clear o5 r5 zaY
    go_wp2_with fail
    refine (implUnion_any _ _ _ _ xs [(m, b)] _ SX_5.out SY_5.out ZX.out ZY.out).mono ?_
    unfold OwnRes2
    rw [U1.out, U2.out]
    rintro e w6 ⟨v6, rfl, o6, f6, b6⟩
    obtain ⟨AU, cU, hv6, r6, zaU⟩ := o6.form0 f6
    subst hv6
    obtain ⟨C0_6, C1_6, C2_6⟩ := ColAt.below (g := w1.heap.size) ⟨C0_5, C1_5, C2_5⟩ b6 zC_5.out
    have zC_6 := Lib.hid (Nat.lt_of_lt_of_le zC_5.out b6.size)
    clear C0_5 C1_5 C2_5
    have P_6 := Lib.hid (P_5.out.step b6)
    have B_6 := Lib.hid (B_5.out.trans (b6.mono B_5.out.size))
    have SX_6 := Lib.hid (SX_5.out.step b6)
    have SY_6 := Lib.hid (SY_5.out.step b6)
    clear b6
    have SU_6 := Lib.hid r6
    have ZU := Lib.hid zaU
    clear o6 r6 zaU
    go_wp2_with fail
    refine (implMeet_any _ _ _ _ xs [(m, b)] _ SX_6.out SY_6.out).mono ?_
    unfold OwnRes
    rw [U3.out]
    rintro e w7 ⟨v7, rfl, o7, f7, b7⟩
    obtain ⟨AM, cM, hv7, r7, zaM⟩ := o7.form0 f7
    subst hv7
    obtain ⟨C0_7, C1_7, C2_7⟩ := ColAt.below (g := w1.heap.size) ⟨C0_6, C1_6, C2_6⟩ b7 zC_6.out
    have zC_7 := Lib.hid (Nat.lt_of_lt_of_le zC_6.out b7.size)
    clear C0_6 C1_6 C2_6
    have P_7 := Lib.hid (P_6.out.step b7)
    have B_7 := Lib.hid (B_6.out.trans (b7.mono B_6.out.size))
    have SX_7 := Lib.hid (SX_6.out.step b7)
    have SY_7 := Lib.hid (SY_6.out.step b7)
    have SU_7 := Lib.hid (SU_6.out.step b7)
    clear b7
    have SM_7 := Lib.hid r7
    have ZM := Lib.hid zaM
    clear o7 r7 zaM
    go_wp2_with fail
    refine (implColSet_any L a b _).mono ?_
    rintro e w8 ⟨v8, rfl, o8, f8, b8⟩
    obtain ⟨AV, cV, hv8, r8, zaV⟩ := o8.form0 f8
    subst hv8
    obtain ⟨C0_8, C1_8, C2_8⟩ := ColAt.below (g := w1.heap.size) ⟨C0_7, C1_7, C2_7⟩ b8 zC_7.out
    have zC_8 := Lib.hid (Nat.lt_of_lt_of_le zC_7.out b8.size)
    clear C0_7 C1_7 C2_7
    have P_8 := Lib.hid (P_7.out.step b8)
    have B_8 := Lib.hid (B_7.out.trans (b8.mono B_7.out.size))
    have SX_8 := Lib.hid (SX_7.out.step b8)
    have SY_8 := Lib.hid (SY_7.out.step b8)
    have SU_8 := Lib.hid (SU_7.out.step b8)
    have SM_8 := Lib.hid (SM_7.out.step b8)
    clear b8
    have SV_8 := Lib.hid r8
    have ZV := Lib.hid zaV
    clear o8 r8 zaV
    go_wp2_with fail
    refine (implSame_any _ _ _ _ (colS L a b) (colS L a b) _ _ _ SU_8.out SV_8.out).mono ?_
    rw [HSM.out]
    rintro e w9 ⟨rfl, nd9, hw9⟩
    have b9 := (below_of_drew hw9)
    clear hw9
    obtain ⟨C0_9, C1_9, C2_9⟩ := ColAt.below (g := w1.heap.size) ⟨C0_8, C1_8, C2_8⟩ b9 zC_8.out
    have zC_9 := Lib.hid (Nat.lt_of_lt_of_le zC_8.out b9.size)
    clear C0_8 C1_8 C2_8
    have P_9 := Lib.hid (P_8.out.step b9)
    have B_9 := Lib.hid (B_8.out.trans (b9.mono B_8.out.size))
    have SX_9 := Lib.hid (SX_8.out.step b9)
    have SY_9 := Lib.hid (SY_8.out.step b9)
    have SU_9 := Lib.hid (SU_8.out.step b9)
    have SM_9 := Lib.hid (SM_8.out.step b9)
    have SV_9 := Lib.hid (SV_8.out.step b9)
    clear b9
    go_wp2_with fail
    refine (implHas_any _ _ [(m, b)] m _ SY_9.out).mono ?_
    rw [U4.out]
    rintro e w10 ⟨rfl, b10⟩
    obtain ⟨C0_10, C1_10, C2_10⟩ := ColAt.below (g := w1.heap.size) ⟨C0_9, C1_9, C2_9⟩ b10 zC_9.out
    have zC_10 := Lib.hid (Nat.lt_of_lt_of_le zC_9.out b10.size)
    clear C0_9 C1_9 C2_9
    have P_10 := Lib.hid (P_9.out.step b10)
    have B_10 := Lib.hid (B_9.out.trans (b10.mono B_9.out.size))
    have SX_10 := Lib.hid (SX_9.out.step b10)
    have SY_10 := Lib.hid (SY_9.out.step b10)
    have SU_10 := Lib.hid (SU_9.out.step b10)
    have SM_10 := Lib.hid (SM_9.out.step b10)
    have SV_10 := Lib.hid (SV_9.out.step b10)
    clear b10
    go_wp2_with fail
    refine (implHas_any _ _ xs m _ SX_10.out).mono ?_
    rw [U5.out]
    rintro e w11 ⟨rfl, b11⟩
    obtain ⟨C0_11, C1_11, C2_11⟩ := ColAt.below (g := w1.heap.size) ⟨C0_10, C1_10, C2_10⟩ b11 zC_10.out
    have zC_11 := Lib.hid (Nat.lt_of_lt_of_le zC_10.out b11.size)
    clear C0_10 C1_10 C2_10
    have P_11 := Lib.hid (P_10.out.step b11)
    have B_11 := Lib.hid (B_10.out.trans (b11.mono B_10.out.size))
    have SX_11 := Lib.hid (SX_10.out.step b11)
    have SY_11 := Lib.hid (SY_10.out.step b11)
    have SU_11 := Lib.hid (SU_10.out.step b11)
    have SM_11 := Lib.hid (SM_10.out.step b11)
    have SV_11 := Lib.hid (SV_10.out.step b11)
    clear b11
    go_wp2
    go_ret
    exact ⟨rfl, B_11.out⟩
end Go.Proofs.YthkjcljhfjaabaaGreatDoor
