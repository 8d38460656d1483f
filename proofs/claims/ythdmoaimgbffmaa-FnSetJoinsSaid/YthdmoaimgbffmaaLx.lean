/-
  The walk of the law on joins of sets.
-/
import Derived.Test.YthdmoaimgbffmaaDs
import Derived.Test.YthdmoaimgbffmaaPq2
namespace Go.Proofs.Ythdmoaimgbffmaa
open Go.RowKit Sets


set_option maxRecDepth 100000 in
set_option maxHeartbeats 4000000 in
theorem setJoins_walk (A : Option Addr) (n c : Nat) (z : Nat → Int) (w : World) (h : Bytes w A n c z) :
    Calls Try.prog 4 #[.slice A n c] w fun e w' => e = .returned (.bool true) ∧ Below w.heap.size w w' := by
  have hnc := h.1
  have hc := h.2.1
  by_cases hn : 1048576 < n
  · have hn' : (1048576 : Int) < (n : Int) := by omega
    go_enter Try.func4, Try.ntmps4
    go_wp2
    go_ret
    exact ⟨rfl, Below.refl _ _⟩
  have hn' : ¬ (1048576 : Int) < (n : Int) := by omega
  go_enter Try.func4, Try.ntmps4
  go_wp2_with fail
  refine (drawUnion_any A n c z w h).mono ?_
  rintro e w1 ⟨v1, v2, xs, ys, rfl, own1, hf1, hl1, own2, hf2, hl2, b1⟩
  obtain ⟨A1, c1, hv1, hr1, hz1⟩ := own1.form0 hf1
  obtain ⟨A2, c2, hv2, hr2, hz2⟩ := own2.form0 hf2
  subst hv1 hv2
  clear own1 own2
  have X1 := Lib.hid hr1
  have Y1 := Lib.hid hr2
  clear hr1 hr2
  have ZX := Lib.hid hz1
  have ZY := Lib.hid hz2
  clear hz1 hz2
  have hml := meetV_len xs ys
  cases hx : unionB xs ys
  · have HX := Lib.hid hx
    clear hx
    cases hy : minusB xs ys
    · have HY := Lib.hid hy
      clear hy
      go_wp2_with fail
      refine (implUnion_any _ _ _ _ xs ys _ X1.out Y1.out ZX.out ZY.out).mono ?_
      unfold OwnRes2
      rw [HX.out]
      rintro e w2 ⟨v2, rfl, own2, hf2, b2⟩
      obtain ⟨A2, c2, hv2, hr2, hz2⟩ := own2.form0 hf2
      subst hv2
      clear own2
      have Z2 := Lib.hid hz2
      clear hz2
      have B2 := b1.trans (b2.mono b1.size)
      have X2 := Lib.hid (X1.out.step b2)
      have Y2 := Lib.hid (Y1.out.step b2)
      have U_2 := Lib.hid hr2
      clear hr2
      go_wp2_with fail
      refine (implMeet_any _ _ _ _ xs ys _ X2.out Y2.out).mono ?_
      rintro e w3 ⟨v3, rfl, own3, hf3, b3⟩
      obtain ⟨A3, c3, hv3, hr3, hz3⟩ := own3.form0 hf3
      subst hv3
      clear own3
      have Z3 := Lib.hid hz3
      clear hz3
      have B3 := B2.trans (b3.mono B2.size)
      have X3 := Lib.hid (X2.out.step b3)
      have Y3 := Lib.hid (Y2.out.step b3)
      have U_3 := Lib.hid (U_2.out.step b3)
      have M_3 := Lib.hid hr3
      clear hr3
      go_wp2_with fail
      refine (implMinus_any _ _ _ _ xs ys _ X3.out Y3.out).mono ?_
      unfold OwnRes2
      rw [HY.out]
      rintro e w4 ⟨v4, rfl, own4, hf4, b4⟩
      obtain ⟨A4, c4, hv4, hr4, hz4⟩ := own4.form0 hf4
      subst hv4
      clear own4
      have Z4 := Lib.hid hz4
      clear hz4
      have B4 := B3.trans (b4.mono B3.size)
      have X4 := Lib.hid (X3.out.step b4)
      have Y4 := Lib.hid (Y3.out.step b4)
      have U_4 := Lib.hid (U_3.out.step b4)
      have M_4 := Lib.hid (M_3.out.step b4)
      have D_4 := Lib.hid hr4
      clear hr4
      go_wp2_with fail
      refine (specUnion_any _ _ _ _ xs ys _ X4.out Y4.out).mono ?_
      unfold OwnRes2
      rw [HX.out]
      rintro e w5 ⟨v5, rfl, own5, hf5, b5⟩
      obtain ⟨A5, c5, hv5, hr5, hz5⟩ := own5.form0 hf5
      subst hv5
      clear own5
      have Z5 := Lib.hid hz5
      clear hz5
      have B5 := B4.trans (b5.mono B4.size)
      have X5 := Lib.hid (X4.out.step b5)
      have Y5 := Lib.hid (Y4.out.step b5)
      have U_5 := Lib.hid (U_4.out.step b5)
      have M_5 := Lib.hid (M_4.out.step b5)
      have D_5 := Lib.hid (D_4.out.step b5)
      have S_5 := Lib.hid hr5
      clear hr5
      go_wp2_with fail
      refine (specMinus_any _ _ _ _ xs ys _ X5.out Y5.out).mono ?_
      unfold OwnRes2
      rw [HY.out]
      rintro e w6 ⟨v6, rfl, own6, hf6, b6⟩
      obtain ⟨A6, c6, hv6, hr6, hz6⟩ := own6.form0 hf6
      subst hv6
      clear own6
      have Z6 := Lib.hid hz6
      clear hz6
      have B6 := B5.trans (b6.mono B5.size)
      have X6 := Lib.hid (X5.out.step b6)
      have Y6 := Lib.hid (Y5.out.step b6)
      have U_6 := Lib.hid (U_5.out.step b6)
      have M_6 := Lib.hid (M_5.out.step b6)
      have D_6 := Lib.hid (D_5.out.step b6)
      have S_6 := Lib.hid (S_5.out.step b6)
      have T_6 := Lib.hid hr6
      clear hr6
      go_wp2_with fail
      refine (toBelow (implSame_any _ _ _ _ (unionV xs ys) (unionV xs ys)  _ _ _ U_6.out S_6.out)).mono ?_
      rw [sameB_self]
      rintro e w7 ⟨rfl, b7⟩
      have B7 := B6.trans (b7.mono B6.size)
      have X7 := Lib.hid (X6.out.step b7)
      have Y7 := Lib.hid (Y6.out.step b7)
      have U_7 := Lib.hid (U_6.out.step b7)
      have M_7 := Lib.hid (M_6.out.step b7)
      have D_7 := Lib.hid (D_6.out.step b7)
      have S_7 := Lib.hid (S_6.out.step b7)
      have T_7 := Lib.hid (T_6.out.step b7)
      go_wp2_with fail
      refine (toBelow (implSame_any _ _ _ _ (minusV xs ys) (minusV xs ys)  _ _ _ D_7.out T_7.out)).mono ?_
      rw [sameB_self]
      rintro e w8 ⟨rfl, b8⟩
      have B8 := B7.trans (b8.mono B7.size)
      have X8 := Lib.hid (X7.out.step b8)
      have Y8 := Lib.hid (Y7.out.step b8)
      have U_8 := Lib.hid (U_7.out.step b8)
      have M_8 := Lib.hid (M_7.out.step b8)
      have D_8 := Lib.hid (D_7.out.step b8)
      have S_8 := Lib.hid (S_7.out.step b8)
      have T_8 := Lib.hid (T_7.out.step b8)
      go_wp2_with fail
      refine (specMeet_any _ _ _ _ xs ys _ X8.out Y8.out).mono ?_
      rintro e w9 ⟨v9, rfl, own9, hf9, b9⟩
      obtain ⟨A9, c9, hv9, hr9, hz9⟩ := own9.form0 hf9
      subst hv9
      clear own9
      have Z9 := Lib.hid hz9
      clear hz9
      have B9 := B8.trans (b9.mono B8.size)
      have X9 := Lib.hid (X8.out.step b9)
      have Y9 := Lib.hid (Y8.out.step b9)
      have U_9 := Lib.hid (U_8.out.step b9)
      have M_9 := Lib.hid (M_8.out.step b9)
      have D_9 := Lib.hid (D_8.out.step b9)
      have S_9 := Lib.hid (S_8.out.step b9)
      have T_9 := Lib.hid (T_8.out.step b9)
      have Q_9 := Lib.hid hr9
      clear hr9
      go_wp2_with fail
      refine (toBelow (implSame_any _ _ _ _ (meetV xs ys) (meetV xs ys)  _ _ _ M_9.out Q_9.out)).mono ?_
      rw [sameB_self]
      rintro e w10 ⟨rfl, b10⟩
      have B10 := B9.trans (b10.mono B9.size)
      have X10 := Lib.hid (X9.out.step b10)
      have Y10 := Lib.hid (Y9.out.step b10)
      have U_10 := Lib.hid (U_9.out.step b10)
      have M_10 := Lib.hid (M_9.out.step b10)
      have D_10 := Lib.hid (D_9.out.step b10)
      have S_10 := Lib.hid (S_9.out.step b10)
      have T_10 := Lib.hid (T_9.out.step b10)
      have Q_10 := Lib.hid (Q_9.out.step b10)
      go_wp2
      refine wp_loop_rounds 1 ?_
      rw [rounds_succ]
      go_wp2
      go_ret
      exact ⟨rfl, B10⟩
    · have HY := Lib.hid hy
      clear hy
      go_wp2_with fail
      refine (implUnion_any _ _ _ _ xs ys _ X1.out Y1.out ZX.out ZY.out).mono ?_
      unfold OwnRes2
      rw [HX.out]
      rintro e w2 ⟨v2, rfl, own2, hf2, b2⟩
      obtain ⟨A2, c2, hv2, hr2, hz2⟩ := own2.form0 hf2
      subst hv2
      clear own2
      have Z2 := Lib.hid hz2
      clear hz2
      have B2 := b1.trans (b2.mono b1.size)
      have X2 := Lib.hid (X1.out.step b2)
      have Y2 := Lib.hid (Y1.out.step b2)
      have U_2 := Lib.hid hr2
      clear hr2
      go_wp2_with fail
      refine (implMeet_any _ _ _ _ xs ys _ X2.out Y2.out).mono ?_
      rintro e w3 ⟨v3, rfl, own3, hf3, b3⟩
      obtain ⟨A3, c3, hv3, hr3, hz3⟩ := own3.form0 hf3
      subst hv3
      clear own3
      have Z3 := Lib.hid hz3
      clear hz3
      have B3 := B2.trans (b3.mono B2.size)
      have X3 := Lib.hid (X2.out.step b3)
      have Y3 := Lib.hid (Y2.out.step b3)
      have U_3 := Lib.hid (U_2.out.step b3)
      have M_3 := Lib.hid hr3
      clear hr3
      go_wp2_with fail
      refine (implMinus_any _ _ _ _ xs ys _ X3.out Y3.out).mono ?_
      unfold OwnRes2
      rw [HY.out]
      rintro e w4 ⟨v4, rfl, own4, hf4, b4⟩
      obtain ⟨A4, c4, hv4, hr4, hz4⟩ := own4.form0 hf4
      subst hv4
      clear own4
      have Z4 := Lib.hid hz4
      clear hz4
      have B4 := B3.trans (b4.mono B3.size)
      have X4 := Lib.hid (X3.out.step b4)
      have Y4 := Lib.hid (Y3.out.step b4)
      have U_4 := Lib.hid (U_3.out.step b4)
      have M_4 := Lib.hid (M_3.out.step b4)
      have D_4 := Lib.hid hr4
      clear hr4
      go_wp2_with fail
      refine (specUnion_any _ _ _ _ xs ys _ X4.out Y4.out).mono ?_
      unfold OwnRes2
      rw [HX.out]
      rintro e w5 ⟨v5, rfl, own5, hf5, b5⟩
      obtain ⟨A5, c5, hv5, hr5, hz5⟩ := own5.form0 hf5
      subst hv5
      clear own5
      have Z5 := Lib.hid hz5
      clear hz5
      have B5 := B4.trans (b5.mono B4.size)
      have X5 := Lib.hid (X4.out.step b5)
      have Y5 := Lib.hid (Y4.out.step b5)
      have U_5 := Lib.hid (U_4.out.step b5)
      have M_5 := Lib.hid (M_4.out.step b5)
      have D_5 := Lib.hid (D_4.out.step b5)
      have S_5 := Lib.hid hr5
      clear hr5
      go_wp2_with fail
      refine (specMinus_any _ _ _ _ xs ys _ X5.out Y5.out).mono ?_
      unfold OwnRes2
      rw [HY.out]
      rintro e w6 ⟨v6, rfl, own6, hf6, b6⟩
      obtain ⟨A6, c6, hv6, hr6, hz6⟩ := own6.form0 hf6
      subst hv6
      clear own6
      have Z6 := Lib.hid hz6
      clear hz6
      have B6 := B5.trans (b6.mono B5.size)
      have X6 := Lib.hid (X5.out.step b6)
      have Y6 := Lib.hid (Y5.out.step b6)
      have U_6 := Lib.hid (U_5.out.step b6)
      have M_6 := Lib.hid (M_5.out.step b6)
      have D_6 := Lib.hid (D_5.out.step b6)
      have S_6 := Lib.hid (S_5.out.step b6)
      have T_6 := Lib.hid hr6
      clear hr6
      go_wp2_with fail
      refine (toBelow (implSame_any _ _ _ _ (unionV xs ys) (unionV xs ys)  _ _ _ U_6.out S_6.out)).mono ?_
      rw [sameB_self]
      rintro e w7 ⟨rfl, b7⟩
      have B7 := B6.trans (b7.mono B6.size)
      have X7 := Lib.hid (X6.out.step b7)
      have Y7 := Lib.hid (Y6.out.step b7)
      have U_7 := Lib.hid (U_6.out.step b7)
      have M_7 := Lib.hid (M_6.out.step b7)
      have D_7 := Lib.hid (D_6.out.step b7)
      have S_7 := Lib.hid (S_6.out.step b7)
      have T_7 := Lib.hid (T_6.out.step b7)
      go_wp2_with fail
      refine (toBelow (implSame_any _ _ _ _ (minusV xs ys) (minusV xs ys)  _ _ _ D_7.out T_7.out)).mono ?_
      rw [sameB_self]
      rintro e w8 ⟨rfl, b8⟩
      have B8 := B7.trans (b8.mono B7.size)
      have X8 := Lib.hid (X7.out.step b8)
      have Y8 := Lib.hid (Y7.out.step b8)
      have U_8 := Lib.hid (U_7.out.step b8)
      have M_8 := Lib.hid (M_7.out.step b8)
      have D_8 := Lib.hid (D_7.out.step b8)
      have S_8 := Lib.hid (S_7.out.step b8)
      have T_8 := Lib.hid (T_7.out.step b8)
      go_wp2_with fail
      refine (specMeet_any _ _ _ _ xs ys _ X8.out Y8.out).mono ?_
      rintro e w9 ⟨v9, rfl, own9, hf9, b9⟩
      obtain ⟨A9, c9, hv9, hr9, hz9⟩ := own9.form0 hf9
      subst hv9
      clear own9
      have Z9 := Lib.hid hz9
      clear hz9
      have B9 := B8.trans (b9.mono B8.size)
      have X9 := Lib.hid (X8.out.step b9)
      have Y9 := Lib.hid (Y8.out.step b9)
      have U_9 := Lib.hid (U_8.out.step b9)
      have M_9 := Lib.hid (M_8.out.step b9)
      have D_9 := Lib.hid (D_8.out.step b9)
      have S_9 := Lib.hid (S_8.out.step b9)
      have T_9 := Lib.hid (T_8.out.step b9)
      have Q_9 := Lib.hid hr9
      clear hr9
      go_wp2_with fail
      refine (toBelow (implSame_any _ _ _ _ (meetV xs ys) (meetV xs ys)  _ _ _ M_9.out Q_9.out)).mono ?_
      rw [sameB_self]
      rintro e w10 ⟨rfl, b10⟩
      have B10 := B9.trans (b10.mono B9.size)
      have X10 := Lib.hid (X9.out.step b10)
      have Y10 := Lib.hid (Y9.out.step b10)
      have U_10 := Lib.hid (U_9.out.step b10)
      have M_10 := Lib.hid (M_9.out.step b10)
      have D_10 := Lib.hid (D_9.out.step b10)
      have S_10 := Lib.hid (S_9.out.step b10)
      have T_10 := Lib.hid (T_9.out.step b10)
      have Q_10 := Lib.hid (Q_9.out.step b10)
      go_wp2
      refine wp_loop_rounds 1 ?_
      rw [rounds_succ]
      go_wp2
      go_ret
      exact ⟨rfl, B10⟩
  · have HX := Lib.hid hx
    clear hx
    cases hy : minusB xs ys
    · have HY := Lib.hid hy
      clear hy
      go_wp2_with fail
      refine (implUnion_any _ _ _ _ xs ys _ X1.out Y1.out ZX.out ZY.out).mono ?_
      unfold OwnRes2
      rw [HX.out]
      rintro e w2 ⟨v2, rfl, own2, hf2, b2⟩
      obtain ⟨A2, c2, hv2, hr2, hz2⟩ := own2.form0 hf2
      subst hv2
      clear own2
      have Z2 := Lib.hid hz2
      clear hz2
      have B2 := b1.trans (b2.mono b1.size)
      have X2 := Lib.hid (X1.out.step b2)
      have Y2 := Lib.hid (Y1.out.step b2)
      have U_2 := Lib.hid hr2
      clear hr2
      go_wp2_with fail
      refine (implMeet_any _ _ _ _ xs ys _ X2.out Y2.out).mono ?_
      rintro e w3 ⟨v3, rfl, own3, hf3, b3⟩
      obtain ⟨A3, c3, hv3, hr3, hz3⟩ := own3.form0 hf3
      subst hv3
      clear own3
      have Z3 := Lib.hid hz3
      clear hz3
      have B3 := B2.trans (b3.mono B2.size)
      have X3 := Lib.hid (X2.out.step b3)
      have Y3 := Lib.hid (Y2.out.step b3)
      have U_3 := Lib.hid (U_2.out.step b3)
      have M_3 := Lib.hid hr3
      clear hr3
      go_wp2_with fail
      refine (implMinus_any _ _ _ _ xs ys _ X3.out Y3.out).mono ?_
      unfold OwnRes2
      rw [HY.out]
      rintro e w4 ⟨v4, rfl, own4, hf4, b4⟩
      obtain ⟨A4, c4, hv4, hr4, hz4⟩ := own4.form0 hf4
      subst hv4
      clear own4
      have Z4 := Lib.hid hz4
      clear hz4
      have B4 := B3.trans (b4.mono B3.size)
      have X4 := Lib.hid (X3.out.step b4)
      have Y4 := Lib.hid (Y3.out.step b4)
      have U_4 := Lib.hid (U_3.out.step b4)
      have M_4 := Lib.hid (M_3.out.step b4)
      have D_4 := Lib.hid hr4
      clear hr4
      go_wp2_with fail
      refine (specUnion_any _ _ _ _ xs ys _ X4.out Y4.out).mono ?_
      unfold OwnRes2
      rw [HX.out]
      rintro e w5 ⟨v5, rfl, own5, hf5, b5⟩
      obtain ⟨A5, c5, hv5, hr5, hz5⟩ := own5.form0 hf5
      subst hv5
      clear own5
      have Z5 := Lib.hid hz5
      clear hz5
      have B5 := B4.trans (b5.mono B4.size)
      have X5 := Lib.hid (X4.out.step b5)
      have Y5 := Lib.hid (Y4.out.step b5)
      have U_5 := Lib.hid (U_4.out.step b5)
      have M_5 := Lib.hid (M_4.out.step b5)
      have D_5 := Lib.hid (D_4.out.step b5)
      have S_5 := Lib.hid hr5
      clear hr5
      go_wp2_with fail
      refine (specMinus_any _ _ _ _ xs ys _ X5.out Y5.out).mono ?_
      unfold OwnRes2
      rw [HY.out]
      rintro e w6 ⟨v6, rfl, own6, hf6, b6⟩
      obtain ⟨A6, c6, hv6, hr6, hz6⟩ := own6.form0 hf6
      subst hv6
      clear own6
      have Z6 := Lib.hid hz6
      clear hz6
      have B6 := B5.trans (b6.mono B5.size)
      have X6 := Lib.hid (X5.out.step b6)
      have Y6 := Lib.hid (Y5.out.step b6)
      have U_6 := Lib.hid (U_5.out.step b6)
      have M_6 := Lib.hid (M_5.out.step b6)
      have D_6 := Lib.hid (D_5.out.step b6)
      have S_6 := Lib.hid (S_5.out.step b6)
      have T_6 := Lib.hid hr6
      clear hr6
      go_wp2_with fail
      refine (toBelow (implSame_any _ _ _ _ (unionV xs ys) (unionV xs ys)  _ _ _ U_6.out S_6.out)).mono ?_
      rw [sameB_self]
      rintro e w7 ⟨rfl, b7⟩
      have B7 := B6.trans (b7.mono B6.size)
      have X7 := Lib.hid (X6.out.step b7)
      have Y7 := Lib.hid (Y6.out.step b7)
      have U_7 := Lib.hid (U_6.out.step b7)
      have M_7 := Lib.hid (M_6.out.step b7)
      have D_7 := Lib.hid (D_6.out.step b7)
      have S_7 := Lib.hid (S_6.out.step b7)
      have T_7 := Lib.hid (T_6.out.step b7)
      go_wp2_with fail
      refine (toBelow (implSame_any _ _ _ _ (minusV xs ys) (minusV xs ys)  _ _ _ D_7.out T_7.out)).mono ?_
      rw [sameB_self]
      rintro e w8 ⟨rfl, b8⟩
      have B8 := B7.trans (b8.mono B7.size)
      have X8 := Lib.hid (X7.out.step b8)
      have Y8 := Lib.hid (Y7.out.step b8)
      have U_8 := Lib.hid (U_7.out.step b8)
      have M_8 := Lib.hid (M_7.out.step b8)
      have D_8 := Lib.hid (D_7.out.step b8)
      have S_8 := Lib.hid (S_7.out.step b8)
      have T_8 := Lib.hid (T_7.out.step b8)
      go_wp2_with fail
      refine (specMeet_any _ _ _ _ xs ys _ X8.out Y8.out).mono ?_
      rintro e w9 ⟨v9, rfl, own9, hf9, b9⟩
      obtain ⟨A9, c9, hv9, hr9, hz9⟩ := own9.form0 hf9
      subst hv9
      clear own9
      have Z9 := Lib.hid hz9
      clear hz9
      have B9 := B8.trans (b9.mono B8.size)
      have X9 := Lib.hid (X8.out.step b9)
      have Y9 := Lib.hid (Y8.out.step b9)
      have U_9 := Lib.hid (U_8.out.step b9)
      have M_9 := Lib.hid (M_8.out.step b9)
      have D_9 := Lib.hid (D_8.out.step b9)
      have S_9 := Lib.hid (S_8.out.step b9)
      have T_9 := Lib.hid (T_8.out.step b9)
      have Q_9 := Lib.hid hr9
      clear hr9
      go_wp2_with fail
      refine (toBelow (implSame_any _ _ _ _ (meetV xs ys) (meetV xs ys)  _ _ _ M_9.out Q_9.out)).mono ?_
      rw [sameB_self]
      rintro e w10 ⟨rfl, b10⟩
      have B10 := B9.trans (b10.mono B9.size)
      have X10 := Lib.hid (X9.out.step b10)
      have Y10 := Lib.hid (Y9.out.step b10)
      have U_10 := Lib.hid (U_9.out.step b10)
      have M_10 := Lib.hid (M_9.out.step b10)
      have D_10 := Lib.hid (D_9.out.step b10)
      have S_10 := Lib.hid (S_9.out.step b10)
      have T_10 := Lib.hid (T_9.out.step b10)
      have Q_10 := Lib.hid (Q_9.out.step b10)
      go_wp2
      refine wp_loop_rounds 1 ?_
      rw [rounds_succ]
      go_wp2
      go_ret
      exact ⟨rfl, B10⟩
    · have HY := Lib.hid hy
      clear hy
      go_wp2_with fail
      refine (implUnion_any _ _ _ _ xs ys _ X1.out Y1.out ZX.out ZY.out).mono ?_
      unfold OwnRes2
      rw [HX.out]
      rintro e w2 ⟨v2, rfl, own2, hf2, b2⟩
      obtain ⟨A2, c2, hv2, hr2, hz2⟩ := own2.form0 hf2
      subst hv2
      clear own2
      have Z2 := Lib.hid hz2
      clear hz2
      have B2 := b1.trans (b2.mono b1.size)
      have X2 := Lib.hid (X1.out.step b2)
      have Y2 := Lib.hid (Y1.out.step b2)
      have U_2 := Lib.hid hr2
      clear hr2
      go_wp2_with fail
      refine (implMeet_any _ _ _ _ xs ys _ X2.out Y2.out).mono ?_
      rintro e w3 ⟨v3, rfl, own3, hf3, b3⟩
      obtain ⟨A3, c3, hv3, hr3, hz3⟩ := own3.form0 hf3
      subst hv3
      clear own3
      have Z3 := Lib.hid hz3
      clear hz3
      have B3 := B2.trans (b3.mono B2.size)
      have X3 := Lib.hid (X2.out.step b3)
      have Y3 := Lib.hid (Y2.out.step b3)
      have U_3 := Lib.hid (U_2.out.step b3)
      have M_3 := Lib.hid hr3
      clear hr3
      go_wp2_with fail
      refine (implMinus_any _ _ _ _ xs ys _ X3.out Y3.out).mono ?_
      unfold OwnRes2
      rw [HY.out]
      rintro e w4 ⟨v4, rfl, own4, hf4, b4⟩
      obtain ⟨A4, c4, hv4, hr4, hz4⟩ := own4.form0 hf4
      subst hv4
      clear own4
      have Z4 := Lib.hid hz4
      clear hz4
      have B4 := B3.trans (b4.mono B3.size)
      have X4 := Lib.hid (X3.out.step b4)
      have Y4 := Lib.hid (Y3.out.step b4)
      have U_4 := Lib.hid (U_3.out.step b4)
      have M_4 := Lib.hid (M_3.out.step b4)
      have D_4 := Lib.hid hr4
      clear hr4
      go_wp2_with fail
      refine (specUnion_any _ _ _ _ xs ys _ X4.out Y4.out).mono ?_
      unfold OwnRes2
      rw [HX.out]
      rintro e w5 ⟨v5, rfl, own5, hf5, b5⟩
      obtain ⟨A5, c5, hv5, hr5, hz5⟩ := own5.form0 hf5
      subst hv5
      clear own5
      have Z5 := Lib.hid hz5
      clear hz5
      have B5 := B4.trans (b5.mono B4.size)
      have X5 := Lib.hid (X4.out.step b5)
      have Y5 := Lib.hid (Y4.out.step b5)
      have U_5 := Lib.hid (U_4.out.step b5)
      have M_5 := Lib.hid (M_4.out.step b5)
      have D_5 := Lib.hid (D_4.out.step b5)
      have S_5 := Lib.hid hr5
      clear hr5
      go_wp2_with fail
      refine (specMinus_any _ _ _ _ xs ys _ X5.out Y5.out).mono ?_
      unfold OwnRes2
      rw [HY.out]
      rintro e w6 ⟨v6, rfl, own6, hf6, b6⟩
      obtain ⟨A6, c6, hv6, hr6, hz6⟩ := own6.form0 hf6
      subst hv6
      clear own6
      have Z6 := Lib.hid hz6
      clear hz6
      have B6 := B5.trans (b6.mono B5.size)
      have X6 := Lib.hid (X5.out.step b6)
      have Y6 := Lib.hid (Y5.out.step b6)
      have U_6 := Lib.hid (U_5.out.step b6)
      have M_6 := Lib.hid (M_5.out.step b6)
      have D_6 := Lib.hid (D_5.out.step b6)
      have S_6 := Lib.hid (S_5.out.step b6)
      have T_6 := Lib.hid hr6
      clear hr6
      go_wp2_with fail
      refine (toBelow (implSame_any _ _ _ _ (unionV xs ys) (unionV xs ys)  _ _ _ U_6.out S_6.out)).mono ?_
      rw [sameB_self]
      rintro e w7 ⟨rfl, b7⟩
      have B7 := B6.trans (b7.mono B6.size)
      have X7 := Lib.hid (X6.out.step b7)
      have Y7 := Lib.hid (Y6.out.step b7)
      have U_7 := Lib.hid (U_6.out.step b7)
      have M_7 := Lib.hid (M_6.out.step b7)
      have D_7 := Lib.hid (D_6.out.step b7)
      have S_7 := Lib.hid (S_6.out.step b7)
      have T_7 := Lib.hid (T_6.out.step b7)
      go_wp2_with fail
      refine (toBelow (implSame_any _ _ _ _ (minusV xs ys) (minusV xs ys)  _ _ _ D_7.out T_7.out)).mono ?_
      rw [sameB_self]
      rintro e w8 ⟨rfl, b8⟩
      have B8 := B7.trans (b8.mono B7.size)
      have X8 := Lib.hid (X7.out.step b8)
      have Y8 := Lib.hid (Y7.out.step b8)
      have U_8 := Lib.hid (U_7.out.step b8)
      have M_8 := Lib.hid (M_7.out.step b8)
      have D_8 := Lib.hid (D_7.out.step b8)
      have S_8 := Lib.hid (S_7.out.step b8)
      have T_8 := Lib.hid (T_7.out.step b8)
      go_wp2_with fail
      refine (specMeet_any _ _ _ _ xs ys _ X8.out Y8.out).mono ?_
      rintro e w9 ⟨v9, rfl, own9, hf9, b9⟩
      obtain ⟨A9, c9, hv9, hr9, hz9⟩ := own9.form0 hf9
      subst hv9
      clear own9
      have Z9 := Lib.hid hz9
      clear hz9
      have B9 := B8.trans (b9.mono B8.size)
      have X9 := Lib.hid (X8.out.step b9)
      have Y9 := Lib.hid (Y8.out.step b9)
      have U_9 := Lib.hid (U_8.out.step b9)
      have M_9 := Lib.hid (M_8.out.step b9)
      have D_9 := Lib.hid (D_8.out.step b9)
      have S_9 := Lib.hid (S_8.out.step b9)
      have T_9 := Lib.hid (T_8.out.step b9)
      have Q_9 := Lib.hid hr9
      clear hr9
      go_wp2_with fail
      refine (toBelow (implSame_any _ _ _ _ (meetV xs ys) (meetV xs ys)  _ _ _ M_9.out Q_9.out)).mono ?_
      rw [sameB_self]
      rintro e w10 ⟨rfl, b10⟩
      have B10 := B9.trans (b10.mono B9.size)
      have X10 := Lib.hid (X9.out.step b10)
      have Y10 := Lib.hid (Y9.out.step b10)
      have U_10 := Lib.hid (U_9.out.step b10)
      have M_10 := Lib.hid (M_9.out.step b10)
      have D_10 := Lib.hid (D_9.out.step b10)
      have S_10 := Lib.hid (S_9.out.step b10)
      have T_10 := Lib.hid (T_9.out.step b10)
      have Q_10 := Lib.hid (Q_9.out.step b10)
      by_cases hm : 12 < (meetV xs ys).length
      · have hm' : ¬ ((meetV xs ys).length : Int) ≤ 12 := by omega
        go_wp2
        refine wp_loop_rounds 1 ?_
        rw [rounds_succ]
        go_wp2
        go_ret
        exact ⟨rfl, B10⟩
      · have hm' : ((meetV xs ys).length : Int) ≤ 12 := by omega
        have HL := Lib.hid (joins_law HX.out HY.out (by omega))
        go_wp2
        go_loopw [14] (fun nv wr => ∃ nn : Int, -99 ≤ nn ∧ nn ≤ 100 ∧ nv = .int .i64 nn ∧ Below w10.heap.size w10 wr) (fun nv _ => (100 - intOf nv).toNat)
        case atStart => exact ⟨-99, by omega, by omega, rfl, Below.refl _ _⟩
        case round =>
          obtain ⟨nn, hn1, hn2, rfl, hb⟩ := hrel
          by_cases hlt : nn ≤ 99
          · have hl := HL.out nn
            have X010 := Lib.hid (X10.out.step hb)
            have Y010 := Lib.hid (Y10.out.step hb)
            have U_010 := Lib.hid (U_10.out.step hb)
            have M_010 := Lib.hid (M_10.out.step hb)
            have D_010 := Lib.hid (D_10.out.step hb)
            have B0 := B10.trans (hb.mono B10.size)
            have hbb := hb
            cases hp : hasB xs nn
            · have HP := Lib.hid hp
              cases hq : hasB ys nn
              · have HQ := Lib.hid hq
                have H1 : Hid (hasB (unionV xs ys) nn = false) := Lib.hid (by have := hl.1; rw [hp, hq] at this; exact this)
                have H2 : Hid (hasB (meetV xs ys) nn = false) := Lib.hid (by have := hl.2.1; rw [hp, hq] at this; exact this)
                have H3 : Hid (hasB (minusV xs ys) nn = false) := Lib.hid (by have := hl.2.2; rw [hp, hq] at this; exact this)
                clear hl hp hq
                go_wp2_with fail
                refine (implHas_any _ _ xs nn _ X010.out).mono ?_
                rw [HP.out]
                rintro e w11 ⟨rfl, b11⟩
                have B11 := B0.trans (b11.mono B0.size)
                have X011 := Lib.hid (X010.out.step b11)
                have Y011 := Lib.hid (Y010.out.step b11)
                have U_011 := Lib.hid (U_010.out.step b11)
                have M_011 := Lib.hid (M_010.out.step b11)
                have D_011 := Lib.hid (D_010.out.step b11)
                have hbb11 := hbb.trans (b11.mono hbb.size)
                clear hbb
                have hbb := hbb11
                clear hbb11
                go_wp2_with fail
                refine (implHas_any _ _ ys nn _ Y011.out).mono ?_
                rw [HQ.out]
                rintro e w12 ⟨rfl, b12⟩
                have B12 := B11.trans (b12.mono B11.size)
                have X012 := Lib.hid (X011.out.step b12)
                have Y012 := Lib.hid (Y011.out.step b12)
                have U_012 := Lib.hid (U_011.out.step b12)
                have M_012 := Lib.hid (M_011.out.step b12)
                have D_012 := Lib.hid (D_011.out.step b12)
                have hbb12 := hbb.trans (b12.mono hbb.size)
                clear hbb
                have hbb := hbb12
                clear hbb12
                go_wp2_with fail
                refine (implHas_any _ _ (unionV xs ys) nn _ U_012.out).mono ?_
                rw [H1.out]
                rintro e w13 ⟨rfl, b13⟩
                have B13 := B12.trans (b13.mono B12.size)
                have X013 := Lib.hid (X012.out.step b13)
                have Y013 := Lib.hid (Y012.out.step b13)
                have U_013 := Lib.hid (U_012.out.step b13)
                have M_013 := Lib.hid (M_012.out.step b13)
                have D_013 := Lib.hid (D_012.out.step b13)
                have hbb13 := hbb.trans (b13.mono hbb.size)
                clear hbb
                have hbb := hbb13
                clear hbb13
                go_wp2_with fail
                refine (implHas_any _ _ (meetV xs ys) nn _ M_013.out).mono ?_
                rw [H2.out]
                rintro e w14 ⟨rfl, b14⟩
                have B14 := B13.trans (b14.mono B13.size)
                have X014 := Lib.hid (X013.out.step b14)
                have Y014 := Lib.hid (Y013.out.step b14)
                have U_014 := Lib.hid (U_013.out.step b14)
                have M_014 := Lib.hid (M_013.out.step b14)
                have D_014 := Lib.hid (D_013.out.step b14)
                have hbb14 := hbb.trans (b14.mono hbb.size)
                clear hbb
                have hbb := hbb14
                clear hbb14
                go_wp2_with fail
                refine (implHas_any _ _ (minusV xs ys) nn _ D_014.out).mono ?_
                rw [H3.out]
                rintro e w15 ⟨rfl, b15⟩
                have B15 := B14.trans (b15.mono B14.size)
                have X015 := Lib.hid (X014.out.step b15)
                have Y015 := Lib.hid (Y014.out.step b15)
                have U_015 := Lib.hid (U_014.out.step b15)
                have M_015 := Lib.hid (M_014.out.step b15)
                have D_015 := Lib.hid (D_014.out.step b15)
                have hbb15 := hbb.trans (b15.mono hbb.size)
                clear hbb
                have hbb := hbb15
                clear hbb15
                go_wp2
                go_roundw
                case rel => exact ⟨nn + 1, by omega, by omega, by go_num, hbb⟩
                case measure => simp [intOf]; omega
              · have HQ := Lib.hid hq
                have H1 : Hid (hasB (unionV xs ys) nn = true) := Lib.hid (by have := hl.1; rw [hp, hq] at this; exact this)
                have H2 : Hid (hasB (meetV xs ys) nn = false) := Lib.hid (by have := hl.2.1; rw [hp, hq] at this; exact this)
                have H3 : Hid (hasB (minusV xs ys) nn = false) := Lib.hid (by have := hl.2.2; rw [hp, hq] at this; exact this)
                clear hl hp hq
                go_wp2_with fail
                refine (implHas_any _ _ xs nn _ X010.out).mono ?_
                rw [HP.out]
                rintro e w11 ⟨rfl, b11⟩
                have B11 := B0.trans (b11.mono B0.size)
                have X011 := Lib.hid (X010.out.step b11)
                have Y011 := Lib.hid (Y010.out.step b11)
                have U_011 := Lib.hid (U_010.out.step b11)
                have M_011 := Lib.hid (M_010.out.step b11)
                have D_011 := Lib.hid (D_010.out.step b11)
                have hbb11 := hbb.trans (b11.mono hbb.size)
                clear hbb
                have hbb := hbb11
                clear hbb11
                go_wp2_with fail
                refine (implHas_any _ _ ys nn _ Y011.out).mono ?_
                rw [HQ.out]
                rintro e w12 ⟨rfl, b12⟩
                have B12 := B11.trans (b12.mono B11.size)
                have X012 := Lib.hid (X011.out.step b12)
                have Y012 := Lib.hid (Y011.out.step b12)
                have U_012 := Lib.hid (U_011.out.step b12)
                have M_012 := Lib.hid (M_011.out.step b12)
                have D_012 := Lib.hid (D_011.out.step b12)
                have hbb12 := hbb.trans (b12.mono hbb.size)
                clear hbb
                have hbb := hbb12
                clear hbb12
                go_wp2_with fail
                refine (implHas_any _ _ (unionV xs ys) nn _ U_012.out).mono ?_
                rw [H1.out]
                rintro e w13 ⟨rfl, b13⟩
                have B13 := B12.trans (b13.mono B12.size)
                have X013 := Lib.hid (X012.out.step b13)
                have Y013 := Lib.hid (Y012.out.step b13)
                have U_013 := Lib.hid (U_012.out.step b13)
                have M_013 := Lib.hid (M_012.out.step b13)
                have D_013 := Lib.hid (D_012.out.step b13)
                have hbb13 := hbb.trans (b13.mono hbb.size)
                clear hbb
                have hbb := hbb13
                clear hbb13
                go_wp2_with fail
                refine (implHas_any _ _ (meetV xs ys) nn _ M_013.out).mono ?_
                rw [H2.out]
                rintro e w14 ⟨rfl, b14⟩
                have B14 := B13.trans (b14.mono B13.size)
                have X014 := Lib.hid (X013.out.step b14)
                have Y014 := Lib.hid (Y013.out.step b14)
                have U_014 := Lib.hid (U_013.out.step b14)
                have M_014 := Lib.hid (M_013.out.step b14)
                have D_014 := Lib.hid (D_013.out.step b14)
                have hbb14 := hbb.trans (b14.mono hbb.size)
                clear hbb
                have hbb := hbb14
                clear hbb14
                go_wp2_with fail
                refine (implHas_any _ _ (minusV xs ys) nn _ D_014.out).mono ?_
                rw [H3.out]
                rintro e w15 ⟨rfl, b15⟩
                have B15 := B14.trans (b15.mono B14.size)
                have X015 := Lib.hid (X014.out.step b15)
                have Y015 := Lib.hid (Y014.out.step b15)
                have U_015 := Lib.hid (U_014.out.step b15)
                have M_015 := Lib.hid (M_014.out.step b15)
                have D_015 := Lib.hid (D_014.out.step b15)
                have hbb15 := hbb.trans (b15.mono hbb.size)
                clear hbb
                have hbb := hbb15
                clear hbb15
                go_wp2
                go_roundw
                case rel => exact ⟨nn + 1, by omega, by omega, by go_num, hbb⟩
                case measure => simp [intOf]; omega
            · have HP := Lib.hid hp
              cases hq : hasB ys nn
              · have HQ := Lib.hid hq
                have H1 : Hid (hasB (unionV xs ys) nn = true) := Lib.hid (by have := hl.1; rw [hp, hq] at this; exact this)
                have H2 : Hid (hasB (meetV xs ys) nn = false) := Lib.hid (by have := hl.2.1; rw [hp, hq] at this; exact this)
                have H3 : Hid (hasB (minusV xs ys) nn = true) := Lib.hid (by have := hl.2.2; rw [hp, hq] at this; exact this)
                clear hl hp hq
                go_wp2_with fail
                refine (implHas_any _ _ xs nn _ X010.out).mono ?_
                rw [HP.out]
                rintro e w11 ⟨rfl, b11⟩
                have B11 := B0.trans (b11.mono B0.size)
                have X011 := Lib.hid (X010.out.step b11)
                have Y011 := Lib.hid (Y010.out.step b11)
                have U_011 := Lib.hid (U_010.out.step b11)
                have M_011 := Lib.hid (M_010.out.step b11)
                have D_011 := Lib.hid (D_010.out.step b11)
                have hbb11 := hbb.trans (b11.mono hbb.size)
                clear hbb
                have hbb := hbb11
                clear hbb11
                go_wp2_with fail
                refine (implHas_any _ _ ys nn _ Y011.out).mono ?_
                rw [HQ.out]
                rintro e w12 ⟨rfl, b12⟩
                have B12 := B11.trans (b12.mono B11.size)
                have X012 := Lib.hid (X011.out.step b12)
                have Y012 := Lib.hid (Y011.out.step b12)
                have U_012 := Lib.hid (U_011.out.step b12)
                have M_012 := Lib.hid (M_011.out.step b12)
                have D_012 := Lib.hid (D_011.out.step b12)
                have hbb12 := hbb.trans (b12.mono hbb.size)
                clear hbb
                have hbb := hbb12
                clear hbb12
                go_wp2_with fail
                refine (implHas_any _ _ (unionV xs ys) nn _ U_012.out).mono ?_
                rw [H1.out]
                rintro e w13 ⟨rfl, b13⟩
                have B13 := B12.trans (b13.mono B12.size)
                have X013 := Lib.hid (X012.out.step b13)
                have Y013 := Lib.hid (Y012.out.step b13)
                have U_013 := Lib.hid (U_012.out.step b13)
                have M_013 := Lib.hid (M_012.out.step b13)
                have D_013 := Lib.hid (D_012.out.step b13)
                have hbb13 := hbb.trans (b13.mono hbb.size)
                clear hbb
                have hbb := hbb13
                clear hbb13
                go_wp2_with fail
                refine (implHas_any _ _ (meetV xs ys) nn _ M_013.out).mono ?_
                rw [H2.out]
                rintro e w14 ⟨rfl, b14⟩
                have B14 := B13.trans (b14.mono B13.size)
                have X014 := Lib.hid (X013.out.step b14)
                have Y014 := Lib.hid (Y013.out.step b14)
                have U_014 := Lib.hid (U_013.out.step b14)
                have M_014 := Lib.hid (M_013.out.step b14)
                have D_014 := Lib.hid (D_013.out.step b14)
                have hbb14 := hbb.trans (b14.mono hbb.size)
                clear hbb
                have hbb := hbb14
                clear hbb14
                go_wp2_with fail
                refine (implHas_any _ _ (minusV xs ys) nn _ D_014.out).mono ?_
                rw [H3.out]
                rintro e w15 ⟨rfl, b15⟩
                have B15 := B14.trans (b15.mono B14.size)
                have X015 := Lib.hid (X014.out.step b15)
                have Y015 := Lib.hid (Y014.out.step b15)
                have U_015 := Lib.hid (U_014.out.step b15)
                have M_015 := Lib.hid (M_014.out.step b15)
                have D_015 := Lib.hid (D_014.out.step b15)
                have hbb15 := hbb.trans (b15.mono hbb.size)
                clear hbb
                have hbb := hbb15
                clear hbb15
                go_wp2
                go_roundw
                case rel => exact ⟨nn + 1, by omega, by omega, by go_num, hbb⟩
                case measure => simp [intOf]; omega
              · have HQ := Lib.hid hq
                have H1 : Hid (hasB (unionV xs ys) nn = true) := Lib.hid (by have := hl.1; rw [hp, hq] at this; exact this)
                have H2 : Hid (hasB (meetV xs ys) nn = true) := Lib.hid (by have := hl.2.1; rw [hp, hq] at this; exact this)
                have H3 : Hid (hasB (minusV xs ys) nn = false) := Lib.hid (by have := hl.2.2; rw [hp, hq] at this; exact this)
                clear hl hp hq
                go_wp2_with fail
                refine (implHas_any _ _ xs nn _ X010.out).mono ?_
                rw [HP.out]
                rintro e w11 ⟨rfl, b11⟩
                have B11 := B0.trans (b11.mono B0.size)
                have X011 := Lib.hid (X010.out.step b11)
                have Y011 := Lib.hid (Y010.out.step b11)
                have U_011 := Lib.hid (U_010.out.step b11)
                have M_011 := Lib.hid (M_010.out.step b11)
                have D_011 := Lib.hid (D_010.out.step b11)
                have hbb11 := hbb.trans (b11.mono hbb.size)
                clear hbb
                have hbb := hbb11
                clear hbb11
                go_wp2_with fail
                refine (implHas_any _ _ ys nn _ Y011.out).mono ?_
                rw [HQ.out]
                rintro e w12 ⟨rfl, b12⟩
                have B12 := B11.trans (b12.mono B11.size)
                have X012 := Lib.hid (X011.out.step b12)
                have Y012 := Lib.hid (Y011.out.step b12)
                have U_012 := Lib.hid (U_011.out.step b12)
                have M_012 := Lib.hid (M_011.out.step b12)
                have D_012 := Lib.hid (D_011.out.step b12)
                have hbb12 := hbb.trans (b12.mono hbb.size)
                clear hbb
                have hbb := hbb12
                clear hbb12
                go_wp2_with fail
                refine (implHas_any _ _ (unionV xs ys) nn _ U_012.out).mono ?_
                rw [H1.out]
                rintro e w13 ⟨rfl, b13⟩
                have B13 := B12.trans (b13.mono B12.size)
                have X013 := Lib.hid (X012.out.step b13)
                have Y013 := Lib.hid (Y012.out.step b13)
                have U_013 := Lib.hid (U_012.out.step b13)
                have M_013 := Lib.hid (M_012.out.step b13)
                have D_013 := Lib.hid (D_012.out.step b13)
                have hbb13 := hbb.trans (b13.mono hbb.size)
                clear hbb
                have hbb := hbb13
                clear hbb13
                go_wp2_with fail
                refine (implHas_any _ _ (meetV xs ys) nn _ M_013.out).mono ?_
                rw [H2.out]
                rintro e w14 ⟨rfl, b14⟩
                have B14 := B13.trans (b14.mono B13.size)
                have X014 := Lib.hid (X013.out.step b14)
                have Y014 := Lib.hid (Y013.out.step b14)
                have U_014 := Lib.hid (U_013.out.step b14)
                have M_014 := Lib.hid (M_013.out.step b14)
                have D_014 := Lib.hid (D_013.out.step b14)
                have hbb14 := hbb.trans (b14.mono hbb.size)
                clear hbb
                have hbb := hbb14
                clear hbb14
                go_wp2_with fail
                refine (implHas_any _ _ (minusV xs ys) nn _ D_014.out).mono ?_
                rw [H3.out]
                rintro e w15 ⟨rfl, b15⟩
                have B15 := B14.trans (b15.mono B14.size)
                have X015 := Lib.hid (X014.out.step b15)
                have Y015 := Lib.hid (Y014.out.step b15)
                have U_015 := Lib.hid (U_014.out.step b15)
                have M_015 := Lib.hid (M_014.out.step b15)
                have D_015 := Lib.hid (D_014.out.step b15)
                have hbb15 := hbb.trans (b15.mono hbb.size)
                clear hbb
                have hbb := hbb15
                clear hbb15
                go_wp2
                go_roundw
                case rel => exact ⟨nn + 1, by omega, by omega, by go_num, hbb⟩
                case measure => simp [intOf]; omega
          · have h100 : nn = 100 := by omega
            subst h100
            go_wp2
            go_ret
            exact ⟨rfl, B10.trans (hb.mono B10.size)⟩
end Go.Proofs.Ythdmoaimgbffmaa
