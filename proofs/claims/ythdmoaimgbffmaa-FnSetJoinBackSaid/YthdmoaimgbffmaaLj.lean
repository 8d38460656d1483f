/-
  The walk of the law on parts of sets.
-/
import Derived.Test.YthdmoaimgbffmaaDs
import Derived.Test.YthdmoaimgbffmaaPm2
namespace Go.Proofs.Ythdmoaimgbffmaa
open Go.RowKit Sets


set_option maxRecDepth 100000 in
set_option maxHeartbeats 2000000 in
theorem setJoinBack_walk (A : Option Addr) (n c : Nat) (z : Nat → Int) (w : World) (h : Bytes w A n c z) :
    Calls Try.prog 7 #[.slice A n c] w fun e w' => e = .returned (.bool true) ∧ Below w.heap.size w w' := by
  have hnc := h.1
  have hc := h.2.1
  by_cases hn : 1048576 < n
  · have hn' : (1048576 : Int) < (n : Int) := by omega
    go_enter Try.func7, Try.ntmps7
    go_wp2
    go_ret
    exact ⟨rfl, Below.refl _ _⟩
  have hn' : ¬ (1048576 : Int) < (n : Int) := by omega
  go_enter Try.func7, Try.ntmps7
  go_wp2_with fail
  refine (drawMinus_any A n c z w h).mono ?_
  rintro e w1 ⟨v1, v2, xs, ys, rfl, own1, hf1, hl1, own2, hf2, hl2, b1⟩
  obtain ⟨A1, c1, hv1, hr1, hz1⟩ := own1.form0 hf1
  obtain ⟨A2, c2, hv2, hr2, hz2⟩ := own2.form0 hf2
  subst hv1 hv2
  clear own1 own2
  have X1 := Lib.hid hr1
  have Y1 := Lib.hid hr2
  clear hr1 hr2
  have ZX := Lib.hid hz1
  have ZY := Lib.hid hz2
  clear hz1 hz2
  cases hk : minusB xs ys
  · have HK := Lib.hid hk
    clear hk
    have hml := meetV_len xs ys
    go_wp2_with fail
    refine (implMinus_any _ _ _ _ xs ys _ X1.out Y1.out).mono ?_
    unfold OwnRes2
    rw [HK.out]
    rintro e w2 ⟨v2, rfl, own2, hf2, b2⟩
    obtain ⟨A2, c2, hv2, hr2, hz2⟩ := own2.form0 hf2
    subst hv2
    clear own2
    have Z2 := Lib.hid hz2
    clear hz2
    have B2 := b1.trans (b2.mono b1.size)
    have X2 := Lib.hid (X1.out.step b2)
    have Y2 := Lib.hid (Y1.out.step b2)
    have D_2 := Lib.hid hr2
    clear hr2
    go_wp2_with fail
    refine (specMinus_any _ _ _ _ xs ys _ X2.out Y2.out).mono ?_
    unfold OwnRes2
    rw [HK.out]
    rintro e w3 ⟨v3, rfl, own3, hf3, b3⟩
    obtain ⟨A3, c3, hv3, hr3, hz3⟩ := own3.form0 hf3
    subst hv3
    clear own3
    have Z3 := Lib.hid hz3
    clear hz3
    have B3 := B2.trans (b3.mono B2.size)
    have X3 := Lib.hid (X2.out.step b3)
    have Y3 := Lib.hid (Y2.out.step b3)
    have D_3 := Lib.hid (D_2.out.step b3)
    have S_3 := Lib.hid hr3
    clear hr3
    go_wp2_with fail
    refine (implMeet_any _ _ _ _ xs ys _ X3.out Y3.out).mono ?_
    rintro e w4 ⟨v4, rfl, own4, hf4, b4⟩
    obtain ⟨A4, c4, hv4, hr4, hz4⟩ := own4.form0 hf4
    subst hv4
    clear own4
    have Z4 := Lib.hid hz4
    clear hz4
    have B4 := B3.trans (b4.mono B3.size)
    have X4 := Lib.hid (X3.out.step b4)
    have Y4 := Lib.hid (Y3.out.step b4)
    have D_4 := Lib.hid (D_3.out.step b4)
    have S_4 := Lib.hid (S_3.out.step b4)
    have M_4 := Lib.hid hr4
    clear hr4
    go_wp2_with fail
    refine (toBelow (implSame_any _ _ _ _ (minusV xs ys) (minusV xs ys) _ _ _ D_4.out S_4.out)).mono ?_
    rw [sameB_self]
    rintro e w5 ⟨rfl, b5⟩
    have B5 := B4.trans (b5.mono B4.size)
    have X5 := Lib.hid (X4.out.step b5)
    have Y5 := Lib.hid (Y4.out.step b5)
    have D_5 := Lib.hid (D_4.out.step b5)
    have S_5 := Lib.hid (S_4.out.step b5)
    have M_5 := Lib.hid (M_4.out.step b5)
    go_wp2_with fail
    refine (toBelow (implSame_any _ _ _ _ (minusV xs ys) (minusV xs ys) _ _ _ D_5.out S_5.out)).mono ?_
    rw [sameB_self]
    rintro e w6 ⟨rfl, b6⟩
    have B6 := B5.trans (b6.mono B5.size)
    have X6 := Lib.hid (X5.out.step b6)
    have Y6 := Lib.hid (Y5.out.step b6)
    have D_6 := Lib.hid (D_5.out.step b6)
    have S_6 := Lib.hid (S_5.out.step b6)
    have M_6 := Lib.hid (M_5.out.step b6)
    go_wp2
    go_ret
    exact ⟨rfl, B6⟩
  · have HK := Lib.hid hk
    clear hk
    have hml := meetV_len xs ys
    go_wp2_with fail
    refine (implMinus_any _ _ _ _ xs ys _ X1.out Y1.out).mono ?_
    unfold OwnRes2
    rw [HK.out]
    rintro e w2 ⟨v2, rfl, own2, hf2, b2⟩
    obtain ⟨A2, c2, hv2, hr2, hz2⟩ := own2.form0 hf2
    subst hv2
    clear own2
    have Z2 := Lib.hid hz2
    clear hz2
    have B2 := b1.trans (b2.mono b1.size)
    have X2 := Lib.hid (X1.out.step b2)
    have Y2 := Lib.hid (Y1.out.step b2)
    have D_2 := Lib.hid hr2
    clear hr2
    go_wp2_with fail
    refine (specMinus_any _ _ _ _ xs ys _ X2.out Y2.out).mono ?_
    unfold OwnRes2
    rw [HK.out]
    rintro e w3 ⟨v3, rfl, own3, hf3, b3⟩
    obtain ⟨A3, c3, hv3, hr3, hz3⟩ := own3.form0 hf3
    subst hv3
    clear own3
    have Z3 := Lib.hid hz3
    clear hz3
    have B3 := B2.trans (b3.mono B2.size)
    have X3 := Lib.hid (X2.out.step b3)
    have Y3 := Lib.hid (Y2.out.step b3)
    have D_3 := Lib.hid (D_2.out.step b3)
    have S_3 := Lib.hid hr3
    clear hr3
    go_wp2_with fail
    refine (implMeet_any _ _ _ _ xs ys _ X3.out Y3.out).mono ?_
    rintro e w4 ⟨v4, rfl, own4, hf4, b4⟩
    obtain ⟨A4, c4, hv4, hr4, hz4⟩ := own4.form0 hf4
    subst hv4
    clear own4
    have Z4 := Lib.hid hz4
    clear hz4
    have B4 := B3.trans (b4.mono B3.size)
    have X4 := Lib.hid (X3.out.step b4)
    have Y4 := Lib.hid (Y3.out.step b4)
    have D_4 := Lib.hid (D_3.out.step b4)
    have S_4 := Lib.hid (S_3.out.step b4)
    have M_4 := Lib.hid hr4
    clear hr4
    go_wp2_with fail
    refine (toBelow (implSame_any _ _ _ _ (minusV xs ys) (minusV xs ys) _ _ _ D_4.out S_4.out)).mono ?_
    rw [sameB_self]
    rintro e w5 ⟨rfl, b5⟩
    have B5 := B4.trans (b5.mono B4.size)
    have X5 := Lib.hid (X4.out.step b5)
    have Y5 := Lib.hid (Y4.out.step b5)
    have D_5 := Lib.hid (D_4.out.step b5)
    have S_5 := Lib.hid (S_4.out.step b5)
    have M_5 := Lib.hid (M_4.out.step b5)
    by_cases hm : 12 < (meetV xs ys).length
    · have hm' : (12 : Int) < ((meetV xs ys).length : Int) := by omega
      go_wp2_with fail
      refine (toBelow (implSame_any _ _ _ _ (minusV xs ys) (minusV xs ys) _ _ _ D_5.out S_5.out)).mono ?_
      rw [sameB_self]
      rintro e w6 ⟨rfl, b6⟩
      have B6 := B5.trans (b6.mono B5.size)
      have X6 := Lib.hid (X5.out.step b6)
      have Y6 := Lib.hid (Y5.out.step b6)
      have D_6 := Lib.hid (D_5.out.step b6)
      have S_6 := Lib.hid (S_5.out.step b6)
      have M_6 := Lib.hid (M_5.out.step b6)
      go_wp2
      go_ret
      exact ⟨rfl, B6⟩
    · have hm' : ¬ (12 : Int) < ((meetV xs ys).length : Int) := by omega
      have HL := Lib.hid (join_back HK.out (by omega))
      go_wp2_with fail
      refine (implUnion_any _ _ _ _ (minusV xs ys) (meetV xs ys) _ D_5.out M_5.out Z2.out Z4.out).mono ?_
      unfold OwnRes2
      rw [HL.out.1, HL.out.2]
      rintro e w6 ⟨v6, rfl, own6, hf6, b6⟩
      obtain ⟨A6, c6, hv6, hr6, hz6⟩ := own6.form0 hf6
      subst hv6
      clear own6
      have Z6 := Lib.hid hz6
      clear hz6
      have B6 := B5.trans (b6.mono B5.size)
      have X6 := Lib.hid (X5.out.step b6)
      have Y6 := Lib.hid (Y5.out.step b6)
      have D_6 := Lib.hid (D_5.out.step b6)
      have M_6 := Lib.hid (M_5.out.step b6)
      have U_6 := Lib.hid hr6
      clear hr6
      go_wp2_with fail
      refine (toBelow (implSame_any _ _ _ _ xs xs _ _ _ U_6.out X6.out)).mono ?_
      rw [sameB_self]
      rintro e w7 ⟨rfl, b7⟩
      have B7 := B6.trans (b7.mono B6.size)
      have X7 := Lib.hid (X6.out.step b7)
      have Y7 := Lib.hid (Y6.out.step b7)
      have D_7 := Lib.hid (D_6.out.step b7)
      have M_7 := Lib.hid (M_6.out.step b7)
      have U_7 := Lib.hid (U_6.out.step b7)
      go_wp2
      go_ret
      exact ⟨rfl, B7⟩
end Go.Proofs.Ythdmoaimgbffmaa
