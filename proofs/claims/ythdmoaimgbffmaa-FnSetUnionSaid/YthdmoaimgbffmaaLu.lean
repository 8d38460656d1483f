/-
  The walk of the law on unions of sets.
-/
import Derived.Test.YthdmoaimgbffmaaLs
import Derived.Test.YthdmoaimgbffmaaPm2
namespace Go.Proofs.Ythdmoaimgbffmaa
open Go.RowKit Sets


set_option maxRecDepth 100000 in
set_option maxHeartbeats 2000000 in
theorem setUnion_walk (A : Option Addr) (n c : Nat) (z : Nat → Int) (w : World) (h : Bytes w A n c z) :
    Calls Try.prog 6 #[.slice A n c] w fun e w' => e = .returned (.bool true) ∧ Below w.heap.size w w' := by
  have hnc := h.1
  have hc := h.2.1
  by_cases hn : 1048576 < n
  · have hn' : (1048576 : Int) < (n : Int) := by omega
    go_enter Try.func6, Try.ntmps6
    go_wp2
    go_ret
    exact ⟨rfl, Below.refl _ _⟩
  have hn' : ¬ (1048576 : Int) < (n : Int) := by omega
  go_enter Try.func6, Try.ntmps6
  go_wp2_with fail
  refine (drawUnion_any A n c z w h).mono ?_
  rintro e w1 ⟨v1, v2, xs, ys, rfl, own1, hf1, hl1, own2, hf2, hl2, b1⟩
  obtain ⟨A1, c1, hv1, hr1, hz1⟩ := own1.form0 hf1
  obtain ⟨A2, c2, hv2, hr2, hz2⟩ := own2.form0 hf2
  subst hv1 hv2
  clear own1 own2
  have X1 := Lib.hid hr1
  have Y1 := Lib.hid hr2
  clear hr1 hr2
  have ZX := Lib.hid hz1
  have ZY := Lib.hid hz2
  clear hz1 hz2
  have hcb := Lib.hid (unionB_comm ys xs)
  have hcv := Lib.hid (unionV_comm ys xs)
  cases hk : unionB xs ys
  · have HK := Lib.hid hk
    clear hk
    go_wp2_with fail
    refine (implUnion_any _ _ _ _ xs ys _ X1.out Y1.out ZX.out ZY.out).mono ?_
    unfold OwnRes2
    rw [HK.out]
    rintro e w2 ⟨v2, rfl, own2, hf2, b2⟩
    obtain ⟨A2, c2, hv2, hr2, hz2⟩ := own2.form0 hf2
    subst hv2
    clear own2
    have Z2 := Lib.hid hz2
    clear hz2
    have B2 := b1.trans (b2.mono b1.size)
    have X2 := Lib.hid (X1.out.step b2)
    have Y2 := Lib.hid (Y1.out.step b2)
    have U_2 := Lib.hid hr2
    clear hr2
    go_wp2_with fail
    refine (specUnion_any _ _ _ _ xs ys _ X2.out Y2.out).mono ?_
    unfold OwnRes2
    rw [HK.out]
    rintro e w3 ⟨v3, rfl, own3, hf3, b3⟩
    obtain ⟨A3, c3, hv3, hr3, hz3⟩ := own3.form0 hf3
    subst hv3
    clear own3
    have Z3 := Lib.hid hz3
    clear hz3
    have B3 := B2.trans (b3.mono B2.size)
    have X3 := Lib.hid (X2.out.step b3)
    have Y3 := Lib.hid (Y2.out.step b3)
    have U_3 := Lib.hid (U_2.out.step b3)
    have S_3 := Lib.hid hr3
    clear hr3
    go_wp2_with fail
    refine (implUnion_any _ _ _ _ ys xs _ Y3.out X3.out ZY.out ZX.out).mono ?_
    unfold OwnRes2
    rw [hcb.out, hcv.out, HK.out]
    rintro e w4 ⟨v4, rfl, own4, hf4, b4⟩
    obtain ⟨A4, c4, hv4, hr4, hz4⟩ := own4.form0 hf4
    subst hv4
    clear own4
    have Z4 := Lib.hid hz4
    clear hz4
    have B4 := B3.trans (b4.mono B3.size)
    have X4 := Lib.hid (X3.out.step b4)
    have Y4 := Lib.hid (Y3.out.step b4)
    have U_4 := Lib.hid (U_3.out.step b4)
    have S_4 := Lib.hid (S_3.out.step b4)
    have V_4 := Lib.hid hr4
    clear hr4
    go_wp2_with fail
    refine (toBelow (implSame_any _ _ _ _ (unionV xs ys) (unionV xs ys) _ _ _ U_4.out S_4.out)).mono ?_
    rw [sameB_self]
    rintro e w5 ⟨rfl, b5⟩
    have B5 := B4.trans (b5.mono B4.size)
    have X5 := Lib.hid (X4.out.step b5)
    have Y5 := Lib.hid (Y4.out.step b5)
    have U_5 := Lib.hid (U_4.out.step b5)
    have S_5 := Lib.hid (S_4.out.step b5)
    have V_5 := Lib.hid (V_4.out.step b5)
    go_wp2_with fail
    refine (toBelow (implSame_any _ _ _ _ (unionV xs ys) (unionV xs ys) _ _ _ U_5.out V_5.out)).mono ?_
    rw [sameB_self]
    rintro e w6 ⟨rfl, b6⟩
    have B6 := B5.trans (b6.mono B5.size)
    have X6 := Lib.hid (X5.out.step b6)
    have Y6 := Lib.hid (Y5.out.step b6)
    have U_6 := Lib.hid (U_5.out.step b6)
    have S_6 := Lib.hid (S_5.out.step b6)
    have V_6 := Lib.hid (V_5.out.step b6)
    go_wp2_with fail
    refine (toBelow (implSame_any _ _ _ _ (unionV xs ys) (unionV xs ys) _ _ _ U_6.out S_6.out)).mono ?_
    rw [sameB_self]
    rintro e w7 ⟨rfl, b7⟩
    have B7 := B6.trans (b7.mono B6.size)
    have X7 := Lib.hid (X6.out.step b7)
    have Y7 := Lib.hid (Y6.out.step b7)
    have U_7 := Lib.hid (U_6.out.step b7)
    have S_7 := Lib.hid (S_6.out.step b7)
    have V_7 := Lib.hid (V_6.out.step b7)
    go_wp2
    go_ret
    exact ⟨rfl, B7⟩
  · have HK := Lib.hid hk
    clear hk
    go_wp2_with fail
    refine (implUnion_any _ _ _ _ xs ys _ X1.out Y1.out ZX.out ZY.out).mono ?_
    unfold OwnRes2
    rw [HK.out]
    rintro e w2 ⟨v2, rfl, own2, hf2, b2⟩
    obtain ⟨A2, c2, hv2, hr2, hz2⟩ := own2.form0 hf2
    subst hv2
    clear own2
    have Z2 := Lib.hid hz2
    clear hz2
    have B2 := b1.trans (b2.mono b1.size)
    have X2 := Lib.hid (X1.out.step b2)
    have Y2 := Lib.hid (Y1.out.step b2)
    have U_2 := Lib.hid hr2
    clear hr2
    go_wp2_with fail
    refine (specUnion_any _ _ _ _ xs ys _ X2.out Y2.out).mono ?_
    unfold OwnRes2
    rw [HK.out]
    rintro e w3 ⟨v3, rfl, own3, hf3, b3⟩
    obtain ⟨A3, c3, hv3, hr3, hz3⟩ := own3.form0 hf3
    subst hv3
    clear own3
    have Z3 := Lib.hid hz3
    clear hz3
    have B3 := B2.trans (b3.mono B2.size)
    have X3 := Lib.hid (X2.out.step b3)
    have Y3 := Lib.hid (Y2.out.step b3)
    have U_3 := Lib.hid (U_2.out.step b3)
    have S_3 := Lib.hid hr3
    clear hr3
    go_wp2_with fail
    refine (implUnion_any _ _ _ _ ys xs _ Y3.out X3.out ZY.out ZX.out).mono ?_
    unfold OwnRes2
    rw [hcb.out, hcv.out, HK.out]
    rintro e w4 ⟨v4, rfl, own4, hf4, b4⟩
    obtain ⟨A4, c4, hv4, hr4, hz4⟩ := own4.form0 hf4
    subst hv4
    clear own4
    have Z4 := Lib.hid hz4
    clear hz4
    have B4 := B3.trans (b4.mono B3.size)
    have X4 := Lib.hid (X3.out.step b4)
    have Y4 := Lib.hid (Y3.out.step b4)
    have U_4 := Lib.hid (U_3.out.step b4)
    have S_4 := Lib.hid (S_3.out.step b4)
    have V_4 := Lib.hid hr4
    clear hr4
    go_wp2_with fail
    refine (toBelow (implSame_any _ _ _ _ (unionV xs ys) (unionV xs ys) _ _ _ U_4.out S_4.out)).mono ?_
    rw [sameB_self]
    rintro e w5 ⟨rfl, b5⟩
    have B5 := B4.trans (b5.mono B4.size)
    have X5 := Lib.hid (X4.out.step b5)
    have Y5 := Lib.hid (Y4.out.step b5)
    have U_5 := Lib.hid (U_4.out.step b5)
    have S_5 := Lib.hid (S_4.out.step b5)
    have V_5 := Lib.hid (V_4.out.step b5)
    go_wp2_with fail
    refine (toBelow (implSame_any _ _ _ _ (unionV xs ys) (unionV xs ys) _ _ _ U_5.out V_5.out)).mono ?_
    rw [sameB_self]
    rintro e w6 ⟨rfl, b6⟩
    have B6 := B5.trans (b6.mono B5.size)
    have X6 := Lib.hid (X5.out.step b6)
    have Y6 := Lib.hid (Y5.out.step b6)
    have U_6 := Lib.hid (U_5.out.step b6)
    have S_6 := Lib.hid (S_5.out.step b6)
    have V_6 := Lib.hid (V_5.out.step b6)
    have HL := Lib.hid (union_law HK.out)
    go_wp2_with fail
    refine (implWithin_any _ _ _ _ xs (unionV xs ys) _ X6.out U_6.out).mono ?_
    rw [HL.out.1]
    rintro e w7 ⟨rfl, b7⟩
    have B7 := B6.trans (b7.mono B6.size)
    have X7 := Lib.hid (X6.out.step b7)
    have Y7 := Lib.hid (Y6.out.step b7)
    have U_7 := Lib.hid (U_6.out.step b7)
    go_wp2_with fail
    refine (implWithin_any _ _ _ _ ys (unionV xs ys) _ Y7.out U_7.out).mono ?_
    rw [HL.out.2.1]
    rintro e w8 ⟨rfl, b8⟩
    have B8 := B7.trans (b8.mono B7.size)
    have X8 := Lib.hid (X7.out.step b8)
    have Y8 := Lib.hid (Y7.out.step b8)
    have U_8 := Lib.hid (U_7.out.step b8)
    obtain ⟨p1, p2⟩ := sizeV_bound (unionV xs ys)
    obtain ⟨p3, p4⟩ := sizeV_bound xs
    obtain ⟨p5, p6⟩ := sizeV_bound ys
    have hle := HL.out.2.2
    go_wp2_with fail
    refine (implSize_any _ _ (unionV xs ys) _ U_8.out).mono ?_
    rintro e w9 ⟨rfl, b9⟩
    have B9 := B8.trans (b9.mono B8.size)
    have X9 := Lib.hid (X8.out.step b9)
    have Y9 := Lib.hid (Y8.out.step b9)
    have U_9 := Lib.hid (U_8.out.step b9)
    go_wp2_with fail
    refine (implSize_any _ _ xs _ X9.out).mono ?_
    rintro e w10 ⟨rfl, b10⟩
    have B10 := B9.trans (b10.mono B9.size)
    have X10 := Lib.hid (X9.out.step b10)
    have Y10 := Lib.hid (Y9.out.step b10)
    have U_10 := Lib.hid (U_9.out.step b10)
    go_wp2_with fail
    refine (implSize_any _ _ ys _ Y10.out).mono ?_
    rintro e w11 ⟨rfl, b11⟩
    have B11 := B10.trans (b11.mono B10.size)
    have X11 := Lib.hid (X10.out.step b11)
    have Y11 := Lib.hid (Y10.out.step b11)
    have U_11 := Lib.hid (U_10.out.step b11)
    go_wp2
    go_ret
    exact ⟨rfl, B11⟩
end Go.Proofs.Ythdmoaimgbffmaa
