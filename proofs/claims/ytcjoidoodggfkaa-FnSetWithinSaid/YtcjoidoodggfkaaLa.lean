/-
  The walk of the law on containment of sets.
-/
import Derived.Test.YtcjoidoodggfkaaDt
import Derived.Test.YtcjoidoodggfkaaPl
namespace Go.Proofs.Ytcjoidoodggfkaa
open Go.RowKit Sets


set_option maxHeartbeats 2000000 in
theorem setWithin_walk (A : Option Addr) (n c : Nat) (z : Nat → Int) (w : World) (h : Bytes w A n c z) :
    Calls Try.prog 6 #[.slice A n c] w fun e w' => e = .returned (.bool true) ∧ Below w.heap.size w w' := by
  have hnc := h.1
  have hc := h.2.1
  by_cases hn : 1048576 < n
  · have hn' : (1048576 : Int) < (n : Int) := by omega
    go_enter Try.func6, Try.ntmps6
    go_wp2
    go_ret
    exact ⟨rfl, Below.refl _ _⟩
  have hn' : ¬ (1048576 : Int) < (n : Int) := by omega
  go_enter Try.func6, Try.ntmps6
  go_wp2_with fail
  refine (drawWithin_any A n c z w h).mono ?_
  rintro e w1 ⟨v1, v2, xs, ys, rfl, own1, hf1, hl1, own2, hf2, hl2, b1⟩
  obtain ⟨A1, c1, hv1, hr1, _⟩ := own1.form hf1
  obtain ⟨A2, c2, hv2, hr2, _⟩ := own2.form hf2
  subst hv1 hv2
  clear own1 own2
  have X1 := Lib.hid hr1
  have Y1 := Lib.hid hr2
  clear hr1 hr2
  cases hw : withinB xs ys
  · have HW := Lib.hid hw
    clear hw
    go_wp2_with fail
    refine (implWithin_any _ _ _ _ xs ys _ X1.out Y1.out).mono ?_
    rw [HW.out]
    rintro e w2 ⟨rfl, b2⟩
    have B2 := b1.trans (b2.mono b1.size)
    have X2 := Lib.hid (X1.out.step b2)
    have Y2 := Lib.hid (Y1.out.step b2)
    go_wp2_with fail
    refine (specWithin_any _ _ _ _ xs ys _ X2.out Y2.out).mono ?_
    rw [HW.out]
    rintro e w3 ⟨rfl, b3⟩
    have B3 := B2.trans (b3.mono B2.size)
    have X3 := Lib.hid (X2.out.step b3)
    have Y3 := Lib.hid (Y2.out.step b3)
    cases hx : validB xs
    · have HX := Lib.hid hx
      clear hx
      go_wp2_with fail
      refine (implValid_any _ _ xs _ X3.out).mono ?_
      rw [HX.out]
      rintro e w4 ⟨rfl, b4⟩
      have B4 := B3.trans (b4.mono B3.size)
      have X4 := Lib.hid (X3.out.step b4)
      have Y4 := Lib.hid (Y3.out.step b4)
      go_wp2_with fail
      refine (specWithin_any _ _ _ _ xs ys _ X4.out Y4.out).mono ?_
      rw [HW.out]
      rintro e w5 ⟨rfl, b5⟩
      have B5 := B4.trans (b5.mono B4.size)
      have X5 := Lib.hid (X4.out.step b5)
      have Y5 := Lib.hid (Y4.out.step b5)
      go_wp2
      go_ret
      exact ⟨rfl, B5⟩
    · have HX := Lib.hid hx
      clear hx
      go_wp2_with fail
      refine (implValid_any _ _ xs _ X3.out).mono ?_
      rw [HX.out]
      rintro e w4 ⟨rfl, b4⟩
      have B4 := B3.trans (b4.mono B3.size)
      have X4 := Lib.hid (X3.out.step b4)
      have Y4 := Lib.hid (Y3.out.step b4)
      cases hy : validB ys
      · have HY := Lib.hid hy
        clear hy
        go_wp2_with fail
        refine (implValid_any _ _ ys _ Y4.out).mono ?_
        rw [HY.out]
        rintro e w5 ⟨rfl, b5⟩
        have B5 := B4.trans (b5.mono B4.size)
        have X5 := Lib.hid (X4.out.step b5)
        have Y5 := Lib.hid (Y4.out.step b5)
        go_wp2_with fail
        refine (specWithin_any _ _ _ _ xs ys _ X5.out Y5.out).mono ?_
        rw [HW.out]
        rintro e w6 ⟨rfl, b6⟩
        have B6 := B5.trans (b6.mono B5.size)
        have X6 := Lib.hid (X5.out.step b6)
        have Y6 := Lib.hid (Y5.out.step b6)
        go_wp2
        go_ret
        exact ⟨rfl, B6⟩
      · have HY := Lib.hid hy
        clear hy
        have HM := Lib.hid ((within_meet HX.out HY.out).symm.trans HW.out)
        go_wp2_with fail
        refine (implValid_any _ _ ys _ Y4.out).mono ?_
        rw [HY.out]
        rintro e w5 ⟨rfl, b5⟩
        have B5 := B4.trans (b5.mono B4.size)
        have X5 := Lib.hid (X4.out.step b5)
        have Y5 := Lib.hid (Y4.out.step b5)
        go_wp2_with fail
        refine (implMeet_any _ _ _ _ xs ys _ X5.out Y5.out).mono ?_
        rintro e w6 ⟨v6, rfl, own6, hf6, b6⟩
        obtain ⟨A6, c6, hv6, hr6, _⟩ := own6.form hf6
        subst hv6
        clear own6
        have B6 := B5.trans (b6.mono B5.size)
        have X6 := Lib.hid (X5.out.step b6)
        have Y6 := Lib.hid (Y5.out.step b6)
        have M_6 := Lib.hid hr6
        clear hr6
        go_wp2_with fail
        refine (toBelow (implSame_any _ _ _ _ (meetV xs ys) xs _ _ _ M_6.out X6.out)).mono ?_
        rw [HM.out]
        rintro e w7 ⟨rfl, b7⟩
        have B7 := B6.trans (b7.mono B6.size)
        have X7 := Lib.hid (X6.out.step b7)
        have Y7 := Lib.hid (Y6.out.step b7)
        have M_7 := Lib.hid (M_6.out.step b7)
        go_wp2
        go_ret
        exact ⟨rfl, B7⟩
  · have HW := Lib.hid hw
    clear hw
    go_wp2_with fail
    refine (implWithin_any _ _ _ _ xs ys _ X1.out Y1.out).mono ?_
    rw [HW.out]
    rintro e w2 ⟨rfl, b2⟩
    have B2 := b1.trans (b2.mono b1.size)
    have X2 := Lib.hid (X1.out.step b2)
    have Y2 := Lib.hid (Y1.out.step b2)
    go_wp2_with fail
    refine (specWithin_any _ _ _ _ xs ys _ X2.out Y2.out).mono ?_
    rw [HW.out]
    rintro e w3 ⟨rfl, b3⟩
    have B3 := B2.trans (b3.mono B2.size)
    have X3 := Lib.hid (X2.out.step b3)
    have Y3 := Lib.hid (Y2.out.step b3)
    cases hx : validB xs
    · exact absurd HW.out (by rw [within_noL hx]; decide)
    · have HX := Lib.hid hx
      clear hx
      go_wp2_with fail
      refine (implValid_any _ _ xs _ X3.out).mono ?_
      rw [HX.out]
      rintro e w4 ⟨rfl, b4⟩
      have B4 := B3.trans (b4.mono B3.size)
      have X4 := Lib.hid (X3.out.step b4)
      have Y4 := Lib.hid (Y3.out.step b4)
      cases hy : validB ys
      · exact absurd HW.out (by rw [within_noR hy]; decide)
      · have HY := Lib.hid hy
        clear hy
        have HM := Lib.hid ((within_meet HX.out HY.out).symm.trans HW.out)
        go_wp2_with fail
        refine (implValid_any _ _ ys _ Y4.out).mono ?_
        rw [HY.out]
        rintro e w5 ⟨rfl, b5⟩
        have B5 := B4.trans (b5.mono B4.size)
        have X5 := Lib.hid (X4.out.step b5)
        have Y5 := Lib.hid (Y4.out.step b5)
        go_wp2_with fail
        refine (implMeet_any _ _ _ _ xs ys _ X5.out Y5.out).mono ?_
        rintro e w6 ⟨v6, rfl, own6, hf6, b6⟩
        obtain ⟨A6, c6, hv6, hr6, _⟩ := own6.form hf6
        subst hv6
        clear own6
        have B6 := B5.trans (b6.mono B5.size)
        have X6 := Lib.hid (X5.out.step b6)
        have Y6 := Lib.hid (Y5.out.step b6)
        have M_6 := Lib.hid hr6
        clear hr6
        go_wp2_with fail
        refine (toBelow (implSame_any _ _ _ _ (meetV xs ys) xs _ _ _ M_6.out X6.out)).mono ?_
        rw [HM.out]
        rintro e w7 ⟨rfl, b7⟩
        have B7 := B6.trans (b7.mono B6.size)
        have X7 := Lib.hid (X6.out.step b7)
        have Y7 := Lib.hid (Y6.out.step b7)
        have M_7 := Lib.hid (M_6.out.step b7)
        go_wp2
        go_ret
        exact ⟨rfl, B7⟩
end Go.Proofs.Ytcjoidoodggfkaa
