/-
  The walk of the law on meets of sets.
-/
import Derived.Test.YtcjoidoodggfkaaDt
import Derived.Test.YtcjoidoodggfkaaPl
namespace Go.Proofs.Ytcjoidoodggfkaa
open Go.RowKit Sets


set_option maxHeartbeats 2000000 in
theorem setMeet_walk (A : Option Addr) (n c : Nat) (z : Nat → Int) (w : World) (h : Bytes w A n c z) :
    Calls Try.prog 11 #[.slice A n c] w fun e w' => e = .returned (.bool true) ∧ Below w.heap.size w w' := by
  have hnc := h.1
  have hc := h.2.1
  by_cases hn : 1048576 < n
  · have hn' : (1048576 : Int) < (n : Int) := by omega
    go_enter Try.func11, Try.ntmps11
    go_wp2
    go_ret
    exact ⟨rfl, Below.refl _ _⟩
  have hn' : ¬ (1048576 : Int) < (n : Int) := by omega
  go_enter Try.func11, Try.ntmps11
  go_wp2_with fail
  refine (drawMeet_any A n c z w h).mono ?_
  rintro e w1 ⟨v1, v2, xs, ys, rfl, own1, hf1, hl1, own2, hf2, hl2, b1⟩
  obtain ⟨A1, c1, hv1, hr1, _⟩ := own1.form hf1
  obtain ⟨A2, c2, hv2, hr2, _⟩ := own2.form hf2
  subst hv1 hv2
  clear own1 own2
  have X1 := Lib.hid hr1
  have Y1 := Lib.hid hr2
  clear hr1 hr2
  have hml := meetV_len xs ys
  have hcm := Lib.hid (meetV_comm xs ys)
  go_wp2_with fail
  refine (implMeet_any _ _ _ _ xs ys _ X1.out Y1.out).mono ?_
  rintro e w2 ⟨v2, rfl, own2, hf2, b2⟩
  obtain ⟨A2, c2, hv2, hr2, _⟩ := own2.form hf2
  subst hv2
  clear own2
  have B2 := b1.trans (b2.mono b1.size)
  have X2 := Lib.hid (X1.out.step b2)
  have Y2 := Lib.hid (Y1.out.step b2)
  have M_2 := Lib.hid hr2
  clear hr2
  go_wp2_with fail
  refine (specMeet_any _ _ _ _ xs ys _ X2.out Y2.out).mono ?_
  rintro e w3 ⟨v3, rfl, own3, hf3, b3⟩
  obtain ⟨A3, c3, hv3, hr3, _⟩ := own3.form hf3
  subst hv3
  clear own3
  have B3 := B2.trans (b3.mono B2.size)
  have X3 := Lib.hid (X2.out.step b3)
  have Y3 := Lib.hid (Y2.out.step b3)
  have M_3 := Lib.hid (M_2.out.step b3)
  have S_3 := Lib.hid hr3
  clear hr3
  go_wp2_with fail
  refine (toBelow (implSame_any _ _ _ _ (meetV xs ys) (meetV xs ys) _ _ _ M_3.out S_3.out)).mono ?_
  rw [sameB_self]
  rintro e w4 ⟨rfl, b4⟩
  have B4 := B3.trans (b4.mono B3.size)
  have X4 := Lib.hid (X3.out.step b4)
  have Y4 := Lib.hid (Y3.out.step b4)
  have M_4 := Lib.hid (M_3.out.step b4)
  have S_4 := Lib.hid (S_3.out.step b4)
  go_wp2_with fail
  refine (implMeet_any _ _ _ _ ys xs _ Y4.out X4.out).mono ?_
  unfold OwnRes
  rw [← hcm.out]
  rintro e w5 ⟨v5, rfl, own5, hf5, b5⟩
  obtain ⟨A5, c5, hv5, hr5, _⟩ := own5.form hf5
  subst hv5
  clear own5
  have B5 := B4.trans (b5.mono B4.size)
  have X5 := Lib.hid (X4.out.step b5)
  have Y5 := Lib.hid (Y4.out.step b5)
  have M_5 := Lib.hid (M_4.out.step b5)
  have T_5 := Lib.hid hr5
  clear hr5
  go_wp2_with fail
  refine (toBelow (implSame_any _ _ _ _ (meetV xs ys) (meetV xs ys) _ _ _ M_5.out T_5.out)).mono ?_
  rw [sameB_self]
  rintro e w6 ⟨rfl, b6⟩
  have B6 := B5.trans (b6.mono B5.size)
  have X6 := Lib.hid (X5.out.step b6)
  have Y6 := Lib.hid (Y5.out.step b6)
  have M_6 := Lib.hid (M_5.out.step b6)
  have T_6 := Lib.hid (T_5.out.step b6)
  by_cases hm : 12 < (meetV xs ys).length
  · have hm' : (12 : Int) < ((meetV xs ys).length : Int) := by omega
    go_wp2_with fail
    refine (specMeet_any _ _ _ _ xs ys _ X6.out Y6.out).mono ?_
    rintro e w7 ⟨v7, rfl, own7, hf7, b7⟩
    obtain ⟨A7, c7, hv7, hr7, _⟩ := own7.form hf7
    subst hv7
    clear own7
    have B7 := B6.trans (b7.mono B6.size)
    have X7 := Lib.hid (X6.out.step b7)
    have Y7 := Lib.hid (Y6.out.step b7)
    have M_7 := Lib.hid (M_6.out.step b7)
    have S_7 := Lib.hid hr7
    clear hr7
    go_wp2_with fail
    refine (toBelow (implSame_any _ _ _ _ (meetV xs ys) (meetV xs ys) _ _ _ M_7.out S_7.out)).mono ?_
    rw [sameB_self]
    rintro e w8 ⟨rfl, b8⟩
    have B8 := B7.trans (b8.mono B7.size)
    have X8 := Lib.hid (X7.out.step b8)
    have Y8 := Lib.hid (Y7.out.step b8)
    have M_8 := Lib.hid (M_7.out.step b8)
    have S_8 := Lib.hid (S_7.out.step b8)
    go_wp2_with fail
    refine (implMeet_any _ _ _ _ ys xs _ Y8.out X8.out).mono ?_
    unfold OwnRes
    rw [← hcm.out]
    rintro e w9 ⟨v9, rfl, own9, hf9, b9⟩
    obtain ⟨A9, c9, hv9, hr9, _⟩ := own9.form hf9
    subst hv9
    clear own9
    have B9 := B8.trans (b9.mono B8.size)
    have X9 := Lib.hid (X8.out.step b9)
    have Y9 := Lib.hid (Y8.out.step b9)
    have M_9 := Lib.hid (M_8.out.step b9)
    have T_9 := Lib.hid hr9
    clear hr9
    go_wp2_with fail
    refine (toBelow (implSame_any _ _ _ _ (meetV xs ys) (meetV xs ys) _ _ _ M_9.out T_9.out)).mono ?_
    rw [sameB_self]
    rintro e w10 ⟨rfl, b10⟩
    have B10 := B9.trans (b10.mono B9.size)
    have X10 := Lib.hid (X9.out.step b10)
    have Y10 := Lib.hid (Y9.out.step b10)
    have M_10 := Lib.hid (M_9.out.step b10)
    have T_10 := Lib.hid (T_9.out.step b10)
    go_wp2
    go_ret
    exact ⟨rfl, B10⟩
  · have hm' : ¬ (12 : Int) < ((meetV xs ys).length : Int) := by omega
    cases hx : validB xs
    · have HX := Lib.hid hx
      clear hx
      go_wp2_with fail
      refine (implValid_any _ _ xs _ X6.out).mono ?_
      rw [HX.out]
      rintro e w7 ⟨rfl, b7⟩
      have B7 := B6.trans (b7.mono B6.size)
      have X7 := Lib.hid (X6.out.step b7)
      have Y7 := Lib.hid (Y6.out.step b7)
      have M_7 := Lib.hid (M_6.out.step b7)
      go_wp2
      go_ret
      exact ⟨rfl, B7⟩
    · have HX := Lib.hid hx
      clear hx
      go_wp2_with fail
      refine (implValid_any _ _ xs _ X6.out).mono ?_
      rw [HX.out]
      rintro e w7 ⟨rfl, b7⟩
      have B7 := B6.trans (b7.mono B6.size)
      have X7 := Lib.hid (X6.out.step b7)
      have Y7 := Lib.hid (Y6.out.step b7)
      have M_7 := Lib.hid (M_6.out.step b7)
      cases hy : validB ys
      · have HY := Lib.hid hy
        clear hy
        go_wp2_with fail
        refine (implValid_any _ _ ys _ Y7.out).mono ?_
        rw [HY.out]
        rintro e w8 ⟨rfl, b8⟩
        have B8 := B7.trans (b8.mono B7.size)
        have X8 := Lib.hid (X7.out.step b8)
        have Y8 := Lib.hid (Y7.out.step b8)
        have M_8 := Lib.hid (M_7.out.step b8)
        go_wp2
        go_ret
        exact ⟨rfl, B8⟩
      · have HY := Lib.hid hy
        clear hy
        have HW := Lib.hid (meet_within HX.out HY.out (by omega))
        go_wp2_with fail
        refine (implValid_any _ _ ys _ Y7.out).mono ?_
        rw [HY.out]
        rintro e w8 ⟨rfl, b8⟩
        have B8 := B7.trans (b8.mono B7.size)
        have X8 := Lib.hid (X7.out.step b8)
        have Y8 := Lib.hid (Y7.out.step b8)
        have M_8 := Lib.hid (M_7.out.step b8)
        go_wp2_with fail
        refine (implWithin_any _ _ _ _ (meetV xs ys) xs _ M_8.out X8.out).mono ?_
        rw [HW.out.1]
        rintro e w9 ⟨rfl, b9⟩
        have B9 := B8.trans (b9.mono B8.size)
        have X9 := Lib.hid (X8.out.step b9)
        have Y9 := Lib.hid (Y8.out.step b9)
        have M_9 := Lib.hid (M_8.out.step b9)
        go_wp2_with fail
        refine (implWithin_any _ _ _ _ (meetV xs ys) ys _ M_9.out Y9.out).mono ?_
        rw [HW.out.2]
        rintro e w10 ⟨rfl, b10⟩
        have B10 := B9.trans (b10.mono B9.size)
        have X10 := Lib.hid (X9.out.step b10)
        have Y10 := Lib.hid (Y9.out.step b10)
        have M_10 := Lib.hid (M_9.out.step b10)
        go_wp2
        go_ret
        exact ⟨rfl, B10⟩
end Go.Proofs.Ytcjoidoodggfkaa
