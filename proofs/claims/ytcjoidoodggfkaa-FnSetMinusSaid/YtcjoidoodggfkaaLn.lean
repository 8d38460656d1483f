/-
  The walk of the law on differences of sets.
-/
import Derived.Test.YtcjoidoodggfkaaDt
import Derived.Test.YtcjoidoodggfkaaPl
namespace Go.Proofs.Ytcjoidoodggfkaa
open Go.RowKit Sets


set_option maxHeartbeats 2000000 in
theorem setMinus_walk (A : Option Addr) (n c : Nat) (z : Nat → Int) (w : World) (h : Bytes w A n c z) :
    Calls Try.prog 12 #[.slice A n c] w fun e w' => e = .returned (.bool true) ∧ Below w.heap.size w w' := by
  have hnc := h.1
  have hc := h.2.1
  by_cases hn : 1048576 < n
  · have hn' : (1048576 : Int) < (n : Int) := by omega
    go_enter Try.func12, Try.ntmps12
    go_wp2
    go_ret
    exact ⟨rfl, Below.refl _ _⟩
  have hn' : ¬ (1048576 : Int) < (n : Int) := by omega
  go_enter Try.func12, Try.ntmps12
  go_wp2_with fail
  refine (drawMinus_any A n c z w h).mono ?_
  rintro e w1 ⟨v1, v2, xs, ys, rfl, own1, hf1, hl1, own2, hf2, hl2, b1⟩
  obtain ⟨A1, c1, hv1, hr1, _⟩ := own1.form hf1
  obtain ⟨A2, c2, hv2, hr2, _⟩ := own2.form hf2
  subst hv1 hv2
  clear own1 own2
  have X1 := Lib.hid hr1
  have Y1 := Lib.hid hr2
  clear hr1 hr2
  cases hk : minusB xs ys
  · have HK := Lib.hid hk
    clear hk
    go_wp2_with fail
    refine (implMinus_any _ _ _ _ xs ys _ X1.out Y1.out).mono ?_
    unfold OwnRes2
    rw [HK.out]
    rintro e w2 ⟨v2, rfl, own2, hf2, b2⟩
    obtain ⟨A2, c2, hv2, hr2, _⟩ := own2.form hf2
    subst hv2
    clear own2
    have B2 := b1.trans (b2.mono b1.size)
    have X2 := Lib.hid (X1.out.step b2)
    have Y2 := Lib.hid (Y1.out.step b2)
    have D_2 := Lib.hid hr2
    clear hr2
    go_wp2_with fail
    refine (specMinus_any _ _ _ _ xs ys _ X2.out Y2.out).mono ?_
    unfold OwnRes2
    rw [HK.out]
    rintro e w3 ⟨v3, rfl, own3, hf3, b3⟩
    obtain ⟨A3, c3, hv3, hr3, _⟩ := own3.form hf3
    subst hv3
    clear own3
    have B3 := B2.trans (b3.mono B2.size)
    have X3 := Lib.hid (X2.out.step b3)
    have Y3 := Lib.hid (Y2.out.step b3)
    have D_3 := Lib.hid (D_2.out.step b3)
    have S_3 := Lib.hid hr3
    clear hr3
    go_wp2_with fail
    refine (toBelow (implSame_any _ _ _ _ (minusV xs ys) (minusV xs ys) _ _ _ D_3.out S_3.out)).mono ?_
    rw [sameB_self]
    rintro e w4 ⟨rfl, b4⟩
    have B4 := B3.trans (b4.mono B3.size)
    have X4 := Lib.hid (X3.out.step b4)
    have Y4 := Lib.hid (Y3.out.step b4)
    have D_4 := Lib.hid (D_3.out.step b4)
    have S_4 := Lib.hid (S_3.out.step b4)
    go_wp2_with fail
    refine (toBelow (implSame_any _ _ _ _ (minusV xs ys) (minusV xs ys) _ _ _ D_4.out S_4.out)).mono ?_
    rw [sameB_self]
    rintro e w5 ⟨rfl, b5⟩
    have B5 := B4.trans (b5.mono B4.size)
    have X5 := Lib.hid (X4.out.step b5)
    have Y5 := Lib.hid (Y4.out.step b5)
    have D_5 := Lib.hid (D_4.out.step b5)
    have S_5 := Lib.hid (S_4.out.step b5)
    go_wp2
    go_ret
    exact ⟨rfl, B5⟩
  · have HK := Lib.hid hk
    clear hk
    go_wp2_with fail
    refine (implMinus_any _ _ _ _ xs ys _ X1.out Y1.out).mono ?_
    unfold OwnRes2
    rw [HK.out]
    rintro e w2 ⟨v2, rfl, own2, hf2, b2⟩
    obtain ⟨A2, c2, hv2, hr2, _⟩ := own2.form hf2
    subst hv2
    clear own2
    have B2 := b1.trans (b2.mono b1.size)
    have X2 := Lib.hid (X1.out.step b2)
    have Y2 := Lib.hid (Y1.out.step b2)
    have D_2 := Lib.hid hr2
    clear hr2
    go_wp2_with fail
    refine (specMinus_any _ _ _ _ xs ys _ X2.out Y2.out).mono ?_
    unfold OwnRes2
    rw [HK.out]
    rintro e w3 ⟨v3, rfl, own3, hf3, b3⟩
    obtain ⟨A3, c3, hv3, hr3, _⟩ := own3.form hf3
    subst hv3
    clear own3
    have B3 := B2.trans (b3.mono B2.size)
    have X3 := Lib.hid (X2.out.step b3)
    have Y3 := Lib.hid (Y2.out.step b3)
    have D_3 := Lib.hid (D_2.out.step b3)
    have S_3 := Lib.hid hr3
    clear hr3
    go_wp2_with fail
    refine (toBelow (implSame_any _ _ _ _ (minusV xs ys) (minusV xs ys) _ _ _ D_3.out S_3.out)).mono ?_
    rw [sameB_self]
    rintro e w4 ⟨rfl, b4⟩
    have B4 := B3.trans (b4.mono B3.size)
    have X4 := Lib.hid (X3.out.step b4)
    have Y4 := Lib.hid (Y3.out.step b4)
    have D_4 := Lib.hid (D_3.out.step b4)
    have S_4 := Lib.hid (S_3.out.step b4)
    have HL := Lib.hid (minus_law HK.out)
    go_wp2_with fail
    refine (implMeet_any _ _ _ _ (minusV xs ys) ys _ D_4.out Y4.out).mono ?_
    unfold OwnRes
    rw [HL.out.1]
    rintro e w5 ⟨v5, rfl, own5, hf5, b5⟩
    obtain ⟨A5, c5, hv5, hr5, _⟩ := own5.form hf5
    subst hv5
    clear own5
    have B5 := B4.trans (b5.mono B4.size)
    have X5 := Lib.hid (X4.out.step b5)
    have Y5 := Lib.hid (Y4.out.step b5)
    have D_5 := Lib.hid (D_4.out.step b5)
    have T_5 := Lib.hid hr5
    clear hr5
    go_wp2_with fail
    refine (implWithin_any _ _ _ _ (minusV xs ys) xs _ D_5.out X5.out).mono ?_
    rw [HL.out.2.1]
    rintro e w6 ⟨rfl, b6⟩
    have B6 := B5.trans (b6.mono B5.size)
    have X6 := Lib.hid (X5.out.step b6)
    have Y6 := Lib.hid (Y5.out.step b6)
    have D_6 := Lib.hid (D_5.out.step b6)
    go_wp2_with fail
    refine (implMeet_any _ _ _ _ (minusV xs ys) xs _ D_6.out X6.out).mono ?_
    unfold OwnRes
    rw [HL.out.2.2]
    rintro e w7 ⟨v7, rfl, own7, hf7, b7⟩
    obtain ⟨A7, c7, hv7, hr7, _⟩ := own7.form hf7
    subst hv7
    clear own7
    have B7 := B6.trans (b7.mono B6.size)
    have X7 := Lib.hid (X6.out.step b7)
    have Y7 := Lib.hid (Y6.out.step b7)
    have D_7 := Lib.hid (D_6.out.step b7)
    have T_7 := Lib.hid hr7
    clear hr7
    go_wp2_with fail
    refine (toBelow (implSame_any _ _ _ _ (minusV xs ys) (minusV xs ys) _ _ _ T_7.out D_7.out)).mono ?_
    rw [sameB_self]
    rintro e w8 ⟨rfl, b8⟩
    have B8 := B7.trans (b8.mono B7.size)
    have X8 := Lib.hid (X7.out.step b8)
    have Y8 := Lib.hid (Y7.out.step b8)
    have D_8 := Lib.hid (D_7.out.step b8)
    have T_8 := Lib.hid (T_7.out.step b8)
    go_wp2
    go_ret
    exact ⟨rfl, B8⟩
end Go.Proofs.Ytcjoidoodggfkaa
