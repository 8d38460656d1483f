/-
  The walk of the law on numbers of sets.
-/
import Derived.Test.YthdmoaimgbffmaaDo
import Derived.Test.YthdmoaimgbffmaaPh2
namespace Go.Proofs.Ythdmoaimgbffmaa
open Go.RowKit Sets


set_option maxRecDepth 100000 in
set_option maxHeartbeats 2000000 in
theorem setHas_walk (A : Option Addr) (n c : Nat) (z : Nat → Int) (w : World) (h : Bytes w A n c z) :
    Calls Try.prog 5 #[.slice A n c] w fun e w' => e = .returned (.bool true) ∧ Below w.heap.size w w' := by
  have hnc := h.1
  have hc := h.2.1
  by_cases hn : 1048576 < n
  · have hn' : (1048576 : Int) < (n : Int) := by omega
    go_enter Try.func5, Try.ntmps5
    go_wp2
    go_ret
    exact ⟨rfl, Below.refl _ _⟩
  have hn' : ¬ (1048576 : Int) < (n : Int) := by omega
  go_enter Try.func5, Try.ntmps5
  go_wp2_with fail
  refine (drawHas_any A n c z w h).mono ?_
  rintro e w1 ⟨v1, xs, m, rfl, own1, hf1, hl1, hm1, hm2, b1⟩
  obtain ⟨A1, c1, hv1, hr1, hz1⟩ := own1.form0 hf1
  subst hv1
  clear own1
  have X1 := Lib.hid hr1
  clear hr1
  have ZX := Lib.hid hz1
  clear hz1
  cases hh : hasB xs m
  · have HH := Lib.hid hh
    clear hh
    cases hv : validB xs
    · have HV := Lib.hid hv
      clear hv
      go_wp2_with fail
      refine (implHas_any _ _ xs m _ X1.out).mono ?_
      rw [HH.out]
      rintro e w2 ⟨rfl, b2⟩
      have B2 := b1.trans (b2.mono b1.size)
      have X2 := Lib.hid (X1.out.step b2)
      go_wp2_with fail
      refine (setOf_one_any _ m hm1 hm2 _ rfl _ rfl).mono ?_
      rintro e w3 ⟨v3, rfl, own3, hf3, b3⟩
      obtain ⟨A3, c3, hv3, hr3, _⟩ := own3.form hf3
      subst hv3
      clear own3
      have B3 := B2.trans (b3.mono B2.size)
      have X3 := Lib.hid (X2.out.step b3)
      have O_3 := Lib.hid hr3
      clear hr3
      go_wp2_with fail
      refine (toBelow (specHas_any _ _ xs m _ _ X3.out)).mono ?_
      rw [HH.out]
      rintro e w4 ⟨rfl, b4⟩
      have B4 := B3.trans (b4.mono B3.size)
      have X4 := Lib.hid (X3.out.step b4)
      have O_4 := Lib.hid (O_3.out.step b4)
      go_wp2_with fail
      refine (implValid_any _ _ xs  _ X4.out).mono ?_
      rw [HV.out]
      rintro e w5 ⟨rfl, b5⟩
      have B5 := B4.trans (b5.mono B4.size)
      have X5 := Lib.hid (X4.out.step b5)
      have O_5 := Lib.hid (O_4.out.step b5)
      go_wp2_with fail
      refine (toBelow (specValid_any _ _ xs  _ _ X5.out)).mono ?_
      rw [HV.out]
      rintro e w6 ⟨rfl, b6⟩
      have B6 := B5.trans (b6.mono B5.size)
      have X6 := Lib.hid (X5.out.step b6)
      have O_6 := Lib.hid (O_5.out.step b6)
      go_wp2_with fail
      refine (implValid_any _ _ xs  _ X6.out).mono ?_
      rw [HV.out]
      rintro e w7 ⟨rfl, b7⟩
      have B7 := B6.trans (b7.mono B6.size)
      have X7 := Lib.hid (X6.out.step b7)
      have O_7 := Lib.hid (O_6.out.step b7)
      go_wp2_with fail
      refine (toBelow (specHas_any _ _ xs m _ _ X7.out)).mono ?_
      rw [HH.out]
      rintro e w8 ⟨rfl, b8⟩
      have B8 := B7.trans (b8.mono B7.size)
      have X8 := Lib.hid (X7.out.step b8)
      have O_8 := Lib.hid (O_7.out.step b8)
      go_wp2_with fail
      refine (implValid_any _ _ xs  _ X8.out).mono ?_
      rw [HV.out]
      rintro e w9 ⟨rfl, b9⟩
      have B9 := B8.trans (b9.mono B8.size)
      have X9 := Lib.hid (X8.out.step b9)
      have O_9 := Lib.hid (O_8.out.step b9)
      go_wp2_with fail
      refine (toBelow (specValid_any _ _ xs  _ _ X9.out)).mono ?_
      rw [HV.out]
      rintro e w10 ⟨rfl, b10⟩
      have B10 := B9.trans (b10.mono B9.size)
      have X10 := Lib.hid (X9.out.step b10)
      have O_10 := Lib.hid (O_9.out.step b10)
      go_wp2
      go_ret
      exact ⟨rfl, B10⟩
    · have HV := Lib.hid hv
      clear hv
      cases hf : setOfB (one m)
      · have HO := Lib.hid hf
        clear hf
        go_wp2_with fail
        refine (implHas_any _ _ xs m _ X1.out).mono ?_
        rw [HH.out]
        rintro e w2 ⟨rfl, b2⟩
        have B2 := b1.trans (b2.mono b1.size)
        have X2 := Lib.hid (X1.out.step b2)
        go_wp2_with fail
        refine (setOf_one_any _ m hm1 hm2 _ rfl _ rfl).mono ?_
        rw [HO.out]
        rintro e w3 ⟨v3, rfl, own3, hf3, b3⟩
        obtain ⟨A3, c3, hv3, hr3, _⟩ := own3.form hf3
        subst hv3
        clear own3
        have B3 := B2.trans (b3.mono B2.size)
        have X3 := Lib.hid (X2.out.step b3)
        have O_3 := Lib.hid hr3
        clear hr3
        go_wp2_with fail
        refine (toBelow (specHas_any _ _ xs m _ _ X3.out)).mono ?_
        rw [HH.out]
        rintro e w4 ⟨rfl, b4⟩
        have B4 := B3.trans (b4.mono B3.size)
        have X4 := Lib.hid (X3.out.step b4)
        have O_4 := Lib.hid (O_3.out.step b4)
        go_wp2_with fail
        refine (implValid_any _ _ xs  _ X4.out).mono ?_
        rw [HV.out]
        rintro e w5 ⟨rfl, b5⟩
        have B5 := B4.trans (b5.mono B4.size)
        have X5 := Lib.hid (X4.out.step b5)
        have O_5 := Lib.hid (O_4.out.step b5)
        go_wp2_with fail
        refine (toBelow (specValid_any _ _ xs  _ _ X5.out)).mono ?_
        rw [HV.out]
        rintro e w6 ⟨rfl, b6⟩
        have B6 := B5.trans (b6.mono B5.size)
        have X6 := Lib.hid (X5.out.step b6)
        have O_6 := Lib.hid (O_5.out.step b6)
        go_wp2_with fail
        refine (implValid_any _ _ xs  _ X6.out).mono ?_
        rw [HV.out]
        rintro e w7 ⟨rfl, b7⟩
        have B7 := B6.trans (b7.mono B6.size)
        have X7 := Lib.hid (X6.out.step b7)
        have O_7 := Lib.hid (O_6.out.step b7)
        go_wp2_with fail
        refine (toBelow (specHas_any _ _ xs m _ _ X7.out)).mono ?_
        rw [HH.out]
        rintro e w8 ⟨rfl, b8⟩
        have B8 := B7.trans (b8.mono B7.size)
        have X8 := Lib.hid (X7.out.step b8)
        have O_8 := Lib.hid (O_7.out.step b8)
        go_wp2_with fail
        refine (implValid_any _ _ xs  _ X8.out).mono ?_
        rw [HV.out]
        rintro e w9 ⟨rfl, b9⟩
        have B9 := B8.trans (b9.mono B8.size)
        have X9 := Lib.hid (X8.out.step b9)
        have O_9 := Lib.hid (O_8.out.step b9)
        go_wp2_with fail
        refine (toBelow (specValid_any _ _ xs  _ _ X9.out)).mono ?_
        rw [HV.out]
        rintro e w10 ⟨rfl, b10⟩
        have B10 := B9.trans (b10.mono B9.size)
        have X10 := Lib.hid (X9.out.step b10)
        have O_10 := Lib.hid (O_9.out.step b10)
        go_wp2
        go_ret
        exact ⟨rfl, B10⟩
      · have HO := Lib.hid hf
        clear hf
        have HW := Lib.hid ((has_within HV.out HO.out).trans HH.out)
        go_wp2_with fail
        refine (implHas_any _ _ xs m _ X1.out).mono ?_
        rw [HH.out]
        rintro e w2 ⟨rfl, b2⟩
        have B2 := b1.trans (b2.mono b1.size)
        have X2 := Lib.hid (X1.out.step b2)
        go_wp2_with fail
        refine (setOf_one_any _ m hm1 hm2 _ rfl _ rfl).mono ?_
        rw [HO.out]
        rintro e w3 ⟨v3, rfl, own3, hf3, b3⟩
        obtain ⟨A3, c3, hv3, hr3, _⟩ := own3.form hf3
        subst hv3
        clear own3
        have B3 := B2.trans (b3.mono B2.size)
        have X3 := Lib.hid (X2.out.step b3)
        have O_3 := Lib.hid hr3
        clear hr3
        go_wp2_with fail
        refine (toBelow (specHas_any _ _ xs m _ _ X3.out)).mono ?_
        rw [HH.out]
        rintro e w4 ⟨rfl, b4⟩
        have B4 := B3.trans (b4.mono B3.size)
        have X4 := Lib.hid (X3.out.step b4)
        have O_4 := Lib.hid (O_3.out.step b4)
        go_wp2_with fail
        refine (implValid_any _ _ xs  _ X4.out).mono ?_
        rw [HV.out]
        rintro e w5 ⟨rfl, b5⟩
        have B5 := B4.trans (b5.mono B4.size)
        have X5 := Lib.hid (X4.out.step b5)
        have O_5 := Lib.hid (O_4.out.step b5)
        go_wp2_with fail
        refine (toBelow (specValid_any _ _ xs  _ _ X5.out)).mono ?_
        rw [HV.out]
        rintro e w6 ⟨rfl, b6⟩
        have B6 := B5.trans (b6.mono B5.size)
        have X6 := Lib.hid (X5.out.step b6)
        have O_6 := Lib.hid (O_5.out.step b6)
        go_wp2_with fail
        refine (implValid_any _ _ xs  _ X6.out).mono ?_
        rw [HV.out]
        rintro e w7 ⟨rfl, b7⟩
        have B7 := B6.trans (b7.mono B6.size)
        have X7 := Lib.hid (X6.out.step b7)
        have O_7 := Lib.hid (O_6.out.step b7)
        go_wp2_with fail
        refine (implWithin_any _ _ _ _ (setOfV (one m)) xs  _ O_7.out X7.out).mono ?_
        rw [HW.out]
        rintro e w8 ⟨rfl, b8⟩
        have B8 := B7.trans (b8.mono B7.size)
        have X8 := Lib.hid (X7.out.step b8)
        have O_8 := Lib.hid (O_7.out.step b8)
        go_wp2
        go_ret
        exact ⟨rfl, B8⟩
  · have HH := Lib.hid hh
    clear hh
    have HV := Lib.hid (has_valid HH.out).1
    have HO := Lib.hid (has_valid HH.out).2
    have HW := Lib.hid ((has_within HV.out HO.out).trans HH.out)
    go_wp2_with fail
    refine (implHas_any _ _ xs m _ X1.out).mono ?_
    rw [HH.out]
    rintro e w2 ⟨rfl, b2⟩
    have B2 := b1.trans (b2.mono b1.size)
    have X2 := Lib.hid (X1.out.step b2)
    go_wp2_with fail
    refine (setOf_one_any _ m hm1 hm2 _ rfl _ rfl).mono ?_
    rw [HO.out]
    rintro e w3 ⟨v3, rfl, own3, hf3, b3⟩
    obtain ⟨A3, c3, hv3, hr3, _⟩ := own3.form hf3
    subst hv3
    clear own3
    have B3 := B2.trans (b3.mono B2.size)
    have X3 := Lib.hid (X2.out.step b3)
    have O_3 := Lib.hid hr3
    clear hr3
    go_wp2_with fail
    refine (toBelow (specHas_any _ _ xs m _ _ X3.out)).mono ?_
    rw [HH.out]
    rintro e w4 ⟨rfl, b4⟩
    have B4 := B3.trans (b4.mono B3.size)
    have X4 := Lib.hid (X3.out.step b4)
    have O_4 := Lib.hid (O_3.out.step b4)
    go_wp2_with fail
    refine (implValid_any _ _ xs  _ X4.out).mono ?_
    rw [HV.out]
    rintro e w5 ⟨rfl, b5⟩
    have B5 := B4.trans (b5.mono B4.size)
    have X5 := Lib.hid (X4.out.step b5)
    have O_5 := Lib.hid (O_4.out.step b5)
    go_wp2_with fail
    refine (toBelow (specValid_any _ _ xs  _ _ X5.out)).mono ?_
    rw [HV.out]
    rintro e w6 ⟨rfl, b6⟩
    have B6 := B5.trans (b6.mono B5.size)
    have X6 := Lib.hid (X5.out.step b6)
    have O_6 := Lib.hid (O_5.out.step b6)
    go_wp2_with fail
    refine (implValid_any _ _ xs  _ X6.out).mono ?_
    rw [HV.out]
    rintro e w7 ⟨rfl, b7⟩
    have B7 := B6.trans (b7.mono B6.size)
    have X7 := Lib.hid (X6.out.step b7)
    have O_7 := Lib.hid (O_6.out.step b7)
    go_wp2_with fail
    refine (implWithin_any _ _ _ _ (setOfV (one m)) xs  _ O_7.out X7.out).mono ?_
    rw [HW.out]
    rintro e w8 ⟨rfl, b8⟩
    have B8 := B7.trans (b8.mono B7.size)
    have X8 := Lib.hid (X7.out.step b8)
    have O_8 := Lib.hid (O_7.out.step b8)
    go_wp2
    go_ret
    exact ⟨rfl, B8⟩
end Go.Proofs.Ythdmoaimgbffmaa
