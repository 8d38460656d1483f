/-
  The walk of the law on sizes of sets.
-/
import Derived.Test.YtcjoidoodggfkaaDs
namespace Go.Proofs.Ytcjoidoodggfkaa
open Go.RowKit Sets

theorem valid_of {xs : List Sp} (h1 : xs.length ≤ 12) (h2 : Norm xs) (h3 : Within xs) : validB xs = true := (validB_iff xs).2 ((valid_iff xs).2 ⟨h1, h2, h3⟩)
theorem minus_ok {xs ys : List Sp} (h : minusB xs ys = true) : validB xs = true ∧ validB ys = true ∧ minusV xs ys = minusP xs ys ∧ meetV xs ys = meetP xs ys ∧ validB (minusP xs ys) = true := by
  have hV : minusV xs ys = minusP xs ys := by unfold minusV; rw [if_pos h]
  have h' := h
  unfold minusB at h
  rw [Bool.and_eq_true] at h
  have hb := h.1
  unfold bothB at hb
  rw [Bool.and_eq_true] at hb
  obtain ⟨hx, hy⟩ := hb
  have a := norm_of_valid hx
  have b := norm_of_valid hy
  have s := minusP_spec xs ys a.1 a.2 b.1 b.2
  exact ⟨hx, hy, hV, by unfold meetV; rw [if_pos h.1], valid_of (of_decide_eq_true h.2) s.1 s.2.1⟩
theorem meet_valid {xs ys : List Sp} (hx : validB xs = true) (hy : validB ys = true) (h : (meetP xs ys).length ≤ 12) : validB (meetP xs ys) = true := by
  have a := norm_of_valid hx
  have b := norm_of_valid hy
  exact valid_of h (meetP_spec xs ys a.1 b.1).1 (meetP_within xs ys a.1 a.2 b.1)
theorem sizes_add {xs ys : List Sp} (h : minusB xs ys = true) (hm : (meetV xs ys).length ≤ 12) : sizeV (minusV xs ys) + sizeV (meetV xs ys) = sizeV xs := by
  obtain ⟨hx, hy, e1, e2, hv⟩ := minus_ok h
  rw [e1, e2, sizeV_yes hv, sizeV_yes (meet_valid hx hy (by rw [← e2]; exact hm)), sizeV_yes hx]
  have a := norm_of_valid hx
  have b := norm_of_valid hy
  exact size_parts xs ys a.1 a.2 b.1 b.2
theorem sizeV_bound (xs : List Sp) : 0 ≤ sizeV xs ∧ sizeV xs ≤ 2388 := by
  cases h : validB xs
  · rw [sizeV_no h]; omega
  · rw [sizeV_yes h, ← sizeK_all]; exact sizeK_bound h _ (Nat.le_refl _)

set_option maxHeartbeats 2000000 in
theorem setSize_walk (A : Option Addr) (n c : Nat) (z : Nat → Int) (w : World) (h : Bytes w A n c z) :
    Calls Try.prog 5 #[.slice A n c] w fun e w' => e = .returned (.bool true) ∧ Below w.heap.size w w' := by
  have hnc := h.1
  have hc := h.2.1
  by_cases hn : 1048576 < n
  · have hn' : (1048576 : Int) < (n : Int) := by omega
    go_enter Try.func5, Try.ntmps5
    go_wp2
    go_ret
    exact ⟨rfl, Below.refl _ _⟩
  · have hn' : ¬ (1048576 : Int) < (n : Int) := by omega
    go_enter Try.func5, Try.ntmps5
    go_wp2_with fail
    refine (drawMinus_any A n c z w h).mono ?_
    rintro e w1 ⟨v1, v2, xs, ys, rfl, own1, hf1, hl1, own2, hf2, hl2, b1⟩
    obtain ⟨A1, c1, hv1, hr1, _⟩ := own1.form hf1
    obtain ⟨A2, c2, hv2, hr2, _⟩ := own2.form hf2
    subst hv1 hv2
    clear own1 own2
    have X1 := Lib.hid hr1
    have Y1 := Lib.hid hr2
    clear hr1 hr2
    go_wp2_with fail
    refine (implMinus_any _ _ _ _ xs ys _ X1.out Y1.out).mono ?_
    rintro e w2 ⟨vd, rfl, ownd, hfd, b2⟩
    have B2 := b1.trans (b2.mono b1.size)
    obtain ⟨Ad, cd, hvd, hrd, _⟩ := ownd.form hfd
    subst hvd
    clear ownd
    have X2 := Lib.hid (X1.out.step b2)
    have Y2 := Lib.hid (Y1.out.step b2)
    have D2 := Lib.hid hrd
    clear hrd
    go_wp2_with fail
    refine (specMinus_any _ _ _ _ xs ys _ X2.out Y2.out).mono ?_
    rintro e w3 ⟨vs, rfl, owns, hfs, b3⟩
    have B3 := B2.trans (b3.mono B2.size)
    obtain ⟨As, cs, hvs, hrs, _⟩ := owns.form hfs
    subst hvs
    clear owns
    have X3 := Lib.hid (X2.out.step b3)
    have Y3 := Lib.hid (Y2.out.step b3)
    have D3 := Lib.hid (D2.out.step b3)
    have S3 := Lib.hid hrs
    clear hrs
    go_wp2_with fail
    refine (implMeet_any _ _ _ _ xs ys _ X3.out Y3.out).mono ?_
    rintro e w4 ⟨vm, rfl, ownm, hfm, b4⟩
    have B4 := B3.trans (b4.mono B3.size)
    obtain ⟨Am, cm, hvm, hrm, _⟩ := ownm.form hfm
    subst hvm
    clear ownm
    have X4 := Lib.hid (X3.out.step b4)
    have D4 := Lib.hid (D3.out.step b4)
    have S4 := Lib.hid (S3.out.step b4)
    have M4 := Lib.hid hrm
    clear hrm
    have hml := meetV_len xs ys
    have heq : (minusB xs ys != minusB xs ys) = false := by simp
    have heq2 : (minusB xs ys == minusB xs ys) = true := by simp
    go_wp2_with fail
    refine (toBelow (implSame_any _ _ _ _ (minusV xs ys) (minusV xs ys) _ _ _ D4.out S4.out)).mono ?_
    rw [(same_iff (minusV xs ys) (minusV xs ys)).2 rfl]
    rintro e w5 ⟨rfl, b5⟩
    have B5 := B4.trans (b5.mono B4.size)
    have X5 := Lib.hid (X4.out.step b5)
    have D5 := Lib.hid (D4.out.step b5)
    have S5 := Lib.hid (S4.out.step b5)
    have M5 := Lib.hid (M4.out.step b5)
    cases hk : minusB xs ys
    · have HK := Lib.hid hk
      go_wp2_with fail
      refine (toBelow (implSame_any _ _ _ _ (minusV xs ys) (minusV xs ys) _ _ _ D5.out S5.out)).mono ?_
      rw [(same_iff (minusV xs ys) (minusV xs ys)).2 rfl]
      rintro e w6 ⟨rfl, b6⟩
      go_wp2
      go_ret
      exact ⟨rfl, B5.trans (b6.mono B5.size)⟩
    · by_cases hm : 12 < (meetV xs ys).length
      · have hm' : (12 : Int) < ((meetV xs ys).length : Int) := by omega
        go_wp2_with fail
        refine (toBelow (implSame_any _ _ _ _ (minusV xs ys) (minusV xs ys) _ _ _ D5.out S5.out)).mono ?_
        rw [(same_iff (minusV xs ys) (minusV xs ys)).2 rfl]
        rintro e w6 ⟨rfl, b6⟩
        go_wp2
        go_ret
        exact ⟨rfl, B5.trans (b6.mono B5.size)⟩
      · have hm' : ¬ (12 : Int) < ((meetV xs ys).length : Int) := by omega
        have hadd := Lib.hid (sizes_add hk (by omega))
        obtain ⟨p1, p2⟩ := sizeV_bound (minusV xs ys)
        obtain ⟨p3, p4⟩ := sizeV_bound (meetV xs ys)
        go_wp2_with fail
        refine (implSize_any _ _ (minusV xs ys) _ D5.out).mono ?_
        rintro e w6 ⟨rfl, b6⟩
        have B6 := B5.trans (b6.mono B5.size)
        have X6 := Lib.hid (X5.out.step b6)
        have M6 := Lib.hid (M5.out.step b6)
        go_wp2_with fail
        refine (implSize_any _ _ (meetV xs ys) _ M6.out).mono ?_
        rintro e w7 ⟨rfl, b7⟩
        have B7 := B6.trans (b7.mono B6.size)
        have X7 := Lib.hid (X6.out.step b7)
        go_wp2_with fail
        refine (implSize_any _ _ xs _ X7.out).mono ?_
        rintro e w8 ⟨rfl, b8⟩
        have B8 := B7.trans (b8.mono B7.size)
        have X8 := Lib.hid (X7.out.step b8)
        have e1 : (sizeV (minusV xs ys) + sizeV (meetV xs ys) == sizeV xs) = true := beq_iff_eq.2 hadd.out
        have e2 : (sizeV xs == sizeV xs) = true := by simp
        go_wp2_with fail
        refine (implSize_any _ _ xs _ X8.out).mono ?_
        rintro e w9 ⟨rfl, b9⟩
        have B9 := B8.trans (b9.mono B8.size)
        have X9 := Lib.hid (X8.out.step b9)
        go_wp2_with fail
        refine (toBelow (specSize_any _ _ xs _ _ X9.out)).mono ?_
        rintro e w10 ⟨rfl, b10⟩
        go_wp2
        go_ret
        exact ⟨rfl, B9.trans (b10.mono B9.size)⟩
end Go.Proofs.Ytcjoidoodggfkaa
