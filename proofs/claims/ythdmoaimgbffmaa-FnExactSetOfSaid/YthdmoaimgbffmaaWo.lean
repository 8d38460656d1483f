/-
  The walk of the exact law FnExactSetOf.
-/
import Derived.Test.YthdmoaimgbffmaaMk
import Derived.Test.YthdmoaimgbffmaaSu
namespace Go.Proofs.Ythdmoaimgbffmaa
open Go.RowKit Sets

set_option maxRecDepth 100000 in
set_option maxHeartbeats 4000000 in
theorem exactOf_walk (A0 : Option Addr) (c0 : Nat) (xs0 : List Sp) (w : World) (h0 : Reads w w.heap.size A0 c0 xs0) (hz : (setOfV xs0).length ≤ 65536) :
    Calls Try.prog 9 #[.slice A0 xs0.length c0] w fun e w' => e = .returned (.bool true) ∧ Below w.heap.size w w' := by
  have hc0 := h0.2.1
  have hl0 := h0.1
  have hf0 := h0.2.2.1
  have H0_0 := Lib.hid (Rd.of h0)
  clear h0
  by_cases hn0 : xs0.length ≤ 1048576
  rotate_left
  · have hfail := hn0
    have hsz0 : Hid ((if (1048576 : Int) < xs0.length then (-1 : Int) else (1048576 : Int) - xs0.length) = -1) := Lib.hid (if_pos (by omega))
    go_enter Try.func9, Try.ntmps9
    go_wp2_with fail
    refine (szSpanS_any _ _ _ _ _ (by omega) (by omega) (by omega)).mono ?_
    rw [hsz0.out]
    rintro e ws0 ⟨rfl, rfl⟩
    go_wp2
    go_ret
    exact ⟨rfl, Below.refl _ _⟩
  have hsz0 : Hid ((if (1048576 : Int) < xs0.length then (-1 : Int) else (1048576 : Int) - xs0.length) = (1048576 : Int) - xs0.length) := Lib.hid (if_neg (by omega))
  have hsn0 : 0 ≤ (1048576 : Int) - xs0.length := by omega
  have hb0 : xs0.length ≤ 1048576 := by omega
  go_enter Try.func9, Try.ntmps9
  go_wp2_with fail
  refine (szSpanS_any _ _ _ _ _ (by omega) (by omega) (by omega)).mono ?_
  rw [hsz0.out]
  rintro e ws0 ⟨rfl, rfl⟩
  have B0 : Below w.heap.size w w := Below.refl _ _
  have s0 : w.heap.size ≤ w.heap.size := Nat.le_refl _
  go_wp2_with fail
  refine (toSpanS_any _ _ xs0 _ (Rd.reads H0_0.out (by omega)) hb0).mono ?_
  rintro e w1 ⟨rfl, r1, o1, b1⟩
  have s1 : w.heap.size ≤ w1.heap.size := b1.size
  have B1 : Below w.heap.size w w1 := B0.trans (b1.mono (by omega))
  have H0_1 := Lib.hid (Rd.below H0_0.out b1 (by omega))
  have t1 : w.heap.size < w1.heap.size := o1.2.2
  have S0_1 := Lib.hid (rd_copy r1 o1 hf0 hb0)
  clear r1 o1
  go_wp2_with fail
  refine (specOf_any _ _ xs0 _ (Rd.reads S0_1.out (by omega))).mono ?_
  rintro e w2 ⟨v2, rfl, u2, hfZ, b2⟩
  have s2 : w1.heap.size ≤ w2.heap.size := b2.size
  have B2 : Below w.heap.size w w2 := B1.trans (b2.mono (by omega))
  have H0_2 := Lib.hid (Rd.below H0_1.out b2 (by omega))
  have S0_2 := Lib.hid (Rd.below S0_1.out b2 (by omega))
  obtain ⟨AZ, cZ, hv2, Z_2r, okZ_2r, hAZ⟩ := OwnS.mark u2 hfZ
  subst hv2
  have lZ := Z_2r.1
  have lcZ := Z_2r.2.1
  have Z_2 := Lib.hid Z_2r
  have HAZ := Lib.hid hAZ
  clear Z_2r okZ_2r hAZ u2
  go_wp2_with fail
  refine (toSpanS_any _ _ xs0 _ (Rd.reads H0_2.out (by omega)) hb0).mono ?_
  rintro e w3 ⟨rfl, r3, o3, b3⟩
  have s3 : w2.heap.size ≤ w3.heap.size := b3.size
  have B3 : Below w.heap.size w w3 := B2.trans (b3.mono (by omega))
  have H0_3 := Lib.hid (Rd.below H0_2.out b3 (by omega))
  have Z_3 := Lib.hid (Rd.below Z_2.out b3 (by omega))
  have t3 : w2.heap.size < w3.heap.size := o3.2.2
  have X0_3 := Lib.hid (rd_copy r3 o3 hf0 hb0)
  have okX0_3 : Hid (MarkOK w3 (some ⟨w2.heap.size, 0, none⟩) xs0.length) := Lib.hid (.inr ⟨_, rfl, o3⟩)
  clear r3 o3
  go_wp2_with fail
  refine (implOf_any _ _ xs0 _ (Rd.reads X0_3.out (by omega)) (fun h => by cases h)).mono ?_
  rintro e w4 ⟨v4, rfl, u4, hfG, b4⟩
  have s4 : w3.heap.size ≤ w4.heap.size := b4.size
  have B4 : Below w.heap.size w w4 := B3.trans (b4.mono (by omega))
  have H0_4 := Lib.hid (Rd.below H0_3.out b4 (by omega))
  have Z_4 := Lib.hid (Rd.below Z_3.out b4 (by omega))
  have X0_4 := Lib.hid (Rd.below X0_3.out b4 (by omega))
  have okX0_4 := Lib.hid (MarkOK.below okX0_3.out b4)
  obtain ⟨AG, cG, hv4, G_4r, okG_4r, hAG⟩ := OwnS.mark u4 hfG
  subst hv4
  have lG := G_4r.1
  have lcG := G_4r.2.1
  have G_4 := Lib.hid G_4r
  have HAG := Lib.hid hAG
  have okG_4 : Hid (MarkOK w4 AG (setOfV xs0).length) := Lib.hid okG_4r
  clear G_4r okG_4r hAG u4
  have heq : ((setOfB xs0) != (setOfB xs0)) = false := by simp
  go_wp2_with fail
  refine (eqSpanS_any _ _ _ _ (setOfV xs0) (setOfV xs0) _ (Rd.reads G_4.out (by omega)) (Rd.reads Z_4.out (by omega))).mono ?_
  rw [(same_iff (setOfV xs0) (setOfV xs0)).2 rfl]
  rintro e w5 ⟨rfl, b5⟩
  have s5 : w4.heap.size ≤ w5.heap.size := b5.size
  have B5 : Below w.heap.size w w5 := B4.trans (b5.mono (by omega))
  have H0_5 := Lib.hid (Rd.below H0_4.out b5 (by omega))
  have Z_5 := Lib.hid (Rd.below Z_4.out b5 (by omega))
  have X0_5 := Lib.hid (Rd.below X0_4.out b5 (by omega))
  have G_5 := Lib.hid (Rd.below G_4.out b5 (by omega))
  have okX0_5 := Lib.hid (MarkOK.below okX0_4.out b5)
  have okG_5 := Lib.hid (MarkOK.below okG_4.out b5)
  go_wp2_with fail
  refine (toSpanS_any _ _ xs0 _ (Rd.reads H0_5.out (by omega)) hb0).mono ?_
  rintro e w6 ⟨rfl, r6, o6, b6⟩
  have s6 : w5.heap.size ≤ w6.heap.size := b6.size
  have B6 : Below w.heap.size w w6 := B5.trans (b6.mono (by omega))
  have H0_6 := Lib.hid (Rd.below H0_5.out b6 (by omega))
  have Z_6 := Lib.hid (Rd.below Z_5.out b6 (by omega))
  have X0_6 := Lib.hid (Rd.below X0_5.out b6 (by omega))
  have G_6 := Lib.hid (Rd.below G_5.out b6 (by omega))
  have okX0_6 := Lib.hid (MarkOK.below okX0_5.out b6)
  have okG_6 := Lib.hid (MarkOK.below okG_5.out b6)
  have t6 : w5.heap.size < w6.heap.size := o6.2.2
  have Y0_6 := Lib.hid (rd_copy r6 o6 hf0 hb0)
  clear r6 o6
  go_wp2_with fail
  refine (eqSpanS_any _ _ _ _ (xs0) (xs0) _ (Rd.reads X0_6.out (by omega)) (Rd.reads Y0_6.out (by omega))).mono ?_
  rw [(same_iff (xs0) (xs0)).2 rfl]
  rintro e w7 ⟨rfl, b7⟩
  have s7 : w6.heap.size ≤ w7.heap.size := b7.size
  have B7 : Below w.heap.size w w7 := B6.trans (b7.mono (by omega))
  have H0_7 := Lib.hid (Rd.below H0_6.out b7 (by omega))
  have Z_7 := Lib.hid (Rd.below Z_6.out b7 (by omega))
  have X0_7 := Lib.hid (Rd.below X0_6.out b7 (by omega))
  have G_7 := Lib.hid (Rd.below G_6.out b7 (by omega))
  have Y0_7 := Lib.hid (Rd.below Y0_6.out b7 (by omega))
  have okX0_7 := Lib.hid (MarkOK.below okX0_6.out b7)
  have okG_7 := Lib.hid (MarkOK.below okG_6.out b7)
  go_wp2_with fail
  refine (mark_to _ xs0.length _ (1) _ okX0_7.out (by omega) (by omega) (by omega)).mono ?_
  rintro e w8 ⟨rfl, m8, _⟩
  have s8 : w7.heap.size ≤ w8.heap.size := m8.size
  have B8 : Below w.heap.size w w8 := B7.trans (m8.bel (by omega) (fun g hg => by injection hg with hg; injection hg with hg; omega))
  have H0_8 := Lib.hid (m8.rd H0_7.out (by omega) (fun g hg => by injection hg with hg; injection hg with hg; omega))
  have Z_8 := Lib.hid (m8.rd Z_7.out (by omega) (fun g hg => by injection hg with hg; injection hg with hg; omega))
  have G_8 := Lib.hid (m8.rd G_7.out (by omega) (fun g hg => by injection hg with hg; injection hg with hg; omega))
  have okG_8 := Lib.hid (m8.ok okG_7.out (fun g g' hg hg' => by injection hg with hg; injection hg with hg; have := HAG.out g' hg'; omega))
  have hkk0 : 0 ≤ (1 + 2 * xs0.length : Int) := by omega
  go_wp2_with fail
  refine (eqSpanS_any _ _ _ _ (setOfV xs0) (setOfV xs0) _ (Rd.reads G_8.out (by omega)) (Rd.reads Z_8.out (by omega))).mono ?_
  rw [(same_iff (setOfV xs0) (setOfV xs0)).2 rfl]
  rintro e w9 ⟨rfl, b9⟩
  have s9 : w8.heap.size ≤ w9.heap.size := b9.size
  have B9 : Below w.heap.size w w9 := B8.trans (b9.mono (by omega))
  have H0_9 := Lib.hid (Rd.below H0_8.out b9 (by omega))
  have Z_9 := Lib.hid (Rd.below Z_8.out b9 (by omega))
  have G_9 := Lib.hid (Rd.below G_8.out b9 (by omega))
  have okG_9 := Lib.hid (MarkOK.below okG_8.out b9)
  go_wp2_with fail
  refine (mark_to _ (setOfV xs0).length _ 1 _ okG_9.out (by omega) (by omega) (by omega)).mono ?_
  rintro e w10 ⟨rfl, m10, rr10⟩
  have s10 : w9.heap.size ≤ w10.heap.size := m10.size
  have B10 : Below w.heap.size w w10 := B9.trans (m10.bel (by omega) (fun g hg => by have := HAG.out g hg; omega))
  have H0_10 := Lib.hid (m10.rd H0_9.out (by omega) (fun g hg => by have := HAG.out g hg; omega))
  have Z_10 := Lib.hid (m10.rd Z_9.out (by omega) (fun g hg => by have := HAG.out g hg; omega))
  have Q_10 := Lib.hid (marked_rd rr10 lG lcG HAG.out (by omega) (by omega) (by omega))
  clear rr10
  have hq0 : 0 ≤ (1 : Int) + 2 * (setOfV xs0).length := by omega
  have hq1 : ((1 : Int) + 2 * (setOfV xs0).length != 1 + 2 * (setOfV xs0).length) = false := by simp
  go_wp2_with fail
  refine (held_any _ (setOfV xs0).length _ 1 _ _ (Rd.reads Q_10.out (by omega)) (by omega) (by omega) (by omega)).mono ?_
  rintro e wq ⟨rfl, rfl⟩
  go_wp2_with fail
  refine (toSpanS_any _ _ xs0 _ (Rd.reads H0_10.out (by omega)) hb0).mono ?_
  rintro e w11 ⟨rfl, r11, o11, b11⟩
  have s11 : w10.heap.size ≤ w11.heap.size := b11.size
  have B11 : Below w.heap.size w w11 := B10.trans (b11.mono (by omega))
  have H0_11 := Lib.hid (Rd.below H0_10.out b11 (by omega))
  have Z_11 := Lib.hid (Rd.below Z_10.out b11 (by omega))
  have Q_11 := Lib.hid (Rd.below Q_10.out b11 (by omega))
  have t11 : w10.heap.size < w11.heap.size := o11.2.2
  have T0_11 := Lib.hid (rd_copy r11 o11 hf0 hb0)
  clear r11 o11
  go_wp2_with fail
  refine (implOf_any _ _ xs0 _ (Rd.reads T0_11.out (by omega)) (fun h => by cases h)).mono ?_
  rintro e w12 ⟨v12, rfl, u12, hfK, b12⟩
  have s12 : w11.heap.size ≤ w12.heap.size := b12.size
  have B12 : Below w.heap.size w w12 := B11.trans (b12.mono (by omega))
  have H0_12 := Lib.hid (Rd.below H0_11.out b12 (by omega))
  have Z_12 := Lib.hid (Rd.below Z_11.out b12 (by omega))
  have Q_12 := Lib.hid (Rd.below Q_11.out b12 (by omega))
  have T0_12 := Lib.hid (Rd.below T0_11.out b12 (by omega))
  obtain ⟨AK, cK, hv12, K_12r, okK_12r, hAK⟩ := OwnS.mark u12 hfK
  subst hv12
  have lK := K_12r.1
  have lcK := K_12r.2.1
  have K_12 := Lib.hid K_12r
  have HAK := Lib.hid hAK
  clear K_12r okK_12r hAK u12
  go_wp2_with fail
  refine (eqSpanS_any _ _ _ _ (setOfV xs0) (setOfV xs0) _ (Rd.reads K_12.out (by omega)) (Rd.reads Z_12.out (by omega))).mono ?_
  rw [(same_iff (setOfV xs0) (setOfV xs0)).2 rfl]
  rintro e w13 ⟨rfl, b13⟩
  have s13 : w12.heap.size ≤ w13.heap.size := b13.size
  have B13 : Below w.heap.size w w13 := B12.trans (b13.mono (by omega))
  have H0_13 := Lib.hid (Rd.below H0_12.out b13 (by omega))
  have Z_13 := Lib.hid (Rd.below Z_12.out b13 (by omega))
  have Q_13 := Lib.hid (Rd.below Q_12.out b13 (by omega))
  have K_13 := Lib.hid (Rd.below K_12.out b13 (by omega))
  go_wp2_with fail
  refine (held_any _ (setOfV xs0).length _ 1 _ _ (Rd.reads Q_13.out (by omega)) (by omega) (by omega) (by omega)).mono ?_
  rintro e wq ⟨rfl, rfl⟩
  go_wp2
  go_ret
  exact ⟨rfl, B13⟩
theorem exactOf_walk_all (A0 : Option Addr) (c0 : Nat) (xs0 : List Sp) (w : World) (h0 : Reads w w.heap.size A0 c0 xs0) :
    Calls Try.prog 9 #[.slice A0 xs0.length c0] w fun e w' => e = .returned (.bool true) ∧ Below w.heap.size w w' :=
  exactOf_walk _ _ _ w h0 (setOfV_le xs0)
end Go.Proofs.Ythdmoaimgbffmaa
