/-
  The walk of the exact law FnExactSetUnion.
-/
import Derived.Test.YthdmoaimgbffmaaMk
import Derived.Test.YthdmoaimgbffmaaSu
namespace Go.Proofs.Ythdmoaimgbffmaa
open Go.RowKit Sets

set_option maxRecDepth 100000 in
set_option maxHeartbeats 4000000 in
theorem exactUnion_walk (A0 : Option Addr) (c0 : Nat) (xs0 : List Sp) (A1 : Option Addr) (c1 : Nat) (xs1 : List Sp) (w : World) (h0 : Reads w w.heap.size A0 c0 xs0) (h1 : Reads w w.heap.size A1 c1 xs1) (hz : (unionV xs0 xs1).length ≤ 65536) :
    Calls Try.prog 10 #[.slice A0 xs0.length c0, .slice A1 xs1.length c1] w fun e w' => e = .returned (.bool true) ∧ Below w.heap.size w w' := by
  have hc0 := h0.2.1
  have hl0 := h0.1
  have hf0 := h0.2.2.1
  have H0_0 := Lib.hid (Rd.of h0)
  clear h0
  have hc1 := h1.2.1
  have hl1 := h1.1
  have hf1 := h1.2.2.1
  have H1_0 := Lib.hid (Rd.of h1)
  clear h1
  by_cases hn0 : xs0.length ≤ 1048576
  rotate_left
  · have hfail := hn0
    have hsz0 : Hid ((if (1048576 : Int) < xs0.length then (-1 : Int) else (1048576 : Int) - xs0.length) = -1) := Lib.hid (if_pos (by omega))
    go_enter Try.func10, Try.ntmps10
    go_wp2_with fail
    refine (szSpanS_any _ _ _ _ _ (by omega) (by omega) (by omega)).mono ?_
    rw [hsz0.out]
    rintro e ws0 ⟨rfl, rfl⟩
    go_wp2
    go_ret
    exact ⟨rfl, Below.refl _ _⟩
  by_cases hn1 : xs0.length + xs1.length ≤ 1048576
  rotate_left
  · have hfail := hn1
    have hsz0 : Hid ((if (1048576 : Int) < xs0.length then (-1 : Int) else (1048576 : Int) - xs0.length) = (1048576 : Int) - xs0.length) := Lib.hid (if_neg (by omega))
    have hsn0 : 0 ≤ (1048576 : Int) - xs0.length := by omega
    have hsz1 : Hid ((if (1048576 : Int) - xs0.length < xs1.length then (-1 : Int) else (1048576 : Int) - xs0.length - xs1.length) = -1) := Lib.hid (if_pos (by omega))
    go_enter Try.func10, Try.ntmps10
    go_wp2_with fail
    refine (szSpanS_any _ _ _ _ _ (by omega) (by omega) (by omega)).mono ?_
    rw [hsz0.out]
    rintro e ws0 ⟨rfl, rfl⟩
    go_wp2_with fail
    refine (szSpanS_any _ _ _ _ _ (by omega) (by omega) (by omega)).mono ?_
    rw [hsz1.out]
    rintro e ws1 ⟨rfl, rfl⟩
    go_wp2
    go_ret
    exact ⟨rfl, Below.refl _ _⟩
  have hsz0 : Hid ((if (1048576 : Int) < xs0.length then (-1 : Int) else (1048576 : Int) - xs0.length) = (1048576 : Int) - xs0.length) := Lib.hid (if_neg (by omega))
  have hsn0 : 0 ≤ (1048576 : Int) - xs0.length := by omega
  have hsz1 : Hid ((if (1048576 : Int) - xs0.length < xs1.length then (-1 : Int) else (1048576 : Int) - xs0.length - xs1.length) = (1048576 : Int) - xs0.length - xs1.length) := Lib.hid (if_neg (by omega))
  have hsn1 : 0 ≤ (1048576 : Int) - xs0.length - xs1.length := by omega
  have hb0 : xs0.length ≤ 1048576 := by omega
  have hb1 : xs1.length ≤ 1048576 := by omega
  go_enter Try.func10, Try.ntmps10
  go_wp2_with fail
  refine (szSpanS_any _ _ _ _ _ (by omega) (by omega) (by omega)).mono ?_
  rw [hsz0.out]
  rintro e ws0 ⟨rfl, rfl⟩
  go_wp2_with fail
  refine (szSpanS_any _ _ _ _ _ (by omega) (by omega) (by omega)).mono ?_
  rw [hsz1.out]
  rintro e ws1 ⟨rfl, rfl⟩
  have B0 : Below w.heap.size w w := Below.refl _ _
  have s0 : w.heap.size ≤ w.heap.size := Nat.le_refl _
  go_wp2_with fail
  refine (toSpanS_any _ _ xs0 _ (Rd.reads H0_0.out (by omega)) hb0).mono ?_
  rintro e w1 ⟨rfl, r1, o1, b1⟩
  have s1 : w.heap.size ≤ w1.heap.size := b1.size
  have B1 : Below w.heap.size w w1 := B0.trans (b1.mono (by omega))
  have H0_1 := Lib.hid (Rd.below H0_0.out b1 (by omega))
  have H1_1 := Lib.hid (Rd.below H1_0.out b1 (by omega))
  have t1 : w.heap.size < w1.heap.size := o1.2.2
  have S0_1 := Lib.hid (rd_copy r1 o1 hf0 hb0)
  clear r1 o1
  go_wp2_with fail
  refine (toSpanS_any _ _ xs1 _ (Rd.reads H1_1.out (by omega)) hb1).mono ?_
  rintro e w2 ⟨rfl, r2, o2, b2⟩
  have s2 : w1.heap.size ≤ w2.heap.size := b2.size
  have B2 : Below w.heap.size w w2 := B1.trans (b2.mono (by omega))
  have H0_2 := Lib.hid (Rd.below H0_1.out b2 (by omega))
  have H1_2 := Lib.hid (Rd.below H1_1.out b2 (by omega))
  have S0_2 := Lib.hid (Rd.below S0_1.out b2 (by omega))
  have t2 : w1.heap.size < w2.heap.size := o2.2.2
  have S1_2 := Lib.hid (rd_copy r2 o2 hf1 hb1)
  clear r2 o2
  go_wp2_with fail
  refine (specUnion_any _ _ _ _ xs0 xs1 _ (Rd.reads S0_2.out (by omega)) (Rd.reads S1_2.out (by omega))).mono ?_
  rintro e w3 ⟨v3, rfl, u3, hfZ, b3⟩
  have s3 : w2.heap.size ≤ w3.heap.size := b3.size
  have B3 : Below w.heap.size w w3 := B2.trans (b3.mono (by omega))
  have H0_3 := Lib.hid (Rd.below H0_2.out b3 (by omega))
  have H1_3 := Lib.hid (Rd.below H1_2.out b3 (by omega))
  have S0_3 := Lib.hid (Rd.below S0_2.out b3 (by omega))
  have S1_3 := Lib.hid (Rd.below S1_2.out b3 (by omega))
  obtain ⟨AZ, cZ, hv3, Z_3r, okZ_3r, hAZ⟩ := OwnS.mark u3 hfZ
  subst hv3
  have lZ := Z_3r.1
  have lcZ := Z_3r.2.1
  have Z_3 := Lib.hid Z_3r
  have HAZ := Lib.hid hAZ
  clear Z_3r okZ_3r hAZ u3
  go_wp2_with fail
  refine (toSpanS_any _ _ xs0 _ (Rd.reads H0_3.out (by omega)) hb0).mono ?_
  rintro e w4 ⟨rfl, r4, o4, b4⟩
  have s4 : w3.heap.size ≤ w4.heap.size := b4.size
  have B4 : Below w.heap.size w w4 := B3.trans (b4.mono (by omega))
  have H0_4 := Lib.hid (Rd.below H0_3.out b4 (by omega))
  have H1_4 := Lib.hid (Rd.below H1_3.out b4 (by omega))
  have Z_4 := Lib.hid (Rd.below Z_3.out b4 (by omega))
  have t4 : w3.heap.size < w4.heap.size := o4.2.2
  have X0_4 := Lib.hid (rd_copy r4 o4 hf0 hb0)
  have okX0_4 : Hid (MarkOK w4 (some ⟨w3.heap.size, 0, none⟩) xs0.length) := Lib.hid (.inr ⟨_, rfl, o4⟩)
  clear r4 o4
  go_wp2_with fail
  refine (toSpanS_any _ _ xs1 _ (Rd.reads H1_4.out (by omega)) hb1).mono ?_
  rintro e w5 ⟨rfl, r5, o5, b5⟩
  have s5 : w4.heap.size ≤ w5.heap.size := b5.size
  have B5 : Below w.heap.size w w5 := B4.trans (b5.mono (by omega))
  have H0_5 := Lib.hid (Rd.below H0_4.out b5 (by omega))
  have H1_5 := Lib.hid (Rd.below H1_4.out b5 (by omega))
  have Z_5 := Lib.hid (Rd.below Z_4.out b5 (by omega))
  have X0_5 := Lib.hid (Rd.below X0_4.out b5 (by omega))
  have okX0_5 := Lib.hid (MarkOK.below okX0_4.out b5)
  have t5 : w4.heap.size < w5.heap.size := o5.2.2
  have X1_5 := Lib.hid (rd_copy r5 o5 hf1 hb1)
  have okX1_5 : Hid (MarkOK w5 (some ⟨w4.heap.size, 0, none⟩) xs1.length) := Lib.hid (.inr ⟨_, rfl, o5⟩)
  clear r5 o5
  go_wp2_with fail
  refine (implUnion_any _ _ _ _ xs0 xs1 _ (Rd.reads X0_5.out (by omega)) (Rd.reads X1_5.out (by omega)) (fun h => by cases h) (fun h => by cases h)).mono ?_
  rintro e w6 ⟨v6, rfl, u6, hfG, b6⟩
  have s6 : w5.heap.size ≤ w6.heap.size := b6.size
  have B6 : Below w.heap.size w w6 := B5.trans (b6.mono (by omega))
  have H0_6 := Lib.hid (Rd.below H0_5.out b6 (by omega))
  have H1_6 := Lib.hid (Rd.below H1_5.out b6 (by omega))
  have Z_6 := Lib.hid (Rd.below Z_5.out b6 (by omega))
  have X0_6 := Lib.hid (Rd.below X0_5.out b6 (by omega))
  have X1_6 := Lib.hid (Rd.below X1_5.out b6 (by omega))
  have okX0_6 := Lib.hid (MarkOK.below okX0_5.out b6)
  have okX1_6 := Lib.hid (MarkOK.below okX1_5.out b6)
  obtain ⟨AG, cG, hv6, G_6r, okG_6r, hAG⟩ := OwnS.mark u6 hfG
  subst hv6
  have lG := G_6r.1
  have lcG := G_6r.2.1
  have G_6 := Lib.hid G_6r
  have HAG := Lib.hid hAG
  have okG_6 : Hid (MarkOK w6 AG (unionV xs0 xs1).length) := Lib.hid okG_6r
  clear G_6r okG_6r hAG u6
  have heq : ((unionB xs0 xs1) != (unionB xs0 xs1)) = false := by simp
  go_wp2_with fail
  refine (eqSpanS_any _ _ _ _ (unionV xs0 xs1) (unionV xs0 xs1) _ (Rd.reads G_6.out (by omega)) (Rd.reads Z_6.out (by omega))).mono ?_
  rw [(same_iff (unionV xs0 xs1) (unionV xs0 xs1)).2 rfl]
  rintro e w7 ⟨rfl, b7⟩
  have s7 : w6.heap.size ≤ w7.heap.size := b7.size
  have B7 : Below w.heap.size w w7 := B6.trans (b7.mono (by omega))
  have H0_7 := Lib.hid (Rd.below H0_6.out b7 (by omega))
  have H1_7 := Lib.hid (Rd.below H1_6.out b7 (by omega))
  have Z_7 := Lib.hid (Rd.below Z_6.out b7 (by omega))
  have X0_7 := Lib.hid (Rd.below X0_6.out b7 (by omega))
  have X1_7 := Lib.hid (Rd.below X1_6.out b7 (by omega))
  have G_7 := Lib.hid (Rd.below G_6.out b7 (by omega))
  have okX0_7 := Lib.hid (MarkOK.below okX0_6.out b7)
  have okX1_7 := Lib.hid (MarkOK.below okX1_6.out b7)
  have okG_7 := Lib.hid (MarkOK.below okG_6.out b7)
  go_wp2_with fail
  refine (toSpanS_any _ _ xs0 _ (Rd.reads H0_7.out (by omega)) hb0).mono ?_
  rintro e w8 ⟨rfl, r8, o8, b8⟩
  have s8 : w7.heap.size ≤ w8.heap.size := b8.size
  have B8 : Below w.heap.size w w8 := B7.trans (b8.mono (by omega))
  have H0_8 := Lib.hid (Rd.below H0_7.out b8 (by omega))
  have H1_8 := Lib.hid (Rd.below H1_7.out b8 (by omega))
  have Z_8 := Lib.hid (Rd.below Z_7.out b8 (by omega))
  have X0_8 := Lib.hid (Rd.below X0_7.out b8 (by omega))
  have X1_8 := Lib.hid (Rd.below X1_7.out b8 (by omega))
  have G_8 := Lib.hid (Rd.below G_7.out b8 (by omega))
  have okX0_8 := Lib.hid (MarkOK.below okX0_7.out b8)
  have okX1_8 := Lib.hid (MarkOK.below okX1_7.out b8)
  have okG_8 := Lib.hid (MarkOK.below okG_7.out b8)
  have t8 : w7.heap.size < w8.heap.size := o8.2.2
  have Y0_8 := Lib.hid (rd_copy r8 o8 hf0 hb0)
  clear r8 o8
  go_wp2_with fail
  refine (eqSpanS_any _ _ _ _ (xs0) (xs0) _ (Rd.reads X0_8.out (by omega)) (Rd.reads Y0_8.out (by omega))).mono ?_
  rw [(same_iff (xs0) (xs0)).2 rfl]
  rintro e w9 ⟨rfl, b9⟩
  have s9 : w8.heap.size ≤ w9.heap.size := b9.size
  have B9 : Below w.heap.size w w9 := B8.trans (b9.mono (by omega))
  have H0_9 := Lib.hid (Rd.below H0_8.out b9 (by omega))
  have H1_9 := Lib.hid (Rd.below H1_8.out b9 (by omega))
  have Z_9 := Lib.hid (Rd.below Z_8.out b9 (by omega))
  have X0_9 := Lib.hid (Rd.below X0_8.out b9 (by omega))
  have X1_9 := Lib.hid (Rd.below X1_8.out b9 (by omega))
  have G_9 := Lib.hid (Rd.below G_8.out b9 (by omega))
  have Y0_9 := Lib.hid (Rd.below Y0_8.out b9 (by omega))
  have okX0_9 := Lib.hid (MarkOK.below okX0_8.out b9)
  have okX1_9 := Lib.hid (MarkOK.below okX1_8.out b9)
  have okG_9 := Lib.hid (MarkOK.below okG_8.out b9)
  go_wp2_with fail
  refine (toSpanS_any _ _ xs1 _ (Rd.reads H1_9.out (by omega)) hb1).mono ?_
  rintro e w10 ⟨rfl, r10, o10, b10⟩
  have s10 : w9.heap.size ≤ w10.heap.size := b10.size
  have B10 : Below w.heap.size w w10 := B9.trans (b10.mono (by omega))
  have H0_10 := Lib.hid (Rd.below H0_9.out b10 (by omega))
  have H1_10 := Lib.hid (Rd.below H1_9.out b10 (by omega))
  have Z_10 := Lib.hid (Rd.below Z_9.out b10 (by omega))
  have X0_10 := Lib.hid (Rd.below X0_9.out b10 (by omega))
  have X1_10 := Lib.hid (Rd.below X1_9.out b10 (by omega))
  have G_10 := Lib.hid (Rd.below G_9.out b10 (by omega))
  have okX0_10 := Lib.hid (MarkOK.below okX0_9.out b10)
  have okX1_10 := Lib.hid (MarkOK.below okX1_9.out b10)
  have okG_10 := Lib.hid (MarkOK.below okG_9.out b10)
  have t10 : w9.heap.size < w10.heap.size := o10.2.2
  have Y1_10 := Lib.hid (rd_copy r10 o10 hf1 hb1)
  clear r10 o10
  go_wp2_with fail
  refine (eqSpanS_any _ _ _ _ (xs1) (xs1) _ (Rd.reads X1_10.out (by omega)) (Rd.reads Y1_10.out (by omega))).mono ?_
  rw [(same_iff (xs1) (xs1)).2 rfl]
  rintro e w11 ⟨rfl, b11⟩
  have s11 : w10.heap.size ≤ w11.heap.size := b11.size
  have B11 : Below w.heap.size w w11 := B10.trans (b11.mono (by omega))
  have H0_11 := Lib.hid (Rd.below H0_10.out b11 (by omega))
  have H1_11 := Lib.hid (Rd.below H1_10.out b11 (by omega))
  have Z_11 := Lib.hid (Rd.below Z_10.out b11 (by omega))
  have X0_11 := Lib.hid (Rd.below X0_10.out b11 (by omega))
  have X1_11 := Lib.hid (Rd.below X1_10.out b11 (by omega))
  have G_11 := Lib.hid (Rd.below G_10.out b11 (by omega))
  have Y1_11 := Lib.hid (Rd.below Y1_10.out b11 (by omega))
  have okX0_11 := Lib.hid (MarkOK.below okX0_10.out b11)
  have okX1_11 := Lib.hid (MarkOK.below okX1_10.out b11)
  have okG_11 := Lib.hid (MarkOK.below okG_10.out b11)
  go_wp2_with fail
  refine (mark_to _ xs0.length _ (1) _ okX0_11.out (by omega) (by omega) (by omega)).mono ?_
  rintro e w12 ⟨rfl, m12, _⟩
  have s12 : w11.heap.size ≤ w12.heap.size := m12.size
  have B12 : Below w.heap.size w w12 := B11.trans (m12.bel (by omega) (fun g hg => by injection hg with hg; injection hg with hg; omega))
  have H0_12 := Lib.hid (m12.rd H0_11.out (by omega) (fun g hg => by injection hg with hg; injection hg with hg; omega))
  have H1_12 := Lib.hid (m12.rd H1_11.out (by omega) (fun g hg => by injection hg with hg; injection hg with hg; omega))
  have Z_12 := Lib.hid (m12.rd Z_11.out (by omega) (fun g hg => by injection hg with hg; injection hg with hg; omega))
  have X1_12 := Lib.hid (m12.rd X1_11.out (by omega) (fun g hg => by injection hg with hg; injection hg with hg; omega))
  have G_12 := Lib.hid (m12.rd G_11.out (by omega) (fun g hg => by injection hg with hg; injection hg with hg; omega))
  have okX1_12 := Lib.hid (m12.ok okX1_11.out (fun g g' hg hg' => by injection hg with hg; injection hg with hg; injection hg' with hg'; injection hg' with hg'; omega))
  have okG_12 := Lib.hid (m12.ok okG_11.out (fun g g' hg hg' => by injection hg with hg; injection hg with hg; have := HAG.out g' hg'; omega))
  have hkk0 : 0 ≤ (1 + 2 * xs0.length : Int) := by omega
  go_wp2_with fail
  refine (mark_to _ xs1.length _ (1 + 2 * xs0.length) _ okX1_12.out (by omega) (by omega) (by omega)).mono ?_
  rintro e w13 ⟨rfl, m13, _⟩
  have s13 : w12.heap.size ≤ w13.heap.size := m13.size
  have B13 : Below w.heap.size w w13 := B12.trans (m13.bel (by omega) (fun g hg => by injection hg with hg; injection hg with hg; omega))
  have H0_13 := Lib.hid (m13.rd H0_12.out (by omega) (fun g hg => by injection hg with hg; injection hg with hg; omega))
  have H1_13 := Lib.hid (m13.rd H1_12.out (by omega) (fun g hg => by injection hg with hg; injection hg with hg; omega))
  have Z_13 := Lib.hid (m13.rd Z_12.out (by omega) (fun g hg => by injection hg with hg; injection hg with hg; omega))
  have G_13 := Lib.hid (m13.rd G_12.out (by omega) (fun g hg => by injection hg with hg; injection hg with hg; omega))
  have okG_13 := Lib.hid (m13.ok okG_12.out (fun g g' hg hg' => by injection hg with hg; injection hg with hg; have := HAG.out g' hg'; omega))
  have hkk1 : 0 ≤ (1 + 2 * xs0.length + 2 * xs1.length : Int) := by omega
  go_wp2_with fail
  refine (eqSpanS_any _ _ _ _ (unionV xs0 xs1) (unionV xs0 xs1) _ (Rd.reads G_13.out (by omega)) (Rd.reads Z_13.out (by omega))).mono ?_
  rw [(same_iff (unionV xs0 xs1) (unionV xs0 xs1)).2 rfl]
  rintro e w14 ⟨rfl, b14⟩
  have s14 : w13.heap.size ≤ w14.heap.size := b14.size
  have B14 : Below w.heap.size w w14 := B13.trans (b14.mono (by omega))
  have H0_14 := Lib.hid (Rd.below H0_13.out b14 (by omega))
  have H1_14 := Lib.hid (Rd.below H1_13.out b14 (by omega))
  have Z_14 := Lib.hid (Rd.below Z_13.out b14 (by omega))
  have G_14 := Lib.hid (Rd.below G_13.out b14 (by omega))
  have okG_14 := Lib.hid (MarkOK.below okG_13.out b14)
  go_wp2_with fail
  refine (mark_to _ (unionV xs0 xs1).length _ 1 _ okG_14.out (by omega) (by omega) (by omega)).mono ?_
  rintro e w15 ⟨rfl, m15, rr15⟩
  have s15 : w14.heap.size ≤ w15.heap.size := m15.size
  have B15 : Below w.heap.size w w15 := B14.trans (m15.bel (by omega) (fun g hg => by have := HAG.out g hg; omega))
  have H0_15 := Lib.hid (m15.rd H0_14.out (by omega) (fun g hg => by have := HAG.out g hg; omega))
  have H1_15 := Lib.hid (m15.rd H1_14.out (by omega) (fun g hg => by have := HAG.out g hg; omega))
  have Z_15 := Lib.hid (m15.rd Z_14.out (by omega) (fun g hg => by have := HAG.out g hg; omega))
  have Q_15 := Lib.hid (marked_rd rr15 lG lcG HAG.out (by omega) (by omega) (by omega))
  clear rr15
  have hq0 : 0 ≤ (1 : Int) + 2 * (unionV xs0 xs1).length := by omega
  have hq1 : ((1 : Int) + 2 * (unionV xs0 xs1).length != 1 + 2 * (unionV xs0 xs1).length) = false := by simp
  go_wp2_with fail
  refine (held_any _ (unionV xs0 xs1).length _ 1 _ _ (Rd.reads Q_15.out (by omega)) (by omega) (by omega) (by omega)).mono ?_
  rintro e wq ⟨rfl, rfl⟩
  go_wp2_with fail
  refine (toSpanS_any _ _ xs0 _ (Rd.reads H0_15.out (by omega)) hb0).mono ?_
  rintro e w16 ⟨rfl, r16, o16, b16⟩
  have s16 : w15.heap.size ≤ w16.heap.size := b16.size
  have B16 : Below w.heap.size w w16 := B15.trans (b16.mono (by omega))
  have H0_16 := Lib.hid (Rd.below H0_15.out b16 (by omega))
  have H1_16 := Lib.hid (Rd.below H1_15.out b16 (by omega))
  have Z_16 := Lib.hid (Rd.below Z_15.out b16 (by omega))
  have Q_16 := Lib.hid (Rd.below Q_15.out b16 (by omega))
  have t16 : w15.heap.size < w16.heap.size := o16.2.2
  have T0_16 := Lib.hid (rd_copy r16 o16 hf0 hb0)
  clear r16 o16
  go_wp2_with fail
  refine (toSpanS_any _ _ xs1 _ (Rd.reads H1_16.out (by omega)) hb1).mono ?_
  rintro e w17 ⟨rfl, r17, o17, b17⟩
  have s17 : w16.heap.size ≤ w17.heap.size := b17.size
  have B17 : Below w.heap.size w w17 := B16.trans (b17.mono (by omega))
  have H0_17 := Lib.hid (Rd.below H0_16.out b17 (by omega))
  have H1_17 := Lib.hid (Rd.below H1_16.out b17 (by omega))
  have Z_17 := Lib.hid (Rd.below Z_16.out b17 (by omega))
  have Q_17 := Lib.hid (Rd.below Q_16.out b17 (by omega))
  have T0_17 := Lib.hid (Rd.below T0_16.out b17 (by omega))
  have t17 : w16.heap.size < w17.heap.size := o17.2.2
  have T1_17 := Lib.hid (rd_copy r17 o17 hf1 hb1)
  clear r17 o17
  go_wp2_with fail
  refine (implUnion_any _ _ _ _ xs0 xs1 _ (Rd.reads T0_17.out (by omega)) (Rd.reads T1_17.out (by omega)) (fun h => by cases h) (fun h => by cases h)).mono ?_
  rintro e w18 ⟨v18, rfl, u18, hfK, b18⟩
  have s18 : w17.heap.size ≤ w18.heap.size := b18.size
  have B18 : Below w.heap.size w w18 := B17.trans (b18.mono (by omega))
  have H0_18 := Lib.hid (Rd.below H0_17.out b18 (by omega))
  have H1_18 := Lib.hid (Rd.below H1_17.out b18 (by omega))
  have Z_18 := Lib.hid (Rd.below Z_17.out b18 (by omega))
  have Q_18 := Lib.hid (Rd.below Q_17.out b18 (by omega))
  have T0_18 := Lib.hid (Rd.below T0_17.out b18 (by omega))
  have T1_18 := Lib.hid (Rd.below T1_17.out b18 (by omega))
  obtain ⟨AK, cK, hv18, K_18r, okK_18r, hAK⟩ := OwnS.mark u18 hfK
  subst hv18
  have lK := K_18r.1
  have lcK := K_18r.2.1
  have K_18 := Lib.hid K_18r
  have HAK := Lib.hid hAK
  clear K_18r okK_18r hAK u18
  go_wp2_with fail
  refine (eqSpanS_any _ _ _ _ (unionV xs0 xs1) (unionV xs0 xs1) _ (Rd.reads K_18.out (by omega)) (Rd.reads Z_18.out (by omega))).mono ?_
  rw [(same_iff (unionV xs0 xs1) (unionV xs0 xs1)).2 rfl]
  rintro e w19 ⟨rfl, b19⟩
  have s19 : w18.heap.size ≤ w19.heap.size := b19.size
  have B19 : Below w.heap.size w w19 := B18.trans (b19.mono (by omega))
  have H0_19 := Lib.hid (Rd.below H0_18.out b19 (by omega))
  have H1_19 := Lib.hid (Rd.below H1_18.out b19 (by omega))
  have Z_19 := Lib.hid (Rd.below Z_18.out b19 (by omega))
  have Q_19 := Lib.hid (Rd.below Q_18.out b19 (by omega))
  have K_19 := Lib.hid (Rd.below K_18.out b19 (by omega))
  go_wp2_with fail
  refine (held_any _ (unionV xs0 xs1).length _ 1 _ _ (Rd.reads Q_19.out (by omega)) (by omega) (by omega) (by omega)).mono ?_
  rintro e wq ⟨rfl, rfl⟩
  go_wp2
  go_ret
  exact ⟨rfl, B19⟩
theorem exactUnion_walk_all (A0 : Option Addr) (c0 : Nat) (xs0 : List Sp) (A1 : Option Addr) (c1 : Nat) (xs1 : List Sp) (w : World) (h0 : Reads w w.heap.size A0 c0 xs0) (h1 : Reads w w.heap.size A1 c1 xs1) :
    Calls Try.prog 10 #[.slice A0 xs0.length c0, .slice A1 xs1.length c1] w fun e w' => e = .returned (.bool true) ∧ Below w.heap.size w w' :=
  exactUnion_walk _ _ _ _ _ _ w h0 h1 (unionV_le xs0 xs1)
end Go.Proofs.Ythdmoaimgbffmaa
