/-
  The walk of FnExactDecideOuts: whatever the arguments, the law holds.
-/
import Derived.Test.YtppciomdbabepaaDoorWj
import Derived.Test.YtppciomdbabepaaDoorWk
namespace Go.Proofs.YtppciomdbabepaaDoor
open Go.RowKit Sets

theorem OwnR.res {w : World} {lo hi : Nat} {A : Option Addr} {c : Nat} {x : Int} {ns : List Int} (h : OwnR w lo hi A c ns) : ResAt w w.heap.size (.agg #[.int .i64 x, .slice A ns.length c]) (x, ns) := ⟨A, c, rfl, h.1.ints⟩
theorem do_len (p : Int) (ns : List Int) (h : ns.length ≤ 1048576) : (doV p ns).2.length ≤ 1048576 := by
  unfold doV
  split
  · unfold dcV
    repeat' split
    all_goals simp
    · exact h
    · rw [srK_len]; exact h
  · simp

set_option maxRecDepth 100000 in
set_option maxHeartbeats 4000000 in
theorem exactDecideOuts_walk (a0 : Int) (A1 : Option Addr) (c1 : Nat) (ns1 : List Int) (w : World) (h1 : IntsAt w w.heap.size A1 c1 ns1) (z1 z2 z3 : Addr) (hE : EndsIs w z1 z2 z3) :
    Calls Tryd.prog 3 #[.int .i64 a0, .slice A1 ns1.length c1] w fun e w' => e = .returned (.bool true) ∧ Below w.heap.size w w' := by
  have H := Lib.hid h1
  have E := Lib.hid hE
  clear h1 hE
  have B := Lib.hid (Below.refl w.heap.size w)
  by_cases hn : 1048576 < ns1.length
  · have hq : (1048576 : Int) < (ns1.length : Int) := by omega
    go_enter Tryd.func3, Tryd.ntmps3
    go_wp2
    go_ret
    exact ⟨rfl, B.out⟩
  have hq : decide ((1048576 : Int) < (ns1.length : Int)) = false := decide_eq_false (by omega)
  have HQ := Lib.hid (show ns1.length ≤ 1048576 by omega)
  clear hn
  obtain ⟨⟨rc, rl⟩, hr⟩ : ∃ r : Rs, doV a0 ns1 = r := ⟨_, rfl⟩
  have HR := Lib.hid hr
  have HL := Lib.hid (show rl.length ≤ 1048576 by have := do_len a0 ns1 HQ.out; rw [hr] at this; exact this)
  clear hr
  go_enter Tryd.func3, Tryd.ntmps3
  go_wp2_with fail
  refine (toIntS_any _ _ ns1 w ((H.out.below B.out).mono B.out.size) HQ.out).mono ?_
  rintro e w1 ⟨rfl, ro, oo, b⟩
  replace B := Lib.hid (B.out.trans (b.mono B.out.size))
  have M0 := Lib.hid (OwnR.copy ro oo H.out.1 HQ.out)
  have gM0 := Lib.hid (show w.heap.size < w1.heap.size from oo.2.2)
  clear b ro oo
  go_wp2_with fail
  have S0 := Lib.hid B.out.size
  refine (specDO_any a0 _ _ ns1 w1 M0.out.1.ints).mono ?_
  rw [HR.out]
  rintro e w2 ⟨AR0, cR0, rfl, oo, b⟩
  have sR0 := Lib.hid (show w1.heap.size ≤ w2.heap.size from b.size)
  replace M0 := Lib.hid (M0.out.step b)
  replace B := Lib.hid (B.out.trans (b.mono B.out.size))
  have R0 := Lib.hid (OwnR.of oo)
  simp only [] at R0 ⊢
  clear oo b
  have bz : Below w2.heap.size w2 (w2.alloc (.cells #[.int .i64 rc, .slice AR0 rl.length cR0] 24)) := (Below.refl _ _).alloc (Nat.le_refl _) _
  replace M0 := Lib.hid (M0.out.step bz)
  replace R0 := Lib.hid (R0.out.step bz)
  replace B := Lib.hid (B.out.trans (bz.mono B.out.size))
  have Y0 : Hid (RBox (w2.alloc (.cells #[.int .i64 rc, .slice AR0 rl.length cR0] 24)) w2.heap.size rc AR0 rl.length cR0) := Lib.hid (RBox.made _ _ _ _ _ _)
  clear bz
  clear M0 gM0
  obtain ⟨p00, p01, p02⟩ := Y0.out
  clear p02
  go_wp2_with fail
  clear p00 p01
  generalize (w2.alloc (.cells #[.int .i64 rc, .slice AR0 rl.length cR0] 24)) = w3 at R0 Y0 B ⊢
  have SY := Lib.hid Y0.out.2.2
  refine (toIntS_any _ _ ns1 w3 ((H.out.below B.out).mono B.out.size) HQ.out).mono ?_
  rintro e w4 ⟨rfl, ro, oo, b⟩
  replace R0 := Lib.hid (R0.out.step b)
  replace Y0 := Lib.hid (Y0.out.step b)
  replace B := Lib.hid (B.out.trans (b.mono B.out.size))
  have X1 := Lib.hid (OwnR.copy ro oo H.out.1 HQ.out)
  have gX1 := Lib.hid (show w3.heap.size < w4.heap.size from oo.2.2)
  clear b ro oo
  obtain ⟨p00, p01, p02⟩ := Y0.out
  clear p02
  go_wp2_with fail
  clear p00 p01
  refine (implDO_any z1 z2 z3 a0 _ _ ns1 w4 (E.out.step B.out) X1.out.1.ints).mono ?_
  rw [HR.out]
  rintro e w5 ⟨AG0, cG0, rfl, oo, b⟩
  have sG0 := Lib.hid (show w4.heap.size ≤ w5.heap.size from b.size)
  replace R0 := Lib.hid (R0.out.step b)
  replace X1 := Lib.hid (X1.out.step b)
  replace Y0 := Lib.hid (Y0.out.step b)
  replace B := Lib.hid (B.out.trans (b.mono B.out.size))
  have G0 := Lib.hid (OwnR.of oo)
  simp only [] at G0 ⊢
  clear oo b
  have bz : Below w5.heap.size w5 (w5.alloc (.cells #[.int .i64 rc, .slice AG0 rl.length cG0] 24)) := (Below.refl _ _).alloc (Nat.le_refl _) _
  replace R0 := Lib.hid (R0.out.step bz)
  replace X1 := Lib.hid (X1.out.step bz)
  replace G0 := Lib.hid (G0.out.step bz)
  replace Y0 := Lib.hid (Y0.out.step bz)
  replace B := Lib.hid (B.out.trans (bz.mono B.out.size))
  have Z0 : Hid (RBox (w5.alloc (.cells #[.int .i64 rc, .slice AG0 rl.length cG0] 24)) w5.heap.size rc AG0 rl.length cG0) := Lib.hid (RBox.made _ _ _ _ _ _)
  clear bz
  obtain ⟨p00, p01, p02⟩ := Y0.out
  clear p02
  obtain ⟨p10, p11, p12⟩ := Z0.out
  clear p12
  go_wp2_with fail
  clear p00 p01
  clear p10 p11
  generalize (w5.alloc (.cells #[.int .i64 rc, .slice AG0 rl.length cG0] 24)) = w6 at R0 X1 G0 Y0 Z0 B ⊢
  refine (eqResult_same _ _ (rc, rl) w6 G0.out.res R0.out.res).mono ?_
  rintro e w7 ⟨rfl, b⟩
  replace R0 := Lib.hid (R0.out.step b)
  replace X1 := Lib.hid (X1.out.step b)
  replace G0 := Lib.hid (G0.out.step b)
  replace Y0 := Lib.hid (Y0.out.step b)
  replace Z0 := Lib.hid (Z0.out.step b)
  replace B := Lib.hid (B.out.trans (b.mono B.out.size))
  clear b
  obtain ⟨p00, p01, p02⟩ := Y0.out
  clear p02
  obtain ⟨p10, p11, p12⟩ := Z0.out
  clear p12
  go_wp2_with fail
  clear p00 p01
  clear p10 p11
  refine (toIntS_any _ _ ns1 w7 ((H.out.below B.out).mono B.out.size) HQ.out).mono ?_
  rintro e w8 ⟨rfl, ro, oo, b⟩
  replace R0 := Lib.hid (R0.out.step b)
  replace X1 := Lib.hid (X1.out.step b)
  replace G0 := Lib.hid (G0.out.step b)
  replace Y0 := Lib.hid (Y0.out.step b)
  replace Z0 := Lib.hid (Z0.out.step b)
  replace B := Lib.hid (B.out.trans (b.mono B.out.size))
  have M1 := Lib.hid (OwnR.copy ro oo H.out.1 HQ.out)
  have gM1 := Lib.hid (show w7.heap.size < w8.heap.size from oo.2.2)
  clear b ro oo
  obtain ⟨p00, p01, p02⟩ := Y0.out
  clear p02
  obtain ⟨p10, p11, p12⟩ := Z0.out
  clear p12
  go_wp2_with fail
  clear p00 p01
  clear p10 p11
  refine (eqIntS_same _ _ _ _ ns1 w8 X1.out.1.ints M1.out.1.ints).mono ?_
  rintro e w9 ⟨rfl, b⟩
  replace R0 := Lib.hid (R0.out.step b)
  replace X1 := Lib.hid (X1.out.step b)
  replace G0 := Lib.hid (G0.out.step b)
  replace M1 := Lib.hid (M1.out.step b)
  replace Y0 := Lib.hid (Y0.out.step b)
  replace Z0 := Lib.hid (Z0.out.step b)
  replace B := Lib.hid (B.out.trans (b.mono B.out.size))
  clear b
  clear M1 gM1
  obtain ⟨p00, p01, p02⟩ := Y0.out
  clear p02
  obtain ⟨p10, p11, p12⟩ := Z0.out
  clear p12
  go_wp2_with fail
  clear p00 p01
  clear p10 p11
  have hk0 : decide (1 + (ns1.length : Int) < 0) = false := decide_eq_false (by omega)
  refine (markI_any _ _ ns1 _ _ 1 w9 X1.out (by omega) (by omega) HQ.out).mono ?_
  rintro e w10 ⟨rfl, _, ht⟩
  clear X1
  replace R0 := Lib.hid (ht.own R0.out (fun g hg => by injection hg with hg; injection hg with hg _; subst hg; have o0 := S0.out; have o1 := sR0.out; have o2 := SY.out; have o3 := gX1.out; have o4 := sG0.out; omega))
  replace G0 := Lib.hid (ht.own G0.out (fun g hg => by injection hg with hg; injection hg with hg _; subst hg; have o0 := S0.out; have o1 := sR0.out; have o2 := SY.out; have o3 := gX1.out; have o4 := sG0.out; omega))
  replace Y0 := Lib.hid (ht.rbox Y0.out (fun g hg => by injection hg with hg; injection hg with hg _; subst hg; have o0 := S0.out; have o1 := sR0.out; have o2 := SY.out; have o3 := gX1.out; have o4 := sG0.out; omega))
  replace Z0 := Lib.hid (ht.rbox Z0.out (fun g hg => by injection hg with hg; injection hg with hg _; subst hg; have o0 := S0.out; have o1 := sR0.out; have o2 := SY.out; have o3 := gX1.out; have o4 := sG0.out; omega))
  replace B := Lib.hid (ht.bel B.out B.out.size (fun g hg => by injection hg with hg; injection hg with hg _; subst hg; have o0 := S0.out; have o1 := sR0.out; have o2 := SY.out; have o3 := gX1.out; have o4 := sG0.out; omega))
  clear ht
  obtain ⟨p00, p01, p02⟩ := Y0.out
  clear p02
  obtain ⟨p10, p11, p12⟩ := Z0.out
  clear p12
  go_wp2_with fail
  clear p00 p01
  clear p10 p11
  refine (eqResult_same _ _ (rc, rl) w10 G0.out.res R0.out.res).mono ?_
  rintro e w11 ⟨rfl, b⟩
  replace R0 := Lib.hid (R0.out.step b)
  replace G0 := Lib.hid (G0.out.step b)
  replace Y0 := Lib.hid (Y0.out.step b)
  replace Z0 := Lib.hid (Z0.out.step b)
  replace B := Lib.hid (B.out.trans (b.mono B.out.size))
  clear b
  obtain ⟨p00, p01, p02⟩ := Y0.out
  clear p02
  obtain ⟨p10, p11, p12⟩ := Z0.out
  clear p12
  go_wp2_with fail
  clear p00 p01
  clear p10 p11
  refine (markR_any _ _ rc rl _ _ 1 w11 G0.out (by omega) (by omega) HL.out).mono ?_
  rintro e w13 ⟨rfl, gm, w12, b, ht⟩
  have GL := Lib.hid G0.out
  clear G0
  replace R0 := Lib.hid (R0.out.step b)
  replace Y0 := Lib.hid (Y0.out.step b)
  replace Z0 := Lib.hid (Z0.out.step b)
  replace B := Lib.hid (B.out.trans (b.mono B.out.size))
  clear b
  replace R0 := Lib.hid (ht.own R0.out (fun g hg => by have o5 := GL.out.1.2.2.2.1 g 0 none hg; have o6 := GL.out.2.1 g 0 none hg; have o0 := S0.out; have o1 := sR0.out; have o2 := SY.out; have o3 := gX1.out; have o4 := sG0.out; omega))
  replace Y0 := Lib.hid (ht.rbox Y0.out (fun g hg => by have o5 := GL.out.1.2.2.2.1 g 0 none hg; have o6 := GL.out.2.1 g 0 none hg; have o0 := S0.out; have o1 := sR0.out; have o2 := SY.out; have o3 := gX1.out; have o4 := sG0.out; omega))
  replace Z0 := Lib.hid (ht.rbox Z0.out (fun g hg => by have o5 := GL.out.1.2.2.2.1 g 0 none hg; have o6 := GL.out.2.1 g 0 none hg; have o0 := S0.out; have o1 := sR0.out; have o2 := SY.out; have o3 := gX1.out; have o4 := sG0.out; omega))
  replace B := Lib.hid (ht.bel B.out B.out.size (fun g hg => by have o5 := GL.out.1.2.2.2.1 g 0 none hg; have o6 := GL.out.2.1 g 0 none hg; have o0 := S0.out; have o1 := sR0.out; have o2 := SY.out; have o3 := gX1.out; have o4 := sG0.out; omega))
  clear ht
  have Q := Lib.hid gm
  clear gm GL
  have hq0 : decide (1 + (rl.length : Int) < 0) = false := decide_eq_false (by omega)
  have hq1 : ((1 : Int) + (rl.length : Int) != 1 + (rl.length : Int)) = false := by simp
  obtain ⟨p00, p01, p02⟩ := Y0.out
  clear p02
  obtain ⟨p10, p11, p12⟩ := Z0.out
  clear p12
  go_wp2_with fail
  clear p00 p01
  clear p10 p11
  refine (heldR_any _ _ rl.length rc 1 w13 Q.out.1.ints (by omega) (by omega) HL.out).mono ?_
  rintro e w14 ⟨rfl, b⟩
  replace R0 := Lib.hid (R0.out.step b)
  replace Q := Lib.hid (Q.out.step b)
  replace Y0 := Lib.hid (Y0.out.step b)
  replace Z0 := Lib.hid (Z0.out.step b)
  replace B := Lib.hid (B.out.trans (b.mono B.out.size))
  clear b
  obtain ⟨p00, p01, p02⟩ := Y0.out
  clear p02
  obtain ⟨p10, p11, p12⟩ := Z0.out
  clear p12
  go_wp2_with fail
  clear p00 p01
  clear p10 p11
  refine (toIntS_any _ _ ns1 w14 ((H.out.below B.out).mono B.out.size) HQ.out).mono ?_
  rintro e w15 ⟨rfl, ro, oo, b⟩
  replace R0 := Lib.hid (R0.out.step b)
  replace Q := Lib.hid (Q.out.step b)
  replace Y0 := Lib.hid (Y0.out.step b)
  replace Z0 := Lib.hid (Z0.out.step b)
  replace B := Lib.hid (B.out.trans (b.mono B.out.size))
  have M2 := Lib.hid (OwnR.copy ro oo H.out.1 HQ.out)
  have gM2 := Lib.hid (show w14.heap.size < w15.heap.size from oo.2.2)
  clear b ro oo
  obtain ⟨p00, p01, p02⟩ := Y0.out
  clear p02
  obtain ⟨p10, p11, p12⟩ := Z0.out
  clear p12
  go_wp2_with fail
  clear p00 p01
  clear p10 p11
  refine (implDO_any z1 z2 z3 a0 _ _ ns1 w15 (E.out.step B.out) M2.out.1.ints).mono ?_
  rw [HR.out]
  rintro e w16 ⟨AK0, cK0, rfl, oo, b⟩
  have sK0 := Lib.hid (show w15.heap.size ≤ w16.heap.size from b.size)
  replace R0 := Lib.hid (R0.out.step b)
  replace Q := Lib.hid (Q.out.step b)
  replace M2 := Lib.hid (M2.out.step b)
  replace Y0 := Lib.hid (Y0.out.step b)
  replace Z0 := Lib.hid (Z0.out.step b)
  replace B := Lib.hid (B.out.trans (b.mono B.out.size))
  have K0 := Lib.hid (OwnR.of oo)
  simp only [] at K0 ⊢
  clear oo b
  have bz : Below w16.heap.size w16 (w16.alloc (.cells #[.int .i64 rc, .slice AK0 rl.length cK0] 24)) := (Below.refl _ _).alloc (Nat.le_refl _) _
  replace R0 := Lib.hid (R0.out.step bz)
  replace Q := Lib.hid (Q.out.step bz)
  replace M2 := Lib.hid (M2.out.step bz)
  replace K0 := Lib.hid (K0.out.step bz)
  replace Y0 := Lib.hid (Y0.out.step bz)
  replace Z0 := Lib.hid (Z0.out.step bz)
  replace B := Lib.hid (B.out.trans (bz.mono B.out.size))
  have V0 : Hid (RBox (w16.alloc (.cells #[.int .i64 rc, .slice AK0 rl.length cK0] 24)) w16.heap.size rc AK0 rl.length cK0) := Lib.hid (RBox.made _ _ _ _ _ _)
  clear bz
  clear M2 gM2
  obtain ⟨p00, p01, p02⟩ := Y0.out
  clear p02
  obtain ⟨p10, p11, p12⟩ := Z0.out
  clear p12
  obtain ⟨p20, p21, p22⟩ := V0.out
  clear p22
  go_wp2_with fail
  clear p00 p01
  clear p10 p11
  clear p20 p21
  generalize (w16.alloc (.cells #[.int .i64 rc, .slice AK0 rl.length cK0] 24)) = w17 at R0 Q K0 Y0 Z0 V0 B ⊢
  refine (eqResult_same _ _ (rc, rl) w17 K0.out.res R0.out.res).mono ?_
  rintro e w18 ⟨rfl, b⟩
  replace R0 := Lib.hid (R0.out.step b)
  replace Q := Lib.hid (Q.out.step b)
  replace K0 := Lib.hid (K0.out.step b)
  replace Y0 := Lib.hid (Y0.out.step b)
  replace Z0 := Lib.hid (Z0.out.step b)
  replace V0 := Lib.hid (V0.out.step b)
  replace B := Lib.hid (B.out.trans (b.mono B.out.size))
  clear b
  obtain ⟨p00, p01, p02⟩ := Y0.out
  clear p02
  obtain ⟨p10, p11, p12⟩ := Z0.out
  clear p12
  obtain ⟨p20, p21, p22⟩ := V0.out
  clear p22
  go_wp2_with fail
  clear p00 p01
  clear p10 p11
  clear p20 p21
  refine (heldR_any _ _ rl.length rc 1 w18 Q.out.1.ints (by omega) (by omega) HL.out).mono ?_
  rintro e w19 ⟨rfl, b⟩
  replace R0 := Lib.hid (R0.out.step b)
  replace Q := Lib.hid (Q.out.step b)
  replace K0 := Lib.hid (K0.out.step b)
  replace Y0 := Lib.hid (Y0.out.step b)
  replace Z0 := Lib.hid (Z0.out.step b)
  replace V0 := Lib.hid (V0.out.step b)
  replace B := Lib.hid (B.out.trans (b.mono B.out.size))
  clear b
  obtain ⟨p00, p01, p02⟩ := Y0.out
  clear p02
  obtain ⟨p10, p11, p12⟩ := Z0.out
  clear p12
  obtain ⟨p20, p21, p22⟩ := V0.out
  clear p22
  go_wp2
  go_ret
  exact ⟨rfl, B.out⟩
end Go.Proofs.YtppciomdbabepaaDoor
