/-
  Contract of the draw of a column and a set.
-/
import Derived.Test.YthkjcljhfjaabaaGreatDoorDk
import Derived.Test.YthkjcljhfjaabaaGreatDoorKn
import Derived.Test.YthkjcljhfjaabaaGreatDoorKi
import Derived.Test.YthkjcljhfjaabaaGreatDoorKmM
import Derived.Test.YthkjcljhfjaabaaGreatDoorTjM
import Derived.Test.YthkjcljhfjaabaaGreatDoorTn
import Derived.Test.YthkjcljhfjaabaaGreatDoorIt
namespace Go.Proofs.YthkjcljhfjaabaaGreatDoor
open Go.RowKit Sets

/-- A column and a set that a draw hands back. -/
def DrawCS (w : World) (e : Ending) (w' : World) : Prop := ∃ (L : Bool) (a b : Int) (v : Value) (xs : List Sp), e = .returned (.tuple #[colV L a b, v]) ∧ -200 ≤ a ∧ a ≤ 200 ∧ -200 ≤ b ∧ b ≤ 200 ∧ OwnS w' w.heap.size v xs ∧ Fits xs ∧ xs.length ≤ 300 ∧ Below w.heap.size w w'

set_option maxRecDepth 100000 in
set_option maxHeartbeats 1000000 in
theorem drawFT_any (A : Option Addr) (n c : Nat) (z : Nat → Int) (w : World) (h : Bytes w A n c z) :
    Calls Tryz.prog 15 #[.slice A n c] w (DrawCS w) := by
  have b0 : Below w.heap.size w (w.alloc (.cells #[.bool false, .int .i64 0, .int .i64 0] 27)) := (Below.refl _ w).alloc (Nat.le_refl _) _
  have k := ColAt.box w false 0 0 27
  have fz : ∀ o, (w.alloc (.cells #[.bool false, .int .i64 0, .int .i64 0] 27)).frozen? ⟨w.heap.size, o, none⟩ = false := fun o => World.frozen?_alloc_at _ _ _ _ rfl
  have h1 := h.step b0
  have z0 : (w.alloc (.cells #[.bool false, .int .i64 0, .int .i64 0] 27)).heap.size = w.heap.size + 1 := by simp
  go_enter Tryz.func15, Tryz.ntmps15
  go_wp2_with fail
  refine (open_any A n c z _ h1).mono ?_
  rintro e w1 ⟨rfl, hR1, b1⟩
  generalize World.alloc w _ = W0 at b0 k fz h1 z0 hR1 b1 ⊢
  rw [z0] at hR1
  have z1 := b1.size
  go_wp2_with fail
  refine (l2col_any _ _ _ _ _ _ z w1 hR1 (by omega)).mono ?_
  rintro e w2 ⟨L, a, b, p2, rfl, hcb, r1, r2, r3, r4, hp2, hR2, hg2⟩
  have hab := ((colB_iff _ _ _).1 (hcb rfl)).2.1
  have z2 := hg2.size
  have bx : Below w2.heap.size w2 (w2.alloc (.cells #[.bool L, .int .i64 a, .int .i64 b] 27)) := (Below.refl _ _).alloc (Nat.le_refl _) _
  obtain ⟨x0, x1, x2⟩ := ColAt.box w2 L a b 27
  have zx : w2.heap.size < (w2.alloc (.cells #[.bool L, .int .i64 a, .int .i64 b] 27)).heap.size := by simp
  have hR3 := hR2.below bx
  have hg3 := gr_trans hg2 (gr_below _ bx)
  go_wp2_with fail
  generalize World.alloc w2 _ = W3 at bx x0 x1 x2 zx hR3 hg3 ⊢
  refine (some_any _ _ _ _ _ p2 z L a b W3 hR3 (by omega) hab (by omega) (by omega)).mono ?_
  rintro e w4 ⟨v4, xs, p4, rfl, own4, fit4, len4, hp4, hR4, hg4, _⟩
  obtain ⟨A4, c4, rfl, hr4, _⟩ := own4.form fit4
  go_wp2_with fail
  refine (mutate_any _ _ _ _ _ p4 z _ _ xs w4 hR4 (by omega) hr4 (by omega)).mono ?_
  rintro e w5 ⟨v5, ys, p5, rfl, own5, fit5, len5, hp5, hR5, hg5⟩
  have hg35 := gr_trans hg4 hg5
  have hne : w2.heap.size ≠ w.heap.size + 1 := by have := hR1.lt; omega
  have y0 := (gr_kept hg35 zx hne 0).1.trans x0
  have y1 := (gr_kept hg35 zx hne 1).1.trans x1
  have y2 := (gr_kept hg35 zx hne 2).1.trans x2
  clear x0 x1 x2 own4
  go_wp2_with fail
  refine (l2wrong_any _ _ _ _ _ p5 z L a b w5 hR5 (by omega) r1 r2 r3 r4).mono ?_
  rintro e w6 ⟨L6, a6, b6, p6, rfl, _, s1, s2, s3, s4, hp6, hR6, hg6⟩
  have G := gr_trans (gr_trans hg3 hg35) hg6
  have own6 := own5.gr hg6 (by have := hR1.lt; have := hg4.size; omega)
  have bG : Below W0.heap.size W0 w6 := b1.trans (gr_to_below G z1 (by omega))
  obtain ⟨m0, m1, m2⟩ := k.below bG (by omega)
  have f0 := (bG.frozen (p := ⟨w.heap.size, 0, none⟩) (by simp only; omega)).trans (fz 0)
  have f1 := (bG.frozen (p := ⟨w.heap.size, 1, none⟩) (by simp only; omega)).trans (fz 1)
  have f2 := (bG.frozen (p := ⟨w.heap.size, 2, none⟩) (by simp only; omega)).trans (fz 2)
  have BZ := Lib.hid (b0.trans (bG.mono b0.size))
  have hbase : w.heap.size < w4.heap.size := by have := hR1.lt; have := hg4.size; omega
  have OW := Lib.hid own6
  clear k fz h1 hR1 hR2 hR3 hR4 hR5 hR6 hg2 hg3 hg4 hg5 hg6 hg35 G bG b0 b1 own5 own6 bx
  go_wp2
  obtain ⟨u0, u1, u2⟩ := set_col m0 m1 m2 L6 a6 b6
  have o1 := ownsRow_setCell_below OW.out (a := ⟨w.heap.size, 0, none⟩) hbase (.bool L6)
  have o2 := ownsRow_setCell_below o1 (a := ⟨w.heap.size, 1, none⟩) hbase (.int .i64 a6)
  have o3 := ownsRow_setCell_below o2 (a := ⟨w.heap.size, 2, none⟩) hbase (.int .i64 b6)
  exact bodyPost_ret (v := .tuple #[colV L6 a6 b6, v5]) (by simp [results, Tryz.results15, go_sem, u0, u1, u2]) rfl ⟨L6, a6, b6, v5, ys, rfl, s1, s2, s3, s4, OwnS.mono o3 (by omega), fit5, by omega, set_below BZ.out (Nat.le_refl _) _ _ _⟩
end Go.Proofs.YthkjcljhfjaabaaGreatDoor

namespace Go.Proofs.YthkjcljhfjaabaaGreatDoor
open Go.RowKit Go.Sort Sets

theorem below_of_drew {w w' : World} {n : Nat} (h : w' = w.drewN n) : Below w.heap.size w w' := by rw [h]; exact below_drewN (Below.refl _ _) n
theorem isT_within {L : Bool} {a b : Int} {xs : List Sp} (h : colB L a b = true) : withinB xs (colS L a b) = isT L a b xs := by unfold isT; rw [h]; rfl
set_option maxRecDepth 100000 in
set_option maxHeartbeats 8000000 in
theorem testText_walk (A : Option Addr) (n c : Nat) (z : Nat → Int) (A' : Option Addr) (n' c' : Nat) (z' : Nat → Int) (w : World) (h : Bytes w A n c z) (h' : Bytes w A' n' c' z') (hL : LibIs w) :
    Calls Tryz.prog 4 #[.slice A n c, .slice A' n' c'] w fun e w' => e = .returned (.bool true) ∧ Below w.heap.size w w' := by
  have hnc := h.1
  have hc := h.2.1
  have hnc' := h'.1
  have hc' := h'.2.1
  by_cases hn : 1048576 < n
  · have hn1 : (1048576 : Int) < (n : Int) := by omega
    go_enter Tryz.func4, Tryz.ntmps4
    go_wp2
    go_ret
    exact ⟨rfl, Below.refl _ _⟩
  have hn1 : decide ((1048576 : Int) < (n : Int)) = false := decide_eq_false (by omega)
  by_cases hm : 1048576 < n'
  · have hm1 : (1048576 : Int) < (n' : Int) := by omega
    go_enter Tryz.func4, Tryz.ntmps4
    go_wp2
    go_ret
    exact ⟨rfl, Below.refl _ _⟩
  have hm1 : decide ((1048576 : Int) < (n' : Int)) = false := decide_eq_false (by omega)
  have P0 := Lib.hid hL
  have HB0 := Lib.hid h'
  clear hL h'
  go_enter Tryz.func4, Tryz.ntmps4
  go_wp2_with fail
  refine (drawFT_any A n c z w h).mono ?_
  rintro e w1 ⟨L, a, b, v1, xs, rfl, a1, a2, b1, b2, own1, fit1, len1, bl1⟩
  have bx1 : Below w1.heap.size w1 (w1.alloc (.cells #[.bool L, .int .i64 a, .int .i64 b] 27)) := (Below.refl _ _).alloc (Nat.le_refl _) _
  have P_1 := Lib.hid ((P0.out.step bl1).step bx1)
  have B_1 := Lib.hid (bl1.trans (bx1.mono bl1.size))
  have H_1 := Lib.hid ((HB0.out.step bl1).step bx1)
  obtain ⟨C0_1, C1_1, C2_1⟩ := ColAt.box w1 L a b 27
  have zC_1 : Hid (w1.heap.size < (w1.alloc (.cells #[.bool L, .int .i64 a, .int .i64 b] 27)).heap.size) := Lib.hid (by simp)
  clear bx1 bl1
  obtain ⟨AX, cX, hvX, rX, zaX⟩ := own1.form0 fit1
  subst hvX
  have SX_1 := Lib.hid (rX.step ((Below.refl _ _).alloc (Nat.le_refl _) (.cells #[.bool L, .int .i64 a, .int .i64 b] 27)))
  have ZX := Lib.hid zaX
  clear own1 rX zaX
  have fi := fun w h hp => implFT_any L a b AX cX xs w h hp
  have fs := fun w h => specFT_any L a b AX cX xs w h
  obtain ⟨t, hte⟩ : ∃ t : ByteArray, t = ⟨(fT L a b xs).toArray⟩ := ⟨_, rfl⟩
  have e1 : t.data.toList = fT L a b xs := by rw [hte]
  have htz : t.size ≤ 108 := by rw [hte, Lib.size_eq]; exact fT_size'
  simp only [strV, ← hte] at fi fs
  have hq : (t.toList != t.toList) = false := by simp
  have pt := fun w hL => implPT_any L a b t (by omega) w hL
  have cv := fun w => implCol_any L a b w
  have hself : Hid (sameB xs xs = true) := Lib.hid ((same_iff _ _).2 rfl)
  have hbk := fun h => test_text (L := L) (a := a) (b := b) (xs := xs) h
  have hwi := fun h => isT_within (L := L) (a := a) (b := b) (xs := xs) h
  rw [← e1] at hbk
  have FI := Lib.hid fi
  have FS := Lib.hid fs
  have CV := Lib.hid cv
  have HBK := Lib.hid hbk
  have HWI := Lib.hid hwi
  clear fi fs cv hbk hwi hte e1 htz
  cases hcb : colB L a b
  · have HCB := Lib.hid hcb
    clear hcb
    go_wp2_with fail
    refine (FI.out _ SX_1.out P_1.out.1).mono ?_
    rintro e w2 ⟨rfl, b2⟩
    obtain ⟨C0_2, C1_2, C2_2⟩ := ColAt.below (g := w1.heap.size) ⟨C0_1, C1_1, C2_1⟩ b2 zC_1.out
    have zC_2 := Lib.hid (Nat.lt_of_lt_of_le zC_1.out b2.size)
    clear C0_1 C1_1 C2_1
    have P_2 := Lib.hid (P_1.out.step b2)
    have B_2 := Lib.hid (B_1.out.trans (b2.mono B_1.out.size))
    have H_2 := Lib.hid (H_1.out.step b2)
    have SX_2 := Lib.hid (SX_1.out.step b2)
    clear b2
    go_wp2_with fail
    refine (CV.out _).mono ?_
    rw [HCB.out]
    rintro e w3 ⟨rfl, b3⟩
    obtain ⟨C0_3, C1_3, C2_3⟩ := ColAt.below (g := w1.heap.size) ⟨C0_2, C1_2, C2_2⟩ b3 zC_2.out
    have zC_3 := Lib.hid (Nat.lt_of_lt_of_le zC_2.out b3.size)
    clear C0_2 C1_2 C2_2
    have P_3 := Lib.hid (P_2.out.step b3)
    have B_3 := Lib.hid (B_2.out.trans (b3.mono B_2.out.size))
    have H_3 := Lib.hid (H_2.out.step b3)
    have SX_3 := Lib.hid (SX_2.out.step b3)
    clear b3
    generalize tV L a b t.data.toList = ys at pt
    generalize tB L a b t.data.toList = ok at pt
    have PT := Lib.hid pt
    clear pt
    go_wp2_with fail
    refine (PT.out _ P_3.out).mono ?_
    rintro e w4 ⟨v4, rfl, o4, f4, b4⟩
    obtain ⟨AG, cG, hv4, r4, zaG⟩ := o4.form0 f4
    subst hv4
    obtain ⟨C0_4, C1_4, C2_4⟩ := ColAt.below (g := w1.heap.size) ⟨C0_3, C1_3, C2_3⟩ b4 zC_3.out
    have zC_4 := Lib.hid (Nat.lt_of_lt_of_le zC_3.out b4.size)
    clear C0_3 C1_3 C2_3
    have P_4 := Lib.hid (P_3.out.step b4)
    have B_4 := Lib.hid (B_3.out.trans (b4.mono B_3.out.size))
    have H_4 := Lib.hid (H_3.out.step b4)
    have SX_4 := Lib.hid (SX_3.out.step b4)
    clear b4
    have SG_4 := Lib.hid r4
    have ZG := Lib.hid zaG
    clear o4 r4 zaG
    go_wp2_with fail
    refine (FS.out _ SX_4.out).mono ?_
    rintro e w5 ⟨rfl, b5⟩
    obtain ⟨C0_5, C1_5, C2_5⟩ := ColAt.below (g := w1.heap.size) ⟨C0_4, C1_4, C2_4⟩ b5 zC_4.out
    have zC_5 := Lib.hid (Nat.lt_of_lt_of_le zC_4.out b5.size)
    clear C0_4 C1_4 C2_4
    have P_5 := Lib.hid (P_4.out.step b5)
    have B_5 := Lib.hid (B_4.out.trans (b5.mono B_4.out.size))
    have H_5 := Lib.hid (H_4.out.step b5)
    have SX_5 := Lib.hid (SX_4.out.step b5)
    have SG_5 := Lib.hid (SG_4.out.step b5)
    clear b5
    go_wp2_with fail
    refine (drawPT_any A' n' c' z' _ H_5.out).mono ?_
    rintro e w6 ⟨L2, a3, b3, t2, rfl, a31, a32, b31, b32, hs2, bl6⟩
    obtain ⟨C0_6, C1_6, C2_6⟩ := ColAt.below (g := w1.heap.size) ⟨C0_5, C1_5, C2_5⟩ bl6 zC_5.out
    have zC_6 := Lib.hid (Nat.lt_of_lt_of_le zC_5.out bl6.size)
    clear C0_5 C1_5 C2_5
    have P_6 := Lib.hid (P_5.out.step bl6)
    have B_6 := Lib.hid (B_5.out.trans (bl6.mono B_5.out.size))
    have SX_6 := Lib.hid (SX_5.out.step bl6)
    have SG_6 := Lib.hid (SG_5.out.step bl6)
    clear bl6
    have bx6 : Below w6.heap.size w6 (w6.alloc (.cells #[.bool L2, .int .i64 a3, .int .i64 b3] 27)) := (Below.refl _ _).alloc (Nat.le_refl _) _
    obtain ⟨C0_106, C1_106, C2_106⟩ := ColAt.below (g := w1.heap.size) ⟨C0_6, C1_6, C2_6⟩ bx6 zC_6.out
    have zC_106 := Lib.hid (Nat.lt_of_lt_of_le zC_6.out bx6.size)
    clear C0_6 C1_6 C2_6
    have P_106 := Lib.hid (P_6.out.step bx6)
    have B_106 := Lib.hid (B_6.out.trans (bx6.mono B_6.out.size))
    have SX_106 := Lib.hid (SX_6.out.step bx6)
    have SG_106 := Lib.hid (SG_6.out.step bx6)
    clear bx6
    obtain ⟨D0_106, D1_106, D2_106⟩ := ColAt.box w6 L2 a3 b3 27
    have zD_106 : Hid (w6.heap.size < (w6.alloc (.cells #[.bool L2, .int .i64 a3, .int .i64 b3] 27)).heap.size) := Lib.hid (by simp)
    have HSS := Lib.hid hs2
    have pi2 := fun w hL => implPT_any L2 a3 b3 t2 (by have := HSS.out; omega) w hL
    have ps2 := fun w => specPT_any L2 a3 b3 t2 (by have := HSS.out; omega) w
    have hsm : Hid (sameB (tV L2 a3 b3 t2.data.toList) (tV L2 a3 b3 t2.data.toList) = true) := Lib.hid ((same_iff _ _).2 rfl)
    have PI2 := Lib.hid pi2
    have PS2 := Lib.hid ps2
    clear pi2 ps2 hs2
    clear SX_106
    clear SG_106
    go_wp2_with fail
    refine (PI2.out _ P_106.out).mono ?_
    rintro e w107 ⟨v107, rfl, o107, f107, b107⟩
    obtain ⟨AK, cK, hv107, r107, zaK⟩ := o107.form0 f107
    subst hv107
    obtain ⟨D0_107, D1_107, D2_107⟩ := ColAt.below (g := w6.heap.size) ⟨D0_106, D1_106, D2_106⟩ b107 zD_106.out
    have zD_107 := Lib.hid (Nat.lt_of_lt_of_le zD_106.out b107.size)
    clear D0_106 D1_106 D2_106
    have P_107 := Lib.hid (P_106.out.step b107)
    have B_107 := Lib.hid (B_106.out.trans (b107.mono B_106.out.size))
    clear b107
    have SK_107 := Lib.hid r107
    have ZK := Lib.hid zaK
    clear o107 r107 zaK
    go_wp2_with fail
    refine (PS2.out _).mono ?_
    rintro e w108 ⟨v108, rfl, o108, f108, b108⟩
    obtain ⟨AY, cY, hv108, r108, zaY⟩ := o108.form0 f108
    subst hv108
    obtain ⟨D0_108, D1_108, D2_108⟩ := ColAt.below (g := w6.heap.size) ⟨D0_107, D1_107, D2_107⟩ b108 zD_107.out
    have zD_108 := Lib.hid (Nat.lt_of_lt_of_le zD_107.out b108.size)
    clear D0_107 D1_107 D2_107
    have P_108 := Lib.hid (P_107.out.step b108)
    have B_108 := Lib.hid (B_107.out.trans (b108.mono B_107.out.size))
    have SK_108 := Lib.hid (SK_107.out.step b108)
    clear b108
    have SY_108 := Lib.hid r108
    have ZY := Lib.hid zaY
    clear o108 r108 zaY
    cases hok : tB L2 a3 b3 t2.data.toList
    · clear hok
      go_wp2_with fail
      refine (implSame_any _ _ _ _ (tV L2 a3 b3 t2.data.toList) (tV L2 a3 b3 t2.data.toList) _ _ _ SK_108.out SY_108.out).mono ?_
      rw [hsm.out]
      rintro e w109 ⟨rfl, nd109, hw109⟩
      have b109 := (below_of_drew hw109)
      clear hw109
      obtain ⟨D0_109, D1_109, D2_109⟩ := ColAt.below (g := w6.heap.size) ⟨D0_108, D1_108, D2_108⟩ b109 zD_108.out
      have zD_109 := Lib.hid (Nat.lt_of_lt_of_le zD_108.out b109.size)
      clear D0_108 D1_108 D2_108
      have P_109 := Lib.hid (P_108.out.step b109)
      have B_109 := Lib.hid (B_108.out.trans (b109.mono B_108.out.size))
      have SK_109 := Lib.hid (SK_108.out.step b109)
      have SY_109 := Lib.hid (SY_108.out.step b109)
      clear b109
      go_wp2_with fail
      refine (implSame_any _ _ _ _ (tV L2 a3 b3 t2.data.toList) (tV L2 a3 b3 t2.data.toList) _ _ _ SK_109.out SY_109.out).mono ?_
      rw [hsm.out]
      rintro e w110 ⟨rfl, nd110, hw110⟩
      have b110 := (below_of_drew hw110)
      clear hw110
      obtain ⟨D0_110, D1_110, D2_110⟩ := ColAt.below (g := w6.heap.size) ⟨D0_109, D1_109, D2_109⟩ b110 zD_109.out
      have zD_110 := Lib.hid (Nat.lt_of_lt_of_le zD_109.out b110.size)
      clear D0_109 D1_109 D2_109
      have P_110 := Lib.hid (P_109.out.step b110)
      have B_110 := Lib.hid (B_109.out.trans (b110.mono B_109.out.size))
      have SK_110 := Lib.hid (SK_109.out.step b110)
      have SY_110 := Lib.hid (SY_109.out.step b110)
      clear b110
      go_wp2
      go_ret
      exact ⟨rfl, B_110.out⟩
    · have hit := test_isT hok
      obtain ⟨y1, y2⟩ := test_text hit
      have hcb := tB_col hok
      have hwt : Hid (withinB (tV L2 a3 b3 t2.data.toList) (colS L2 a3 b3) = true) := Lib.hid ((isT_within hcb).trans hit)
      have fi2 := fun w h hp => implFT_any L2 a3 b3 AK cK (tV L2 a3 b3 t2.data.toList) w h hp
      obtain ⟨u, hue⟩ : ∃ u : ByteArray, u = ⟨(fT L2 a3 b3 (tV L2 a3 b3 t2.data.toList)).toArray⟩ := ⟨_, rfl⟩
      have e2 : u.data.toList = fT L2 a3 b3 (tV L2 a3 b3 t2.data.toList) := by rw [hue]
      have huz : u.size ≤ 108 := by rw [hue, Lib.size_eq]; exact fT_size'
      simp only [strV, ← hue] at fi2
      have pu := fun w hL => implPT_any L2 a3 b3 u (by omega) w hL
      rw [e2, y1, y2] at pu
      have FI2 := Lib.hid fi2
      have PU := Lib.hid pu
      clear hok hit y1 y2 hcb fi2 hue e2 huz pu
      go_wp2_with fail
      refine (implSame_any _ _ _ _ (tV L2 a3 b3 t2.data.toList) (tV L2 a3 b3 t2.data.toList) _ _ _ SK_108.out SY_108.out).mono ?_
      rw [hsm.out]
      rintro e w109 ⟨rfl, nd109, hw109⟩
      have b109 := (below_of_drew hw109)
      clear hw109
      obtain ⟨D0_109, D1_109, D2_109⟩ := ColAt.below (g := w6.heap.size) ⟨D0_108, D1_108, D2_108⟩ b109 zD_108.out
      have zD_109 := Lib.hid (Nat.lt_of_lt_of_le zD_108.out b109.size)
      clear D0_108 D1_108 D2_108
      have P_109 := Lib.hid (P_108.out.step b109)
      have B_109 := Lib.hid (B_108.out.trans (b109.mono B_108.out.size))
      have SK_109 := Lib.hid (SK_108.out.step b109)
      have SY_109 := Lib.hid (SY_108.out.step b109)
      clear b109
      have RS := Lib.hid (SK_109.out.step (Below.refl _ w109).drew)
      have PD := Lib.hid (P_109.out.step (Below.refl _ w109).drew)
      have BD := Lib.hid (B_109.out.drew)
      have q0 := D0_109
      have q1 := D1_109
      have q2 := D2_109
      clear SY_109
      go_upto_region 14 with fail
      go_region_held3 (fun w' => w'.cell? ⟨w6.heap.size, 0, none⟩ = some (.bool L2) ∧ w'.cell? ⟨w6.heap.size, 1, none⟩ = some (.int .i64 a3) ∧ w'.cell? ⟨w6.heap.size, 2, none⟩ = some (.int .i64 b3)) (first | exact ⟨q0, q1, q2⟩ | exact ⟨D0_109, D1_109, D2_109⟩) (first
        | (go_at_call 16; refine (FI2.out _ RS.out PD.out.1).mono ?_; rintro e w110 ⟨rfl, ba⟩; have q0 : w110.cell? ⟨w6.heap.size, 0, none⟩ = some (.bool L2) := (ba.cell (p := ⟨w6.heap.size, 0, none⟩) zD_109.out).trans q0; have q1 : w110.cell? ⟨w6.heap.size, 1, none⟩ = some (.int .i64 a3) := (ba.cell (p := ⟨w6.heap.size, 1, none⟩) zD_109.out).trans q1; have q2 : w110.cell? ⟨w6.heap.size, 2, none⟩ = some (.int .i64 b3) := (ba.cell (p := ⟨w6.heap.size, 2, none⟩) zD_109.out).trans q2; have zD_110 := Lib.hid (Nat.lt_of_lt_of_le zD_109.out ba.size); have P_110 := Lib.hid (PD.out.step ba); have B_110 := Lib.hid (BD.out.trans (ba.mono BD.out.size)); have SK_110 := Lib.hid (RS.out.step ba); clear ba)
        | (go_at_call 11; refine (PU.out _ P_110.out).mono ?_; rintro e w111 ⟨vn, rfl, on, fn, bb⟩; obtain ⟨AN, cN, hvn, rn, zan⟩ := on.form0 fn; subst hvn; have SN_111 := Lib.hid rn; have q0 : w111.cell? ⟨w6.heap.size, 0, none⟩ = some (.bool L2) := (bb.cell (p := ⟨w6.heap.size, 0, none⟩) zD_110.out).trans q0; have q1 : w111.cell? ⟨w6.heap.size, 1, none⟩ = some (.int .i64 a3) := (bb.cell (p := ⟨w6.heap.size, 1, none⟩) zD_110.out).trans q1; have q2 : w111.cell? ⟨w6.heap.size, 2, none⟩ = some (.int .i64 b3) := (bb.cell (p := ⟨w6.heap.size, 2, none⟩) zD_110.out).trans q2; have zD_111 := Lib.hid (Nat.lt_of_lt_of_le zD_110.out bb.size); have P_111 := Lib.hid (P_110.out.step bb); have B_111 := Lib.hid (B_110.out.trans (bb.mono B_110.out.size)); have SK_111 := Lib.hid (SK_110.out.step bb); clear on rn bb))
      all_goals
        have D0_111 := q0
        have D1_111 := q1
        have D2_111 := q2
        clear q0 q1 q2
        go_wp2_with fail
        refine (implColSet_any L2 a3 b3 _).mono ?_
        rintro e w112 ⟨v112, rfl, o112, f112, b112⟩
        obtain ⟨AV, cV, hv112, r112, zaV⟩ := o112.form0 f112
        subst hv112
        obtain ⟨D0_112, D1_112, D2_112⟩ := ColAt.below (g := w6.heap.size) ⟨D0_111, D1_111, D2_111⟩ b112 zD_111.out
        have zD_112 := Lib.hid (Nat.lt_of_lt_of_le zD_111.out b112.size)
        clear D0_111 D1_111 D2_111
        have P_112 := Lib.hid (P_111.out.step b112)
        have B_112 := Lib.hid (B_111.out.trans (b112.mono B_111.out.size))
        have SK_112 := Lib.hid (SK_111.out.step b112)
        have SN_112 := Lib.hid (SN_111.out.step b112)
        clear b112
        have SV_112 := Lib.hid r112
        have ZV := Lib.hid zaV
        clear o112 r112 zaV
        go_wp2_with fail
        refine (implWithin_any _ _ _ _ (tV L2 a3 b3 t2.data.toList) (colS L2 a3 b3) _ SK_112.out SV_112.out).mono ?_
        rw [hwt.out]
        rintro e w113 ⟨rfl, b113⟩
        obtain ⟨D0_113, D1_113, D2_113⟩ := ColAt.below (g := w6.heap.size) ⟨D0_112, D1_112, D2_112⟩ b113 zD_112.out
        have zD_113 := Lib.hid (Nat.lt_of_lt_of_le zD_112.out b113.size)
        clear D0_112 D1_112 D2_112
        have P_113 := Lib.hid (P_112.out.step b113)
        have B_113 := Lib.hid (B_112.out.trans (b113.mono B_112.out.size))
        have SK_113 := Lib.hid (SK_112.out.step b113)
        have SN_113 := Lib.hid (SN_112.out.step b113)
        have SV_113 := Lib.hid (SV_112.out.step b113)
        clear b113
        go_wp2_with fail
        refine (implSame_any _ _ _ _ (tV L2 a3 b3 t2.data.toList) (tV L2 a3 b3 t2.data.toList) _ _ _ SN_113.out SK_113.out).mono ?_
        rw [hsm.out]
        rintro e w114 ⟨rfl, nd114, hw114⟩
        have b114 := (below_of_drew hw114)
        clear hw114
        obtain ⟨D0_114, D1_114, D2_114⟩ := ColAt.below (g := w6.heap.size) ⟨D0_113, D1_113, D2_113⟩ b114 zD_113.out
        have zD_114 := Lib.hid (Nat.lt_of_lt_of_le zD_113.out b114.size)
        clear D0_113 D1_113 D2_113
        have P_114 := Lib.hid (P_113.out.step b114)
        have B_114 := Lib.hid (B_113.out.trans (b114.mono B_113.out.size))
        have SK_114 := Lib.hid (SK_113.out.step b114)
        have SN_114 := Lib.hid (SN_113.out.step b114)
        have SV_114 := Lib.hid (SV_113.out.step b114)
        clear b114
        go_wp2
        go_ret
        exact ⟨rfl, B_114.out⟩
  · have HCB := Lib.hid hcb
    have HW := Lib.hid (HWI.out hcb)
    clear hcb
    cases hit : isT L a b xs
    · rw [hit] at HW
      generalize tV L a b t.data.toList = ys at pt
      generalize tB L a b t.data.toList = ok at pt
      have PT := Lib.hid pt
      clear pt hit
      go_wp2_with fail
      refine (FI.out _ SX_1.out P_1.out.1).mono ?_
      rintro e w2 ⟨rfl, b2⟩
      obtain ⟨C0_2, C1_2, C2_2⟩ := ColAt.below (g := w1.heap.size) ⟨C0_1, C1_1, C2_1⟩ b2 zC_1.out
      have zC_2 := Lib.hid (Nat.lt_of_lt_of_le zC_1.out b2.size)
      clear C0_1 C1_1 C2_1
      have P_2 := Lib.hid (P_1.out.step b2)
      have B_2 := Lib.hid (B_1.out.trans (b2.mono B_1.out.size))
      have H_2 := Lib.hid (H_1.out.step b2)
      have SX_2 := Lib.hid (SX_1.out.step b2)
      clear b2
      go_wp2_with fail
      refine (CV.out _).mono ?_
      rw [HCB.out]
      rintro e w3 ⟨rfl, b3⟩
      obtain ⟨C0_3, C1_3, C2_3⟩ := ColAt.below (g := w1.heap.size) ⟨C0_2, C1_2, C2_2⟩ b3 zC_2.out
      have zC_3 := Lib.hid (Nat.lt_of_lt_of_le zC_2.out b3.size)
      clear C0_2 C1_2 C2_2
      have P_3 := Lib.hid (P_2.out.step b3)
      have B_3 := Lib.hid (B_2.out.trans (b3.mono B_2.out.size))
      have H_3 := Lib.hid (H_2.out.step b3)
      have SX_3 := Lib.hid (SX_2.out.step b3)
      clear b3
      go_wp2_with fail
      refine (implColSet_any L a b _).mono ?_
      rintro e w4 ⟨v4, rfl, o4, f4, b4⟩
      obtain ⟨AW, cW, hv4, r4, zaW⟩ := o4.form0 f4
      subst hv4
      obtain ⟨C0_4, C1_4, C2_4⟩ := ColAt.below (g := w1.heap.size) ⟨C0_3, C1_3, C2_3⟩ b4 zC_3.out
      have zC_4 := Lib.hid (Nat.lt_of_lt_of_le zC_3.out b4.size)
      clear C0_3 C1_3 C2_3
      have P_4 := Lib.hid (P_3.out.step b4)
      have B_4 := Lib.hid (B_3.out.trans (b4.mono B_3.out.size))
      have H_4 := Lib.hid (H_3.out.step b4)
      have SX_4 := Lib.hid (SX_3.out.step b4)
      clear b4
      have SW_4 := Lib.hid r4
      have ZW := Lib.hid zaW
      clear o4 r4 zaW
      go_wp2_with fail
      refine (implWithin_any _ _ _ _ xs (colS L a b) _ SX_4.out SW_4.out).mono ?_
      rw [HW.out]
      rintro e w5 ⟨rfl, b5⟩
      obtain ⟨C0_5, C1_5, C2_5⟩ := ColAt.below (g := w1.heap.size) ⟨C0_4, C1_4, C2_4⟩ b5 zC_4.out
      have zC_5 := Lib.hid (Nat.lt_of_lt_of_le zC_4.out b5.size)
      clear C0_4 C1_4 C2_4
      have P_5 := Lib.hid (P_4.out.step b5)
      have B_5 := Lib.hid (B_4.out.trans (b5.mono B_4.out.size))
      have H_5 := Lib.hid (H_4.out.step b5)
      have SX_5 := Lib.hid (SX_4.out.step b5)
      have SW_5 := Lib.hid (SW_4.out.step b5)
      clear b5
      go_wp2_with fail
      refine (PT.out _ P_5.out).mono ?_
      rintro e w6 ⟨v6, rfl, o6, f6, b6⟩
      obtain ⟨AG, cG, hv6, r6, zaG⟩ := o6.form0 f6
      subst hv6
      obtain ⟨C0_6, C1_6, C2_6⟩ := ColAt.below (g := w1.heap.size) ⟨C0_5, C1_5, C2_5⟩ b6 zC_5.out
      have zC_6 := Lib.hid (Nat.lt_of_lt_of_le zC_5.out b6.size)
      clear C0_5 C1_5 C2_5
      have P_6 := Lib.hid (P_5.out.step b6)
      have B_6 := Lib.hid (B_5.out.trans (b6.mono B_5.out.size))
      have H_6 := Lib.hid (H_5.out.step b6)
      have SX_6 := Lib.hid (SX_5.out.step b6)
      have SW_6 := Lib.hid (SW_5.out.step b6)
      clear b6
      have SG_6 := Lib.hid r6
      have ZG := Lib.hid zaG
      clear o6 r6 zaG
      go_wp2_with fail
      refine (FS.out _ SX_6.out).mono ?_
      rintro e w7 ⟨rfl, b7⟩
      obtain ⟨C0_7, C1_7, C2_7⟩ := ColAt.below (g := w1.heap.size) ⟨C0_6, C1_6, C2_6⟩ b7 zC_6.out
      have zC_7 := Lib.hid (Nat.lt_of_lt_of_le zC_6.out b7.size)
      clear C0_6 C1_6 C2_6
      have P_7 := Lib.hid (P_6.out.step b7)
      have B_7 := Lib.hid (B_6.out.trans (b7.mono B_6.out.size))
      have H_7 := Lib.hid (H_6.out.step b7)
      have SX_7 := Lib.hid (SX_6.out.step b7)
      have SW_7 := Lib.hid (SW_6.out.step b7)
      have SG_7 := Lib.hid (SG_6.out.step b7)
      clear b7
      go_wp2_with fail
      refine (drawPT_any A' n' c' z' _ H_7.out).mono ?_
      rintro e w8 ⟨L2, a3, b3, t2, rfl, a31, a32, b31, b32, hs2, bl8⟩
      obtain ⟨C0_8, C1_8, C2_8⟩ := ColAt.below (g := w1.heap.size) ⟨C0_7, C1_7, C2_7⟩ bl8 zC_7.out
      have zC_8 := Lib.hid (Nat.lt_of_lt_of_le zC_7.out bl8.size)
      clear C0_7 C1_7 C2_7
      have P_8 := Lib.hid (P_7.out.step bl8)
      have B_8 := Lib.hid (B_7.out.trans (bl8.mono B_7.out.size))
      have SX_8 := Lib.hid (SX_7.out.step bl8)
      have SW_8 := Lib.hid (SW_7.out.step bl8)
      have SG_8 := Lib.hid (SG_7.out.step bl8)
      clear bl8
      have bx8 : Below w8.heap.size w8 (w8.alloc (.cells #[.bool L2, .int .i64 a3, .int .i64 b3] 27)) := (Below.refl _ _).alloc (Nat.le_refl _) _
      obtain ⟨C0_108, C1_108, C2_108⟩ := ColAt.below (g := w1.heap.size) ⟨C0_8, C1_8, C2_8⟩ bx8 zC_8.out
      have zC_108 := Lib.hid (Nat.lt_of_lt_of_le zC_8.out bx8.size)
      clear C0_8 C1_8 C2_8
      have P_108 := Lib.hid (P_8.out.step bx8)
      have B_108 := Lib.hid (B_8.out.trans (bx8.mono B_8.out.size))
      have SX_108 := Lib.hid (SX_8.out.step bx8)
      have SW_108 := Lib.hid (SW_8.out.step bx8)
      have SG_108 := Lib.hid (SG_8.out.step bx8)
      clear bx8
      obtain ⟨D0_108, D1_108, D2_108⟩ := ColAt.box w8 L2 a3 b3 27
      have zD_108 : Hid (w8.heap.size < (w8.alloc (.cells #[.bool L2, .int .i64 a3, .int .i64 b3] 27)).heap.size) := Lib.hid (by simp)
      have HSS := Lib.hid hs2
      have pi2 := fun w hL => implPT_any L2 a3 b3 t2 (by have := HSS.out; omega) w hL
      have ps2 := fun w => specPT_any L2 a3 b3 t2 (by have := HSS.out; omega) w
      have hsm : Hid (sameB (tV L2 a3 b3 t2.data.toList) (tV L2 a3 b3 t2.data.toList) = true) := Lib.hid ((same_iff _ _).2 rfl)
      have PI2 := Lib.hid pi2
      have PS2 := Lib.hid ps2
      clear pi2 ps2 hs2
      clear SX_108
      clear SW_108
      clear SG_108
      go_wp2_with fail
      refine (PI2.out _ P_108.out).mono ?_
      rintro e w109 ⟨v109, rfl, o109, f109, b109⟩
      obtain ⟨AK, cK, hv109, r109, zaK⟩ := o109.form0 f109
      subst hv109
      obtain ⟨D0_109, D1_109, D2_109⟩ := ColAt.below (g := w8.heap.size) ⟨D0_108, D1_108, D2_108⟩ b109 zD_108.out
      have zD_109 := Lib.hid (Nat.lt_of_lt_of_le zD_108.out b109.size)
      clear D0_108 D1_108 D2_108
      have P_109 := Lib.hid (P_108.out.step b109)
      have B_109 := Lib.hid (B_108.out.trans (b109.mono B_108.out.size))
      clear b109
      have SK_109 := Lib.hid r109
      have ZK := Lib.hid zaK
      clear o109 r109 zaK
      go_wp2_with fail
      refine (PS2.out _).mono ?_
      rintro e w110 ⟨v110, rfl, o110, f110, b110⟩
      obtain ⟨AY, cY, hv110, r110, zaY⟩ := o110.form0 f110
      subst hv110
      obtain ⟨D0_110, D1_110, D2_110⟩ := ColAt.below (g := w8.heap.size) ⟨D0_109, D1_109, D2_109⟩ b110 zD_109.out
      have zD_110 := Lib.hid (Nat.lt_of_lt_of_le zD_109.out b110.size)
      clear D0_109 D1_109 D2_109
      have P_110 := Lib.hid (P_109.out.step b110)
      have B_110 := Lib.hid (B_109.out.trans (b110.mono B_109.out.size))
      have SK_110 := Lib.hid (SK_109.out.step b110)
      clear b110
      have SY_110 := Lib.hid r110
      have ZY := Lib.hid zaY
      clear o110 r110 zaY
      cases hok : tB L2 a3 b3 t2.data.toList
      · clear hok
        go_wp2_with fail
        refine (implSame_any _ _ _ _ (tV L2 a3 b3 t2.data.toList) (tV L2 a3 b3 t2.data.toList) _ _ _ SK_110.out SY_110.out).mono ?_
        rw [hsm.out]
        rintro e w111 ⟨rfl, nd111, hw111⟩
        have b111 := (below_of_drew hw111)
        clear hw111
        obtain ⟨D0_111, D1_111, D2_111⟩ := ColAt.below (g := w8.heap.size) ⟨D0_110, D1_110, D2_110⟩ b111 zD_110.out
        have zD_111 := Lib.hid (Nat.lt_of_lt_of_le zD_110.out b111.size)
        clear D0_110 D1_110 D2_110
        have P_111 := Lib.hid (P_110.out.step b111)
        have B_111 := Lib.hid (B_110.out.trans (b111.mono B_110.out.size))
        have SK_111 := Lib.hid (SK_110.out.step b111)
        have SY_111 := Lib.hid (SY_110.out.step b111)
        clear b111
        go_wp2_with fail
        refine (implSame_any _ _ _ _ (tV L2 a3 b3 t2.data.toList) (tV L2 a3 b3 t2.data.toList) _ _ _ SK_111.out SY_111.out).mono ?_
        rw [hsm.out]
        rintro e w112 ⟨rfl, nd112, hw112⟩
        have b112 := (below_of_drew hw112)
        clear hw112
        obtain ⟨D0_112, D1_112, D2_112⟩ := ColAt.below (g := w8.heap.size) ⟨D0_111, D1_111, D2_111⟩ b112 zD_111.out
        have zD_112 := Lib.hid (Nat.lt_of_lt_of_le zD_111.out b112.size)
        clear D0_111 D1_111 D2_111
        have P_112 := Lib.hid (P_111.out.step b112)
        have B_112 := Lib.hid (B_111.out.trans (b112.mono B_111.out.size))
        have SK_112 := Lib.hid (SK_111.out.step b112)
        have SY_112 := Lib.hid (SY_111.out.step b112)
        clear b112
        go_wp2
        go_ret
        exact ⟨rfl, B_112.out⟩
      · have hit := test_isT hok
        obtain ⟨y1, y2⟩ := test_text hit
        have hcb := tB_col hok
        have hwt : Hid (withinB (tV L2 a3 b3 t2.data.toList) (colS L2 a3 b3) = true) := Lib.hid ((isT_within hcb).trans hit)
        have fi2 := fun w h hp => implFT_any L2 a3 b3 AK cK (tV L2 a3 b3 t2.data.toList) w h hp
        obtain ⟨u, hue⟩ : ∃ u : ByteArray, u = ⟨(fT L2 a3 b3 (tV L2 a3 b3 t2.data.toList)).toArray⟩ := ⟨_, rfl⟩
        have e2 : u.data.toList = fT L2 a3 b3 (tV L2 a3 b3 t2.data.toList) := by rw [hue]
        have huz : u.size ≤ 108 := by rw [hue, Lib.size_eq]; exact fT_size'
        simp only [strV, ← hue] at fi2
        have pu := fun w hL => implPT_any L2 a3 b3 u (by omega) w hL
        rw [e2, y1, y2] at pu
        have FI2 := Lib.hid fi2
        have PU := Lib.hid pu
        clear hok hit y1 y2 hcb fi2 hue e2 huz pu
        go_wp2_with fail
        refine (implSame_any _ _ _ _ (tV L2 a3 b3 t2.data.toList) (tV L2 a3 b3 t2.data.toList) _ _ _ SK_110.out SY_110.out).mono ?_
        rw [hsm.out]
        rintro e w111 ⟨rfl, nd111, hw111⟩
        have b111 := (below_of_drew hw111)
        clear hw111
        obtain ⟨D0_111, D1_111, D2_111⟩ := ColAt.below (g := w8.heap.size) ⟨D0_110, D1_110, D2_110⟩ b111 zD_110.out
        have zD_111 := Lib.hid (Nat.lt_of_lt_of_le zD_110.out b111.size)
        clear D0_110 D1_110 D2_110
        have P_111 := Lib.hid (P_110.out.step b111)
        have B_111 := Lib.hid (B_110.out.trans (b111.mono B_110.out.size))
        have SK_111 := Lib.hid (SK_110.out.step b111)
        have SY_111 := Lib.hid (SY_110.out.step b111)
        clear b111
        have RS := Lib.hid (SK_111.out.step (Below.refl _ w111).drew)
        have PD := Lib.hid (P_111.out.step (Below.refl _ w111).drew)
        have BD := Lib.hid (B_111.out.drew)
        have q0 := D0_111
        have q1 := D1_111
        have q2 := D2_111
        clear SY_111
        go_upto_region 14 with fail
        go_region_held3 (fun w' => w'.cell? ⟨w8.heap.size, 0, none⟩ = some (.bool L2) ∧ w'.cell? ⟨w8.heap.size, 1, none⟩ = some (.int .i64 a3) ∧ w'.cell? ⟨w8.heap.size, 2, none⟩ = some (.int .i64 b3)) (first | exact ⟨q0, q1, q2⟩ | exact ⟨D0_111, D1_111, D2_111⟩) (first
          | (go_at_call 16; refine (FI2.out _ RS.out PD.out.1).mono ?_; rintro e w112 ⟨rfl, ba⟩; have q0 : w112.cell? ⟨w8.heap.size, 0, none⟩ = some (.bool L2) := (ba.cell (p := ⟨w8.heap.size, 0, none⟩) zD_111.out).trans q0; have q1 : w112.cell? ⟨w8.heap.size, 1, none⟩ = some (.int .i64 a3) := (ba.cell (p := ⟨w8.heap.size, 1, none⟩) zD_111.out).trans q1; have q2 : w112.cell? ⟨w8.heap.size, 2, none⟩ = some (.int .i64 b3) := (ba.cell (p := ⟨w8.heap.size, 2, none⟩) zD_111.out).trans q2; have zD_112 := Lib.hid (Nat.lt_of_lt_of_le zD_111.out ba.size); have P_112 := Lib.hid (PD.out.step ba); have B_112 := Lib.hid (BD.out.trans (ba.mono BD.out.size)); have SK_112 := Lib.hid (RS.out.step ba); clear ba)
          | (go_at_call 11; refine (PU.out _ P_112.out).mono ?_; rintro e w113 ⟨vn, rfl, on, fn, bb⟩; obtain ⟨AN, cN, hvn, rn, zan⟩ := on.form0 fn; subst hvn; have SN_113 := Lib.hid rn; have q0 : w113.cell? ⟨w8.heap.size, 0, none⟩ = some (.bool L2) := (bb.cell (p := ⟨w8.heap.size, 0, none⟩) zD_112.out).trans q0; have q1 : w113.cell? ⟨w8.heap.size, 1, none⟩ = some (.int .i64 a3) := (bb.cell (p := ⟨w8.heap.size, 1, none⟩) zD_112.out).trans q1; have q2 : w113.cell? ⟨w8.heap.size, 2, none⟩ = some (.int .i64 b3) := (bb.cell (p := ⟨w8.heap.size, 2, none⟩) zD_112.out).trans q2; have zD_113 := Lib.hid (Nat.lt_of_lt_of_le zD_112.out bb.size); have P_113 := Lib.hid (P_112.out.step bb); have B_113 := Lib.hid (B_112.out.trans (bb.mono B_112.out.size)); have SK_113 := Lib.hid (SK_112.out.step bb); clear on rn bb))
        all_goals
          have D0_113 := q0
          have D1_113 := q1
          have D2_113 := q2
          clear q0 q1 q2
          go_wp2_with fail
          refine (implColSet_any L2 a3 b3 _).mono ?_
          rintro e w114 ⟨v114, rfl, o114, f114, b114⟩
          obtain ⟨AV, cV, hv114, r114, zaV⟩ := o114.form0 f114
          subst hv114
          obtain ⟨D0_114, D1_114, D2_114⟩ := ColAt.below (g := w8.heap.size) ⟨D0_113, D1_113, D2_113⟩ b114 zD_113.out
          have zD_114 := Lib.hid (Nat.lt_of_lt_of_le zD_113.out b114.size)
          clear D0_113 D1_113 D2_113
          have P_114 := Lib.hid (P_113.out.step b114)
          have B_114 := Lib.hid (B_113.out.trans (b114.mono B_113.out.size))
          have SK_114 := Lib.hid (SK_113.out.step b114)
          have SN_114 := Lib.hid (SN_113.out.step b114)
          clear b114
          have SV_114 := Lib.hid r114
          have ZV := Lib.hid zaV
          clear o114 r114 zaV
          go_wp2_with fail
          refine (implWithin_any _ _ _ _ (tV L2 a3 b3 t2.data.toList) (colS L2 a3 b3) _ SK_114.out SV_114.out).mono ?_
          rw [hwt.out]
          rintro e w115 ⟨rfl, b115⟩
          obtain ⟨D0_115, D1_115, D2_115⟩ := ColAt.below (g := w8.heap.size) ⟨D0_114, D1_114, D2_114⟩ b115 zD_114.out
          have zD_115 := Lib.hid (Nat.lt_of_lt_of_le zD_114.out b115.size)
          clear D0_114 D1_114 D2_114
          have P_115 := Lib.hid (P_114.out.step b115)
          have B_115 := Lib.hid (B_114.out.trans (b115.mono B_114.out.size))
          have SK_115 := Lib.hid (SK_114.out.step b115)
          have SN_115 := Lib.hid (SN_114.out.step b115)
          have SV_115 := Lib.hid (SV_114.out.step b115)
          clear b115
          go_wp2_with fail
          refine (implSame_any _ _ _ _ (tV L2 a3 b3 t2.data.toList) (tV L2 a3 b3 t2.data.toList) _ _ _ SN_115.out SK_115.out).mono ?_
          rw [hsm.out]
          rintro e w116 ⟨rfl, nd116, hw116⟩
          have b116 := (below_of_drew hw116)
          clear hw116
          obtain ⟨D0_116, D1_116, D2_116⟩ := ColAt.below (g := w8.heap.size) ⟨D0_115, D1_115, D2_115⟩ b116 zD_115.out
          have zD_116 := Lib.hid (Nat.lt_of_lt_of_le zD_115.out b116.size)
          clear D0_115 D1_115 D2_115
          have P_116 := Lib.hid (P_115.out.step b116)
          have B_116 := Lib.hid (B_115.out.trans (b116.mono B_115.out.size))
          have SK_116 := Lib.hid (SK_115.out.step b116)
          have SN_116 := Lib.hid (SN_115.out.step b116)
          have SV_116 := Lib.hid (SV_115.out.step b116)
          clear b116
          go_wp2
          go_ret
          exact ⟨rfl, B_116.out⟩
    · rw [hit] at HW
      obtain ⟨k1, k2⟩ := HBK.out hit
      rw [k1, k2] at pt
      have PT := Lib.hid pt
      clear pt k1 k2 hit
      go_wp2_with fail
      refine (FI.out _ SX_1.out P_1.out.1).mono ?_
      rintro e w2 ⟨rfl, b2⟩
      obtain ⟨C0_2, C1_2, C2_2⟩ := ColAt.below (g := w1.heap.size) ⟨C0_1, C1_1, C2_1⟩ b2 zC_1.out
      have zC_2 := Lib.hid (Nat.lt_of_lt_of_le zC_1.out b2.size)
      clear C0_1 C1_1 C2_1
      have P_2 := Lib.hid (P_1.out.step b2)
      have B_2 := Lib.hid (B_1.out.trans (b2.mono B_1.out.size))
      have H_2 := Lib.hid (H_1.out.step b2)
      have SX_2 := Lib.hid (SX_1.out.step b2)
      clear b2
      go_wp2_with fail
      refine (CV.out _).mono ?_
      rw [HCB.out]
      rintro e w3 ⟨rfl, b3⟩
      obtain ⟨C0_3, C1_3, C2_3⟩ := ColAt.below (g := w1.heap.size) ⟨C0_2, C1_2, C2_2⟩ b3 zC_2.out
      have zC_3 := Lib.hid (Nat.lt_of_lt_of_le zC_2.out b3.size)
      clear C0_2 C1_2 C2_2
      have P_3 := Lib.hid (P_2.out.step b3)
      have B_3 := Lib.hid (B_2.out.trans (b3.mono B_2.out.size))
      have H_3 := Lib.hid (H_2.out.step b3)
      have SX_3 := Lib.hid (SX_2.out.step b3)
      clear b3
      go_wp2_with fail
      refine (implColSet_any L a b _).mono ?_
      rintro e w4 ⟨v4, rfl, o4, f4, b4⟩
      obtain ⟨AW, cW, hv4, r4, zaW⟩ := o4.form0 f4
      subst hv4
      obtain ⟨C0_4, C1_4, C2_4⟩ := ColAt.below (g := w1.heap.size) ⟨C0_3, C1_3, C2_3⟩ b4 zC_3.out
      have zC_4 := Lib.hid (Nat.lt_of_lt_of_le zC_3.out b4.size)
      clear C0_3 C1_3 C2_3
      have P_4 := Lib.hid (P_3.out.step b4)
      have B_4 := Lib.hid (B_3.out.trans (b4.mono B_3.out.size))
      have H_4 := Lib.hid (H_3.out.step b4)
      have SX_4 := Lib.hid (SX_3.out.step b4)
      clear b4
      have SW_4 := Lib.hid r4
      have ZW := Lib.hid zaW
      clear o4 r4 zaW
      go_wp2_with fail
      refine (implWithin_any _ _ _ _ xs (colS L a b) _ SX_4.out SW_4.out).mono ?_
      rw [HW.out]
      rintro e w5 ⟨rfl, b5⟩
      obtain ⟨C0_5, C1_5, C2_5⟩ := ColAt.below (g := w1.heap.size) ⟨C0_4, C1_4, C2_4⟩ b5 zC_4.out
      have zC_5 := Lib.hid (Nat.lt_of_lt_of_le zC_4.out b5.size)
      clear C0_4 C1_4 C2_4
      have P_5 := Lib.hid (P_4.out.step b5)
      have B_5 := Lib.hid (B_4.out.trans (b5.mono B_4.out.size))
      have H_5 := Lib.hid (H_4.out.step b5)
      have SX_5 := Lib.hid (SX_4.out.step b5)
      have SW_5 := Lib.hid (SW_4.out.step b5)
      clear b5
      go_wp2_with fail
      refine (PT.out _ P_5.out).mono ?_
      rintro e w6 ⟨v6, rfl, o6, f6, b6⟩
      obtain ⟨AG, cG, hv6, r6, zaG⟩ := o6.form0 f6
      subst hv6
      obtain ⟨C0_6, C1_6, C2_6⟩ := ColAt.below (g := w1.heap.size) ⟨C0_5, C1_5, C2_5⟩ b6 zC_5.out
      have zC_6 := Lib.hid (Nat.lt_of_lt_of_le zC_5.out b6.size)
      clear C0_5 C1_5 C2_5
      have P_6 := Lib.hid (P_5.out.step b6)
      have B_6 := Lib.hid (B_5.out.trans (b6.mono B_5.out.size))
      have H_6 := Lib.hid (H_5.out.step b6)
      have SX_6 := Lib.hid (SX_5.out.step b6)
      have SW_6 := Lib.hid (SW_5.out.step b6)
      clear b6
      have SG_6 := Lib.hid r6
      have ZG := Lib.hid zaG
      clear o6 r6 zaG
      go_wp2_with fail
      refine (FS.out _ SX_6.out).mono ?_
      rintro e w7 ⟨rfl, b7⟩
      obtain ⟨C0_7, C1_7, C2_7⟩ := ColAt.below (g := w1.heap.size) ⟨C0_6, C1_6, C2_6⟩ b7 zC_6.out
      have zC_7 := Lib.hid (Nat.lt_of_lt_of_le zC_6.out b7.size)
      clear C0_6 C1_6 C2_6
      have P_7 := Lib.hid (P_6.out.step b7)
      have B_7 := Lib.hid (B_6.out.trans (b7.mono B_6.out.size))
      have H_7 := Lib.hid (H_6.out.step b7)
      have SX_7 := Lib.hid (SX_6.out.step b7)
      have SW_7 := Lib.hid (SW_6.out.step b7)
      have SG_7 := Lib.hid (SG_6.out.step b7)
      clear b7
      go_wp2_with fail
      refine (implSame_any _ _ _ _ (xs) (xs) _ _ _ SG_7.out SX_7.out).mono ?_
      rw [hself.out]
      rintro e w8 ⟨rfl, nd8, hw8⟩
      have b8 := (below_of_drew hw8)
      clear hw8
      obtain ⟨C0_8, C1_8, C2_8⟩ := ColAt.below (g := w1.heap.size) ⟨C0_7, C1_7, C2_7⟩ b8 zC_7.out
      have zC_8 := Lib.hid (Nat.lt_of_lt_of_le zC_7.out b8.size)
      clear C0_7 C1_7 C2_7
      have P_8 := Lib.hid (P_7.out.step b8)
      have B_8 := Lib.hid (B_7.out.trans (b8.mono B_7.out.size))
      have H_8 := Lib.hid (H_7.out.step b8)
      have SX_8 := Lib.hid (SX_7.out.step b8)
      have SW_8 := Lib.hid (SW_7.out.step b8)
      have SG_8 := Lib.hid (SG_7.out.step b8)
      clear b8
      go_wp2_with fail
      refine (drawPT_any A' n' c' z' _ H_8.out).mono ?_
      rintro e w9 ⟨L2, a3, b3, t2, rfl, a31, a32, b31, b32, hs2, bl9⟩
      obtain ⟨C0_9, C1_9, C2_9⟩ := ColAt.below (g := w1.heap.size) ⟨C0_8, C1_8, C2_8⟩ bl9 zC_8.out
      have zC_9 := Lib.hid (Nat.lt_of_lt_of_le zC_8.out bl9.size)
      clear C0_8 C1_8 C2_8
      have P_9 := Lib.hid (P_8.out.step bl9)
      have B_9 := Lib.hid (B_8.out.trans (bl9.mono B_8.out.size))
      have SX_9 := Lib.hid (SX_8.out.step bl9)
      have SW_9 := Lib.hid (SW_8.out.step bl9)
      have SG_9 := Lib.hid (SG_8.out.step bl9)
      clear bl9
      have bx9 : Below w9.heap.size w9 (w9.alloc (.cells #[.bool L2, .int .i64 a3, .int .i64 b3] 27)) := (Below.refl _ _).alloc (Nat.le_refl _) _
      obtain ⟨C0_109, C1_109, C2_109⟩ := ColAt.below (g := w1.heap.size) ⟨C0_9, C1_9, C2_9⟩ bx9 zC_9.out
      have zC_109 := Lib.hid (Nat.lt_of_lt_of_le zC_9.out bx9.size)
      clear C0_9 C1_9 C2_9
      have P_109 := Lib.hid (P_9.out.step bx9)
      have B_109 := Lib.hid (B_9.out.trans (bx9.mono B_9.out.size))
      have SX_109 := Lib.hid (SX_9.out.step bx9)
      have SW_109 := Lib.hid (SW_9.out.step bx9)
      have SG_109 := Lib.hid (SG_9.out.step bx9)
      clear bx9
      obtain ⟨D0_109, D1_109, D2_109⟩ := ColAt.box w9 L2 a3 b3 27
      have zD_109 : Hid (w9.heap.size < (w9.alloc (.cells #[.bool L2, .int .i64 a3, .int .i64 b3] 27)).heap.size) := Lib.hid (by simp)
      have HSS := Lib.hid hs2
      have pi2 := fun w hL => implPT_any L2 a3 b3 t2 (by have := HSS.out; omega) w hL
      have ps2 := fun w => specPT_any L2 a3 b3 t2 (by have := HSS.out; omega) w
      have hsm : Hid (sameB (tV L2 a3 b3 t2.data.toList) (tV L2 a3 b3 t2.data.toList) = true) := Lib.hid ((same_iff _ _).2 rfl)
      have PI2 := Lib.hid pi2
      have PS2 := Lib.hid ps2
      clear pi2 ps2 hs2
      clear SX_109
      clear SW_109
      clear SG_109
      go_wp2_with fail
      refine (PI2.out _ P_109.out).mono ?_
      rintro e w110 ⟨v110, rfl, o110, f110, b110⟩
      obtain ⟨AK, cK, hv110, r110, zaK⟩ := o110.form0 f110
      subst hv110
      obtain ⟨D0_110, D1_110, D2_110⟩ := ColAt.below (g := w9.heap.size) ⟨D0_109, D1_109, D2_109⟩ b110 zD_109.out
      have zD_110 := Lib.hid (Nat.lt_of_lt_of_le zD_109.out b110.size)
      clear D0_109 D1_109 D2_109
      have P_110 := Lib.hid (P_109.out.step b110)
      have B_110 := Lib.hid (B_109.out.trans (b110.mono B_109.out.size))
      clear b110
      have SK_110 := Lib.hid r110
      have ZK := Lib.hid zaK
      clear o110 r110 zaK
      go_wp2_with fail
      refine (PS2.out _).mono ?_
      rintro e w111 ⟨v111, rfl, o111, f111, b111⟩
      obtain ⟨AY, cY, hv111, r111, zaY⟩ := o111.form0 f111
      subst hv111
      obtain ⟨D0_111, D1_111, D2_111⟩ := ColAt.below (g := w9.heap.size) ⟨D0_110, D1_110, D2_110⟩ b111 zD_110.out
      have zD_111 := Lib.hid (Nat.lt_of_lt_of_le zD_110.out b111.size)
      clear D0_110 D1_110 D2_110
      have P_111 := Lib.hid (P_110.out.step b111)
      have B_111 := Lib.hid (B_110.out.trans (b111.mono B_110.out.size))
      have SK_111 := Lib.hid (SK_110.out.step b111)
      clear b111
      have SY_111 := Lib.hid r111
      have ZY := Lib.hid zaY
      clear o111 r111 zaY
      cases hok : tB L2 a3 b3 t2.data.toList
      · clear hok
        go_wp2_with fail
        refine (implSame_any _ _ _ _ (tV L2 a3 b3 t2.data.toList) (tV L2 a3 b3 t2.data.toList) _ _ _ SK_111.out SY_111.out).mono ?_
        rw [hsm.out]
        rintro e w112 ⟨rfl, nd112, hw112⟩
        have b112 := (below_of_drew hw112)
        clear hw112
        obtain ⟨D0_112, D1_112, D2_112⟩ := ColAt.below (g := w9.heap.size) ⟨D0_111, D1_111, D2_111⟩ b112 zD_111.out
        have zD_112 := Lib.hid (Nat.lt_of_lt_of_le zD_111.out b112.size)
        clear D0_111 D1_111 D2_111
        have P_112 := Lib.hid (P_111.out.step b112)
        have B_112 := Lib.hid (B_111.out.trans (b112.mono B_111.out.size))
        have SK_112 := Lib.hid (SK_111.out.step b112)
        have SY_112 := Lib.hid (SY_111.out.step b112)
        clear b112
        go_wp2_with fail
        refine (implSame_any _ _ _ _ (tV L2 a3 b3 t2.data.toList) (tV L2 a3 b3 t2.data.toList) _ _ _ SK_112.out SY_112.out).mono ?_
        rw [hsm.out]
        rintro e w113 ⟨rfl, nd113, hw113⟩
        have b113 := (below_of_drew hw113)
        clear hw113
        obtain ⟨D0_113, D1_113, D2_113⟩ := ColAt.below (g := w9.heap.size) ⟨D0_112, D1_112, D2_112⟩ b113 zD_112.out
        have zD_113 := Lib.hid (Nat.lt_of_lt_of_le zD_112.out b113.size)
        clear D0_112 D1_112 D2_112
        have P_113 := Lib.hid (P_112.out.step b113)
        have B_113 := Lib.hid (B_112.out.trans (b113.mono B_112.out.size))
        have SK_113 := Lib.hid (SK_112.out.step b113)
        have SY_113 := Lib.hid (SY_112.out.step b113)
        clear b113
        go_wp2
        go_ret
        exact ⟨rfl, B_113.out⟩
      · have hit := test_isT hok
        obtain ⟨y1, y2⟩ := test_text hit
        have hcb := tB_col hok
        have hwt : Hid (withinB (tV L2 a3 b3 t2.data.toList) (colS L2 a3 b3) = true) := Lib.hid ((isT_within hcb).trans hit)
        have fi2 := fun w h hp => implFT_any L2 a3 b3 AK cK (tV L2 a3 b3 t2.data.toList) w h hp
        obtain ⟨u, hue⟩ : ∃ u : ByteArray, u = ⟨(fT L2 a3 b3 (tV L2 a3 b3 t2.data.toList)).toArray⟩ := ⟨_, rfl⟩
        have e2 : u.data.toList = fT L2 a3 b3 (tV L2 a3 b3 t2.data.toList) := by rw [hue]
        have huz : u.size ≤ 108 := by rw [hue, Lib.size_eq]; exact fT_size'
        simp only [strV, ← hue] at fi2
        have pu := fun w hL => implPT_any L2 a3 b3 u (by omega) w hL
        rw [e2, y1, y2] at pu
        have FI2 := Lib.hid fi2
        have PU := Lib.hid pu
        clear hok hit y1 y2 hcb fi2 hue e2 huz pu
        go_wp2_with fail
        refine (implSame_any _ _ _ _ (tV L2 a3 b3 t2.data.toList) (tV L2 a3 b3 t2.data.toList) _ _ _ SK_111.out SY_111.out).mono ?_
        rw [hsm.out]
        rintro e w112 ⟨rfl, nd112, hw112⟩
        have b112 := (below_of_drew hw112)
        clear hw112
        obtain ⟨D0_112, D1_112, D2_112⟩ := ColAt.below (g := w9.heap.size) ⟨D0_111, D1_111, D2_111⟩ b112 zD_111.out
        have zD_112 := Lib.hid (Nat.lt_of_lt_of_le zD_111.out b112.size)
        clear D0_111 D1_111 D2_111
        have P_112 := Lib.hid (P_111.out.step b112)
        have B_112 := Lib.hid (B_111.out.trans (b112.mono B_111.out.size))
        have SK_112 := Lib.hid (SK_111.out.step b112)
        have SY_112 := Lib.hid (SY_111.out.step b112)
        clear b112
        have RS := Lib.hid (SK_112.out.step (Below.refl _ w112).drew)
        have PD := Lib.hid (P_112.out.step (Below.refl _ w112).drew)
        have BD := Lib.hid (B_112.out.drew)
        have q0 := D0_112
        have q1 := D1_112
        have q2 := D2_112
        clear SY_112
        go_upto_region 14 with fail
        go_region_held3 (fun w' => w'.cell? ⟨w9.heap.size, 0, none⟩ = some (.bool L2) ∧ w'.cell? ⟨w9.heap.size, 1, none⟩ = some (.int .i64 a3) ∧ w'.cell? ⟨w9.heap.size, 2, none⟩ = some (.int .i64 b3)) (first | exact ⟨q0, q1, q2⟩ | exact ⟨D0_112, D1_112, D2_112⟩) (first
          | (go_at_call 16; refine (FI2.out _ RS.out PD.out.1).mono ?_; rintro e w113 ⟨rfl, ba⟩; have q0 : w113.cell? ⟨w9.heap.size, 0, none⟩ = some (.bool L2) := (ba.cell (p := ⟨w9.heap.size, 0, none⟩) zD_112.out).trans q0; have q1 : w113.cell? ⟨w9.heap.size, 1, none⟩ = some (.int .i64 a3) := (ba.cell (p := ⟨w9.heap.size, 1, none⟩) zD_112.out).trans q1; have q2 : w113.cell? ⟨w9.heap.size, 2, none⟩ = some (.int .i64 b3) := (ba.cell (p := ⟨w9.heap.size, 2, none⟩) zD_112.out).trans q2; have zD_113 := Lib.hid (Nat.lt_of_lt_of_le zD_112.out ba.size); have P_113 := Lib.hid (PD.out.step ba); have B_113 := Lib.hid (BD.out.trans (ba.mono BD.out.size)); have SK_113 := Lib.hid (RS.out.step ba); clear ba)
          | (go_at_call 11; refine (PU.out _ P_113.out).mono ?_; rintro e w114 ⟨vn, rfl, on, fn, bb⟩; obtain ⟨AN, cN, hvn, rn, zan⟩ := on.form0 fn; subst hvn; have SN_114 := Lib.hid rn; have q0 : w114.cell? ⟨w9.heap.size, 0, none⟩ = some (.bool L2) := (bb.cell (p := ⟨w9.heap.size, 0, none⟩) zD_113.out).trans q0; have q1 : w114.cell? ⟨w9.heap.size, 1, none⟩ = some (.int .i64 a3) := (bb.cell (p := ⟨w9.heap.size, 1, none⟩) zD_113.out).trans q1; have q2 : w114.cell? ⟨w9.heap.size, 2, none⟩ = some (.int .i64 b3) := (bb.cell (p := ⟨w9.heap.size, 2, none⟩) zD_113.out).trans q2; have zD_114 := Lib.hid (Nat.lt_of_lt_of_le zD_113.out bb.size); have P_114 := Lib.hid (P_113.out.step bb); have B_114 := Lib.hid (B_113.out.trans (bb.mono B_113.out.size)); have SK_114 := Lib.hid (SK_113.out.step bb); clear on rn bb))
        all_goals
          have D0_114 := q0
          have D1_114 := q1
          have D2_114 := q2
          clear q0 q1 q2
          go_wp2_with fail
          refine (implColSet_any L2 a3 b3 _).mono ?_
          rintro e w115 ⟨v115, rfl, o115, f115, b115⟩
          obtain ⟨AV, cV, hv115, r115, zaV⟩ := o115.form0 f115
          subst hv115
          obtain ⟨D0_115, D1_115, D2_115⟩ := ColAt.below (g := w9.heap.size) ⟨D0_114, D1_114, D2_114⟩ b115 zD_114.out
          have zD_115 := Lib.hid (Nat.lt_of_lt_of_le zD_114.out b115.size)
          clear D0_114 D1_114 D2_114
          have P_115 := Lib.hid (P_114.out.step b115)
          have B_115 := Lib.hid (B_114.out.trans (b115.mono B_114.out.size))
          have SK_115 := Lib.hid (SK_114.out.step b115)
          have SN_115 := Lib.hid (SN_114.out.step b115)
          clear b115
          have SV_115 := Lib.hid r115
          have ZV := Lib.hid zaV
          clear o115 r115 zaV
          go_wp2_with fail
          refine (implWithin_any _ _ _ _ (tV L2 a3 b3 t2.data.toList) (colS L2 a3 b3) _ SK_115.out SV_115.out).mono ?_
          rw [hwt.out]
          rintro e w116 ⟨rfl, b116⟩
          obtain ⟨D0_116, D1_116, D2_116⟩ := ColAt.below (g := w9.heap.size) ⟨D0_115, D1_115, D2_115⟩ b116 zD_115.out
          have zD_116 := Lib.hid (Nat.lt_of_lt_of_le zD_115.out b116.size)
          clear D0_115 D1_115 D2_115
          have P_116 := Lib.hid (P_115.out.step b116)
          have B_116 := Lib.hid (B_115.out.trans (b116.mono B_115.out.size))
          have SK_116 := Lib.hid (SK_115.out.step b116)
          have SN_116 := Lib.hid (SN_115.out.step b116)
          have SV_116 := Lib.hid (SV_115.out.step b116)
          clear b116
          go_wp2_with fail
          refine (implSame_any _ _ _ _ (tV L2 a3 b3 t2.data.toList) (tV L2 a3 b3 t2.data.toList) _ _ _ SN_116.out SK_116.out).mono ?_
          rw [hsm.out]
          rintro e w117 ⟨rfl, nd117, hw117⟩
          have b117 := (below_of_drew hw117)
          clear hw117
          obtain ⟨D0_117, D1_117, D2_117⟩ := ColAt.below (g := w9.heap.size) ⟨D0_116, D1_116, D2_116⟩ b117 zD_116.out
          have zD_117 := Lib.hid (Nat.lt_of_lt_of_le zD_116.out b117.size)
          clear D0_116 D1_116 D2_116
          have P_117 := Lib.hid (P_116.out.step b117)
          have B_117 := Lib.hid (B_116.out.trans (b117.mono B_116.out.size))
          have SK_117 := Lib.hid (SK_116.out.step b117)
          have SN_117 := Lib.hid (SN_116.out.step b117)
          have SV_117 := Lib.hid (SV_116.out.step b117)
          clear b117
          go_wp2
          go_ret
          exact ⟨rfl, B_117.out⟩
end Go.Proofs.YthkjcljhfjaabaaGreatDoor
