/-
  The walk of the law that negation is the rest.
-/
import Derived.Test.YthkjcljhfjaabaaGreatDoorKn
import Derived.Test.YthkjcljhfjaabaaGreatDoorKi
import Derived.Test.YthkjcljhfjaabaaGreatDoorKmM
import Derived.Test.YthkjcljhfjaabaaGreatDoorTn
import Derived.Test.YthkjcljhfjaabaaGreatDoorRdM
namespace Go.Proofs.YthkjcljhfjaabaaGreatDoor
open Go.RowKit Go.Sort Sets

theorem below_of_drew {w w' : World} {n : Nat} (h : w' = w.drewN n) : Below w.heap.size w w' := by rw [h]; exact below_drewN (Below.refl _ _) n
set_option maxRecDepth 100000 in
set_option maxHeartbeats 8000000 in
theorem testNot_walk (A : Option Addr) (n c : Nat) (z : Nat → Int) (w : World) (h : Bytes w A n c z) (hL : LibIs w) :
    Calls Tryz.prog 5 #[.slice A n c] w fun e w' => e = .returned (.bool true) ∧ Below w.heap.size w w' := by
  have hnc := h.1
  have hc := h.2.1
  by_cases hn : 1048576 < n
  · have hn1 : (1048576 : Int) < (n : Int) := by omega
    go_enter Tryz.func5, Tryz.ntmps5
    go_wp2
    go_ret
    exact ⟨rfl, Below.refl _ _⟩
  have hn1 : decide ((1048576 : Int) < (n : Int)) = false := decide_eq_false (by omega)
  have P0 := Lib.hid hL
  clear hL
  go_enter Tryz.func5, Tryz.ntmps5
  go_wp2_with fail
  refine (drawPT_any A n c z w h).mono ?_
  rintro e w1 ⟨L, a, b, s, rfl, a1, a2, b1, b2, hs, bl1⟩
  have bx1 : Below w1.heap.size w1 (w1.alloc (.cells #[.bool L, .int .i64 a, .int .i64 b] 27)) := (Below.refl _ _).alloc (Nat.le_refl _) _
  have P_1 := Lib.hid ((P0.out.step bl1).step bx1)
  have B_1 := Lib.hid (bl1.trans (bx1.mono bl1.size))
  obtain ⟨C0_1, C1_1, C2_1⟩ := ColAt.box w1 L a b 27
  have zC_1 : Hid (w1.heap.size < (w1.alloc (.cells #[.bool L, .int .i64 a, .int .i64 b] 27)).heap.size) := Lib.hid (by simp)
  clear bx1 bl1
  have HSS := Lib.hid hs
  have hsx : s.size ≤ 9223372036854775807 := by omega
  have pi := fun w hL => implPT_any L a b s (by have := HSS.out; omega) w hL
  have ps := fun w => specPT_any L a b s (by have := HSS.out; omega) w
  have hsm : Hid (sameB (tV L a b s.data.toList) (tV L a b s.data.toList) = true) := Lib.hid ((same_iff _ _).2 rfl)
  have PI := Lib.hid pi
  have PS := Lib.hid ps
  clear pi ps hs
  go_wp2_with fail
  refine (PI.out _ P_1.out).mono ?_
  rintro e w2 ⟨v2, rfl, o2, f2, b2⟩
  obtain ⟨AX, cX, hv2, r2, zaX⟩ := o2.form0 f2
  subst hv2
  obtain ⟨C0_2, C1_2, C2_2⟩ := ColAt.below (g := w1.heap.size) ⟨C0_1, C1_1, C2_1⟩ b2 zC_1.out
  have zC_2 := Lib.hid (Nat.lt_of_lt_of_le zC_1.out b2.size)
  clear C0_1 C1_1 C2_1
  have P_2 := Lib.hid (P_1.out.step b2)
  have B_2 := Lib.hid (B_1.out.trans (b2.mono B_1.out.size))
  clear b2
  have SX_2 := Lib.hid r2
  have ZX := Lib.hid zaX
  clear o2 r2 zaX
  go_wp2_with fail
  refine (PS.out _).mono ?_
  rintro e w3 ⟨v3, rfl, o3, f3, b3⟩
  obtain ⟨AY, cY, hv3, r3, zaY⟩ := o3.form0 f3
  subst hv3
  obtain ⟨C0_3, C1_3, C2_3⟩ := ColAt.below (g := w1.heap.size) ⟨C0_2, C1_2, C2_2⟩ b3 zC_2.out
  have zC_3 := Lib.hid (Nat.lt_of_lt_of_le zC_2.out b3.size)
  clear C0_2 C1_2 C2_2
  have P_3 := Lib.hid (P_2.out.step b3)
  have B_3 := Lib.hid (B_2.out.trans (b3.mono B_2.out.size))
  have SX_3 := Lib.hid (SX_2.out.step b3)
  clear b3
  have SY_3 := Lib.hid r3
  have ZY := Lib.hid zaY
  clear o3 r3 zaY
  cases hok : tB L a b s.data.toList
  · clear hsx
    go_wp2_with fail
    refine (implSame_any _ _ _ _ (tV L a b s.data.toList) (tV L a b s.data.toList) _ _ _ SX_3.out SY_3.out).mono ?_
    rw [hsm.out]
    rintro e w4 ⟨rfl, nd4, hw4⟩
    have b4 := (below_of_drew hw4)
    clear hw4
    obtain ⟨C0_4, C1_4, C2_4⟩ := ColAt.below (g := w1.heap.size) ⟨C0_3, C1_3, C2_3⟩ b4 zC_3.out
    have zC_4 := Lib.hid (Nat.lt_of_lt_of_le zC_3.out b4.size)
    clear C0_3 C1_3 C2_3
    have P_4 := Lib.hid (P_3.out.step b4)
    have B_4 := Lib.hid (B_3.out.trans (b4.mono B_3.out.size))
    have SX_4 := Lib.hid (SX_3.out.step b4)
    have SY_4 := Lib.hid (SY_3.out.step b4)
    clear b4
    go_wp2_with fail
    refine (implSame_any _ _ _ _ (tV L a b s.data.toList) (tV L a b s.data.toList) _ _ _ SX_4.out SY_4.out).mono ?_
    rw [hsm.out]
    rintro e w5 ⟨rfl, nd5, hw5⟩
    have b5 := (below_of_drew hw5)
    clear hw5
    obtain ⟨C0_5, C1_5, C2_5⟩ := ColAt.below (g := w1.heap.size) ⟨C0_4, C1_4, C2_4⟩ b5 zC_4.out
    have zC_5 := Lib.hid (Nat.lt_of_lt_of_le zC_4.out b5.size)
    clear C0_4 C1_4 C2_4
    have P_5 := Lib.hid (P_4.out.step b5)
    have B_5 := Lib.hid (B_4.out.trans (b5.mono B_4.out.size))
    have SX_5 := Lib.hid (SX_4.out.step b5)
    have SY_5 := Lib.hid (SY_4.out.step b5)
    clear b5
    go_wp2
    go_ret
    exact ⟨rfl, B_5.out⟩
  · have HOK := Lib.hid hok
    clear hok
    by_cases h0 : s.data.toList = []
    · have hp1 : s.toList = [] := by rw [Lib.toList_data, h0]
      have hp2 : s.toList.isEmpty = true := by rw [hp1]; rfl
      clear h0
      go_wp2_with fail
      refine (implSame_any _ _ _ _ (tV L a b s.data.toList) (tV L a b s.data.toList) _ _ _ SX_3.out SY_3.out).mono ?_
      rw [hsm.out]
      rintro e w4 ⟨rfl, nd4, hw4⟩
      have b4 := (below_of_drew hw4)
      clear hw4
      obtain ⟨C0_4, C1_4, C2_4⟩ := ColAt.below (g := w1.heap.size) ⟨C0_3, C1_3, C2_3⟩ b4 zC_3.out
      have zC_4 := Lib.hid (Nat.lt_of_lt_of_le zC_3.out b4.size)
      clear C0_3 C1_3 C2_3
      have P_4 := Lib.hid (P_3.out.step b4)
      have B_4 := Lib.hid (B_3.out.trans (b4.mono B_3.out.size))
      have SX_4 := Lib.hid (SX_3.out.step b4)
      have SY_4 := Lib.hid (SY_3.out.step b4)
      clear b4
      go_wp2_with fail
      refine (implSame_any _ _ _ _ (tV L a b s.data.toList) (tV L a b s.data.toList) _ _ _ SX_4.out SY_4.out).mono ?_
      rw [hsm.out]
      rintro e w5 ⟨rfl, nd5, hw5⟩
      have b5 := (below_of_drew hw5)
      clear hw5
      obtain ⟨C0_5, C1_5, C2_5⟩ := ColAt.below (g := w1.heap.size) ⟨C0_4, C1_4, C2_4⟩ b5 zC_4.out
      have zC_5 := Lib.hid (Nat.lt_of_lt_of_le zC_4.out b5.size)
      clear C0_4 C1_4 C2_4
      have P_5 := Lib.hid (P_4.out.step b5)
      have B_5 := Lib.hid (B_4.out.trans (b5.mono B_4.out.size))
      have SX_5 := Lib.hid (SX_4.out.step b5)
      have SY_5 := Lib.hid (SY_4.out.step b5)
      clear b5
      go_wp2
      go_ret
      exact ⟨rfl, B_5.out⟩
    have hp1 : ¬ s.toList = [] := by rw [Lib.toList_data]; exact h0
    have hp2 : s.toList.isEmpty = false := by simpa using hp1
    by_cases h45 : s.data.toList = [45]
    · have hq : (s.toList == [45]) = true := by rw [Lib.toList_data, h45]; rfl
      have hq2 : s.toList = [45] := by rw [Lib.toList_data, h45]
      clear h0 h45
      go_wp2_with fail
      refine (implSame_any _ _ _ _ (tV L a b s.data.toList) (tV L a b s.data.toList) _ _ _ SX_3.out SY_3.out).mono ?_
      rw [hsm.out]
      rintro e w4 ⟨rfl, nd4, hw4⟩
      have b4 := (below_of_drew hw4)
      clear hw4
      obtain ⟨C0_4, C1_4, C2_4⟩ := ColAt.below (g := w1.heap.size) ⟨C0_3, C1_3, C2_3⟩ b4 zC_3.out
      have zC_4 := Lib.hid (Nat.lt_of_lt_of_le zC_3.out b4.size)
      clear C0_3 C1_3 C2_3
      have P_4 := Lib.hid (P_3.out.step b4)
      have B_4 := Lib.hid (B_3.out.trans (b4.mono B_3.out.size))
      have SX_4 := Lib.hid (SX_3.out.step b4)
      have SY_4 := Lib.hid (SY_3.out.step b4)
      clear b4
      go_wp2_with fail
      refine (implSame_any _ _ _ _ (tV L a b s.data.toList) (tV L a b s.data.toList) _ _ _ SX_4.out SY_4.out).mono ?_
      rw [hsm.out]
      rintro e w5 ⟨rfl, nd5, hw5⟩
      have b5 := (below_of_drew hw5)
      clear hw5
      obtain ⟨C0_5, C1_5, C2_5⟩ := ColAt.below (g := w1.heap.size) ⟨C0_4, C1_4, C2_4⟩ b5 zC_4.out
      have zC_5 := Lib.hid (Nat.lt_of_lt_of_le zC_4.out b5.size)
      clear C0_4 C1_4 C2_4
      have P_5 := Lib.hid (P_4.out.step b5)
      have B_5 := Lib.hid (B_4.out.trans (b5.mono B_4.out.size))
      have SX_5 := Lib.hid (SX_4.out.step b5)
      have SY_5 := Lib.hid (SY_4.out.step b5)
      clear b5
      go_wp2
      go_ret
      exact ⟨rfl, B_5.out⟩
    have hq : (s.toList == [45]) = false := by rw [Lib.toList_data]; exact beq_eq_false_iff_ne.2 h45
    have hq2 : ¬ s.toList = [45] := by rw [Lib.toList_data]; exact h45
    have hsz : 0 < s.size := Nat.pos_of_ne_zero fun hz => h0 (List.eq_nil_of_length_eq_zero (by rw [← Lib.size_eq]; exact hz))
    have hi0 : (0 : Int) < (s.size : Int) := by omega
    have hhd := head_at s hsz
    by_cases h110 : s[0] = 110
    · have hr : ((s[0].toNat : Int) == 110) = true := by rw [h110]; rfl
      clear h0 h45 hhd h110
      go_wp2_with fail
      refine (implSame_any _ _ _ _ (tV L a b s.data.toList) (tV L a b s.data.toList) _ _ _ SX_3.out SY_3.out).mono ?_
      rw [hsm.out]
      rintro e w4 ⟨rfl, nd4, hw4⟩
      have b4 := (below_of_drew hw4)
      clear hw4
      obtain ⟨C0_4, C1_4, C2_4⟩ := ColAt.below (g := w1.heap.size) ⟨C0_3, C1_3, C2_3⟩ b4 zC_3.out
      have zC_4 := Lib.hid (Nat.lt_of_lt_of_le zC_3.out b4.size)
      clear C0_3 C1_3 C2_3
      have P_4 := Lib.hid (P_3.out.step b4)
      have B_4 := Lib.hid (B_3.out.trans (b4.mono B_3.out.size))
      have SX_4 := Lib.hid (SX_3.out.step b4)
      have SY_4 := Lib.hid (SY_3.out.step b4)
      clear b4
      go_wp2_with fail
      refine (implSame_any _ _ _ _ (tV L a b s.data.toList) (tV L a b s.data.toList) _ _ _ SX_4.out SY_4.out).mono ?_
      rw [hsm.out]
      rintro e w5 ⟨rfl, nd5, hw5⟩
      have b5 := (below_of_drew hw5)
      clear hw5
      obtain ⟨C0_5, C1_5, C2_5⟩ := ColAt.below (g := w1.heap.size) ⟨C0_4, C1_4, C2_4⟩ b5 zC_4.out
      have zC_5 := Lib.hid (Nat.lt_of_lt_of_le zC_4.out b5.size)
      clear C0_4 C1_4 C2_4
      have P_5 := Lib.hid (P_4.out.step b5)
      have B_5 := Lib.hid (B_4.out.trans (b5.mono B_4.out.size))
      have SX_5 := Lib.hid (SX_4.out.step b5)
      have SY_5 := Lib.hid (SY_4.out.step b5)
      clear b5
      go_wp2
      go_ret
      exact ⟨rfl, B_5.out⟩
    have hr : ((s[0].toNat : Int) == 110) = false := beq_eq_false_iff_ne.2 (fun e => h110 (UInt8.toNat_inj.1 (by show s[0].toNat = 110; omega)))
    have H0 := Lib.hid h0
    have H45 := Lib.hid h45
    have HHD := Lib.hid (show s.data.toList.headD 0 ≠ 110 by rw [hhd]; exact h110)
    clear h0 h45 hhd h110
    have hcb := tB_col HOK.out
    have hcs := colB_small hcb
    have hn : notB s.data.toList = false := by
      generalize s.data.toList = l at HHD H0
      cases l with
      | nil => exact absurd rfl H0.out
      | cons c t => exact not_n (by have := HHD.out; simpa using this)
    obtain ⟨t, ht⟩ : ∃ t : ByteArray, t = ⟨#[110, 111, 116, 40]⟩ ++ s ++ ⟨#[41]⟩ := ⟨_, rfl⟩
    have et : t.data.toList = cat4 ++ (s.data.toList ++ [41]) := by rw [ht, ByteArray.data_append, Array.toList_append, ByteArray.data_append, Array.toList_append, List.append_assoc]; rfl
    have hsz1 : (⟨#[110, 111, 116, 40]⟩ : ByteArray).size = 4 := rfl
    have hsz2 : (⟨#[41]⟩ : ByteArray).size = 1 := rfl
    have zt : t.size ≤ 1048600 := by rw [ht, ByteArray.size_append, ByteArray.size_append]; have := HSS.out; omega
    have n1 : ¬ 9223372036854775807 < 4 + s.size := by have := HSS.out; omega
    have n2 : ¬ 9223372036854775807 < 4 + s.size + 1 := by have := HSS.out; omega
    have pn := fun w hL => implPT_any L a b t zt w hL
    have law := fun h v h1 h2 => not_law HOK.out H0.out H45.out hn h v h1 h2
    rw [et] at pn
    generalize tB L a b (cat4 ++ (s.data.toList ++ [41])) = ok2 at pn law
    generalize tV L a b (cat4 ++ (s.data.toList ++ [41])) = ys at pn law
    rw [ht] at pn
    have PN := Lib.hid pn
    have LAW := Lib.hid law
    have HCS := Lib.hid hcs
    clear hcb hcs hn et zt ht pn law
    go_wp2_with fail
    refine (implSame_any _ _ _ _ (tV L a b s.data.toList) (tV L a b s.data.toList) _ _ _ SX_3.out SY_3.out).mono ?_
    rw [hsm.out]
    rintro e w4 ⟨rfl, nd4, hw4⟩
    have b4 := (below_of_drew hw4)
    clear hw4
    obtain ⟨C0_4, C1_4, C2_4⟩ := ColAt.below (g := w1.heap.size) ⟨C0_3, C1_3, C2_3⟩ b4 zC_3.out
    have zC_4 := Lib.hid (Nat.lt_of_lt_of_le zC_3.out b4.size)
    clear C0_3 C1_3 C2_3
    have P_4 := Lib.hid (P_3.out.step b4)
    have B_4 := Lib.hid (B_3.out.trans (b4.mono B_3.out.size))
    have SX_4 := Lib.hid (SX_3.out.step b4)
    have SY_4 := Lib.hid (SY_3.out.step b4)
    clear b4
    go_wp2_with fail
    refine (PN.out _ P_4.out).mono ?_
    rintro e w5 ⟨v5, rfl, o5, f5, b5⟩
    obtain ⟨AN, cN, hv5, r5, zaN⟩ := o5.form0 f5
    subst hv5
    obtain ⟨C0_5, C1_5, C2_5⟩ := ColAt.below (g := w1.heap.size) ⟨C0_4, C1_4, C2_4⟩ b5 zC_4.out
    have zC_5 := Lib.hid (Nat.lt_of_lt_of_le zC_4.out b5.size)
    clear C0_4 C1_4 C2_4
    have P_5 := Lib.hid (P_4.out.step b5)
    have B_5 := Lib.hid (B_4.out.trans (b5.mono B_4.out.size))
    have SX_5 := Lib.hid (SX_4.out.step b5)
    have SY_5 := Lib.hid (SY_4.out.step b5)
    clear b5
    have SN_5 := Lib.hid r5
    have ZN := Lib.hid zaN
    clear o5 r5 zaN
    cases ok2
    · clear LAW
      go_wp2
      go_ret
      exact ⟨rfl, B_5.out⟩
    · have LW := Lib.hid (LAW.out rfl)
      clear LAW hsz1 hsz2 n1 n2 hq hq2 hr hp1 hp2
      have COL := Lib.hid (show ColAt w5 w1.heap.size L a b from ⟨C0_5, C1_5, C2_5⟩)
      have hab : Hid (a ≤ b) := Lib.hid ((colB_iff _ _ _).1 (tB_col HOK.out)).2.1
      go_wp2
      clear C0_5 C1_5 C2_5
      go_loopw [11] (fun i wr => ∃ v : Int, i = .int .i64 v ∧ a ≤ v ∧ v ≤ b + 1 ∧ Below w5.heap.size w5 wr) (fun i _ => (b + 1 - intOf i).toNat)
      case atStart => exact ⟨a, rfl, Int.le_refl _, by have := hab.out; omega, Below.refl _ _⟩
      case round =>
        obtain ⟨v, rfl, hv1, hv2, hbw⟩ := hrel
        obtain ⟨k0, k1, k2⟩ := COL.out.below hbw zC_5.out
        have SX := Lib.hid (SX_5.out.step hbw)
        have SN := Lib.hid (SN_5.out.step hbw)
        have BW := Lib.hid hbw
        have hcs := HCS.out
        by_cases hvb : v ≤ b
        · have hl := LW.out v hv1 hvb
          have e3 : IntKind.i64.wrap (v + 1) = v + 1 := IntWalk.i64_in _ (by omega)
          have hxh := fun w h => implHas_any AX cX (tV L a b s.data.toList) v w h
          have hnh := fun w h => implHas_any AN cN ys v w h
          rw [hl] at hnh
          generalize hasB (tV L a b s.data.toList) v = q at hxh hnh
          have XH := Lib.hid hxh
          have NH := Lib.hid hnh
          clear hl hxh hnh hbw hcs
          go_wp2_with fail
          refine (NH.out _ SN.out).mono ?_
          rintro e u1 ⟨rfl, d1⟩
          have SX1 := Lib.hid (SX.out.step d1)
          have BW1 := Lib.hid (BW.out.trans (d1.mono BW.out.size))
          clear k0 k1 k2 d1
          go_wp2_with fail
          refine (XH.out _ SX1.out).mono ?_
          rintro e u2 ⟨rfl, d2⟩
          have BW2 := Lib.hid (BW1.out.trans (d2.mono BW1.out.size))
          have hqq : ((!q) == q) = false := by cases q <;> rfl
          clear d2
          go_wp2
          go_roundw
          case rel => exact ⟨v + 1, rfl, by omega, by omega, BW2.out⟩
          case measure => simp [intOf]; omega
        · have hvd : decide (v ≤ b) = false := decide_eq_false hvb
          clear hbw hcs
          go_wp2
          go_ret
          exact ⟨rfl, B_5.out.trans (BW.out.mono B_5.out.size)⟩
end Go.Proofs.YthkjcljhfjaabaaGreatDoor
