/-
  The walk of the law that lists are unions.
-/
import Derived.Test.YthkjcljhfjaabaaGreatDoorKn
import Derived.Test.YthkjcljhfjaabaaGreatDoorKi
import Derived.Test.YthkjcljhfjaabaaGreatDoorKmM
import Derived.Test.YthkjcljhfjaabaaGreatDoorTn
import Derived.Test.YthkjcljhfjaabaaGreatDoorIt
import Derived.Test.YthkjcljhfjaabaaGreatDoorSz
namespace Go.Proofs.YthkjcljhfjaabaaGreatDoor
open Go.RowKit Go.Sort Sets

theorem below_of_drew {w w' : World} {n : Nat} (h : w' = w.drewN n) : Below w.heap.size w w' := by rw [h]; exact below_drewN (Below.refl _ _) n
theorem size_small (xs : List Sp) : 0 ≤ sizeV xs ∧ sizeV xs ≤ 1000000 := by
  cases h : validB xs
  · unfold sizeV; rw [h]; simp
  · obtain ⟨n1, w1⟩ := norm_of_valid h
    rw [sizeV_yes h, size_cnt xs n1 w1]
    have h1 := cnt_le (flag xs) (fun _ => true) 199 fun _ _ _ => rfl
    have h2 : ∀ k, cnt (fun _ => true) k = (k : Int) := fun k => by
      induction k with
      | zero => rfl
      | succ k ih => simp only [cnt, ih]; simp
    have h3 : ∀ k, 0 ≤ cnt (flag xs) k := fun k => by
      induction k with
      | zero => exact Int.le_refl _
      | succ k ih => simp only [cnt]; split <;> omega
    rw [h2] at h1
    have := h3 199
    omega
set_option maxRecDepth 100000 in
set_option maxHeartbeats 8000000 in
theorem testList_walk (A : Option Addr) (n c : Nat) (z : Nat → Int) (w : World) (h : Bytes w A n c z) (hL : LibIs w) :
    Calls Tryz.prog 8 #[.slice A n c] w fun e w' => e = .returned (.bool true) ∧ Below w.heap.size w w' := by
  have hnc := h.1
  have hc := h.2.1
  by_cases hn : 1048576 < n
  · have hn1 : (1048576 : Int) < (n : Int) := by omega
    go_enter Tryz.func8, Tryz.ntmps8
    go_wp2
    go_ret
    exact ⟨rfl, Below.refl _ _⟩
  have hn1 : decide ((1048576 : Int) < (n : Int)) = false := decide_eq_false (by omega)
  have P0 := Lib.hid hL
  clear hL
  go_enter Tryz.func8, Tryz.ntmps8
  go_wp2_with fail
  refine (drawPT_any A n c z w h).mono ?_
  rintro e w1 ⟨L, a, b, s, rfl, a1, a2, b1, b2, hs, bl1⟩
  have bx1 : Below w1.heap.size w1 (w1.alloc (.cells #[.bool L, .int .i64 a, .int .i64 b] 27)) := (Below.refl _ _).alloc (Nat.le_refl _) _
  have P_1 := Lib.hid ((P0.out.step bl1).step bx1)
  have B_1 := Lib.hid (bl1.trans (bx1.mono bl1.size))
  obtain ⟨C0_1, C1_1, C2_1⟩ := ColAt.box w1 L a b 27
  have zC_1 : Hid (w1.heap.size < (w1.alloc (.cells #[.bool L, .int .i64 a, .int .i64 b] 27)).heap.size) := Lib.hid (by simp)
  clear bx1 bl1
  have HSS := Lib.hid hs
  have hsx : s.size ≤ 9223372036854775807 := by omega
  have pi := fun w hL => implPT_any L a b s (by have := HSS.out; omega) w hL
  have ps := fun w => specPT_any L a b s (by have := HSS.out; omega) w
  have hsm : Hid (sameB (tV L a b s.data.toList) (tV L a b s.data.toList) = true) := Lib.hid ((same_iff _ _).2 rfl)
  have PI := Lib.hid pi
  have PS := Lib.hid ps
  clear pi ps hs
  go_wp2_with fail
  refine (PI.out _ P_1.out).mono ?_
  rintro e w2 ⟨v2, rfl, o2, f2, b2⟩
  obtain ⟨AX, cX, hv2, r2, zaX⟩ := o2.form0 f2
  subst hv2
  obtain ⟨C0_2, C1_2, C2_2⟩ := ColAt.below (g := w1.heap.size) ⟨C0_1, C1_1, C2_1⟩ b2 zC_1.out
  have zC_2 := Lib.hid (Nat.lt_of_lt_of_le zC_1.out b2.size)
  clear C0_1 C1_1 C2_1
  have P_2 := Lib.hid (P_1.out.step b2)
  have B_2 := Lib.hid (B_1.out.trans (b2.mono B_1.out.size))
  clear b2
  have SX_2 := Lib.hid r2
  have ZX := Lib.hid zaX
  clear o2 r2 zaX
  go_wp2_with fail
  refine (PS.out _).mono ?_
  rintro e w3 ⟨v3, rfl, o3, f3, b3⟩
  obtain ⟨AY, cY, hv3, r3, zaY⟩ := o3.form0 f3
  subst hv3
  obtain ⟨C0_3, C1_3, C2_3⟩ := ColAt.below (g := w1.heap.size) ⟨C0_2, C1_2, C2_2⟩ b3 zC_2.out
  have zC_3 := Lib.hid (Nat.lt_of_lt_of_le zC_2.out b3.size)
  clear C0_2 C1_2 C2_2
  have P_3 := Lib.hid (P_2.out.step b3)
  have B_3 := Lib.hid (B_2.out.trans (b3.mono B_2.out.size))
  have SX_3 := Lib.hid (SX_2.out.step b3)
  clear b3
  have SY_3 := Lib.hid r3
  have ZY := Lib.hid zaY
  clear o3 r3 zaY
  cases hok : tB L a b s.data.toList
  · clear hsx
    go_wp2_with fail
    refine (implSame_any _ _ _ _ (tV L a b s.data.toList) (tV L a b s.data.toList) _ _ _ SX_3.out SY_3.out).mono ?_
    rw [hsm.out]
    rintro e w4 ⟨rfl, nd4, hw4⟩
    have b4 := (below_of_drew hw4)
    clear hw4
    obtain ⟨C0_4, C1_4, C2_4⟩ := ColAt.below (g := w1.heap.size) ⟨C0_3, C1_3, C2_3⟩ b4 zC_3.out
    have zC_4 := Lib.hid (Nat.lt_of_lt_of_le zC_3.out b4.size)
    clear C0_3 C1_3 C2_3
    have P_4 := Lib.hid (P_3.out.step b4)
    have B_4 := Lib.hid (B_3.out.trans (b4.mono B_3.out.size))
    have SX_4 := Lib.hid (SX_3.out.step b4)
    have SY_4 := Lib.hid (SY_3.out.step b4)
    clear b4
    go_wp2_with fail
    refine (implSame_any _ _ _ _ (tV L a b s.data.toList) (tV L a b s.data.toList) _ _ _ SX_4.out SY_4.out).mono ?_
    rw [hsm.out]
    rintro e w5 ⟨rfl, nd5, hw5⟩
    have b5 := (below_of_drew hw5)
    clear hw5
    obtain ⟨C0_5, C1_5, C2_5⟩ := ColAt.below (g := w1.heap.size) ⟨C0_4, C1_4, C2_4⟩ b5 zC_4.out
    have zC_5 := Lib.hid (Nat.lt_of_lt_of_le zC_4.out b5.size)
    clear C0_4 C1_4 C2_4
    have P_5 := Lib.hid (P_4.out.step b5)
    have B_5 := Lib.hid (B_4.out.trans (b5.mono B_4.out.size))
    have SX_5 := Lib.hid (SX_4.out.step b5)
    have SY_5 := Lib.hid (SY_4.out.step b5)
    clear b5
    go_wp2
    go_ret
    exact ⟨rfl, B_5.out⟩
  · have HOK := Lib.hid hok
    clear hok
    by_cases h0 : s.data.toList = []
    · have hp1 : s.toList = [] := by rw [Lib.toList_data, h0]
      have hp2 : s.toList.isEmpty = true := by rw [hp1]; rfl
      clear h0
      go_wp2_with fail
      refine (implSame_any _ _ _ _ (tV L a b s.data.toList) (tV L a b s.data.toList) _ _ _ SX_3.out SY_3.out).mono ?_
      rw [hsm.out]
      rintro e w4 ⟨rfl, nd4, hw4⟩
      have b4 := (below_of_drew hw4)
      clear hw4
      obtain ⟨C0_4, C1_4, C2_4⟩ := ColAt.below (g := w1.heap.size) ⟨C0_3, C1_3, C2_3⟩ b4 zC_3.out
      have zC_4 := Lib.hid (Nat.lt_of_lt_of_le zC_3.out b4.size)
      clear C0_3 C1_3 C2_3
      have P_4 := Lib.hid (P_3.out.step b4)
      have B_4 := Lib.hid (B_3.out.trans (b4.mono B_3.out.size))
      have SX_4 := Lib.hid (SX_3.out.step b4)
      have SY_4 := Lib.hid (SY_3.out.step b4)
      clear b4
      go_wp2_with fail
      refine (implSame_any _ _ _ _ (tV L a b s.data.toList) (tV L a b s.data.toList) _ _ _ SX_4.out SY_4.out).mono ?_
      rw [hsm.out]
      rintro e w5 ⟨rfl, nd5, hw5⟩
      have b5 := (below_of_drew hw5)
      clear hw5
      obtain ⟨C0_5, C1_5, C2_5⟩ := ColAt.below (g := w1.heap.size) ⟨C0_4, C1_4, C2_4⟩ b5 zC_4.out
      have zC_5 := Lib.hid (Nat.lt_of_lt_of_le zC_4.out b5.size)
      clear C0_4 C1_4 C2_4
      have P_5 := Lib.hid (P_4.out.step b5)
      have B_5 := Lib.hid (B_4.out.trans (b5.mono B_4.out.size))
      have SX_5 := Lib.hid (SX_4.out.step b5)
      have SY_5 := Lib.hid (SY_4.out.step b5)
      clear b5
      go_wp2
      go_ret
      exact ⟨rfl, B_5.out⟩
    have hp1 : ¬ s.toList = [] := by rw [Lib.toList_data]; exact h0
    have hp2 : s.toList.isEmpty = false := by simpa using hp1
    by_cases h45 : s.data.toList = [45]
    · have hq : (s.toList == [45]) = true := by rw [Lib.toList_data, h45]; rfl
      have hq2 : s.toList = [45] := by rw [Lib.toList_data, h45]
      clear h0 h45
      go_wp2_with fail
      refine (implSame_any _ _ _ _ (tV L a b s.data.toList) (tV L a b s.data.toList) _ _ _ SX_3.out SY_3.out).mono ?_
      rw [hsm.out]
      rintro e w4 ⟨rfl, nd4, hw4⟩
      have b4 := (below_of_drew hw4)
      clear hw4
      obtain ⟨C0_4, C1_4, C2_4⟩ := ColAt.below (g := w1.heap.size) ⟨C0_3, C1_3, C2_3⟩ b4 zC_3.out
      have zC_4 := Lib.hid (Nat.lt_of_lt_of_le zC_3.out b4.size)
      clear C0_3 C1_3 C2_3
      have P_4 := Lib.hid (P_3.out.step b4)
      have B_4 := Lib.hid (B_3.out.trans (b4.mono B_3.out.size))
      have SX_4 := Lib.hid (SX_3.out.step b4)
      have SY_4 := Lib.hid (SY_3.out.step b4)
      clear b4
      go_wp2_with fail
      refine (implSame_any _ _ _ _ (tV L a b s.data.toList) (tV L a b s.data.toList) _ _ _ SX_4.out SY_4.out).mono ?_
      rw [hsm.out]
      rintro e w5 ⟨rfl, nd5, hw5⟩
      have b5 := (below_of_drew hw5)
      clear hw5
      obtain ⟨C0_5, C1_5, C2_5⟩ := ColAt.below (g := w1.heap.size) ⟨C0_4, C1_4, C2_4⟩ b5 zC_4.out
      have zC_5 := Lib.hid (Nat.lt_of_lt_of_le zC_4.out b5.size)
      clear C0_4 C1_4 C2_4
      have P_5 := Lib.hid (P_4.out.step b5)
      have B_5 := Lib.hid (B_4.out.trans (b5.mono B_4.out.size))
      have SX_5 := Lib.hid (SX_4.out.step b5)
      have SY_5 := Lib.hid (SY_4.out.step b5)
      clear b5
      go_wp2
      go_ret
      exact ⟨rfl, B_5.out⟩
    have hq : (s.toList == [45]) = false := by rw [Lib.toList_data]; exact beq_eq_false_iff_ne.2 h45
    have hq2 : ¬ s.toList = [45] := by rw [Lib.toList_data]; exact h45
    have hsz : 0 < s.size := Nat.pos_of_ne_zero fun hz => h0 (List.eq_nil_of_length_eq_zero (by rw [← Lib.size_eq]; exact hz))
    have hi0 : (0 : Int) < (s.size : Int) := by omega
    have hhd := head_at s hsz
    by_cases h110 : s[0] = 110
    · have hr : ((s[0].toNat : Int) == 110) = true := by rw [h110]; rfl
      clear h0 h45 hhd h110
      go_wp2_with fail
      refine (implSame_any _ _ _ _ (tV L a b s.data.toList) (tV L a b s.data.toList) _ _ _ SX_3.out SY_3.out).mono ?_
      rw [hsm.out]
      rintro e w4 ⟨rfl, nd4, hw4⟩
      have b4 := (below_of_drew hw4)
      clear hw4
      obtain ⟨C0_4, C1_4, C2_4⟩ := ColAt.below (g := w1.heap.size) ⟨C0_3, C1_3, C2_3⟩ b4 zC_3.out
      have zC_4 := Lib.hid (Nat.lt_of_lt_of_le zC_3.out b4.size)
      clear C0_3 C1_3 C2_3
      have P_4 := Lib.hid (P_3.out.step b4)
      have B_4 := Lib.hid (B_3.out.trans (b4.mono B_3.out.size))
      have SX_4 := Lib.hid (SX_3.out.step b4)
      have SY_4 := Lib.hid (SY_3.out.step b4)
      clear b4
      go_wp2_with fail
      refine (implSame_any _ _ _ _ (tV L a b s.data.toList) (tV L a b s.data.toList) _ _ _ SX_4.out SY_4.out).mono ?_
      rw [hsm.out]
      rintro e w5 ⟨rfl, nd5, hw5⟩
      have b5 := (below_of_drew hw5)
      clear hw5
      obtain ⟨C0_5, C1_5, C2_5⟩ := ColAt.below (g := w1.heap.size) ⟨C0_4, C1_4, C2_4⟩ b5 zC_4.out
      have zC_5 := Lib.hid (Nat.lt_of_lt_of_le zC_4.out b5.size)
      clear C0_4 C1_4 C2_4
      have P_5 := Lib.hid (P_4.out.step b5)
      have B_5 := Lib.hid (B_4.out.trans (b5.mono B_4.out.size))
      have SX_5 := Lib.hid (SX_4.out.step b5)
      have SY_5 := Lib.hid (SY_4.out.step b5)
      clear b5
      go_wp2
      go_ret
      exact ⟨rfl, B_5.out⟩
    have hr : ((s[0].toNat : Int) == 110) = false := beq_eq_false_iff_ne.2 (fun e => h110 (UInt8.toNat_inj.1 (by show s[0].toNat = 110; omega)))
    have H0 := Lib.hid h0
    have H45 := Lib.hid h45
    have HHD := Lib.hid (show s.data.toList.headD 0 ≠ 110 by rw [hhd]; exact h110)
    clear h0 h45 hhd h110
    have hcb := tB_col HOK.out
    have hin : inB L a b a = true := in_lo hcb
    have fi := fun w hp => implFV_any L a b a w hp
    obtain ⟨u, hue⟩ : ∃ u : ByteArray, u = ⟨(fV L a b a).toArray⟩ := ⟨_, rfl⟩
    have e1 : u.data.toList = fV L a b a := by rw [hue]
    have hu3 : u.size ≤ 3 := by rw [Lib.size_eq, e1, fV_yes hin]; exact (vT_bytes hin).2.2.1
    simp only [strV, ← hue] at fi
    obtain ⟨t, ht⟩ : ∃ t : ByteArray, t = s ++ ⟨#[44]⟩ ++ u := ⟨_, rfl⟩
    have et : t.data.toList = s.data.toList ++ 44 :: fV L a b a := by rw [ht, ByteArray.data_append, Array.toList_append, ByteArray.data_append, Array.toList_append, e1, List.append_assoc]; rfl
    have zt : t.size ≤ 1048600 := by rw [ht, ByteArray.size_append, ByteArray.size_append]; have : (⟨#[44]⟩ : ByteArray).size = 1 := rfl; have := HSS.out; omega
    have n1 : ¬ 9223372036854775807 < s.size + 1 := by have := HSS.out; omega
    have n2 : ¬ 9223372036854775807 < s.size + 1 + u.size := by have := HSS.out; omega
    have pn := fun w hL => implPT_any L a b t zt w hL
    have law := fun h => list_law HOK.out H0.out H45.out HHD.out h
    have hsv : 0 ≤ sizeV (tV L a b s.data.toList) ∧ sizeV (tV L a b s.data.toList) ≤ 1000000 := size_small _
    rw [et] at pn
    generalize tB L a b (s.data.toList ++ 44 :: fV L a b a) = ok2 at pn law
    generalize tV L a b (s.data.toList ++ 44 :: fV L a b a) = ys at pn law
    rw [ht] at pn
    have FI := Lib.hid fi
    have PN := Lib.hid pn
    have LAW := Lib.hid law
    have HSV := Lib.hid hsv
    clear hcb hin fi hue e1 hu3 et zt ht pn law hsv
    go_wp2_with fail
    refine (implSame_any _ _ _ _ (tV L a b s.data.toList) (tV L a b s.data.toList) _ _ _ SX_3.out SY_3.out).mono ?_
    rw [hsm.out]
    rintro e w4 ⟨rfl, nd4, hw4⟩
    have b4 := (below_of_drew hw4)
    clear hw4
    obtain ⟨C0_4, C1_4, C2_4⟩ := ColAt.below (g := w1.heap.size) ⟨C0_3, C1_3, C2_3⟩ b4 zC_3.out
    have zC_4 := Lib.hid (Nat.lt_of_lt_of_le zC_3.out b4.size)
    clear C0_3 C1_3 C2_3
    have P_4 := Lib.hid (P_3.out.step b4)
    have B_4 := Lib.hid (B_3.out.trans (b4.mono B_3.out.size))
    have SX_4 := Lib.hid (SX_3.out.step b4)
    have SY_4 := Lib.hid (SY_3.out.step b4)
    clear b4
    go_wp2_with fail
    refine (FI.out _ P_4.out.1).mono ?_
    rintro e w5 ⟨rfl, b5⟩
    obtain ⟨C0_5, C1_5, C2_5⟩ := ColAt.below (g := w1.heap.size) ⟨C0_4, C1_4, C2_4⟩ b5 zC_4.out
    have zC_5 := Lib.hid (Nat.lt_of_lt_of_le zC_4.out b5.size)
    clear C0_4 C1_4 C2_4
    have P_5 := Lib.hid (P_4.out.step b5)
    have B_5 := Lib.hid (B_4.out.trans (b5.mono B_4.out.size))
    have SX_5 := Lib.hid (SX_4.out.step b5)
    have SY_5 := Lib.hid (SY_4.out.step b5)
    clear b5
    go_wp2_with fail
    refine (PN.out _ P_5.out).mono ?_
    rintro e w6 ⟨v6, rfl, o6, f6, b6⟩
    obtain ⟨AN, cN, hv6, r6, zaN⟩ := o6.form0 f6
    subst hv6
    obtain ⟨C0_6, C1_6, C2_6⟩ := ColAt.below (g := w1.heap.size) ⟨C0_5, C1_5, C2_5⟩ b6 zC_5.out
    have zC_6 := Lib.hid (Nat.lt_of_lt_of_le zC_5.out b6.size)
    clear C0_5 C1_5 C2_5
    have P_6 := Lib.hid (P_5.out.step b6)
    have B_6 := Lib.hid (B_5.out.trans (b6.mono B_5.out.size))
    have SX_6 := Lib.hid (SX_5.out.step b6)
    have SY_6 := Lib.hid (SY_5.out.step b6)
    clear b6
    have SN_6 := Lib.hid r6
    have ZN := Lib.hid zaN
    clear o6 r6 zaN
    cases ok2
    · clear LAW
      go_wp2
      go_ret
      exact ⟨rfl, B_6.out⟩
    · obtain ⟨w1, w2, w3⟩ := LAW.out rfl
      have W1 := Lib.hid w1
      have W2 := Lib.hid w2
      have W3 := Lib.hid w3
      clear w1 w2 w3 LAW
      go_wp2_with fail
      refine (implWithin_any _ _ _ _ (tV L a b s.data.toList) ys _ SX_6.out SN_6.out).mono ?_
      rw [W1.out]
      rintro e w7 ⟨rfl, b7⟩
      obtain ⟨C0_7, C1_7, C2_7⟩ := ColAt.below (g := w1.heap.size) ⟨C0_6, C1_6, C2_6⟩ b7 zC_6.out
      have zC_7 := Lib.hid (Nat.lt_of_lt_of_le zC_6.out b7.size)
      clear C0_6 C1_6 C2_6
      have P_7 := Lib.hid (P_6.out.step b7)
      have B_7 := Lib.hid (B_6.out.trans (b7.mono B_6.out.size))
      have SX_7 := Lib.hid (SX_6.out.step b7)
      have SY_7 := Lib.hid (SY_6.out.step b7)
      have SN_7 := Lib.hid (SN_6.out.step b7)
      clear b7
      go_wp2_with fail
      refine (implHas_any _ _ ys a _ SN_7.out).mono ?_
      rw [W2.out]
      rintro e w8 ⟨rfl, b8⟩
      obtain ⟨C0_8, C1_8, C2_8⟩ := ColAt.below (g := w1.heap.size) ⟨C0_7, C1_7, C2_7⟩ b8 zC_7.out
      have zC_8 := Lib.hid (Nat.lt_of_lt_of_le zC_7.out b8.size)
      clear C0_7 C1_7 C2_7
      have P_8 := Lib.hid (P_7.out.step b8)
      have B_8 := Lib.hid (B_7.out.trans (b8.mono B_7.out.size))
      have SX_8 := Lib.hid (SX_7.out.step b8)
      have SY_8 := Lib.hid (SY_7.out.step b8)
      have SN_8 := Lib.hid (SN_7.out.step b8)
      clear b8
      go_wp2_with fail
      refine (implSize_any _ _ ys _ SN_8.out).mono ?_
      rintro e w9 ⟨rfl, b9⟩
      obtain ⟨C0_9, C1_9, C2_9⟩ := ColAt.below (g := w1.heap.size) ⟨C0_8, C1_8, C2_8⟩ b9 zC_8.out
      have zC_9 := Lib.hid (Nat.lt_of_lt_of_le zC_8.out b9.size)
      clear C0_8 C1_8 C2_8
      have P_9 := Lib.hid (P_8.out.step b9)
      have B_9 := Lib.hid (B_8.out.trans (b9.mono B_8.out.size))
      have SX_9 := Lib.hid (SX_8.out.step b9)
      have SY_9 := Lib.hid (SY_8.out.step b9)
      have SN_9 := Lib.hid (SN_8.out.step b9)
      clear b9
      go_wp2_with fail
      refine (implSize_any _ _ (tV L a b s.data.toList) _ SX_9.out).mono ?_
      rintro e w10 ⟨rfl, b10⟩
      obtain ⟨C0_10, C1_10, C2_10⟩ := ColAt.below (g := w1.heap.size) ⟨C0_9, C1_9, C2_9⟩ b10 zC_9.out
      have zC_10 := Lib.hid (Nat.lt_of_lt_of_le zC_9.out b10.size)
      clear C0_9 C1_9 C2_9
      have P_10 := Lib.hid (P_9.out.step b10)
      have B_10 := Lib.hid (B_9.out.trans (b10.mono B_9.out.size))
      have SX_10 := Lib.hid (SX_9.out.step b10)
      have SY_10 := Lib.hid (SY_9.out.step b10)
      have SN_10 := Lib.hid (SN_9.out.step b10)
      clear b10
      have hle := W3.out
      have hsv := HSV.out
      generalize sizeV (tV L a b s.data.toList) = q at hle hsv
      generalize sizeV ys = r at hle
      have e3 : IntKind.i64.wrap (q + 1) = q + 1 := IntWalk.i64_in _ (by omega)
      go_wp2
      go_ret
      exact ⟨rfl, B_10.out⟩
end Go.Proofs.YthkjcljhfjaabaaGreatDoor
