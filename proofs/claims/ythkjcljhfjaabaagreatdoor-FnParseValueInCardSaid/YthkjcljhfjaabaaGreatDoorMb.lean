/-
  The walk of the law that values are tests.
-/
import Derived.Test.YthkjcljhfjaabaaGreatDoorKo
import Derived.Test.YthkjcljhfjaabaaGreatDoorKi
import Derived.Test.YthkjcljhfjaabaaGreatDoorKmM
import Derived.Test.YthkjcljhfjaabaaGreatDoorTn
import Derived.Test.YthkjcljhfjaabaaGreatDoorTeM
namespace Go.Proofs.YthkjcljhfjaabaaGreatDoor
open Go.RowKit Go.Sort Sets

set_option maxRecDepth 100000 in
set_option maxHeartbeats 8000000 in
theorem parseValueIn_walk (A : Option Addr) (n c : Nat) (z : Nat → Int) (w : World) (h : Bytes w A n c z) (hL : LibIs w) :
    Calls Tryz.prog 6 #[.slice A n c] w fun e w' => e = .returned (.bool true) ∧ Below w.heap.size w w' := by
  have hnc := h.1
  have hc := h.2.1
  by_cases hn : 1048576 < n
  · have hn1 : (1048576 : Int) < (n : Int) := by omega
    go_enter Tryz.func6, Tryz.ntmps6
    go_wp2
    go_ret
    exact ⟨rfl, Below.refl _ _⟩
  have hn1 : decide ((1048576 : Int) < (n : Int)) = false := decide_eq_false (by omega)
  have P0 := Lib.hid hL
  clear hL
  go_enter Tryz.func6, Tryz.ntmps6
  go_wp2_with fail
  refine (drawPV_any A n c z w h).mono ?_
  rintro e w1 ⟨L, a, b, s, rfl, a1, a2, b1, b2, hs, bl1⟩
  have bx1 : Below w1.heap.size w1 (w1.alloc (.cells #[.bool L, .int .i64 a, .int .i64 b] 27)) := (Below.refl _ _).alloc (Nat.le_refl _) _
  have P_1 := Lib.hid ((P0.out.step bl1).step bx1)
  have B_1 := Lib.hid (bl1.trans (bx1.mono bl1.size))
  obtain ⟨C0_1, C1_1, C2_1⟩ := ColAt.box w1 L a b 27
  have zC_1 : Hid (w1.heap.size < (w1.alloc (.cells #[.bool L, .int .i64 a, .int .i64 b] 27)).heap.size) := Lib.hid (by simp)
  clear bx1 bl1
  have HSS := Lib.hid hs
  have ip := fun w hp => implPV_any L a b s (by have := HSS.out; omega) w hp
  have sp := fun w => specPV_any L a b s (by have := HSS.out; omega) w
  have pt := fun w hL => implPT_any L a b s (by have := HSS.out; omega) w hL
  clear hs
  cases hg : pvB L a b s.data.toList
  · have h0 := pv_no hg
    rw [hg, h0] at ip sp
    have IP := Lib.hid ip
    have SP := Lib.hid sp
    clear ip sp pt h0 hg
    go_wp2_with fail
    refine (IP.out _ P_1.out.1).mono ?_
    rintro e w2 ⟨rfl, b2⟩
    obtain ⟨C0_2, C1_2, C2_2⟩ := ColAt.below (g := w1.heap.size) ⟨C0_1, C1_1, C2_1⟩ b2 zC_1.out
    have zC_2 := Lib.hid (Nat.lt_of_lt_of_le zC_1.out b2.size)
    clear C0_1 C1_1 C2_1
    have P_2 := Lib.hid (P_1.out.step b2)
    have B_2 := Lib.hid (B_1.out.trans (b2.mono B_1.out.size))
    clear b2
    go_wp2_with fail
    refine (SP.out _).mono ?_
    rintro e w3 ⟨rfl, b3⟩
    obtain ⟨C0_3, C1_3, C2_3⟩ := ColAt.below (g := w1.heap.size) ⟨C0_2, C1_2, C2_2⟩ b3 zC_2.out
    have zC_3 := Lib.hid (Nat.lt_of_lt_of_le zC_2.out b3.size)
    clear C0_2 C1_2 C2_2
    have P_3 := Lib.hid (P_2.out.step b3)
    have B_3 := Lib.hid (B_2.out.trans (b3.mono B_2.out.size))
    clear b3
    go_wp2
    go_ret
    exact ⟨rfl, B_3.out⟩
  · obtain ⟨q1, q2⟩ := pv_back hg
    obtain ⟨hcb, hxa, hxb⟩ := (inB_iff _ _ _ _).1 q2
    have hcs := colB_small hcb
    obtain ⟨t1, t2⟩ := value_test q2
    rw [← fV_yes q2, q1] at t1 t2
    rw [t1, t2] at pt
    rw [hg] at ip sp
    generalize pvN L a b s.data.toList = x at ip sp pt hxa hxb
    obtain ⟨o1, o2⟩ := one_law x (by omega)
    have hx1 : (x != x) = false := by simp
    have IP := Lib.hid ip
    have SP := Lib.hid sp
    have PT := Lib.hid pt
    clear ip sp pt hg q1 q2 t1 t2 hcb hcs
    go_wp2_with fail
    refine (IP.out _ P_1.out.1).mono ?_
    rintro e w2 ⟨rfl, b2⟩
    obtain ⟨C0_2, C1_2, C2_2⟩ := ColAt.below (g := w1.heap.size) ⟨C0_1, C1_1, C2_1⟩ b2 zC_1.out
    have zC_2 := Lib.hid (Nat.lt_of_lt_of_le zC_1.out b2.size)
    clear C0_1 C1_1 C2_1
    have P_2 := Lib.hid (P_1.out.step b2)
    have B_2 := Lib.hid (B_1.out.trans (b2.mono B_1.out.size))
    clear b2
    go_wp2_with fail
    refine (SP.out _).mono ?_
    rintro e w3 ⟨rfl, b3⟩
    obtain ⟨C0_3, C1_3, C2_3⟩ := ColAt.below (g := w1.heap.size) ⟨C0_2, C1_2, C2_2⟩ b3 zC_2.out
    have zC_3 := Lib.hid (Nat.lt_of_lt_of_le zC_2.out b3.size)
    clear C0_2 C1_2 C2_2
    have P_3 := Lib.hid (P_2.out.step b3)
    have B_3 := Lib.hid (B_2.out.trans (b3.mono B_2.out.size))
    clear b3
    go_wp2_with fail
    refine (PT.out _ P_3.out).mono ?_
    rintro e w4 ⟨v4, rfl, o4, f4, b4⟩
    obtain ⟨AX, cX, hv4, r4, zaX⟩ := o4.form0 f4
    subst hv4
    obtain ⟨C0_4, C1_4, C2_4⟩ := ColAt.below (g := w1.heap.size) ⟨C0_3, C1_3, C2_3⟩ b4 zC_3.out
    have zC_4 := Lib.hid (Nat.lt_of_lt_of_le zC_3.out b4.size)
    clear C0_3 C1_3 C2_3
    have P_4 := Lib.hid (P_3.out.step b4)
    have B_4 := Lib.hid (B_3.out.trans (b4.mono B_3.out.size))
    clear b4
    have SX_4 := Lib.hid r4
    have ZX := Lib.hid zaX
    clear o4 r4 zaX
    go_wp2_with fail
    refine (implSize_any _ _ [(x, x)] _ SX_4.out).mono ?_
    rw [o1]
    rintro e w5 ⟨rfl, b5⟩
    obtain ⟨C0_5, C1_5, C2_5⟩ := ColAt.below (g := w1.heap.size) ⟨C0_4, C1_4, C2_4⟩ b5 zC_4.out
    have zC_5 := Lib.hid (Nat.lt_of_lt_of_le zC_4.out b5.size)
    clear C0_4 C1_4 C2_4
    have P_5 := Lib.hid (P_4.out.step b5)
    have B_5 := Lib.hid (B_4.out.trans (b5.mono B_4.out.size))
    have SX_5 := Lib.hid (SX_4.out.step b5)
    clear b5
    go_wp2_with fail
    refine (implHas_any _ _ [(x, x)] x _ SX_5.out).mono ?_
    rw [o2]
    rintro e w6 ⟨rfl, b6⟩
    obtain ⟨C0_6, C1_6, C2_6⟩ := ColAt.below (g := w1.heap.size) ⟨C0_5, C1_5, C2_5⟩ b6 zC_5.out
    have zC_6 := Lib.hid (Nat.lt_of_lt_of_le zC_5.out b6.size)
    clear C0_5 C1_5 C2_5
    have P_6 := Lib.hid (P_5.out.step b6)
    have B_6 := Lib.hid (B_5.out.trans (b6.mono B_5.out.size))
    have SX_6 := Lib.hid (SX_5.out.step b6)
    clear b6
    go_wp2
    go_ret
    exact ⟨rfl, B_6.out⟩
end Go.Proofs.YthkjcljhfjaabaaGreatDoor
