/-
  The walk of the exact law FnExactParseTest.
-/
import Derived.Test.YthkjcljhfjaabaaGreatDoorLc
import Derived.Test.YthkjcljhfjaabaaGreatDoorKi
import Derived.Test.YthkjcljhfjaabaaGreatDoorKm
import Derived.Test.YthkjcljhfjaabaaGreatDoorMk
namespace Go.Proofs.YthkjcljhfjaabaaGreatDoor
open Go.RowKit Sets

set_option maxRecDepth 100000 in
set_option maxHeartbeats 4000000 in
theorem exactPT_walk0 (L0 : Bool) (a0 b0 : Int) (s0 : ByteArray) (w : World) (_h0 : I64 a0 ∧ I64 b0) (hs : s0.size ≤ 9223372036854775807) (hL : LibIs w) (hz : (tV L0 a0 b0 s0.data.toList).length ≤ 65536) :
    Calls Tryz.prog 3 #[colV L0 a0 b0, .string s0] w fun e w' => e = .returned (.bool true) ∧ Below w.heap.size w w' := by
  obtain ⟨C0_0, C1_0, C2_0⟩ := ColAt.box w L0 a0 b0 23
  have bb : Below w.heap.size w (w.alloc (.cells #[.bool L0, .int .i64 a0, .int .i64 b0] 23)) := (Below.refl _ w).alloc (Nat.le_refl _) _
  by_cases hn : 1048576 < s0.size
  · have hn' : (1048576 : Int) < (s0.size : Int) := by omega
    go_enter Tryz.func3, Tryz.ntmps3
    go_wp2
    go_ret
    exact ⟨rfl, bb⟩
  have hn' : decide ((1048576 : Int) < (s0.size : Int)) = false := decide_eq_false (by omega)
  have hs1 : s0.size ≤ 1048600 := by omega
  have P_0 := Lib.hid (hL.step bb)
  clear hL
  go_enter Tryz.func3, Tryz.ntmps3
  have B0 : Below (w.heap.size + 1) (w.alloc (.cells #[.bool L0, .int .i64 a0, .int .i64 b0] 23)) (w.alloc (.cells #[.bool L0, .int .i64 a0, .int .i64 b0] 23)) := Below.refl _ _
  have s0x : w.heap.size + 1 ≤ (w.alloc (.cells #[.bool L0, .int .i64 a0, .int .i64 b0] 23)).heap.size := by simp
  have heq : ((tB L0 a0 b0 s0.data.toList) != (tB L0 a0 b0 s0.data.toList)) = false := by simp
  have hz0 : (tV L0 a0 b0 s0.data.toList).length ≤ 65536 := hz
  have hq1 : ((1 : Int) + 2 * (tV L0 a0 b0 s0.data.toList).length != 1 + 2 * (tV L0 a0 b0 s0.data.toList).length) = false := by simp
  go_wp2_with fail
  refine (toColumn_any L0 a0 b0 _).mono ?_
  rintro e w1 ⟨rfl, b1⟩
  have s1 : (w.alloc (.cells #[.bool L0, .int .i64 a0, .int .i64 b0] 23)).heap.size ≤ w1.heap.size := b1.size
  have x1 : w.heap.size + 1 ≤ w1.heap.size := by omega
  have B1 : Below (w.heap.size + 1) (w.alloc (.cells #[.bool L0, .int .i64 a0, .int .i64 b0] 23)) w1 := B0.trans (b1.mono (by omega))
  obtain ⟨C0_1, C1_1, C2_1⟩ := ColAt.below (g := w.heap.size) ⟨C0_0, C1_0, C2_0⟩ b1 (by omega)
  clear C0_0 C1_0 C2_0
  have P_1 := Lib.hid (P_0.out.step b1)
  go_wp2_with fail
  refine (specPT_any L0 a0 b0 s0 hs1 _).mono ?_
  rintro e w2 ⟨v2, rfl, u2, hfZ, b2⟩
  have s2 : w1.heap.size ≤ w2.heap.size := b2.size
  have x2 : w.heap.size + 1 ≤ w2.heap.size := by omega
  have B2 : Below (w.heap.size + 1) (w.alloc (.cells #[.bool L0, .int .i64 a0, .int .i64 b0] 23)) w2 := B1.trans (b2.mono (by omega))
  obtain ⟨C0_2, C1_2, C2_2⟩ := ColAt.below (g := w.heap.size) ⟨C0_1, C1_1, C2_1⟩ b2 (by omega)
  clear C0_1 C1_1 C2_1
  have P_2 := Lib.hid (P_1.out.step b2)
  obtain ⟨AZ, cZ, hv2, Z_2r, okZ_2r, hAZ⟩ := OwnS.mark u2 hfZ
  subst hv2
  have lZ := Z_2r.1
  have lcZ := Z_2r.2.1
  have Z_2 := Lib.hid Z_2r
  have HAZ := Lib.hid hAZ
  clear Z_2r okZ_2r hAZ u2
  go_wp2_with fail
  refine (toColumn_any L0 a0 b0 _).mono ?_
  rintro e w3 ⟨rfl, b3⟩
  have s3 : w2.heap.size ≤ w3.heap.size := b3.size
  have x3 : w.heap.size + 1 ≤ w3.heap.size := by omega
  have B3 : Below (w.heap.size + 1) (w.alloc (.cells #[.bool L0, .int .i64 a0, .int .i64 b0] 23)) w3 := B2.trans (b3.mono (by omega))
  obtain ⟨C0_3, C1_3, C2_3⟩ := ColAt.below (g := w.heap.size) ⟨C0_2, C1_2, C2_2⟩ b3 (by omega)
  clear C0_2 C1_2 C2_2
  have P_3 := Lib.hid (P_2.out.step b3)
  have Z_3 := Lib.hid (Rd.below Z_2.out b3 (by omega))
  go_wp2_with fail
  refine (implPT_any L0 a0 b0 s0 hs1 _ P_3.out).mono ?_
  rintro e w4 ⟨v4, rfl, u4, hfG, b4⟩
  have s4 : w3.heap.size ≤ w4.heap.size := b4.size
  have x4 : w.heap.size + 1 ≤ w4.heap.size := by omega
  have B4 : Below (w.heap.size + 1) (w.alloc (.cells #[.bool L0, .int .i64 a0, .int .i64 b0] 23)) w4 := B3.trans (b4.mono (by omega))
  obtain ⟨C0_4, C1_4, C2_4⟩ := ColAt.below (g := w.heap.size) ⟨C0_3, C1_3, C2_3⟩ b4 (by omega)
  clear C0_3 C1_3 C2_3
  have P_4 := Lib.hid (P_3.out.step b4)
  have Z_4 := Lib.hid (Rd.below Z_3.out b4 (by omega))
  obtain ⟨AG, cG, hv4, G_4r, okG_4r, hAG⟩ := OwnS.mark u4 hfG
  subst hv4
  have lG := G_4r.1
  have lcG := G_4r.2.1
  have G_4 := Lib.hid G_4r
  have HAG := Lib.hid hAG
  have okG_4 : Hid (MarkOK w4 AG (tV L0 a0 b0 s0.data.toList).length) := Lib.hid okG_4r
  clear G_4r okG_4r hAG u4
  go_wp2_with fail
  refine (eqSpanS_any _ _ _ _ (tV L0 a0 b0 s0.data.toList) (tV L0 a0 b0 s0.data.toList) _ (Rd.reads G_4.out (by omega)) (Rd.reads Z_4.out (by omega))).mono ?_
  rw [(same_iff (tV L0 a0 b0 s0.data.toList) (tV L0 a0 b0 s0.data.toList)).2 rfl]
  rintro e w5 ⟨rfl, b5⟩
  have s5 : w4.heap.size ≤ w5.heap.size := b5.size
  have x5 : w.heap.size + 1 ≤ w5.heap.size := by omega
  have B5 : Below (w.heap.size + 1) (w.alloc (.cells #[.bool L0, .int .i64 a0, .int .i64 b0] 23)) w5 := B4.trans (b5.mono (by omega))
  obtain ⟨C0_5, C1_5, C2_5⟩ := ColAt.below (g := w.heap.size) ⟨C0_4, C1_4, C2_4⟩ b5 (by omega)
  clear C0_4 C1_4 C2_4
  have P_5 := Lib.hid (P_4.out.step b5)
  have Z_5 := Lib.hid (Rd.below Z_4.out b5 (by omega))
  have G_5 := Lib.hid (Rd.below G_4.out b5 (by omega))
  have okG_5 := Lib.hid (MarkOK.below okG_4.out b5)
  go_wp2_with fail
  refine (mark_to _ (tV L0 a0 b0 s0.data.toList).length _ 1 _ okG_5.out (by omega) (by omega) (by omega)).mono ?_
  rintro e w6 ⟨rfl, m6, rr6⟩
  have mb6 : Below (w.heap.size + 1) w5 w6 := m6.bel (by omega) (fun g hg => by have := HAG.out g hg; omega)
  have s6 : w5.heap.size ≤ w6.heap.size := m6.size
  have x6 : w.heap.size + 1 ≤ w6.heap.size := by omega
  have B6 : Below (w.heap.size + 1) (w.alloc (.cells #[.bool L0, .int .i64 a0, .int .i64 b0] 23)) w6 := B5.trans mb6
  obtain ⟨C0_6, C1_6, C2_6⟩ := ColAt.below (g := w.heap.size) ⟨C0_5, C1_5, C2_5⟩ mb6 (by omega)
  clear C0_5 C1_5 C2_5
  have P_6 := Lib.hid (P_0.out.stepB (w := (w.alloc (.cells #[.bool L0, .int .i64 a0, .int .i64 b0] 23))) B6 (by simp))
  have Z_6 := Lib.hid (m6.rd Z_5.out (by omega) (fun g hg => by have := HAG.out g hg; omega))
  have Q_6 := Lib.hid (marked_rd rr6 lG lcG HAG.out (by omega) (by omega) (by omega))
  clear rr6
  have hq0 : 0 ≤ (1 : Int) + 2 * (tV L0 a0 b0 s0.data.toList).length := by omega
  go_wp2_with fail
  refine (held_any _ (tV L0 a0 b0 s0.data.toList).length _ 1 _ _ (Rd.reads Q_6.out (by omega)) (by omega) (by omega) (by omega)).mono ?_
  rintro e wq ⟨rfl, rfl⟩
  go_wp2_with fail
  refine (toColumn_any L0 a0 b0 _).mono ?_
  rintro e w7 ⟨rfl, b7⟩
  have s7 : w6.heap.size ≤ w7.heap.size := b7.size
  have x7 : w.heap.size + 1 ≤ w7.heap.size := by omega
  have B7 : Below (w.heap.size + 1) (w.alloc (.cells #[.bool L0, .int .i64 a0, .int .i64 b0] 23)) w7 := B6.trans (b7.mono (by omega))
  obtain ⟨C0_7, C1_7, C2_7⟩ := ColAt.below (g := w.heap.size) ⟨C0_6, C1_6, C2_6⟩ b7 (by omega)
  clear C0_6 C1_6 C2_6
  have P_7 := Lib.hid (P_6.out.step b7)
  have Z_7 := Lib.hid (Rd.below Z_6.out b7 (by omega))
  have Q_7 := Lib.hid (Rd.below Q_6.out b7 (by omega))
  go_wp2_with fail
  refine (implPT_any L0 a0 b0 s0 hs1 _ P_7.out).mono ?_
  rintro e w8 ⟨v8, rfl, u8, hfK, b8⟩
  have s8 : w7.heap.size ≤ w8.heap.size := b8.size
  have x8 : w.heap.size + 1 ≤ w8.heap.size := by omega
  have B8 : Below (w.heap.size + 1) (w.alloc (.cells #[.bool L0, .int .i64 a0, .int .i64 b0] 23)) w8 := B7.trans (b8.mono (by omega))
  obtain ⟨C0_8, C1_8, C2_8⟩ := ColAt.below (g := w.heap.size) ⟨C0_7, C1_7, C2_7⟩ b8 (by omega)
  clear C0_7 C1_7 C2_7
  have P_8 := Lib.hid (P_7.out.step b8)
  have Z_8 := Lib.hid (Rd.below Z_7.out b8 (by omega))
  have Q_8 := Lib.hid (Rd.below Q_7.out b8 (by omega))
  obtain ⟨AK, cK, hv8, K_8r, okK_8r, hAK⟩ := OwnS.mark u8 hfK
  subst hv8
  have lK := K_8r.1
  have lcK := K_8r.2.1
  have K_8 := Lib.hid K_8r
  have HAK := Lib.hid hAK
  clear K_8r okK_8r hAK u8
  go_wp2_with fail
  refine (eqSpanS_any _ _ _ _ (tV L0 a0 b0 s0.data.toList) (tV L0 a0 b0 s0.data.toList) _ (Rd.reads K_8.out (by omega)) (Rd.reads Z_8.out (by omega))).mono ?_
  rw [(same_iff (tV L0 a0 b0 s0.data.toList) (tV L0 a0 b0 s0.data.toList)).2 rfl]
  rintro e w9 ⟨rfl, b9⟩
  have s9 : w8.heap.size ≤ w9.heap.size := b9.size
  have x9 : w.heap.size + 1 ≤ w9.heap.size := by omega
  have B9 : Below (w.heap.size + 1) (w.alloc (.cells #[.bool L0, .int .i64 a0, .int .i64 b0] 23)) w9 := B8.trans (b9.mono (by omega))
  obtain ⟨C0_9, C1_9, C2_9⟩ := ColAt.below (g := w.heap.size) ⟨C0_8, C1_8, C2_8⟩ b9 (by omega)
  clear C0_8 C1_8 C2_8
  have P_9 := Lib.hid (P_8.out.step b9)
  have Z_9 := Lib.hid (Rd.below Z_8.out b9 (by omega))
  have Q_9 := Lib.hid (Rd.below Q_8.out b9 (by omega))
  have K_9 := Lib.hid (Rd.below K_8.out b9 (by omega))
  go_wp2_with fail
  refine (held_any _ (tV L0 a0 b0 s0.data.toList).length _ 1 _ _ (Rd.reads Q_9.out (by omega)) (by omega) (by omega) (by omega)).mono ?_
  rintro e wq ⟨rfl, rfl⟩
  go_wp2
  go_ret
  exact ⟨rfl, bb.trans (B9.mono (by omega))⟩
theorem exactPT_walk (L0 : Bool) (a0 b0 : Int) (s0 : ByteArray) (w : World) (h0 : I64 a0 ∧ I64 b0) (hs : s0.size ≤ 9223372036854775807) (hL : LibIs w) :
    Calls Tryz.prog 3 #[colV L0 a0 b0, .string s0] w fun e w' => e = .returned (.bool true) ∧ Below w.heap.size w w' :=
  exactPT_walk0 L0 a0 b0 s0 w h0 hs hL (tV_len _ _ _ _)
end Go.Proofs.YthkjcljhfjaabaaGreatDoor
