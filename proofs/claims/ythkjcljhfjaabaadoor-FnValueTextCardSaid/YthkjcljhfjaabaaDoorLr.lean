/-
  The walk of the law on texts of values.
-/
import Derived.Test.YthkjcljhfjaabaaDoorKo
import Derived.Test.YthkjcljhfjaabaaDoorTcM
import Derived.Test.YthkjcljhfjaabaaDoorTeM
import Derived.Test.YthkjcljhfjaabaaDoorLi
namespace Go.Proofs.YthkjcljhfjaabaaDoor
open Go.RowKit Go.Sort Sets

set_option maxRecDepth 100000 in
set_option maxHeartbeats 4000000 in
theorem valueText_walk (A : Option Addr) (n c : Nat) (z : Nat → Int) (A' : Option Addr) (n' c' : Nat) (z' : Nat → Int) (w : World) (h : Bytes w A n c z) (h' : Bytes w A' n' c' z') (hL : LibIs w) :
    Calls Tryd.prog 3 #[.slice A n c, .slice A' n' c'] w fun e w' => e = .returned (.bool true) ∧ Below w.heap.size w w' := by
  have hnc := h.1
  have hc := h.2.1
  have hnc' := h'.1
  have hc' := h'.2.1
  by_cases hn : 1048576 < n
  · have hn1 : (1048576 : Int) < (n : Int) := by omega
    go_enter Tryd.func3, Tryd.ntmps3
    go_wp2
    go_ret
    exact ⟨rfl, Below.refl _ _⟩
  have hn1 : decide ((1048576 : Int) < (n : Int)) = false := decide_eq_false (by omega)
  by_cases hm : 1048576 < n'
  · have hm1 : (1048576 : Int) < (n' : Int) := by omega
    go_enter Tryd.func3, Tryd.ntmps3
    go_wp2
    go_ret
    exact ⟨rfl, Below.refl _ _⟩
  have hm1 : decide ((1048576 : Int) < (n' : Int)) = false := decide_eq_false (by omega)
  have P0 := Lib.hid hL
  have HB0 := Lib.hid h'
  clear hL h'
  go_enter Tryd.func3, Tryd.ntmps3
  go_wp2_with fail
  refine (drawFV_any A n c z w h).mono ?_
  rintro e w1 ⟨L, a, b, m, rfl, a1, a2, b1, b2, m1, m2, bl1⟩
  have bx : Below w1.heap.size w1 (w1.alloc (.cells #[.bool L, .int .i64 a, .int .i64 b] 24)) := (Below.refl _ _).alloc (Nat.le_refl _) _
  have B2 := bl1.trans (bx.mono bl1.size)
  obtain ⟨k0, k1, k2⟩ := ColAt.box w1 L a b 24
  have zz : w1.heap.size < (w1.alloc (.cells #[.bool L, .int .i64 a, .int .i64 b] 24)).heap.size := by simp
  have P2 := Lib.hid (P0.out.step B2)
  have HB2 := Lib.hid (HB0.out.step B2)
  have fi := fun w hp => implFV_any L a b m w hp
  have fs := fun w => specFV_any L a b m w
  have cv := fun w => implCol_any L a b w
  obtain ⟨s, hse⟩ : ∃ s : ByteArray, s = ⟨(fV L a b m).toArray⟩ := ⟨_, rfl⟩
  have e1 : s.data.toList = fV L a b m := by rw [hse]
  have hs3 : s.size ≤ 3 := by
    rw [Lib.size_eq, e1]
    cases hi : inB L a b m
    · rw [fV_no hi]; simp
    · rw [fV_yes hi]; exact (vT_bytes hi).2.2.1
  have hps := fun w hp => implPV_any L a b s (by omega) w hp
  simp only [strV, ← hse] at fi fs
  have hq : (s.toList != s.toList) = false := by simp
  cases hi : inB L a b m
  · have hs0 : s.data.toList = [] := by rw [e1, fV_no hi]
    have hq1 : s.toList = [] := by rw [Lib.toList_data, hs0]
    have hq2 : s.toList.isEmpty = true := by rw [hq1]; rfl
    have FI := Lib.hid fi
    have FS := Lib.hid fs
    have CV := Lib.hid cv
    generalize pvN L a b s.data.toList = x at hps
    generalize pvB L a b s.data.toList = g at hps
    have PS := Lib.hid hps
    have HI := Lib.hid hi
    clear fi fs cv hps hse e1 hs3 hs0 hi
    go_wp2_with fail
    refine (FI.out _ P2.out.1).mono ?_
    rintro e w3 ⟨rfl, b3⟩
    obtain ⟨g0, g1, g2⟩ := ColAt.below (g := w1.heap.size) ⟨k0, k1, k2⟩ b3 zz
    have B3 := B2.trans (b3.mono B2.size)
    have P3 := Lib.hid (P2.out.step b3)
    have HB3 := Lib.hid (HB2.out.step b3)
    have z3 := Nat.lt_of_lt_of_le zz b3.size
    clear k0 k1 k2 zz b3 B2
    go_wp2_with fail
    refine (PS.out _ P3.out.1).mono ?_
    rintro e w4 ⟨rfl, b4⟩
    obtain ⟨d0, d1, d2⟩ := ColAt.below (g := w1.heap.size) ⟨g0, g1, g2⟩ b4 z3
    have B4 := B3.trans (b4.mono B3.size)
    have P4 := Lib.hid (P3.out.step b4)
    have HB4 := Lib.hid (HB3.out.step b4)
    have z4 := Nat.lt_of_lt_of_le z3 b4.size
    clear g0 g1 g2 b4 B3 z3
    go_wp2_with fail
    refine (CV.out _).mono ?_
    rintro e w5 ⟨rfl, b5⟩
    obtain ⟨g0, g1, g2⟩ := ColAt.below (g := w1.heap.size) ⟨d0, d1, d2⟩ b5 z4
    have B5 := B4.trans (b5.mono B4.size)
    have P5 := Lib.hid (P4.out.step b5)
    have HB5 := Lib.hid (HB4.out.step b5)
    clear d0 d1 d2 b5 B4 z4
    cases hcb : colB L a b
    · go_wp2_with fail
      refine (FS.out _).mono ?_
      rintro e w6 ⟨rfl, b6⟩
      have BB := Lib.hid (B5.trans (b6.mono B5.size))
      have PP := Lib.hid (P5.out.step b6)
      have HB := Lib.hid (HB5.out.step b6)
      clear g0 g1 g2 b6 B5 hcb
      go_wp2_with fail
      refine (drawPV_any A' n' c' z' _ HB.out).mono ?_
      rintro e v1 ⟨L2, a2, b2, t, rfl, t1, t2, t3, t4, ht, bl2⟩
      have HT := Lib.hid ht
      have C2 := Lib.hid (BB.out.trans (bl2.mono BB.out.size))
      have D2 : Below v1.heap.size v1 (v1.alloc (.cells #[.bool L2, .int .i64 a2, .int .i64 b2] 24)) := (Below.refl _ _).alloc (Nat.le_refl _) _
      obtain ⟨k0, k1, k2⟩ := ColAt.box v1 L2 a2 b2 24
      have zz : v1.heap.size < (v1.alloc (.cells #[.bool L2, .int .i64 a2, .int .i64 b2] 24)).heap.size := by simp
      have P2 := Lib.hid ((PP.out.step bl2).step D2)
      have C3 := Lib.hid (C2.out.trans (D2.mono C2.out.size))
      have ip := fun w hp => implPV_any L2 a2 b2 t (by have := HT.out; omega) w hp
      have sp := fun w => specPV_any L2 a2 b2 t (by have := HT.out; omega) w
      have fi := fun x w hp => implFV_any L2 a2 b2 x w hp
      have hb := fun h => (pv_back (L := L2) (a := a2) (b := b2) (l := t.data.toList) h).1
      generalize pvN L2 a2 b2 t.data.toList = x at ip sp hb
      generalize pvB L2 a2 b2 t.data.toList = g at ip sp hb
      have IP := Lib.hid ip
      have SP := Lib.hid sp
      have FI2 := Lib.hid fi
      have HBK := Lib.hid hb
      clear ip sp fi hb bl2 D2 ht
      go_wp2_with fail
      refine (IP.out _ P2.out.1).mono ?_
      rintro e v2 ⟨rfl, b3⟩
      obtain ⟨g0, g1, g2⟩ := ColAt.below (g := v1.heap.size) ⟨k0, k1, k2⟩ b3 zz
      have P3 := Lib.hid (P2.out.step b3)
      have C4 := Lib.hid (C3.out.trans (b3.mono C3.out.size))
      have zz3 := Nat.lt_of_lt_of_le zz b3.size
      clear k0 k1 k2 zz b3
      go_wp2_with fail
      refine (SP.out _).mono ?_
      rintro e v3 ⟨rfl, b4⟩
      obtain ⟨d0, d1, d2⟩ := ColAt.below (g := v1.heap.size) ⟨g0, g1, g2⟩ b4 zz3
      have P4 := Lib.hid (P3.out.step b4)
      have C5 := Lib.hid (C4.out.trans (b4.mono C4.out.size))
      have hx1 : (x == x) = true := by simp
      clear g0 g1 g2 b4 zz3
      cases g
      · go_wp2
        go_ret
        exact ⟨rfl, C5.out⟩
      · have hfv := HBK.out rfl
        have hst : strV (fV L2 a2 b2 x) = .string t := by rw [hfv]
        have htt : (t.toList == t.toList) = true := by simp
        go_wp2_with fail
        refine (FI2.out x _ P4.out.1).mono ?_
        rw [hst]
        rintro e v4 ⟨rfl, b5⟩
        have C6 := Lib.hid (C5.out.trans (b5.mono C5.out.size))
        clear hfv hst b5
        go_wp2
        go_ret
        exact ⟨rfl, C6.out⟩
    · have hout : ¬ (a ≤ m ∧ m ≤ b) := fun h => by
        have := (inB_iff L a b m).2 ⟨hcb, h⟩
        rw [HI.out] at this
        cases this
      by_cases ham : a ≤ m
      · have hmb : ¬ m ≤ b := fun h => hout ⟨ham, h⟩
        have hmd : decide (m ≤ b) = false := decide_eq_false hmb
        clear hout
        go_wp2_with fail
        refine (FS.out _).mono ?_
        rintro e w6 ⟨rfl, b6⟩
        have BB := Lib.hid (B5.trans (b6.mono B5.size))
        have PP := Lib.hid (P5.out.step b6)
        have HB := Lib.hid (HB5.out.step b6)
        clear g0 g1 g2 b6 B5 hcb
        go_wp2_with fail
        refine (drawPV_any A' n' c' z' _ HB.out).mono ?_
        rintro e v1 ⟨L2, a2, b2, t, rfl, t1, t2, t3, t4, ht, bl2⟩
        have HT := Lib.hid ht
        have C2 := Lib.hid (BB.out.trans (bl2.mono BB.out.size))
        have D2 : Below v1.heap.size v1 (v1.alloc (.cells #[.bool L2, .int .i64 a2, .int .i64 b2] 24)) := (Below.refl _ _).alloc (Nat.le_refl _) _
        obtain ⟨k0, k1, k2⟩ := ColAt.box v1 L2 a2 b2 24
        have zz : v1.heap.size < (v1.alloc (.cells #[.bool L2, .int .i64 a2, .int .i64 b2] 24)).heap.size := by simp
        have P2 := Lib.hid ((PP.out.step bl2).step D2)
        have C3 := Lib.hid (C2.out.trans (D2.mono C2.out.size))
        have ip := fun w hp => implPV_any L2 a2 b2 t (by have := HT.out; omega) w hp
        have sp := fun w => specPV_any L2 a2 b2 t (by have := HT.out; omega) w
        have fi := fun x w hp => implFV_any L2 a2 b2 x w hp
        have hb := fun h => (pv_back (L := L2) (a := a2) (b := b2) (l := t.data.toList) h).1
        generalize pvN L2 a2 b2 t.data.toList = x at ip sp hb
        generalize pvB L2 a2 b2 t.data.toList = g at ip sp hb
        have IP := Lib.hid ip
        have SP := Lib.hid sp
        have FI2 := Lib.hid fi
        have HBK := Lib.hid hb
        clear ip sp fi hb bl2 D2 ht
        go_wp2_with fail
        refine (IP.out _ P2.out.1).mono ?_
        rintro e v2 ⟨rfl, b3⟩
        obtain ⟨g0, g1, g2⟩ := ColAt.below (g := v1.heap.size) ⟨k0, k1, k2⟩ b3 zz
        have P3 := Lib.hid (P2.out.step b3)
        have C4 := Lib.hid (C3.out.trans (b3.mono C3.out.size))
        have zz3 := Nat.lt_of_lt_of_le zz b3.size
        clear k0 k1 k2 zz b3
        go_wp2_with fail
        refine (SP.out _).mono ?_
        rintro e v3 ⟨rfl, b4⟩
        obtain ⟨d0, d1, d2⟩ := ColAt.below (g := v1.heap.size) ⟨g0, g1, g2⟩ b4 zz3
        have P4 := Lib.hid (P3.out.step b4)
        have C5 := Lib.hid (C4.out.trans (b4.mono C4.out.size))
        have hx1 : (x == x) = true := by simp
        clear g0 g1 g2 b4 zz3
        cases g
        · go_wp2
          go_ret
          exact ⟨rfl, C5.out⟩
        · have hfv := HBK.out rfl
          have hst : strV (fV L2 a2 b2 x) = .string t := by rw [hfv]
          have htt : (t.toList == t.toList) = true := by simp
          go_wp2_with fail
          refine (FI2.out x _ P4.out.1).mono ?_
          rw [hst]
          rintro e v4 ⟨rfl, b5⟩
          have C6 := Lib.hid (C5.out.trans (b5.mono C5.out.size))
          clear hfv hst b5
          go_wp2
          go_ret
          exact ⟨rfl, C6.out⟩
      · have hmd : decide (a ≤ m) = false := decide_eq_false ham
        clear hout
        go_wp2_with fail
        refine (FS.out _).mono ?_
        rintro e w6 ⟨rfl, b6⟩
        have BB := Lib.hid (B5.trans (b6.mono B5.size))
        have PP := Lib.hid (P5.out.step b6)
        have HB := Lib.hid (HB5.out.step b6)
        clear g0 g1 g2 b6 B5 hcb
        go_wp2_with fail
        refine (drawPV_any A' n' c' z' _ HB.out).mono ?_
        rintro e v1 ⟨L2, a2, b2, t, rfl, t1, t2, t3, t4, ht, bl2⟩
        have HT := Lib.hid ht
        have C2 := Lib.hid (BB.out.trans (bl2.mono BB.out.size))
        have D2 : Below v1.heap.size v1 (v1.alloc (.cells #[.bool L2, .int .i64 a2, .int .i64 b2] 24)) := (Below.refl _ _).alloc (Nat.le_refl _) _
        obtain ⟨k0, k1, k2⟩ := ColAt.box v1 L2 a2 b2 24
        have zz : v1.heap.size < (v1.alloc (.cells #[.bool L2, .int .i64 a2, .int .i64 b2] 24)).heap.size := by simp
        have P2 := Lib.hid ((PP.out.step bl2).step D2)
        have C3 := Lib.hid (C2.out.trans (D2.mono C2.out.size))
        have ip := fun w hp => implPV_any L2 a2 b2 t (by have := HT.out; omega) w hp
        have sp := fun w => specPV_any L2 a2 b2 t (by have := HT.out; omega) w
        have fi := fun x w hp => implFV_any L2 a2 b2 x w hp
        have hb := fun h => (pv_back (L := L2) (a := a2) (b := b2) (l := t.data.toList) h).1
        generalize pvN L2 a2 b2 t.data.toList = x at ip sp hb
        generalize pvB L2 a2 b2 t.data.toList = g at ip sp hb
        have IP := Lib.hid ip
        have SP := Lib.hid sp
        have FI2 := Lib.hid fi
        have HBK := Lib.hid hb
        clear ip sp fi hb bl2 D2 ht
        go_wp2_with fail
        refine (IP.out _ P2.out.1).mono ?_
        rintro e v2 ⟨rfl, b3⟩
        obtain ⟨g0, g1, g2⟩ := ColAt.below (g := v1.heap.size) ⟨k0, k1, k2⟩ b3 zz
        have P3 := Lib.hid (P2.out.step b3)
        have C4 := Lib.hid (C3.out.trans (b3.mono C3.out.size))
        have zz3 := Nat.lt_of_lt_of_le zz b3.size
        clear k0 k1 k2 zz b3
        go_wp2_with fail
        refine (SP.out _).mono ?_
        rintro e v3 ⟨rfl, b4⟩
        obtain ⟨d0, d1, d2⟩ := ColAt.below (g := v1.heap.size) ⟨g0, g1, g2⟩ b4 zz3
        have P4 := Lib.hid (P3.out.step b4)
        have C5 := Lib.hid (C4.out.trans (b4.mono C4.out.size))
        have hx1 : (x == x) = true := by simp
        clear g0 g1 g2 b4 zz3
        cases g
        · go_wp2
          go_ret
          exact ⟨rfl, C5.out⟩
        · have hfv := HBK.out rfl
          have hst : strV (fV L2 a2 b2 x) = .string t := by rw [hfv]
          have htt : (t.toList == t.toList) = true := by simp
          go_wp2_with fail
          refine (FI2.out x _ P4.out.1).mono ?_
          rw [hst]
          rintro e v4 ⟨rfl, b5⟩
          have C6 := Lib.hid (C5.out.trans (b5.mono C5.out.size))
          clear hfv hst b5
          go_wp2
          go_ret
          exact ⟨rfl, C6.out⟩
  · obtain ⟨hcb, ham, hmb⟩ := (inB_iff L a b m).1 hi
    have hs0 : s.data.toList ≠ [] := by rw [e1, fV_yes hi]; exact (vT_bytes hi).1
    have hq1 : ¬ s.toList = [] := by rw [Lib.toList_data]; exact hs0
    have hq2 : s.toList.isEmpty = false := by simpa using hq1
    obtain ⟨pf1, pf2⟩ := parse_fV hi
    rw [← e1] at pf1 pf2
    rw [pf1, pf2] at hps
    rw [hcb] at cv
    have hmm : (m != m) = false := by simp
    have FI := Lib.hid fi
    have FS := Lib.hid fs
    have CV := Lib.hid cv
    have PS := Lib.hid hps
    clear fi fs cv hps hse e1 hs3 hs0 hi pf1 pf2 hcb
    go_wp2_with fail
    refine (FI.out _ P2.out.1).mono ?_
    rintro e w3 ⟨rfl, b3⟩
    obtain ⟨g0, g1, g2⟩ := ColAt.below (g := w1.heap.size) ⟨k0, k1, k2⟩ b3 zz
    have B3 := B2.trans (b3.mono B2.size)
    have P3 := Lib.hid (P2.out.step b3)
    have HB3 := Lib.hid (HB2.out.step b3)
    have z3 := Nat.lt_of_lt_of_le zz b3.size
    clear k0 k1 k2 zz b3 B2
    go_wp2_with fail
    refine (PS.out _ P3.out.1).mono ?_
    rintro e w4 ⟨rfl, b4⟩
    obtain ⟨d0, d1, d2⟩ := ColAt.below (g := w1.heap.size) ⟨g0, g1, g2⟩ b4 z3
    have B4 := B3.trans (b4.mono B3.size)
    have P4 := Lib.hid (P3.out.step b4)
    have HB4 := Lib.hid (HB3.out.step b4)
    have z4 := Nat.lt_of_lt_of_le z3 b4.size
    clear g0 g1 g2 b4 B3 z3
    go_wp2_with fail
    refine (CV.out _).mono ?_
    rintro e w5 ⟨rfl, b5⟩
    obtain ⟨g0, g1, g2⟩ := ColAt.below (g := w1.heap.size) ⟨d0, d1, d2⟩ b5 z4
    have B5 := B4.trans (b5.mono B4.size)
    have P5 := Lib.hid (P4.out.step b5)
    have HB5 := Lib.hid (HB4.out.step b5)
    clear d0 d1 d2 b5 B4 z4
    go_wp2_with fail
    refine (FS.out _).mono ?_
    rintro e w6 ⟨rfl, b6⟩
    have BB := Lib.hid (B5.trans (b6.mono B5.size))
    have PP := Lib.hid (P5.out.step b6)
    have HB := Lib.hid (HB5.out.step b6)
    clear g0 g1 g2 b6 B5
    go_wp2_with fail
    refine (drawPV_any A' n' c' z' _ HB.out).mono ?_
    rintro e v1 ⟨L2, a2, b2, t, rfl, t1, t2, t3, t4, ht, bl2⟩
    have HT := Lib.hid ht
    have C2 := Lib.hid (BB.out.trans (bl2.mono BB.out.size))
    have D2 : Below v1.heap.size v1 (v1.alloc (.cells #[.bool L2, .int .i64 a2, .int .i64 b2] 24)) := (Below.refl _ _).alloc (Nat.le_refl _) _
    obtain ⟨k0, k1, k2⟩ := ColAt.box v1 L2 a2 b2 24
    have zz : v1.heap.size < (v1.alloc (.cells #[.bool L2, .int .i64 a2, .int .i64 b2] 24)).heap.size := by simp
    have P2 := Lib.hid ((PP.out.step bl2).step D2)
    have C3 := Lib.hid (C2.out.trans (D2.mono C2.out.size))
    have ip := fun w hp => implPV_any L2 a2 b2 t (by have := HT.out; omega) w hp
    have sp := fun w => specPV_any L2 a2 b2 t (by have := HT.out; omega) w
    have fi := fun x w hp => implFV_any L2 a2 b2 x w hp
    have hb := fun h => (pv_back (L := L2) (a := a2) (b := b2) (l := t.data.toList) h).1
    generalize pvN L2 a2 b2 t.data.toList = x at ip sp hb
    generalize pvB L2 a2 b2 t.data.toList = g at ip sp hb
    have IP := Lib.hid ip
    have SP := Lib.hid sp
    have FI2 := Lib.hid fi
    have HBK := Lib.hid hb
    clear ip sp fi hb bl2 D2 ht
    go_wp2_with fail
    refine (IP.out _ P2.out.1).mono ?_
    rintro e v2 ⟨rfl, b3⟩
    obtain ⟨g0, g1, g2⟩ := ColAt.below (g := v1.heap.size) ⟨k0, k1, k2⟩ b3 zz
    have P3 := Lib.hid (P2.out.step b3)
    have C4 := Lib.hid (C3.out.trans (b3.mono C3.out.size))
    have zz3 := Nat.lt_of_lt_of_le zz b3.size
    clear k0 k1 k2 zz b3
    go_wp2_with fail
    refine (SP.out _).mono ?_
    rintro e v3 ⟨rfl, b4⟩
    obtain ⟨d0, d1, d2⟩ := ColAt.below (g := v1.heap.size) ⟨g0, g1, g2⟩ b4 zz3
    have P4 := Lib.hid (P3.out.step b4)
    have C5 := Lib.hid (C4.out.trans (b4.mono C4.out.size))
    have hx1 : (x == x) = true := by simp
    clear g0 g1 g2 b4 zz3
    cases g
    · go_wp2
      go_ret
      exact ⟨rfl, C5.out⟩
    · have hfv := HBK.out rfl
      have hst : strV (fV L2 a2 b2 x) = .string t := by rw [hfv]
      have htt : (t.toList == t.toList) = true := by simp
      go_wp2_with fail
      refine (FI2.out x _ P4.out.1).mono ?_
      rw [hst]
      rintro e v4 ⟨rfl, b5⟩
      have C6 := Lib.hid (C5.out.trans (b5.mono C5.out.size))
      clear hfv hst b5
      go_wp2
      go_ret
      exact ⟨rfl, C6.out⟩
end Go.Proofs.YthkjcljhfjaabaaDoor
