/-
  The walk of the law on texts of columns.
-/
import Derived.Test.YtajjmdnbmicefaaDoorDg
import Derived.Test.YtajjmdnbmicefaaDoorTi
import Derived.Test.YtajjmdnbmicefaaDoorEc
namespace Go.Proofs.YtajjmdnbmicefaaDoor
open Go.RowKit Go.Sort Sets

theorem pc_of_yes {L : Bool} {a b : Int} (h : colB L a b = true) : pcV (fC L a b) = (L, a, b) ∧ pcB (fC L a b) = true := pc_back h
theorem cO_nil (L : Bool) : cO L [] = none := cO_none fun a b h => by
  obtain ⟨h1, h2⟩ := (cO_iff _ _ _ _).1 h
  rw [fC_yes h1] at h2
  have := congrArg List.length h2
  simp [dots] at this
theorem pc_of_no {L : Bool} {a b : Int} (h : colB L a b = false) : pcV (fC L a b) = (false, 0, 0) ∧ pcB (fC L a b) = false := by
  rw [fC_no h]
  exact pc_none (cO_nil false) (cO_nil true)
theorem pc_round {l : Bs} (h : pcB l = true) : fC (pcV l).1 (pcV l).2.1 (pcV l).2.2 = l := by
  cases h0 : cO false l with
  | some p =>
    obtain ⟨x, y⟩ := p
    rw [(pc_num h0).1]
    exact ((cO_iff _ _ _ _).1 h0).2
  | none =>
    cases h1 : cO true l with
    | some p =>
      obtain ⟨x, y⟩ := p
      rw [(pc_let h0 h1).1]
      exact ((cO_iff _ _ _ _).1 h1).2
    | none => rw [(pc_none h0 h1).2] at h; cases h

set_option maxRecDepth 100000 in
set_option maxHeartbeats 4000000 in
theorem columnText_walk (A : Option Addr) (n c : Nat) (z : Nat → Int) (A' : Option Addr) (n' c' : Nat) (z' : Nat → Int) (w : World) (h : Bytes w A n c z) (h' : Bytes w A' n' c' z') (hL : LibIs w) :
    Calls Tryd.prog 4 #[.slice A n c, .slice A' n' c'] w fun e w' => e = .returned (.bool true) ∧ Below w.heap.size w w' := by
  have hnc := h.1
  have hc := h.2.1
  have hnc' := h'.1
  have hc' := h'.2.1
  by_cases hn : 1048576 < n
  · have hn1 : (1048576 : Int) < (n : Int) := by omega
    go_enter Tryd.func4, Tryd.ntmps4
    go_wp2
    go_ret
    exact ⟨rfl, Below.refl _ _⟩
  have hn1 : decide ((1048576 : Int) < (n : Int)) = false := decide_eq_false (by omega)
  by_cases hm : 1048576 < n'
  · have hm1 : (1048576 : Int) < (n' : Int) := by omega
    go_enter Tryd.func4, Tryd.ntmps4
    go_wp2
    go_ret
    exact ⟨rfl, Below.refl _ _⟩
  have hm1 : decide ((1048576 : Int) < (n' : Int)) = false := decide_eq_false (by omega)
  have P0 := Lib.hid hL
  clear hL
  go_enter Tryd.func4, Tryd.ntmps4
  go_wp2_with fail
  refine (drawColFmt_any A n c z w h).mono ?_
  rintro e w1 ⟨L, a, b, rfl, a1, a2, b1, b2, bl1⟩
  have B2 : Below w.heap.size w (w1.alloc (.cells #[.bool L, .int .i64 a, .int .i64 b] 24)) := bl1.alloc bl1.size _
  obtain ⟨k0, k1, k2⟩ := ColAt.box w1 L a b 24
  have zz : w1.heap.size < (w1.alloc (.cells #[.bool L, .int .i64 a, .int .i64 b] 24)).heap.size := by simp
  have P2 := Lib.hid (P0.out.step B2)
  clear bl1
  have fi := fun w hp => implFC_any L a b w hp
  have fs := fun w => specFC_any L a b w
  obtain ⟨s, hse⟩ : ∃ s : ByteArray, s = ⟨(fC L a b).toArray⟩ := ⟨_, rfl⟩
  have e1 : s.data.toList = fC L a b := by rw [hse]
  have hsz : s.size ≤ 8 := by rw [Lib.size_eq, e1]; exact fC_len
  simp only [strV, ← hse] at fi fs
  have FI := Lib.hid fi
  have FS := Lib.hid fs
  clear fi fs hse
  have hq : (s.toList != s.toList) = false := by simp
  have hcn := fun w => run_neq_col L a b w
  cases hcb : colB L a b
  · -- no column
    have cV := fun w => implCol_any L a b w
    have cW := fun w => specCol_b L a b w
    have pcc := fun w hp => implPC_any s (by omega) w hp
    rw [hcb] at cV cW
    rw [e1, (pc_of_no hcb).1, (pc_of_no hcb).2] at pcc
    have CV := Lib.hid cV
    have CW := Lib.hid cW
    have PC := Lib.hid pcc
    clear cV cW pcc hcb e1
    go_wp2_with fail
    refine (FI.out _ P2.out.1).mono ?_
    rintro e w3 ⟨rfl, b3⟩
    obtain ⟨g0, g1, g2⟩ := ColAt.below (g := w1.heap.size) ⟨k0, k1, k2⟩ b3 zz
    have B3 := B2.trans (b3.mono B2.size)
    have P3 := Lib.hid (P2.out.step b3)
    have z3 : w1.heap.size < w3.heap.size := Nat.lt_of_lt_of_le zz b3.size
    clear k0 k1 k2 zz b3 B2 P2
    go_wp2_with fail
    refine (PC.out _ P3.out).mono ?_
    rintro e w4 ⟨rfl, b4⟩
    have bx : Below w3.heap.size w3 (w4.alloc (.cells #[.bool false, .int .i64 0, .int .i64 0] 24)) := b4.alloc b4.size _
    obtain ⟨d0, d1, d2⟩ := ColAt.below (g := w1.heap.size) ⟨g0, g1, g2⟩ bx z3
    obtain ⟨m0, m1, m2⟩ := ColAt.box w4 false 0 0 24
    have zm : w4.heap.size < (w4.alloc (.cells #[.bool false, .int .i64 0, .int .i64 0] 24)).heap.size := by simp
    have z4 : w1.heap.size < (w4.alloc (.cells #[.bool false, .int .i64 0, .int .i64 0] 24)).heap.size := Nat.lt_of_lt_of_le z3 bx.size
    have B4 := B3.trans (bx.mono B3.size)
    clear g0 g1 g2 z3 b4 bx B3
    go_wp2_with fail
    refine (CV.out _).mono ?_
    rintro e w5 ⟨rfl, b5⟩
    obtain ⟨g0, g1, g2⟩ := ColAt.below (g := w1.heap.size) ⟨d0, d1, d2⟩ b5 z4
    obtain ⟨j0, j1, j2⟩ := ColAt.below (g := w4.heap.size) ⟨m0, m1, m2⟩ b5 zm
    have z5 := Nat.lt_of_lt_of_le z4 b5.size
    have zj := Nat.lt_of_lt_of_le zm b5.size
    have B5 := B4.trans (b5.mono B4.size)
    clear d0 d1 d2 m0 m1 m2 z4 zm b5 B4
    go_wp2_with fail
    refine (FS.out _).mono ?_
    rintro e w6 ⟨rfl, b6⟩
    obtain ⟨d0, d1, d2⟩ := ColAt.below (g := w1.heap.size) ⟨g0, g1, g2⟩ b6 z5
    obtain ⟨m0, m1, m2⟩ := ColAt.below (g := w4.heap.size) ⟨j0, j1, j2⟩ b6 zj
    have z6 := Nat.lt_of_lt_of_le z5 b6.size
    have zm := Nat.lt_of_lt_of_le zj b6.size
    have B6 := B5.trans (b6.mono B5.size)
    clear g0 g1 g2 j0 j1 j2 z5 zj b6 B5
    go_wp2_with fail
    refine (CW.out _).mono ?_
    rintro e w7 ⟨rfl, b7⟩
    obtain ⟨g0, g1, g2⟩ := ColAt.below (g := w1.heap.size) ⟨d0, d1, d2⟩ b7 z6
    obtain ⟨j0, j1, j2⟩ := ColAt.below (g := w4.heap.size) ⟨m0, m1, m2⟩ b7 zm
    have B7 := B6.trans (b7.mono B6.size)
    clear d0 d1 d2 m0 m1 m2 z6 zm b7 B6

    go_wp2_with fail
    refine (drawPC_any A' n' c' z' _ (h'.step B7)).mono ?_
    rintro e w8 ⟨t, rfl, htz, b8⟩
    have B8 := Lib.hid (B7.trans (b8.mono B7.size))
    have P8 := Lib.hid (P0.out.step B8.out)
    have hround := fun h => pc_round (l := t.data.toList) h
    have ipc := fun w hp => implPC_any t (by omega) w hp
    have spc := fun w => specPC_any t (by omega) w
    generalize hV : pcV t.data.toList = V at ipc spc hround
    generalize hO : pcB t.data.toList = ok at ipc spc hround
    obtain ⟨L2, x2, y2⟩ := V
    simp only at ipc spc hround
    have IPC := Lib.hid ipc
    have SPC := Lib.hid spc
    have HRD := Lib.hid hround
    clear hV hO ipc spc hround b8
    clear g0 g1 g2 j0 j1 j2
    go_wp2_with fail
    refine (IPC.out _ P8.out).mono ?_
    rintro e w9 ⟨rfl, b9⟩
    have B9 := B8.out.trans (b9.mono B8.out.size)
    have B10 := Lib.hid (B9.alloc B9.size (.cells #[.bool L2, .int .i64 x2, .int .i64 y2] 24))
    obtain ⟨q0, q1, q2⟩ := ColAt.box w9 L2 x2 y2 24
    have zq : w9.heap.size < (w9.alloc (.cells #[.bool L2, .int .i64 x2, .int .i64 y2] 24)).heap.size := by simp
    clear b9 B9
    go_wp2_with fail
    refine (SPC.out _).mono ?_
    rintro e w11 ⟨rfl, b11⟩
    obtain ⟨r0, r1, r2⟩ := ColAt.below (g := w9.heap.size) ⟨q0, q1, q2⟩ b11 zq
    have zr : w9.heap.size < w11.heap.size := Nat.lt_of_lt_of_le zq b11.size
    have B11 := B10.out.trans (b11.mono B10.out.size)
    have b12 : Below w11.heap.size w11 (w11.alloc (.cells #[.bool L2, .int .i64 x2, .int .i64 y2] 24)) := (Below.refl _ _).alloc (Nat.le_refl _) _
    have B12 := Lib.hid (B11.trans (b12.mono B11.size))
    obtain ⟨s0, s1, s2⟩ := ColAt.below (g := w9.heap.size) ⟨r0, r1, r2⟩ b12 zr
    obtain ⟨u0, u1, u2⟩ := ColAt.box w11 L2 x2 y2 24
    have P12 := Lib.hid (P0.out.step B12.out)
    have hcq := fun w => run_eql_col L2 x2 y2 w
    clear q0 q1 q2 zq b11 r0 r1 r2 b12 B11
    cases ok
    · go_wp2
      go_ret
      exact ⟨rfl, B12.out⟩
    · have hrd := HRD.out rfl
      have FCc := fun w hp => implFC_any L2 x2 y2 w hp
      rw [hrd] at FCc
      have FC := Lib.hid FCc
      have heq : (t.data.toList == t.toList) = true := by rw [Lib.toList_data]; simp
      clear FCc hrd
      go_wp2_with fail
      refine (FC.out _ P12.out.1).mono ?_
      rintro e w13 ⟨rfl, b13⟩
      go_wp2
      go_ret
      exact ⟨rfl, B12.out.trans (b13.mono B12.out.size)⟩
  · -- a column
    have cV := fun w => implCol_any L a b w
    have cW := fun w => specCol_b L a b w
    have pcc := fun w hp => implPC_any s (by omega) w hp
    rw [hcb] at cV cW
    rw [e1, (pc_of_yes hcb).1, (pc_of_yes hcb).2] at pcc
    have CV := Lib.hid cV
    have CW := Lib.hid cW
    have PC := Lib.hid pcc
    clear cV cW pcc hcb e1
    go_wp2_with fail
    refine (FI.out _ P2.out.1).mono ?_
    rintro e w3 ⟨rfl, b3⟩
    obtain ⟨g0, g1, g2⟩ := ColAt.below (g := w1.heap.size) ⟨k0, k1, k2⟩ b3 zz
    have B3 := B2.trans (b3.mono B2.size)
    have P3 := Lib.hid (P2.out.step b3)
    have z3 : w1.heap.size < w3.heap.size := Nat.lt_of_lt_of_le zz b3.size
    clear k0 k1 k2 zz b3 B2 P2
    go_wp2_with fail
    refine (PC.out _ P3.out).mono ?_
    rintro e w4 ⟨rfl, b4⟩
    have bx : Below w3.heap.size w3 (w4.alloc (.cells #[.bool L, .int .i64 a, .int .i64 b] 24)) := b4.alloc b4.size _
    obtain ⟨d0, d1, d2⟩ := ColAt.below (g := w1.heap.size) ⟨g0, g1, g2⟩ bx z3
    obtain ⟨m0, m1, m2⟩ := ColAt.box w4 L a b 24
    have zm : w4.heap.size < (w4.alloc (.cells #[.bool L, .int .i64 a, .int .i64 b] 24)).heap.size := by simp
    have z4 : w1.heap.size < (w4.alloc (.cells #[.bool L, .int .i64 a, .int .i64 b] 24)).heap.size := Nat.lt_of_lt_of_le z3 bx.size
    have B4 := B3.trans (bx.mono B3.size)
    clear g0 g1 g2 z3 b4 bx B3
    go_wp2_with fail
    refine (CV.out _).mono ?_
    rintro e w5 ⟨rfl, b5⟩
    obtain ⟨g0, g1, g2⟩ := ColAt.below (g := w1.heap.size) ⟨d0, d1, d2⟩ b5 z4
    obtain ⟨j0, j1, j2⟩ := ColAt.below (g := w4.heap.size) ⟨m0, m1, m2⟩ b5 zm
    have z5 := Nat.lt_of_lt_of_le z4 b5.size
    have zj := Nat.lt_of_lt_of_le zm b5.size
    have B5 := B4.trans (b5.mono B4.size)
    clear d0 d1 d2 m0 m1 m2 z4 zm b5 B4
    go_wp2_with fail
    refine (FS.out _).mono ?_
    rintro e w6 ⟨rfl, b6⟩
    obtain ⟨d0, d1, d2⟩ := ColAt.below (g := w1.heap.size) ⟨g0, g1, g2⟩ b6 z5
    obtain ⟨m0, m1, m2⟩ := ColAt.below (g := w4.heap.size) ⟨j0, j1, j2⟩ b6 zj
    have z6 := Nat.lt_of_lt_of_le z5 b6.size
    have zm := Nat.lt_of_lt_of_le zj b6.size
    have B6 := B5.trans (b6.mono B5.size)
    clear g0 g1 g2 j0 j1 j2 z5 zj b6 B5
    go_wp2_with fail
    refine (CW.out _).mono ?_
    rintro e w7 ⟨rfl, b7⟩
    obtain ⟨g0, g1, g2⟩ := ColAt.below (g := w1.heap.size) ⟨d0, d1, d2⟩ b7 z6
    obtain ⟨j0, j1, j2⟩ := ColAt.below (g := w4.heap.size) ⟨m0, m1, m2⟩ b7 zm
    have B7 := B6.trans (b7.mono B6.size)
    clear d0 d1 d2 m0 m1 m2 z6 zm b7 B6

    go_wp2_with fail
    refine (drawPC_any A' n' c' z' _ (h'.step B7)).mono ?_
    rintro e w8 ⟨t, rfl, htz, b8⟩
    have B8 := Lib.hid (B7.trans (b8.mono B7.size))
    have P8 := Lib.hid (P0.out.step B8.out)
    have hround := fun h => pc_round (l := t.data.toList) h
    have ipc := fun w hp => implPC_any t (by omega) w hp
    have spc := fun w => specPC_any t (by omega) w
    generalize hV : pcV t.data.toList = V at ipc spc hround
    generalize hO : pcB t.data.toList = ok at ipc spc hround
    obtain ⟨L2, x2, y2⟩ := V
    simp only at ipc spc hround
    have IPC := Lib.hid ipc
    have SPC := Lib.hid spc
    have HRD := Lib.hid hround
    clear hV hO ipc spc hround b8
    clear g0 g1 g2 j0 j1 j2
    go_wp2_with fail
    refine (IPC.out _ P8.out).mono ?_
    rintro e w9 ⟨rfl, b9⟩
    have B9 := B8.out.trans (b9.mono B8.out.size)
    have B10 := Lib.hid (B9.alloc B9.size (.cells #[.bool L2, .int .i64 x2, .int .i64 y2] 24))
    obtain ⟨q0, q1, q2⟩ := ColAt.box w9 L2 x2 y2 24
    have zq : w9.heap.size < (w9.alloc (.cells #[.bool L2, .int .i64 x2, .int .i64 y2] 24)).heap.size := by simp
    clear b9 B9
    go_wp2_with fail
    refine (SPC.out _).mono ?_
    rintro e w11 ⟨rfl, b11⟩
    obtain ⟨r0, r1, r2⟩ := ColAt.below (g := w9.heap.size) ⟨q0, q1, q2⟩ b11 zq
    have zr : w9.heap.size < w11.heap.size := Nat.lt_of_lt_of_le zq b11.size
    have B11 := B10.out.trans (b11.mono B10.out.size)
    have b12 : Below w11.heap.size w11 (w11.alloc (.cells #[.bool L2, .int .i64 x2, .int .i64 y2] 24)) := (Below.refl _ _).alloc (Nat.le_refl _) _
    have B12 := Lib.hid (B11.trans (b12.mono B11.size))
    obtain ⟨s0, s1, s2⟩ := ColAt.below (g := w9.heap.size) ⟨r0, r1, r2⟩ b12 zr
    obtain ⟨u0, u1, u2⟩ := ColAt.box w11 L2 x2 y2 24
    have P12 := Lib.hid (P0.out.step B12.out)
    have hcq := fun w => run_eql_col L2 x2 y2 w
    clear q0 q1 q2 zq b11 r0 r1 r2 b12 B11
    cases ok
    · go_wp2
      go_ret
      exact ⟨rfl, B12.out⟩
    · have hrd := HRD.out rfl
      have FCc := fun w hp => implFC_any L2 x2 y2 w hp
      rw [hrd] at FCc
      have FC := Lib.hid FCc
      have heq : (t.data.toList == t.toList) = true := by rw [Lib.toList_data]; simp
      clear FCc hrd
      go_wp2_with fail
      refine (FC.out _ P12.out.1).mono ?_
      rintro e w13 ⟨rfl, b13⟩
      go_wp2
      go_ret
      exact ⟨rfl, B12.out.trans (b13.mono B12.out.size)⟩
end Go.Proofs.YtajjmdnbmicefaaDoor
