/-
  The walk of FnExactResultSame: whatever the arguments, the law holds.
-/
import Derived.Test.YtppciomdbabepaaVr
import Derived.Deep.RegionHeld3
namespace Go.Proofs.Ytppciomdbabepaa
open Go.RowKit Sets

set_option maxRecDepth 100000 in
set_option maxHeartbeats 4000000 in
theorem exactResultSame_walk (v0 : Value) (t0 : Rs) (v1 : Value) (t1 : Rs) (w : World) (h0 : ResAt w w.heap.size v0 t0) (h1 : ResAt w w.heap.size v1 t1) :
    Calls Try.prog 9 #[v0, v1] w fun e w' => e = .returned (.bool true) ∧ Below w.heap.size w w' := by
  have HT0 := Lib.hid h0
  obtain ⟨E0, f0, rfl, hC0⟩ := h0
  clear hC0
  obtain ⟨pl0, xs0⟩ := t0
  have HT1 := Lib.hid h1
  obtain ⟨E1, f1, rfl, hC1⟩ := h1
  clear hC1
  obtain ⟨pl1, xs1⟩ := t1
  simp only [] at HT0 HT1 ⊢
  have B := Lib.hid (Below.refl w.heap.size w)
  have bx0 : Below w.heap.size w (w.alloc (.cells #[.int .i64 pl0, .slice E0 xs0.length f0] 48)) := (Below.refl _ _).alloc (Nat.le_refl _) _
  have X0 : Hid (RBox (w.alloc (.cells #[.int .i64 pl0, .slice E0 xs0.length f0] 48)) (w.heap.size) pl0 E0 xs0.length f0) := Lib.hid (RBox.made _ _ _ _ _ _)
  replace HT0 := Lib.hid (HT0.out.step bx0)
  replace HT1 := Lib.hid (HT1.out.step bx0)
  replace B := Lib.hid (B.out.trans (bx0.mono B.out.size))
  clear bx0
  have bx1 : Below (w.alloc (.cells #[.int .i64 pl0, .slice E0 xs0.length f0] 48)).heap.size (w.alloc (.cells #[.int .i64 pl0, .slice E0 xs0.length f0] 48)) ((w.alloc (.cells #[.int .i64 pl0, .slice E0 xs0.length f0] 48)).alloc (.cells #[.int .i64 pl1, .slice E1 xs1.length f1] 48)) := (Below.refl _ _).alloc (Nat.le_refl _) _
  have X1 : Hid (RBox ((w.alloc (.cells #[.int .i64 pl0, .slice E0 xs0.length f0] 48)).alloc (.cells #[.int .i64 pl1, .slice E1 xs1.length f1] 48)) ((w.alloc (.cells #[.int .i64 pl0, .slice E0 xs0.length f0] 48)).heap.size) pl1 E1 xs1.length f1) := Lib.hid (RBox.made _ _ _ _ _ _)
  rw [show (w.alloc (.cells #[.int .i64 pl0, .slice E0 xs0.length f0] 48)).heap.size = w.heap.size + 1 by simp] at X1
  replace HT0 := Lib.hid (HT0.out.step bx1)
  replace HT1 := Lib.hid (HT1.out.step bx1)
  replace X0 := Lib.hid (X0.out.step bx1)
  replace B := Lib.hid (B.out.trans (bx1.mono B.out.size))
  clear bx1
  obtain ⟨p00, p01, p02⟩ := X0.out
  clear p02
  obtain ⟨p10, p11, p12⟩ := X1.out
  clear p12
  go_enter Try.func9, Try.ntmps9
  go_wp2_with fail
  clear p00 p01
  clear p10 p11
  generalize ((w.alloc (.cells #[.int .i64 pl0, .slice E0 xs0.length f0] 48)).alloc (.cells #[.int .i64 pl1, .slice E1 xs1.length f1] 48)) = w1 at HT0 HT1 X0 X1 B ⊢
  refine (szResult_any _ (pl0, xs0) 1048576 w1 HT0.out (by omega) (by omega)).mono ?_
  rintro e w2 ⟨r0, rfl, ra0, rb0, rc0, b⟩
  replace HT0 := Lib.hid (HT0.out.step b)
  replace HT1 := Lib.hid (HT1.out.step b)
  replace X0 := Lib.hid (X0.out.step b)
  replace X1 := Lib.hid (X1.out.step b)
  replace B := Lib.hid (B.out.trans (b.mono B.out.size))
  clear b
  by_cases hr0 : r0 < 0
  · clear ra0 rb0 rc0
    obtain ⟨p00, p01, p02⟩ := X0.out
    clear p02
    obtain ⟨p10, p11, p12⟩ := X1.out
    clear p12
    go_wp2
    go_ret
    exact ⟨rfl, B.out⟩
  have hr0' : 0 ≤ r0 := by omega
  have HS0 := Lib.hid (rc0 hr0')
  clear rc0 hr0
  obtain ⟨p00, p01, p02⟩ := X0.out
  clear p02
  obtain ⟨p10, p11, p12⟩ := X1.out
  clear p12
  go_wp2_with fail
  clear p00 p01
  clear p10 p11
  refine (szResult_any _ (pl1, xs1) r0 w2 HT1.out (by omega) (by omega)).mono ?_
  rintro e w3 ⟨r1, rfl, ra1, rb1, rc1, b⟩
  replace HT0 := Lib.hid (HT0.out.step b)
  replace HT1 := Lib.hid (HT1.out.step b)
  replace X0 := Lib.hid (X0.out.step b)
  replace X1 := Lib.hid (X1.out.step b)
  replace B := Lib.hid (B.out.trans (b.mono B.out.size))
  clear b
  by_cases hr1 : r1 < 0
  · clear ra1 rb1 rc1
    obtain ⟨p00, p01, p02⟩ := X0.out
    clear p02
    obtain ⟨p10, p11, p12⟩ := X1.out
    clear p12
    go_wp2
    go_ret
    exact ⟨rfl, B.out⟩
  have hr1' : 0 ≤ r1 := by omega
  have HS1 := Lib.hid (rc1 hr1')
  clear rc1 hr1
  have bd : Below w3.heap.size w3 w3.drew := (Below.refl _ _).drew
  replace HT0 := Lib.hid (HT0.out.step bd)
  replace HT1 := Lib.hid (HT1.out.step bd)
  replace X0 := Lib.hid (X0.out.step bd)
  replace X1 := Lib.hid (X1.out.step bd)
  replace B := Lib.hid (B.out.trans (bd.mono B.out.size))
  clear bd
  obtain ⟨y00, y01, y02⟩ := X0.out
  have HZ0 := Lib.hid y02
  clear y02
  obtain ⟨y10, y11, y12⟩ := X1.out
  have HZ1 := Lib.hid y12
  clear y12
  go_upto_region 8 with fail
  go_region_held3 (fun w' => (w'.cell? ⟨w.heap.size, 0, none⟩ = some (.int .i64 pl0) ∧ w'.cell? ⟨w.heap.size, 1, none⟩ = some (.slice E0 xs0.length f0)) ∧ (w'.cell? ⟨w.heap.size + 1, 0, none⟩ = some (.int .i64 pl1) ∧ w'.cell? ⟨w.heap.size + 1, 1, none⟩ = some (.slice E1 xs1.length f1))) (first | exact ⟨⟨y00, y01⟩, ⟨y10, y11⟩⟩ | exact ⟨⟨(Below.cell b8 (p := ⟨w.heap.size, 0, none⟩) HZ0.out).trans y00, (Below.cell b8 (p := ⟨w.heap.size, 1, none⟩) HZ0.out).trans y01⟩, ⟨(Below.cell b8 (p := ⟨w.heap.size + 1, 0, none⟩) HZ1.out).trans y10, (Below.cell b8 (p := ⟨w.heap.size + 1, 1, none⟩) HZ1.out).trans y11⟩⟩) (first
    | (go_at_call 33; with_reducible refine (toResult_any (.agg #[.int .i64 pl0, .slice E0 xs0.length f0]) (pl0, xs0) _ HT0.out HS0.out).mono ?_; rintro e w70 ⟨v70, rfl, h70, b70⟩; have HY0 := Lib.hid h70; have HT0 := Lib.hid (HT0.out.step b70); have HT1 := Lib.hid (HT1.out.step b70); have X0 := Lib.hid (X0.out.step b70); have X1 := Lib.hid (X1.out.step b70); have B := Lib.hid (B.out.trans (b70.mono B.out.size)); have y00 : w70.cell? ⟨w.heap.size, 0, none⟩ = some (.int .i64 pl0) := (b70.cell (p := ⟨w.heap.size, 0, none⟩) HZ0.out).trans y00; have y01 : w70.cell? ⟨w.heap.size, 1, none⟩ = some (.slice E0 xs0.length f0) := (b70.cell (p := ⟨w.heap.size, 1, none⟩) HZ0.out).trans y01; have y10 : w70.cell? ⟨w.heap.size + 1, 0, none⟩ = some (.int .i64 pl1) := (b70.cell (p := ⟨w.heap.size + 1, 0, none⟩) HZ1.out).trans y10; have y11 : w70.cell? ⟨w.heap.size + 1, 1, none⟩ = some (.slice E1 xs1.length f1) := (b70.cell (p := ⟨w.heap.size + 1, 1, none⟩) HZ1.out).trans y11; have HZ0 := Lib.hid (Nat.lt_of_lt_of_le HZ0.out b70.size); have HZ1 := Lib.hid (Nat.lt_of_lt_of_le HZ1.out b70.size); clear h70 b70)
    | (go_at_call 33; with_reducible refine (toResult_any (.agg #[.int .i64 pl1, .slice E1 xs1.length f1]) (pl1, xs1) _ HT1.out HS1.out).mono ?_; rintro e w71 ⟨v71, rfl, h71, b71⟩; have HY1 := Lib.hid h71; have HT0 := Lib.hid (HT0.out.step b71); have HT1 := Lib.hid (HT1.out.step b71); have X0 := Lib.hid (X0.out.step b71); have X1 := Lib.hid (X1.out.step b71); have HY0 := Lib.hid (HY0.out.step b71); have B := Lib.hid (B.out.trans (b71.mono B.out.size)); have y00 : w71.cell? ⟨w.heap.size, 0, none⟩ = some (.int .i64 pl0) := (b71.cell (p := ⟨w.heap.size, 0, none⟩) HZ0.out).trans y00; have y01 : w71.cell? ⟨w.heap.size, 1, none⟩ = some (.slice E0 xs0.length f0) := (b71.cell (p := ⟨w.heap.size, 1, none⟩) HZ0.out).trans y01; have y10 : w71.cell? ⟨w.heap.size + 1, 0, none⟩ = some (.int .i64 pl1) := (b71.cell (p := ⟨w.heap.size + 1, 0, none⟩) HZ1.out).trans y10; have y11 : w71.cell? ⟨w.heap.size + 1, 1, none⟩ = some (.slice E1 xs1.length f1) := (b71.cell (p := ⟨w.heap.size + 1, 1, none⟩) HZ1.out).trans y11; have HZ0 := Lib.hid (Nat.lt_of_lt_of_le HZ0.out b71.size); have HZ1 := Lib.hid (Nat.lt_of_lt_of_le HZ1.out b71.size); clear h71 b71)
    | (go_at_call 32; with_reducible refine (specRS_any _ (pl0, xs0) _ (pl1, xs1) _ HY0.out HY1.out).mono ?_; rintro e w80 ⟨rfl, b8⟩; have B8 := Lib.hid b8))
  clear y00 y01 HZ0 HY0 y10 y11 HZ1 HY1
  replace HT0 := Lib.hid (HT0.out.step B8.out)
  replace HT1 := Lib.hid (HT1.out.step B8.out)
  replace X0 := Lib.hid (X0.out.step B8.out)
  replace X1 := Lib.hid (X1.out.step B8.out)
  replace B := Lib.hid (B.out.trans (B8.out.mono B.out.size))
  clear B8
  obtain ⟨tv, htv⟩ : ∃ tv, resB (pl0, xs0) (pl1, xs1) = tv := ⟨_, rfl⟩
  have HTV := Lib.hid htv
  rw [htv]
  clear htv
  obtain ⟨p00, p01, p02⟩ := X0.out
  clear p02
  obtain ⟨p10, p11, p12⟩ := X1.out
  clear p12
  go_wp2_with fail
  clear p00 p01
  clear p10 p11
  refine (toResult_any _ (pl0, xs0) w80 HT0.out HS0.out).mono ?_
  rintro e w4 ⟨y0, rfl, hy0, b⟩
  replace HT0 := Lib.hid (HT0.out.step b)
  replace HT1 := Lib.hid (HT1.out.step b)
  replace X0 := Lib.hid (X0.out.step b)
  replace X1 := Lib.hid (X1.out.step b)
  replace B := Lib.hid (B.out.trans (b.mono B.out.size))
  clear b
  obtain ⟨Q0, q0, rfl, k1⟩ := hy0
  simp only [] at k1 ⊢
  have bx : Below w4.heap.size w4 (w4.alloc (.cells #[.int .i64 pl0, .slice Q0 xs0.length q0] 51)) := (Below.refl _ _).alloc (Nat.le_refl _) _
  replace HT0 := Lib.hid (HT0.out.step bx)
  replace HT1 := Lib.hid (HT1.out.step bx)
  replace X0 := Lib.hid (X0.out.step bx)
  replace X1 := Lib.hid (X1.out.step bx)
  replace B := Lib.hid (B.out.trans (bx.mono B.out.size))
  have XB0 : Hid (RBox (w4.alloc (.cells #[.int .i64 pl0, .slice Q0 xs0.length q0] 51)) w4.heap.size pl0 Q0 xs0.length q0) := Lib.hid (RBox.made _ _ _ _ _ _)
  have HX0 : Hid (ResAt (w4.alloc (.cells #[.int .i64 pl0, .slice Q0 xs0.length q0] 51)) (w4.alloc (.cells #[.int .i64 pl0, .slice Q0 xs0.length q0] 51)).heap.size (.agg #[.int .i64 pl0, .slice Q0 xs0.length q0]) (pl0, xs0)) := Lib.hid (ResAt.step ⟨_, _, rfl, k1⟩ bx)
  clear bx k1
  obtain ⟨p00, p01, p02⟩ := X0.out
  clear p02
  obtain ⟨p10, p11, p12⟩ := X1.out
  clear p12
  obtain ⟨p20, p21, p22⟩ := XB0.out
  clear p22
  go_wp2_with fail
  clear p00 p01
  clear p10 p11
  clear p20 p21
  generalize (w4.alloc (.cells #[.int .i64 pl0, .slice Q0 xs0.length q0] 51)) = w5 at HT0 HT1 X0 X1 XB0 HX0 B ⊢
  refine (toResult_any _ (pl1, xs1) w5 HT1.out HS1.out).mono ?_
  rintro e w6 ⟨y1, rfl, hy1, b⟩
  replace HT0 := Lib.hid (HT0.out.step b)
  replace HT1 := Lib.hid (HT1.out.step b)
  replace X0 := Lib.hid (X0.out.step b)
  replace X1 := Lib.hid (X1.out.step b)
  replace XB0 := Lib.hid (XB0.out.step b)
  replace HX0 := Lib.hid (HX0.out.step b)
  replace B := Lib.hid (B.out.trans (b.mono B.out.size))
  clear b
  obtain ⟨Q1, q1, rfl, k1⟩ := hy1
  simp only [] at k1 ⊢
  have bx : Below w6.heap.size w6 (w6.alloc (.cells #[.int .i64 pl1, .slice Q1 xs1.length q1] 51)) := (Below.refl _ _).alloc (Nat.le_refl _) _
  replace HT0 := Lib.hid (HT0.out.step bx)
  replace HT1 := Lib.hid (HT1.out.step bx)
  replace X0 := Lib.hid (X0.out.step bx)
  replace X1 := Lib.hid (X1.out.step bx)
  replace XB0 := Lib.hid (XB0.out.step bx)
  replace HX0 := Lib.hid (HX0.out.step bx)
  replace B := Lib.hid (B.out.trans (bx.mono B.out.size))
  have XB1 : Hid (RBox (w6.alloc (.cells #[.int .i64 pl1, .slice Q1 xs1.length q1] 51)) w6.heap.size pl1 Q1 xs1.length q1) := Lib.hid (RBox.made _ _ _ _ _ _)
  have HX1 : Hid (ResAt (w6.alloc (.cells #[.int .i64 pl1, .slice Q1 xs1.length q1] 51)) (w6.alloc (.cells #[.int .i64 pl1, .slice Q1 xs1.length q1] 51)).heap.size (.agg #[.int .i64 pl1, .slice Q1 xs1.length q1]) (pl1, xs1)) := Lib.hid (ResAt.step ⟨_, _, rfl, k1⟩ bx)
  clear bx k1
  obtain ⟨p00, p01, p02⟩ := X0.out
  clear p02
  obtain ⟨p10, p11, p12⟩ := X1.out
  clear p12
  obtain ⟨p20, p21, p22⟩ := XB0.out
  clear p22
  obtain ⟨p30, p31, p32⟩ := XB1.out
  clear p32
  go_wp2_with fail
  clear p00 p01
  clear p10 p11
  clear p20 p21
  clear p30 p31
  generalize (w6.alloc (.cells #[.int .i64 pl1, .slice Q1 xs1.length q1] 51)) = w7 at HT0 HT1 X0 X1 XB0 HX0 XB1 HX1 B ⊢
  have htt : (tv != tv) = false := by simp
  refine (implRS_any _ (pl0, xs0) _ (pl1, xs1) w7 HX0.out HX1.out).mono ?_
  rw [HTV.out]
  rintro e w8 ⟨rfl, b⟩
  replace HT0 := Lib.hid (HT0.out.step b)
  replace HT1 := Lib.hid (HT1.out.step b)
  replace X0 := Lib.hid (X0.out.step b)
  replace X1 := Lib.hid (X1.out.step b)
  replace XB0 := Lib.hid (XB0.out.step b)
  replace HX0 := Lib.hid (HX0.out.step b)
  replace XB1 := Lib.hid (XB1.out.step b)
  replace HX1 := Lib.hid (HX1.out.step b)
  replace B := Lib.hid (B.out.trans (b.mono B.out.size))
  clear b
  have bd : Below w8.heap.size w8 w8.drew := (Below.refl _ _).drew
  replace HT0 := Lib.hid (HT0.out.step bd)
  replace HT1 := Lib.hid (HT1.out.step bd)
  replace X0 := Lib.hid (X0.out.step bd)
  replace X1 := Lib.hid (X1.out.step bd)
  replace XB0 := Lib.hid (XB0.out.step bd)
  replace HX0 := Lib.hid (HX0.out.step bd)
  replace XB1 := Lib.hid (XB1.out.step bd)
  replace HX1 := Lib.hid (HX1.out.step bd)
  replace B := Lib.hid (B.out.trans (bd.mono B.out.size))
  clear bd
  obtain ⟨y0, y1, y2⟩ := X0.out
  obtain ⟨x0, x1, x2⟩ := XB0.out
  have HZY := Lib.hid y2
  have HZX := Lib.hid x2
  clear y2 x2
  go_upto_region 14 with fail
  go_region_held3 (fun w' => (w'.cell? ⟨w4.heap.size, 0, none⟩ = some (.int .i64 pl0) ∧ w'.cell? ⟨w4.heap.size, 1, none⟩ = some (.slice Q0 xs0.length q0)) ∧ w'.cell? ⟨w.heap.size, 0, none⟩ = some (.int .i64 pl0) ∧ w'.cell? ⟨w.heap.size, 1, none⟩ = some (.slice E0 xs0.length f0)) (first | exact ⟨⟨x0, x1⟩, y0, y1⟩ | exact ⟨⟨(Below.cell b8 (p := ⟨w4.heap.size, 0, none⟩) HZX7.out).trans x0, (Below.cell b8 (p := ⟨w4.heap.size, 1, none⟩) HZX7.out).trans x1⟩, (Below.cell b8 (p := ⟨w.heap.size, 0, none⟩) HZY7.out).trans y0, (Below.cell b8 (p := ⟨w.heap.size, 1, none⟩) HZY7.out).trans y1⟩) (first
    | (go_at_call 33; refine (toResult_any _ (pl0, xs0) _ HT0.out HS0.out).mono ?_; rintro e w70 ⟨v7, rfl, h7, b7⟩; have H7 := Lib.hid h7; have HT0 := Lib.hid (HT0.out.step b7); have HT1 := Lib.hid (HT1.out.step b7); have X0 := Lib.hid (X0.out.step b7); have X1 := Lib.hid (X1.out.step b7); have XB0 := Lib.hid (XB0.out.step b7); have HX0 := Lib.hid (HX0.out.step b7); have XB1 := Lib.hid (XB1.out.step b7); have HX1 := Lib.hid (HX1.out.step b7); have B := Lib.hid (B.out.trans (b7.mono B.out.size)); have x0 : w70.cell? ⟨w4.heap.size, 0, none⟩ = some (.int .i64 pl0) := (b7.cell (p := ⟨w4.heap.size, 0, none⟩) HZX.out).trans x0; have x1 : w70.cell? ⟨w4.heap.size, 1, none⟩ = some (.slice Q0 xs0.length q0) := (b7.cell (p := ⟨w4.heap.size, 1, none⟩) HZX.out).trans x1; have y0 : w70.cell? ⟨w.heap.size, 0, none⟩ = some (.int .i64 pl0) := (b7.cell (p := ⟨w.heap.size, 0, none⟩) HZY.out).trans y0; have y1 : w70.cell? ⟨w.heap.size, 1, none⟩ = some (.slice E0 xs0.length f0) := (b7.cell (p := ⟨w.heap.size, 1, none⟩) HZY.out).trans y1; have HZX7 := Lib.hid (Nat.lt_of_lt_of_le HZX.out b7.size); have HZY7 := Lib.hid (Nat.lt_of_lt_of_le HZY.out b7.size); clear h7 b7)
    | (go_at_call 35; refine (eqResult_same _ _ (pl0, xs0) _ HX0.out H7.out).mono ?_; rintro e w80 ⟨rfl, b8⟩; have B8 := Lib.hid b8))
  clear x0 y0 x1 y1 HZX HZY HZX7 HZY7 H7
  replace HT0 := Lib.hid (HT0.out.step B8.out)
  replace HT1 := Lib.hid (HT1.out.step B8.out)
  replace X0 := Lib.hid (X0.out.step B8.out)
  replace X1 := Lib.hid (X1.out.step B8.out)
  replace XB0 := Lib.hid (XB0.out.step B8.out)
  replace HX0 := Lib.hid (HX0.out.step B8.out)
  replace XB1 := Lib.hid (XB1.out.step B8.out)
  replace HX1 := Lib.hid (HX1.out.step B8.out)
  replace B := Lib.hid (B.out.trans (B8.out.mono B.out.size))
  clear B8
  have bd : Below w80.heap.size w80 w80.drew := (Below.refl _ _).drew
  replace HT0 := Lib.hid (HT0.out.step bd)
  replace HT1 := Lib.hid (HT1.out.step bd)
  replace X0 := Lib.hid (X0.out.step bd)
  replace X1 := Lib.hid (X1.out.step bd)
  replace XB0 := Lib.hid (XB0.out.step bd)
  replace HX0 := Lib.hid (HX0.out.step bd)
  replace XB1 := Lib.hid (XB1.out.step bd)
  replace HX1 := Lib.hid (HX1.out.step bd)
  replace B := Lib.hid (B.out.trans (bd.mono B.out.size))
  clear bd
  obtain ⟨y0, y1, y2⟩ := X1.out
  obtain ⟨x0, x1, x2⟩ := XB1.out
  have HZY := Lib.hid y2
  have HZX := Lib.hid x2
  clear y2 x2
  go_upto_region 16 with fail
  go_region_held3 (fun w' => (w'.cell? ⟨w6.heap.size, 0, none⟩ = some (.int .i64 pl1) ∧ w'.cell? ⟨w6.heap.size, 1, none⟩ = some (.slice Q1 xs1.length q1)) ∧ w'.cell? ⟨w.heap.size + 1, 0, none⟩ = some (.int .i64 pl1) ∧ w'.cell? ⟨w.heap.size + 1, 1, none⟩ = some (.slice E1 xs1.length f1)) (first | exact ⟨⟨x0, x1⟩, y0, y1⟩ | exact ⟨⟨(Below.cell b8 (p := ⟨w6.heap.size, 0, none⟩) HZX7.out).trans x0, (Below.cell b8 (p := ⟨w6.heap.size, 1, none⟩) HZX7.out).trans x1⟩, (Below.cell b8 (p := ⟨w.heap.size + 1, 0, none⟩) HZY7.out).trans y0, (Below.cell b8 (p := ⟨w.heap.size + 1, 1, none⟩) HZY7.out).trans y1⟩) (first
    | (go_at_call 33; refine (toResult_any _ (pl1, xs1) _ HT1.out HS1.out).mono ?_; rintro e w70 ⟨v7, rfl, h7, b7⟩; have H7 := Lib.hid h7; have HT0 := Lib.hid (HT0.out.step b7); have HT1 := Lib.hid (HT1.out.step b7); have X0 := Lib.hid (X0.out.step b7); have X1 := Lib.hid (X1.out.step b7); have XB0 := Lib.hid (XB0.out.step b7); have HX0 := Lib.hid (HX0.out.step b7); have XB1 := Lib.hid (XB1.out.step b7); have HX1 := Lib.hid (HX1.out.step b7); have B := Lib.hid (B.out.trans (b7.mono B.out.size)); have x0 : w70.cell? ⟨w6.heap.size, 0, none⟩ = some (.int .i64 pl1) := (b7.cell (p := ⟨w6.heap.size, 0, none⟩) HZX.out).trans x0; have x1 : w70.cell? ⟨w6.heap.size, 1, none⟩ = some (.slice Q1 xs1.length q1) := (b7.cell (p := ⟨w6.heap.size, 1, none⟩) HZX.out).trans x1; have y0 : w70.cell? ⟨w.heap.size + 1, 0, none⟩ = some (.int .i64 pl1) := (b7.cell (p := ⟨w.heap.size + 1, 0, none⟩) HZY.out).trans y0; have y1 : w70.cell? ⟨w.heap.size + 1, 1, none⟩ = some (.slice E1 xs1.length f1) := (b7.cell (p := ⟨w.heap.size + 1, 1, none⟩) HZY.out).trans y1; have HZX7 := Lib.hid (Nat.lt_of_lt_of_le HZX.out b7.size); have HZY7 := Lib.hid (Nat.lt_of_lt_of_le HZY.out b7.size); clear h7 b7)
    | (go_at_call 35; refine (eqResult_same _ _ (pl1, xs1) _ HX1.out H7.out).mono ?_; rintro e w80 ⟨rfl, b8⟩; have B8 := Lib.hid b8))
  clear x0 y0 x1 y1 HZX HZY HZX7 HZY7 H7
  replace HT0 := Lib.hid (HT0.out.step B8.out)
  replace HT1 := Lib.hid (HT1.out.step B8.out)
  replace X0 := Lib.hid (X0.out.step B8.out)
  replace X1 := Lib.hid (X1.out.step B8.out)
  replace XB0 := Lib.hid (XB0.out.step B8.out)
  replace HX0 := Lib.hid (HX0.out.step B8.out)
  replace XB1 := Lib.hid (XB1.out.step B8.out)
  replace HX1 := Lib.hid (HX1.out.step B8.out)
  replace B := Lib.hid (B.out.trans (B8.out.mono B.out.size))
  clear B8
  obtain ⟨p00, p01, p02⟩ := X0.out
  clear p02
  obtain ⟨p10, p11, p12⟩ := X1.out
  clear p12
  obtain ⟨p20, p21, p22⟩ := XB0.out
  clear p22
  obtain ⟨p30, p31, p32⟩ := XB1.out
  clear p32
  go_wp2
  go_ret
  exact ⟨rfl, B.out⟩
end Go.Proofs.Ytppciomdbabepaa
