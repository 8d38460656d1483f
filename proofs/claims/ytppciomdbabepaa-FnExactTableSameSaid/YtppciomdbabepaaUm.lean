/-
  The walk of FnExactTableValid: whatever the table, the law holds.
-/
import Derived.Test.YtppciomdbabepaaUkM
import Derived.Deep.RegionHeld3
namespace Go.Proofs.Ytppciomdbabepaa
open Go.RowKit Sets

set_option maxRecDepth 100000 in
set_option maxHeartbeats 2000000 in
theorem exactTableValid_walk (v : Value) (t : Tb) (w : World) (h : TabAt w w.heap.size v t) :
    Calls Try.prog 3 #[v] w fun e w' => e = .returned (.bool true) ∧ Below w.heap.size w w' := by
  have H := Lib.hid h
  obtain ⟨A1, c1, A2, c2, rfl, hC, hR⟩ := h
  clear hC hR
  obtain ⟨cs, x, rs⟩ := t
  simp only [] at H ⊢
  have hb0 : Below w.heap.size w (w.alloc (.cells #[.slice A1 cs.length c1, .int .i64 x, .slice A2 rs.length c2] 25)) := (Below.refl _ _).alloc (Nat.le_refl _) _
  have p0 : (w.alloc (.cells #[.slice A1 cs.length c1, .int .i64 x, .slice A2 rs.length c2] 25)).cell? ⟨w.heap.size, 0, none⟩ = some (.slice A1 cs.length c1) := by rw [World.cell?_alloc_new]; rfl
  have p1 : (w.alloc (.cells #[.slice A1 cs.length c1, .int .i64 x, .slice A2 rs.length c2] 25)).cell? ⟨w.heap.size, 1, none⟩ = some (.int .i64 x) := by rw [World.cell?_alloc_new]; rfl
  have p2 : (w.alloc (.cells #[.slice A1 cs.length c1, .int .i64 x, .slice A2 rs.length c2] 25)).cell? ⟨w.heap.size, 2, none⟩ = some (.slice A2 rs.length c2) := by rw [World.cell?_alloc_new]; rfl
  have hz0 : w.heap.size < (w.alloc (.cells #[.slice A1 cs.length c1, .int .i64 x, .slice A2 rs.length c2] 25)).heap.size := by simp
  go_enter Try.func3, Try.ntmps3
  go_wp2_with fail
  generalize w.alloc (.cells #[.slice A1 cs.length c1, .int .i64 x, .slice A2 rs.length c2] 25) = W at hb0 p0 p1 p2 hz0 ⊢
  refine (szTable_any _ ⟨cs, x, rs⟩ 1048576 W ((H.out.below hb0).mono hb0.size) (by omega) (by omega)).mono ?_
  rintro e w1 ⟨r, rfl, r1, r2, r3, b1⟩
  have B1 := Lib.hid (hb0.trans (b1.mono hb0.size))
  by_cases hr : r < 0
  · clear r1 r2 r3
    go_wp2
    go_ret
    exact ⟨rfl, B1.out⟩
  have hr' : 0 ≤ r := by omega
  have HS := Lib.hid (r3 hr')
  have HZ0 := Lib.hid hz0
  have d0 := (b1.cell (p := ⟨w.heap.size, 0, none⟩) hz0).trans p0
  have d1 := (b1.cell (p := ⟨w.heap.size, 1, none⟩) hz0).trans p1
  have d2 := (b1.cell (p := ⟨w.heap.size, 2, none⟩) hz0).trans p2
  have HZ1 := Lib.hid (Nat.lt_of_lt_of_le hz0 b1.size)
  clear r1 r2 r3 b1 p0 p1 p2 hb0 hz0 hr
  go_wp2_with fail
  refine (toTable_any _ ⟨cs, x, rs⟩ w1 ((H.out.below B1.out).mono B1.out.size) HS.out).mono ?_
  rintro e w2 ⟨v2, rfl, h2, b2⟩
  have B2 := Lib.hid (B1.out.trans (b2.mono B1.out.size))
  have H2 := Lib.hid h2
  have e0 := (b2.cell (p := ⟨w.heap.size, 0, none⟩) HZ1.out).trans d0
  have e1 := (b2.cell (p := ⟨w.heap.size, 1, none⟩) HZ1.out).trans d1
  have e2 := (b2.cell (p := ⟨w.heap.size, 2, none⟩) HZ1.out).trans d2
  have HZ2 := Lib.hid (Nat.lt_of_lt_of_le HZ1.out b2.size)
  clear d0 d1 d2 b2 h2
  go_wp2_with fail
  refine (specTabV_any _ ⟨cs, x, rs⟩ w2 H2.out).mono ?_
  rintro e w3 ⟨rfl, b3⟩
  have B3 := Lib.hid (B2.out.trans (b3.mono B2.out.size))
  have f0 := (b3.cell (p := ⟨w.heap.size, 0, none⟩) HZ2.out).trans e0
  have f1 := (b3.cell (p := ⟨w.heap.size, 1, none⟩) HZ2.out).trans e1
  have f2 := (b3.cell (p := ⟨w.heap.size, 2, none⟩) HZ2.out).trans e2
  have HZ3 := Lib.hid (Nat.lt_of_lt_of_le HZ2.out b3.size)
  clear e0 e1 e2 b3
  obtain ⟨tv, htv⟩ : ∃ tv, tabB ⟨cs, x, rs⟩ = tv := ⟨_, rfl⟩
  have HTV := Lib.hid htv
  rw [htv]
  clear htv
  go_wp2_with fail
  refine (toTable_any _ ⟨cs, x, rs⟩ w3 ((H.out.below B3.out).mono B3.out.size) HS.out).mono ?_
  rintro e w4 ⟨v4, rfl, h4, b4⟩
  have B4 := Lib.hid (B3.out.trans (b4.mono B3.out.size))
  obtain ⟨Q1, q1, Q2, q2, rfl, k1, k2⟩ := h4
  simp only [] at k1 k2 ⊢
  have hb5 := B4.out.alloc B4.out.size (.cells #[.slice Q1 cs.length q1, .int .i64 x, .slice Q2 rs.length q2] 31)
  have n0 : (w4.alloc (.cells #[.slice Q1 cs.length q1, .int .i64 x, .slice Q2 rs.length q2] 31)).cell? ⟨w4.heap.size, 0, none⟩ = some (.slice Q1 cs.length q1) := by rw [World.cell?_alloc_new]; rfl
  have n1 : (w4.alloc (.cells #[.slice Q1 cs.length q1, .int .i64 x, .slice Q2 rs.length q2] 31)).cell? ⟨w4.heap.size, 1, none⟩ = some (.int .i64 x) := by rw [World.cell?_alloc_new]; rfl
  have n2 : (w4.alloc (.cells #[.slice Q1 cs.length q1, .int .i64 x, .slice Q2 rs.length q2] 31)).cell? ⟨w4.heap.size, 2, none⟩ = some (.slice Q2 rs.length q2) := by rw [World.cell?_alloc_new]; rfl
  have b45 : Below w4.heap.size w4 (w4.alloc (.cells #[.slice Q1 cs.length q1, .int .i64 x, .slice Q2 rs.length q2] 31)) := (Below.refl _ _).alloc (Nat.le_refl _) _
  have g0 := (b45.cell (p := ⟨w.heap.size, 0, none⟩) (Nat.lt_of_lt_of_le HZ3.out b4.size)).trans ((b4.cell (p := ⟨w.heap.size, 0, none⟩) HZ3.out).trans f0)
  have g1 := (b45.cell (p := ⟨w.heap.size, 1, none⟩) (Nat.lt_of_lt_of_le HZ3.out b4.size)).trans ((b4.cell (p := ⟨w.heap.size, 1, none⟩) HZ3.out).trans f1)
  have g2 := (b45.cell (p := ⟨w.heap.size, 2, none⟩) (Nat.lt_of_lt_of_le HZ3.out b4.size)).trans ((b4.cell (p := ⟨w.heap.size, 2, none⟩) HZ3.out).trans f2)
  have H5 : Hid (TabAt (w4.alloc (.cells #[.slice Q1 cs.length q1, .int .i64 x, .slice Q2 rs.length q2] 31)) (w4.alloc (.cells #[.slice Q1 cs.length q1, .int .i64 x, .slice Q2 rs.length q2] 31)).heap.size (.agg #[.slice Q1 cs.length q1, .int .i64 x, .slice Q2 rs.length q2]) ⟨cs, x, rs⟩) := Lib.hid (TabAt.step ⟨_, _, _, _, rfl, k1, k2⟩ b45)
  have HZ4 := Lib.hid (Nat.lt_of_lt_of_le HZ3.out b4.size)
  have HZ5 : Hid (w4.heap.size < (w4.alloc (.cells #[.slice Q1 cs.length q1, .int .i64 x, .slice Q2 rs.length q2] 31)).heap.size) := Lib.hid (by simp)
  have HB5 := Lib.hid hb5
  clear f0 f1 f2 k1 k2 b4 hb5
  have htt : (tv != tv) = false := by simp
  go_wp2_with fail
  generalize w4.alloc (.cells #[.slice Q1 cs.length q1, .int .i64 x, .slice Q2 rs.length q2] 31) = w5 at n0 n1 n2 g0 g1 g2 H5 HZ5 HB5 b45 ⊢
  clear b45
  refine (implTabV_any _ ⟨cs, x, rs⟩ w5 H5.out).mono ?_
  rw [HTV.out]
  rintro e w6 ⟨rfl, b6⟩
  have B6 := Lib.hid (HB5.out.trans (b6.mono HB5.out.size))
  have bd : Below w5.heap.size w5 w6.drew := b6.drew
  have HK := Lib.hid (H5.out.step bd)
  have HT := Lib.hid ((H.out.below (B6.out.drew)).mono B6.out.drew.size)
  have y0 := (bd.cell (p := ⟨w.heap.size, 0, none⟩) (Nat.lt_trans HZ4.out HZ5.out)).trans g0
  have y1 := (bd.cell (p := ⟨w.heap.size, 1, none⟩) (Nat.lt_trans HZ4.out HZ5.out)).trans g1
  have y2 := (bd.cell (p := ⟨w.heap.size, 2, none⟩) (Nat.lt_trans HZ4.out HZ5.out)).trans g2
  have x0 := (bd.cell (p := ⟨w4.heap.size, 0, none⟩) HZ5.out).trans n0
  have x1 := (bd.cell (p := ⟨w4.heap.size, 1, none⟩) HZ5.out).trans n1
  have x2 := (bd.cell (p := ⟨w4.heap.size, 2, none⟩) HZ5.out).trans n2
  have HZ6 := Lib.hid (show w4.heap.size < w6.drew.heap.size from Nat.lt_of_lt_of_le HZ5.out bd.size)
  have BD := Lib.hid B6.out.drew
  clear n0 n1 n2 g0 g1 g2 b6 bd
  go_upto_region 10 with fail
  go_region_held3 (fun w' => (w'.cell? ⟨w4.heap.size, 0, none⟩ = some (.slice Q1 cs.length q1) ∧ w'.cell? ⟨w4.heap.size, 1, none⟩ = some (.int .i64 x) ∧ w'.cell? ⟨w4.heap.size, 2, none⟩ = some (.slice Q2 rs.length q2)) ∧ w'.cell? ⟨w.heap.size, 0, none⟩ = some (.slice A1 cs.length c1) ∧ w'.cell? ⟨w.heap.size, 1, none⟩ = some (.int .i64 x) ∧ w'.cell? ⟨w.heap.size, 2, none⟩ = some (.slice A2 rs.length c2)) (first | exact ⟨⟨x0, x1, x2⟩, y0, y1, y2⟩ | exact ⟨⟨(Below.cell b8 (p := ⟨w4.heap.size, 0, none⟩) HZ7.out).trans x0, (Below.cell b8 (p := ⟨w4.heap.size, 1, none⟩) HZ7.out).trans x1, (Below.cell b8 (p := ⟨w4.heap.size, 2, none⟩) HZ7.out).trans x2⟩, (Below.cell b8 (p := ⟨w.heap.size, 0, none⟩) (Nat.lt_trans HZ4.out HZ7.out)).trans y0, (Below.cell b8 (p := ⟨w.heap.size, 1, none⟩) (Nat.lt_trans HZ4.out HZ7.out)).trans y1, (Below.cell b8 (p := ⟨w.heap.size, 2, none⟩) (Nat.lt_trans HZ4.out HZ7.out)).trans y2⟩) (first
    | (go_at_call 13; refine (toTable_any _ ⟨cs, x, rs⟩ _ HT.out HS.out).mono ?_; rintro e w7 ⟨v7, rfl, h7, b7⟩; have H7 := Lib.hid h7; have HK7 := Lib.hid (HK.out.step b7); have BD7 := Lib.hid (BD.out.trans (b7.mono BD.out.size)); have x0 : w7.cell? ⟨w4.heap.size, 0, none⟩ = some (.slice Q1 cs.length q1) := (b7.cell (p := ⟨w4.heap.size, 0, none⟩) HZ6.out).trans x0; have x1 : w7.cell? ⟨w4.heap.size, 1, none⟩ = some (.int .i64 x) := (b7.cell (p := ⟨w4.heap.size, 1, none⟩) HZ6.out).trans x1; have x2 : w7.cell? ⟨w4.heap.size, 2, none⟩ = some (.slice Q2 rs.length q2) := (b7.cell (p := ⟨w4.heap.size, 2, none⟩) HZ6.out).trans x2; have y0 : w7.cell? ⟨w.heap.size, 0, none⟩ = some (.slice A1 cs.length c1) := (b7.cell (p := ⟨w.heap.size, 0, none⟩) (Nat.lt_trans HZ4.out HZ6.out)).trans y0; have y1 : w7.cell? ⟨w.heap.size, 1, none⟩ = some (.int .i64 x) := (b7.cell (p := ⟨w.heap.size, 1, none⟩) (Nat.lt_trans HZ4.out HZ6.out)).trans y1; have y2 : w7.cell? ⟨w.heap.size, 2, none⟩ = some (.slice A2 rs.length c2) := (b7.cell (p := ⟨w.heap.size, 2, none⟩) (Nat.lt_trans HZ4.out HZ6.out)).trans y2; have HZ7 := Lib.hid (Nat.lt_of_lt_of_le HZ6.out b7.size); clear h7 b7)
    | (go_at_call 15; refine (eqTable_same _ _ ⟨cs, x, rs⟩ _ HK7.out H7.out).mono ?_; rintro e w8 ⟨rfl, b8⟩; have B8 := Lib.hid b8))
  all_goals
    clear x0 x1 x2 y0 y1 y2
    go_wp2
    go_ret
    exact ⟨rfl, BD7.out.trans (B8.out.mono BD7.out.size)⟩
end Go.Proofs.Ytppciomdbabepaa
