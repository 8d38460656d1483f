/-
  The walk of FnExactInputValid: whatever the arguments, the law holds.
-/
import Derived.Test.YtppciomdbabepaaVcM
import Derived.Test.YtppciomdbabepaaVdM
import Derived.Test.YtppciomdbabepaaUm
import Derived.Deep.RegionHeld3
namespace Go.Proofs.Ytppciomdbabepaa
open Go.RowKit Sets

set_option maxRecDepth 100000 in
set_option maxHeartbeats 4000000 in
theorem exactInputValid_walk (v0 : Value) (t0 : Tb) (A1 : Option Addr) (c1 : Nat) (ns1 : List Int) (w : World) (h0 : TabAt w w.heap.size v0 t0) (h1 : IntsAt w w.heap.size A1 c1 ns1) :
    Calls Try.prog 4 #[v0, .slice A1 ns1.length c1] w fun e w' => e = .returned (.bool true) ∧ Below w.heap.size w w' := by
  have HT0 := Lib.hid h0
  obtain ⟨E0, f0, G0, l0, rfl, hC0, hR0⟩ := h0
  clear hC0 hR0
  obtain ⟨cs0, pl0, rs0⟩ := t0
  have HN1 := Lib.hid h1
  clear h1
  simp only [] at HT0 ⊢
  have B := Lib.hid (Below.refl w.heap.size w)
  have bx0 : Below w.heap.size w (w.alloc (.cells #[.slice E0 cs0.length f0, .int .i64 pl0, .slice G0 rs0.length l0] 25)) := (Below.refl _ _).alloc (Nat.le_refl _) _
  have X0 : Hid (TBox (w.alloc (.cells #[.slice E0 cs0.length f0, .int .i64 pl0, .slice G0 rs0.length l0] 25)) (w.heap.size) E0 cs0.length f0 pl0 G0 rs0.length l0) := Lib.hid (TBox.made _ _ _ _ _ _ _ _ _)
  replace HT0 := Lib.hid (HT0.out.step bx0)
  replace HN1 := Lib.hid (HN1.out.step bx0)
  replace B := Lib.hid (B.out.trans (bx0.mono B.out.size))
  clear bx0
  by_cases hn1 : 1048576 < ns1.length
  · have hq1 : (1048576 : Int) < (ns1.length : Int) := by omega
    obtain ⟨p00, p01, p02, p03⟩ := X0.out
    clear p03
    go_enter Try.func4, Try.ntmps4
    go_wp2
    go_ret
    exact ⟨rfl, B.out⟩
  have hq1 : (ns1.length : Int) ≤ 1048576 := by omega
  have HQ1 := Lib.hid (show ns1.length ≤ 1048576 by omega)
  clear hn1
  obtain ⟨p00, p01, p02, p03⟩ := X0.out
  clear p03
  go_enter Try.func4, Try.ntmps4
  go_wp2_with fail
  clear p00 p01 p02
  clear hq1
  generalize (w.alloc (.cells #[.slice E0 cs0.length f0, .int .i64 pl0, .slice G0 rs0.length l0] 25)) = w1 at HT0 HN1 X0 B ⊢
  refine (szTable_any _ ⟨cs0, pl0, rs0⟩ 1048576 w1 HT0.out (by omega) (by omega)).mono ?_
  rintro e w2 ⟨r0, rfl, ra0, rb0, rc0, b⟩
  replace HT0 := Lib.hid (HT0.out.step b)
  replace HN1 := Lib.hid (HN1.out.step b)
  replace X0 := Lib.hid (X0.out.step b)
  replace B := Lib.hid (B.out.trans (b.mono B.out.size))
  clear b
  by_cases hr0 : r0 < 0
  · clear ra0 rb0 rc0
    obtain ⟨p00, p01, p02, p03⟩ := X0.out
    clear p03
    go_wp2
    go_ret
    exact ⟨rfl, B.out⟩
  have hr0' : 0 ≤ r0 := by omega
  have HS0 := Lib.hid (rc0 hr0')
  clear rc0 hr0
  obtain ⟨p00, p01, p02, p03⟩ := X0.out
  clear p03
  go_wp2_with fail
  clear p00 p01 p02
  refine (toTable_any _ ⟨cs0, pl0, rs0⟩ w2 HT0.out HS0.out).mono ?_
  rintro e w3 ⟨y0, rfl, hy0, b⟩
  replace HT0 := Lib.hid (HT0.out.step b)
  replace HN1 := Lib.hid (HN1.out.step b)
  replace X0 := Lib.hid (X0.out.step b)
  replace B := Lib.hid (B.out.trans (b.mono B.out.size))
  clear b
  have HY0 := Lib.hid hy0
  clear hy0
  obtain ⟨p00, p01, p02, p03⟩ := X0.out
  clear p03
  go_wp2_with fail
  clear p00 p01 p02
  refine (toIntS_any _ _ ns1 w3 HN1.out HQ1.out).mono ?_
  rintro e w4 ⟨rfl, ro, oo, b⟩
  replace HT0 := Lib.hid (HT0.out.step b)
  replace HN1 := Lib.hid (HN1.out.step b)
  replace X0 := Lib.hid (X0.out.step b)
  replace HY0 := Lib.hid (HY0.out.step b)
  replace B := Lib.hid (B.out.trans (b.mono B.out.size))
  have HM1 := Lib.hid (IntRow.ints ro oo.2.2 HN1.out.1 (Nat.le_refl _) (by have := HQ1.out; omega))
  clear b ro oo
  obtain ⟨p00, p01, p02, p03⟩ := X0.out
  clear p03
  go_wp2_with fail
  clear p00 p01 p02
  refine (specInV_any _ ⟨cs0, pl0, rs0⟩ _ _ ns1 w4 HY0.out HM1.out).mono ?_
  rintro e w5 ⟨rfl, b⟩
  replace HT0 := Lib.hid (HT0.out.step b)
  replace HN1 := Lib.hid (HN1.out.step b)
  replace X0 := Lib.hid (X0.out.step b)
  replace HY0 := Lib.hid (HY0.out.step b)
  replace HM1 := Lib.hid (HM1.out.step b)
  replace B := Lib.hid (B.out.trans (b.mono B.out.size))
  clear b
  clear HY0 HM1
  obtain ⟨tv, htv⟩ : ∃ tv, inpB ⟨cs0, pl0, rs0⟩ ns1 = tv := ⟨_, rfl⟩
  have HTV := Lib.hid htv
  rw [htv]
  clear htv
  obtain ⟨p00, p01, p02, p03⟩ := X0.out
  clear p03
  go_wp2_with fail
  clear p00 p01 p02
  refine (toTable_any _ ⟨cs0, pl0, rs0⟩ w5 HT0.out HS0.out).mono ?_
  rintro e w6 ⟨y0, rfl, hy0, b⟩
  replace HT0 := Lib.hid (HT0.out.step b)
  replace HN1 := Lib.hid (HN1.out.step b)
  replace X0 := Lib.hid (X0.out.step b)
  replace B := Lib.hid (B.out.trans (b.mono B.out.size))
  clear b
  obtain ⟨Q0, q0, S0, s0, rfl, k1, k2⟩ := hy0
  simp only [] at k1 k2 ⊢
  have bx : Below w6.heap.size w6 (w6.alloc (.cells #[.slice Q0 cs0.length q0, .int .i64 pl0, .slice S0 rs0.length s0] 31)) := (Below.refl _ _).alloc (Nat.le_refl _) _
  replace HT0 := Lib.hid (HT0.out.step bx)
  replace HN1 := Lib.hid (HN1.out.step bx)
  replace X0 := Lib.hid (X0.out.step bx)
  replace B := Lib.hid (B.out.trans (bx.mono B.out.size))
  have XB0 : Hid (TBox (w6.alloc (.cells #[.slice Q0 cs0.length q0, .int .i64 pl0, .slice S0 rs0.length s0] 31)) w6.heap.size Q0 cs0.length q0 pl0 S0 rs0.length s0) := Lib.hid (TBox.made _ _ _ _ _ _ _ _ _)
  have HX0 : Hid (TabAt (w6.alloc (.cells #[.slice Q0 cs0.length q0, .int .i64 pl0, .slice S0 rs0.length s0] 31)) (w6.alloc (.cells #[.slice Q0 cs0.length q0, .int .i64 pl0, .slice S0 rs0.length s0] 31)).heap.size (.agg #[.slice Q0 cs0.length q0, .int .i64 pl0, .slice S0 rs0.length s0]) ⟨cs0, pl0, rs0⟩) := Lib.hid (TabAt.step ⟨_, _, _, _, rfl, k1, k2⟩ bx)
  clear bx k1 k2
  obtain ⟨p00, p01, p02, p03⟩ := X0.out
  clear p03
  obtain ⟨p10, p11, p12, p13⟩ := XB0.out
  clear p13
  go_wp2_with fail
  clear p00 p01 p02
  clear p10 p11 p12
  generalize (w6.alloc (.cells #[.slice Q0 cs0.length q0, .int .i64 pl0, .slice S0 rs0.length s0] 31)) = w7 at HT0 HN1 X0 XB0 HX0 B ⊢
  refine (toIntS_any _ _ ns1 w7 HN1.out HQ1.out).mono ?_
  rintro e w8 ⟨rfl, ro, oo, b⟩
  replace HT0 := Lib.hid (HT0.out.step b)
  replace HN1 := Lib.hid (HN1.out.step b)
  replace X0 := Lib.hid (X0.out.step b)
  replace XB0 := Lib.hid (XB0.out.step b)
  replace HX0 := Lib.hid (HX0.out.step b)
  replace B := Lib.hid (B.out.trans (b.mono B.out.size))
  have HX1 := Lib.hid (IntRow.ints ro oo.2.2 HN1.out.1 (Nat.le_refl _) (by have := HQ1.out; omega))
  clear b ro oo
  obtain ⟨p00, p01, p02, p03⟩ := X0.out
  clear p03
  obtain ⟨p10, p11, p12, p13⟩ := XB0.out
  clear p13
  go_wp2_with fail
  clear p00 p01 p02
  clear p10 p11 p12
  have htt : (tv != tv) = false := by simp
  refine (implInV_any _ ⟨cs0, pl0, rs0⟩ _ _ ns1 w8 HX0.out HX1.out).mono ?_
  rw [HTV.out]
  rintro e w9 ⟨rfl, b⟩
  replace HT0 := Lib.hid (HT0.out.step b)
  replace HN1 := Lib.hid (HN1.out.step b)
  replace X0 := Lib.hid (X0.out.step b)
  replace XB0 := Lib.hid (XB0.out.step b)
  replace HX0 := Lib.hid (HX0.out.step b)
  replace HX1 := Lib.hid (HX1.out.step b)
  replace B := Lib.hid (B.out.trans (b.mono B.out.size))
  clear b
  have bd : Below w9.heap.size w9 w9.drew := (Below.refl _ _).drew
  replace HT0 := Lib.hid (HT0.out.step bd)
  replace HN1 := Lib.hid (HN1.out.step bd)
  replace X0 := Lib.hid (X0.out.step bd)
  replace XB0 := Lib.hid (XB0.out.step bd)
  replace HX0 := Lib.hid (HX0.out.step bd)
  replace HX1 := Lib.hid (HX1.out.step bd)
  replace B := Lib.hid (B.out.trans (bd.mono B.out.size))
  clear bd
  obtain ⟨y0, y1, y2, y3⟩ := X0.out
  obtain ⟨x0, x1, x2, x3⟩ := XB0.out
  have HZY := Lib.hid y3
  have HZX := Lib.hid x3
  clear y3 x3
  go_upto_region 13 with fail
  go_region_held3 (fun w' => (w'.cell? ⟨w6.heap.size, 0, none⟩ = some (.slice Q0 cs0.length q0) ∧ w'.cell? ⟨w6.heap.size, 1, none⟩ = some (.int .i64 pl0) ∧ w'.cell? ⟨w6.heap.size, 2, none⟩ = some (.slice S0 rs0.length s0)) ∧ w'.cell? ⟨w.heap.size, 0, none⟩ = some (.slice E0 cs0.length f0) ∧ w'.cell? ⟨w.heap.size, 1, none⟩ = some (.int .i64 pl0) ∧ w'.cell? ⟨w.heap.size, 2, none⟩ = some (.slice G0 rs0.length l0)) (first | exact ⟨⟨x0, x1, x2⟩, y0, y1, y2⟩ | exact ⟨⟨(Below.cell b8 (p := ⟨w6.heap.size, 0, none⟩) HZX7.out).trans x0, (Below.cell b8 (p := ⟨w6.heap.size, 1, none⟩) HZX7.out).trans x1, (Below.cell b8 (p := ⟨w6.heap.size, 2, none⟩) HZX7.out).trans x2⟩, (Below.cell b8 (p := ⟨w.heap.size, 0, none⟩) HZY7.out).trans y0, (Below.cell b8 (p := ⟨w.heap.size, 1, none⟩) HZY7.out).trans y1, (Below.cell b8 (p := ⟨w.heap.size, 2, none⟩) HZY7.out).trans y2⟩) (first
    | (go_at_call 13; refine (toTable_any _ ⟨cs0, pl0, rs0⟩ _ HT0.out HS0.out).mono ?_; rintro e w70 ⟨v7, rfl, h7, b7⟩; have H7 := Lib.hid h7; have HT0 := Lib.hid (HT0.out.step b7); have HN1 := Lib.hid (HN1.out.step b7); have X0 := Lib.hid (X0.out.step b7); have XB0 := Lib.hid (XB0.out.step b7); have HX0 := Lib.hid (HX0.out.step b7); have HX1 := Lib.hid (HX1.out.step b7); have B := Lib.hid (B.out.trans (b7.mono B.out.size)); have x0 : w70.cell? ⟨w6.heap.size, 0, none⟩ = some (.slice Q0 cs0.length q0) := (b7.cell (p := ⟨w6.heap.size, 0, none⟩) HZX.out).trans x0; have x1 : w70.cell? ⟨w6.heap.size, 1, none⟩ = some (.int .i64 pl0) := (b7.cell (p := ⟨w6.heap.size, 1, none⟩) HZX.out).trans x1; have x2 : w70.cell? ⟨w6.heap.size, 2, none⟩ = some (.slice S0 rs0.length s0) := (b7.cell (p := ⟨w6.heap.size, 2, none⟩) HZX.out).trans x2; have y0 : w70.cell? ⟨w.heap.size, 0, none⟩ = some (.slice E0 cs0.length f0) := (b7.cell (p := ⟨w.heap.size, 0, none⟩) HZY.out).trans y0; have y1 : w70.cell? ⟨w.heap.size, 1, none⟩ = some (.int .i64 pl0) := (b7.cell (p := ⟨w.heap.size, 1, none⟩) HZY.out).trans y1; have y2 : w70.cell? ⟨w.heap.size, 2, none⟩ = some (.slice G0 rs0.length l0) := (b7.cell (p := ⟨w.heap.size, 2, none⟩) HZY.out).trans y2; have HZX7 := Lib.hid (Nat.lt_of_lt_of_le HZX.out b7.size); have HZY7 := Lib.hid (Nat.lt_of_lt_of_le HZY.out b7.size); clear h7 b7)
    | (go_at_call 15; refine (eqTable_same _ _ ⟨cs0, pl0, rs0⟩ _ HX0.out H7.out).mono ?_; rintro e w80 ⟨rfl, b8⟩; have B8 := Lib.hid b8))
  clear x0 x1 x2 y0 y1 y2 HZX HZY HZX7 HZY7 H7
  replace HT0 := Lib.hid (HT0.out.step B8.out)
  replace HN1 := Lib.hid (HN1.out.step B8.out)
  replace X0 := Lib.hid (X0.out.step B8.out)
  replace XB0 := Lib.hid (XB0.out.step B8.out)
  replace HX0 := Lib.hid (HX0.out.step B8.out)
  replace HX1 := Lib.hid (HX1.out.step B8.out)
  replace B := Lib.hid (B.out.trans (B8.out.mono B.out.size))
  clear B8
  obtain ⟨p00, p01, p02, p03⟩ := X0.out
  clear p03
  obtain ⟨p10, p11, p12, p13⟩ := XB0.out
  clear p13
  go_wp2_with fail
  clear p00 p01 p02
  clear p10 p11 p12
  refine (toIntS_any _ _ ns1 w80 HN1.out HQ1.out).mono ?_
  rintro e w11 ⟨rfl, ro, oo, b⟩
  replace HT0 := Lib.hid (HT0.out.step b)
  replace HN1 := Lib.hid (HN1.out.step b)
  replace X0 := Lib.hid (X0.out.step b)
  replace XB0 := Lib.hid (XB0.out.step b)
  replace HX0 := Lib.hid (HX0.out.step b)
  replace HX1 := Lib.hid (HX1.out.step b)
  replace B := Lib.hid (B.out.trans (b.mono B.out.size))
  have HM := Lib.hid (IntRow.ints ro oo.2.2 HN1.out.1 (Nat.le_refl _) (by have := HQ1.out; omega))
  clear b ro oo
  obtain ⟨p00, p01, p02, p03⟩ := X0.out
  clear p03
  obtain ⟨p10, p11, p12, p13⟩ := XB0.out
  clear p13
  go_wp2_with fail
  clear p00 p01 p02
  clear p10 p11 p12
  refine (eqIntS_same _ _ _ _ ns1 w11 HX1.out HM.out).mono ?_
  rintro e w12 ⟨rfl, b⟩
  replace HT0 := Lib.hid (HT0.out.step b)
  replace HN1 := Lib.hid (HN1.out.step b)
  replace X0 := Lib.hid (X0.out.step b)
  replace XB0 := Lib.hid (XB0.out.step b)
  replace HX0 := Lib.hid (HX0.out.step b)
  replace HX1 := Lib.hid (HX1.out.step b)
  replace HM := Lib.hid (HM.out.step b)
  replace B := Lib.hid (B.out.trans (b.mono B.out.size))
  clear b
  clear HM
  obtain ⟨p00, p01, p02, p03⟩ := X0.out
  clear p03
  obtain ⟨p10, p11, p12, p13⟩ := XB0.out
  clear p13
  go_wp2
  go_ret
  exact ⟨rfl, B.out⟩
end Go.Proofs.Ytppciomdbabepaa
