/-
  The walk of FnExactDecide: whatever the arguments, the law holds.
-/
import Derived.Test.YtamfmemdhldmjaaGreatDoorJaM
import Derived.Test.YtamfmemdhldmjaaGreatDoorFaM
import Derived.Test.YtamfmemdhldmjaaGreatDoorWt
import Derived.Deep.RegionHeld3
namespace Go.Proofs.YtamfmemdhldmjaaGreatDoor
open Go.RowKit Sets

set_option maxRecDepth 100000 in
set_option maxHeartbeats 4000000 in
theorem exactDecide_walk (v0 : Value) (t0 : Tb) (A1 : Option Addr) (c1 : Nat) (ns1 : List Int) (w : World) (h0 : TabAt w w.heap.size v0 t0) (h1 : IntsAt w w.heap.size A1 c1 ns1) (z1 z2 z3 : Addr) (hE : EndsIs w z1 z2 z3) :
    Calls Tryz.prog 3 #[v0, .slice A1 ns1.length c1] w fun e w' => e = .returned (.bool true) ∧ Below w.heap.size w w' := by
  have E := Lib.hid hE
  clear hE
  have HT0 := Lib.hid h0
  obtain ⟨E0, f0, Gg0, l0, rfl, hC0, hR0⟩ := h0
  clear hC0 hR0
  obtain ⟨cs0, pl0, rs0⟩ := t0
  have HT1 := Lib.hid h1
  clear h1
  simp only [] at HT0 ⊢
  have B := Lib.hid (Below.refl w.heap.size w)
  have bx0 : Below w.heap.size w (w.alloc (.cells #[.slice E0 cs0.length f0, .int .i64 pl0, .slice Gg0 rs0.length l0] 25)) := (Below.refl _ _).alloc (Nat.le_refl _) _
  have X0 : Hid (TBox (w.alloc (.cells #[.slice E0 cs0.length f0, .int .i64 pl0, .slice Gg0 rs0.length l0] 25)) (w.heap.size) E0 cs0.length f0 pl0 Gg0 rs0.length l0) := Lib.hid (TBox.made _ _ _ _ _ _ _ _ _)
  have SZ0 := Lib.hid (show w.heap.size ≤ (w.alloc (.cells #[.slice E0 cs0.length f0, .int .i64 pl0, .slice Gg0 rs0.length l0] 25)).heap.size from bx0.size)
  replace B := Lib.hid (B.out.trans (bx0.mono B.out.size))
  clear bx0
  have GX0 := Lib.hid (show w.heap.size < (w.alloc (.cells #[.slice E0 cs0.length f0, .int .i64 pl0, .slice Gg0 rs0.length l0] 25)).heap.size from X0.out.2.2.2)
  by_cases hn1 : 1048576 < ns1.length
  · have hq1 : (1048576 : Int) < (ns1.length : Int) := by omega
    obtain ⟨p00, p01, p02, p03⟩ := X0.out
    clear p03
    go_enter Tryz.func3, Tryz.ntmps3
    go_wp2
    go_ret
    exact ⟨rfl, B.out⟩
  have HQ1 := Lib.hid (show ns1.length ≤ 1048576 by omega)
  have hq1 : decide ((1048576 : Int) < (ns1.length : Int)) = false := decide_eq_false (by omega)
  clear hn1
  obtain ⟨p00, p01, p02, p03⟩ := X0.out
  clear p03
  go_enter Tryz.func3, Tryz.ntmps3
  go_wp2_with fail
  clear p00 p01 p02
  generalize (w.alloc (.cells #[.slice E0 cs0.length f0, .int .i64 pl0, .slice Gg0 rs0.length l0] 25)) = w1 at X0 SZ0 GX0 B ⊢
  refine (szTable_any _ ⟨cs0, pl0, rs0⟩ (1048576) w1 ((HT0.out.below B.out).mono B.out.size) (by omega) (by omega)).mono ?_
  rintro e w2 ⟨r0, rfl, ra0, rb0, rc0, b⟩
  have SZ2 := Lib.hid (show w1.heap.size ≤ w2.heap.size from b.size)
  replace X0 := Lib.hid (X0.out.step b)
  replace B := Lib.hid (B.out.trans (b.mono B.out.size))
  clear b
  by_cases hr0 : r0 < 0
  · clear ra0 rb0 rc0
    obtain ⟨p00, p01, p02, p03⟩ := X0.out
    clear p03
    go_wp2
    go_ret
    exact ⟨rfl, B.out⟩
  have hr0' : 0 ≤ r0 := by omega
  have HS0 := Lib.hid (rc0 hr0')
  clear rc0 hr0
  obtain ⟨p00, p01, p02, p03⟩ := X0.out
  clear p03
  go_wp2_with fail
  clear p00 p01 p02
  refine (toTable_f _ ⟨cs0, pl0, rs0⟩ w2 ((HT0.out.below B.out).mono B.out.size) HS0.out).mono ?_
  rintro e w3 ⟨y_C0, rfl, hy, b⟩
  have SZ3 := Lib.hid (show w2.heap.size ≤ w3.heap.size from b.size)
  replace X0 := Lib.hid (X0.out.step b)
  replace B := Lib.hid (B.out.trans (b.mono B.out.size))
  have C0 := Lib.hid hy
  clear b hy
  obtain ⟨p00, p01, p02, p03⟩ := X0.out
  clear p03
  go_wp2_with fail
  clear p00 p01 p02
  refine (toIntS_any _ _ ns1 w3 ((HT1.out.below B.out).mono B.out.size) HQ1.out).mono ?_
  rintro e w4 ⟨rfl, ro, oo, b⟩
  have SZ4 := Lib.hid (show w3.heap.size ≤ w4.heap.size from b.size)
  replace X0 := Lib.hid (X0.out.step b)
  replace C0 := Lib.hid (C0.out.keep (KeepS.of_below b _))
  replace B := Lib.hid (B.out.trans (b.mono B.out.size))
  have C1 := Lib.hid (IntF.copy ro oo HT1.out.1 HQ1.out)
  clear b ro oo
  obtain ⟨p00, p01, p02, p03⟩ := X0.out
  clear p03
  go_wp2_with fail
  clear p00 p01 p02
  refine (specDcd_any _ ⟨cs0, pl0, rs0⟩ _ _ ns1 w4 C0.out.at C1.out.ints).mono ?_
  obtain ⟨rv0, hrv0⟩ : ∃ rv, dV ⟨cs0, pl0, rs0⟩ ns1 = rv := ⟨_, rfl⟩
  have HB0 := Lib.hid (show rv0.2.length ≤ 1048576 by rw [← hrv0]; exact Nat.le_trans dV_small (by omega))
  have HV0 := Lib.hid hrv0
  rw [hrv0]
  clear hrv0
  rintro e w5 ⟨A_Z0, c_Z0, rfl, oo, b⟩
  have SZ5 := Lib.hid (show w4.heap.size ≤ w5.heap.size from b.size)
  replace X0 := Lib.hid (X0.out.step b)
  replace C0 := Lib.hid (C0.out.keep (KeepS.of_below b _))
  replace C1 := Lib.hid (C1.out.keep (KeepS.of_below b _))
  replace B := Lib.hid (B.out.trans (b.mono B.out.size))
  have Z0 := Lib.hid (IntF.of_own oo)
  clear b oo
  have bz : Below w5.heap.size w5 (w5.alloc (.cells #[.int .i64 rv0.1, .slice A_Z0 rv0.2.length c_Z0] 29)) := (Below.refl _ _).alloc (Nat.le_refl _) _
  have SZ6 := Lib.hid (show w5.heap.size ≤ (w5.alloc (.cells #[.int .i64 rv0.1, .slice A_Z0 rv0.2.length c_Z0] 29)).heap.size from bz.size)
  replace X0 := Lib.hid (X0.out.step bz)
  replace C0 := Lib.hid (C0.out.keep (KeepS.of_below bz _))
  replace C1 := Lib.hid (C1.out.keep (KeepS.of_below bz _))
  replace Z0 := Lib.hid (Z0.out.keep (KeepS.of_below bz _))
  replace B := Lib.hid (B.out.trans (bz.mono B.out.size))
  have YZ0 : Hid (RBox (w5.alloc (.cells #[.int .i64 rv0.1, .slice A_Z0 rv0.2.length c_Z0] 29)) w5.heap.size rv0.1 A_Z0 rv0.2.length c_Z0) := Lib.hid (RBox.made _ _ _ _ _ _)
  clear bz
  have GYZ0 := Lib.hid (show w5.heap.size < (w5.alloc (.cells #[.int .i64 rv0.1, .slice A_Z0 rv0.2.length c_Z0] 29)).heap.size from YZ0.out.2.2)
  clear C0
  clear C1
  obtain ⟨p00, p01, p02, p03⟩ := X0.out
  clear p03
  obtain ⟨p10, p11, p12⟩ := YZ0.out
  clear p12
  go_wp2_with fail
  clear p00 p01 p02
  clear p10 p11
  generalize (w5.alloc (.cells #[.int .i64 rv0.1, .slice A_Z0 rv0.2.length c_Z0] 29)) = w6 at X0 Z0 YZ0 SZ0 GX0 SZ2 SZ3 SZ4 SZ5 SZ6 GYZ0 B ⊢
  refine (toTable_f _ ⟨cs0, pl0, rs0⟩ w6 ((HT0.out.below B.out).mono B.out.size) HS0.out).mono ?_
  rintro e w7 ⟨y_D0, rfl, hy, b⟩
  have SZ8 := Lib.hid (show w6.heap.size ≤ w7.heap.size from b.size)
  replace X0 := Lib.hid (X0.out.step b)
  replace Z0 := Lib.hid (Z0.out.keep (KeepS.of_below b _))
  replace YZ0 := Lib.hid (YZ0.out.step b)
  replace B := Lib.hid (B.out.trans (b.mono B.out.size))
  have D0 := Lib.hid hy
  clear b hy
  obtain ⟨Q0, q0, S0, s0, hv, hz⟩ := D0.out.at
  clear hz
  simp only [] at hv
  subst hv
  have bz : Below w7.heap.size w7 (w7.alloc (.cells #[.slice Q0 cs0.length q0, .int .i64 pl0, .slice S0 rs0.length s0] 34)) := (Below.refl _ _).alloc (Nat.le_refl _) _
  have SZ9 := Lib.hid (show w7.heap.size ≤ (w7.alloc (.cells #[.slice Q0 cs0.length q0, .int .i64 pl0, .slice S0 rs0.length s0] 34)).heap.size from bz.size)
  replace X0 := Lib.hid (X0.out.step bz)
  replace Z0 := Lib.hid (Z0.out.keep (KeepS.of_below bz _))
  replace YZ0 := Lib.hid (YZ0.out.step bz)
  replace D0 := Lib.hid (D0.out.keep (KeepS.of_below bz _))
  replace B := Lib.hid (B.out.trans (bz.mono B.out.size))
  have YD0 : Hid (TBox (w7.alloc (.cells #[.slice Q0 cs0.length q0, .int .i64 pl0, .slice S0 rs0.length s0] 34)) w7.heap.size Q0 cs0.length q0 pl0 S0 rs0.length s0) := Lib.hid (TBox.made _ _ _ _ _ _ _ _ _)
  clear bz
  have GYD0 := Lib.hid (show w7.heap.size < (w7.alloc (.cells #[.slice Q0 cs0.length q0, .int .i64 pl0, .slice S0 rs0.length s0] 34)).heap.size from YD0.out.2.2.2)
  obtain ⟨p00, p01, p02, p03⟩ := X0.out
  clear p03
  obtain ⟨p10, p11, p12⟩ := YZ0.out
  clear p12
  obtain ⟨p20, p21, p22, p23⟩ := YD0.out
  clear p23
  go_wp2_with fail
  clear p00 p01 p02
  clear p10 p11
  clear p20 p21 p22
  generalize (w7.alloc (.cells #[.slice Q0 cs0.length q0, .int .i64 pl0, .slice S0 rs0.length s0] 34)) = w8 at X0 Z0 YZ0 D0 YD0 SZ0 GX0 SZ2 SZ3 SZ4 SZ5 SZ6 GYZ0 SZ8 SZ9 GYD0 B ⊢
  refine (toIntS_any _ _ ns1 w8 ((HT1.out.below B.out).mono B.out.size) HQ1.out).mono ?_
  rintro e w9 ⟨rfl, ro, oo, b⟩
  have SZ11 := Lib.hid (show w8.heap.size ≤ w9.heap.size from b.size)
  replace X0 := Lib.hid (X0.out.step b)
  replace Z0 := Lib.hid (Z0.out.keep (KeepS.of_below b _))
  replace YZ0 := Lib.hid (YZ0.out.step b)
  replace D0 := Lib.hid (D0.out.keep (KeepS.of_below b _))
  replace YD0 := Lib.hid (YD0.out.step b)
  replace B := Lib.hid (B.out.trans (b.mono B.out.size))
  have D1 := Lib.hid (IntF.copy ro oo HT1.out.1 HQ1.out)
  clear b ro oo
  obtain ⟨p00, p01, p02, p03⟩ := X0.out
  clear p03
  obtain ⟨p10, p11, p12⟩ := YZ0.out
  clear p12
  obtain ⟨p20, p21, p22, p23⟩ := YD0.out
  clear p23
  go_wp2_with fail
  clear p00 p01 p02
  clear p10 p11
  clear p20 p21 p22
  refine (implDcd_any z1 z2 z3 _ ⟨cs0, pl0, rs0⟩ _ _ ns1 w9 (E.out.step B.out) D0.out.at D1.out.ints).mono ?_
  rw [HV0.out]
  rintro e w10 ⟨A_G0, c_G0, rfl, oo, b⟩
  have SZ12 := Lib.hid (show w9.heap.size ≤ w10.heap.size from b.size)
  replace X0 := Lib.hid (X0.out.step b)
  replace Z0 := Lib.hid (Z0.out.keep (KeepS.of_below b _))
  replace YZ0 := Lib.hid (YZ0.out.step b)
  replace D0 := Lib.hid (D0.out.keep (KeepS.of_below b _))
  replace YD0 := Lib.hid (YD0.out.step b)
  replace D1 := Lib.hid (D1.out.keep (KeepS.of_below b _))
  replace B := Lib.hid (B.out.trans (b.mono B.out.size))
  have G0 := Lib.hid (IntF.of_own oo)
  clear b oo
  have bz : Below w10.heap.size w10 (w10.alloc (.cells #[.int .i64 rv0.1, .slice A_G0 rv0.2.length c_G0] 29)) := (Below.refl _ _).alloc (Nat.le_refl _) _
  have SZ13 := Lib.hid (show w10.heap.size ≤ (w10.alloc (.cells #[.int .i64 rv0.1, .slice A_G0 rv0.2.length c_G0] 29)).heap.size from bz.size)
  replace X0 := Lib.hid (X0.out.step bz)
  replace Z0 := Lib.hid (Z0.out.keep (KeepS.of_below bz _))
  replace YZ0 := Lib.hid (YZ0.out.step bz)
  replace D0 := Lib.hid (D0.out.keep (KeepS.of_below bz _))
  replace YD0 := Lib.hid (YD0.out.step bz)
  replace D1 := Lib.hid (D1.out.keep (KeepS.of_below bz _))
  replace G0 := Lib.hid (G0.out.keep (KeepS.of_below bz _))
  replace B := Lib.hid (B.out.trans (bz.mono B.out.size))
  have YG0 : Hid (RBox (w10.alloc (.cells #[.int .i64 rv0.1, .slice A_G0 rv0.2.length c_G0] 29)) w10.heap.size rv0.1 A_G0 rv0.2.length c_G0) := Lib.hid (RBox.made _ _ _ _ _ _)
  clear bz
  have GYG0 := Lib.hid (show w10.heap.size < (w10.alloc (.cells #[.int .i64 rv0.1, .slice A_G0 rv0.2.length c_G0] 29)).heap.size from YG0.out.2.2)
  obtain ⟨p00, p01, p02, p03⟩ := X0.out
  clear p03
  obtain ⟨p10, p11, p12⟩ := YZ0.out
  clear p12
  obtain ⟨p20, p21, p22, p23⟩ := YD0.out
  clear p23
  obtain ⟨p30, p31, p32⟩ := YG0.out
  clear p32
  go_wp2_with fail
  clear p00 p01 p02
  clear p10 p11
  clear p20 p21 p22
  clear p30 p31
  generalize (w10.alloc (.cells #[.int .i64 rv0.1, .slice A_G0 rv0.2.length c_G0] 29)) = w11 at X0 Z0 YZ0 D0 YD0 D1 G0 YG0 SZ0 GX0 SZ2 SZ3 SZ4 SZ5 SZ6 GYZ0 SZ8 SZ9 GYD0 SZ11 SZ12 SZ13 GYG0 B ⊢
  refine (eqResult_same _ _ rv0 w11 ⟨_, _, rfl, G0.out.ints⟩ ⟨_, _, rfl, Z0.out.ints⟩).mono ?_
  rintro e w12 ⟨rfl, b⟩
  have SZ15 := Lib.hid (show w11.heap.size ≤ w12.heap.size from b.size)
  replace X0 := Lib.hid (X0.out.step b)
  replace Z0 := Lib.hid (Z0.out.keep (KeepS.of_below b _))
  replace YZ0 := Lib.hid (YZ0.out.step b)
  replace D0 := Lib.hid (D0.out.keep (KeepS.of_below b _))
  replace YD0 := Lib.hid (YD0.out.step b)
  replace D1 := Lib.hid (D1.out.keep (KeepS.of_below b _))
  replace G0 := Lib.hid (G0.out.keep (KeepS.of_below b _))
  replace YG0 := Lib.hid (YG0.out.step b)
  replace B := Lib.hid (B.out.trans (b.mono B.out.size))
  clear b
  have bd : Below w12.heap.size w12 w12.drew := (Below.refl _ _).drew
  have SZ16 := Lib.hid (show w12.heap.size ≤ w12.drew.heap.size from bd.size)
  replace X0 := Lib.hid (X0.out.step bd)
  replace Z0 := Lib.hid (Z0.out.keep (KeepS.of_below bd _))
  replace YZ0 := Lib.hid (YZ0.out.step bd)
  replace D0 := Lib.hid (D0.out.keep (KeepS.of_below bd _))
  replace YD0 := Lib.hid (YD0.out.step bd)
  replace D1 := Lib.hid (D1.out.keep (KeepS.of_below bd _))
  replace G0 := Lib.hid (G0.out.keep (KeepS.of_below bd _))
  replace YG0 := Lib.hid (YG0.out.step bd)
  replace B := Lib.hid (B.out.trans (bd.mono B.out.size))
  clear bd
  obtain ⟨y0, y1, y2, y3⟩ := X0.out
  obtain ⟨x0, x1, x2, x3⟩ := YD0.out
  have HZY := Lib.hid y3
  have HZX := Lib.hid x3
  clear y3 x3
  go_upto_region 13 with fail
  go_region_held3 (fun w' => (w'.cell? ⟨w7.heap.size, 0, none⟩ = some (.slice Q0 cs0.length q0) ∧ w'.cell? ⟨w7.heap.size, 1, none⟩ = some (.int .i64 pl0) ∧ w'.cell? ⟨w7.heap.size, 2, none⟩ = some (.slice S0 rs0.length s0)) ∧ w'.cell? ⟨w.heap.size, 0, none⟩ = some (.slice E0 cs0.length f0) ∧ w'.cell? ⟨w.heap.size, 1, none⟩ = some (.int .i64 pl0) ∧ w'.cell? ⟨w.heap.size, 2, none⟩ = some (.slice Gg0 rs0.length l0)) (first | exact ⟨⟨x0, x1, x2⟩, y0, y1, y2⟩ | exact ⟨⟨(Below.cell b8 (p := ⟨w7.heap.size, 0, none⟩) HZX7.out).trans x0, (Below.cell b8 (p := ⟨w7.heap.size, 1, none⟩) HZX7.out).trans x1, (Below.cell b8 (p := ⟨w7.heap.size, 2, none⟩) HZX7.out).trans x2⟩, (Below.cell b8 (p := ⟨w.heap.size, 0, none⟩) HZY7.out).trans y0, (Below.cell b8 (p := ⟨w.heap.size, 1, none⟩) HZY7.out).trans y1, (Below.cell b8 (p := ⟨w.heap.size, 2, none⟩) HZY7.out).trans y2⟩) (first
    | (go_at_call 7; refine (toTable_f _ ⟨cs0, pl0, rs0⟩ _ ((HT0.out.below B.out).mono B.out.size) HS0.out).mono ?_; rintro e w70 ⟨v7, rfl, h7, b7⟩; have H7 := Lib.hid h7; have X0 := Lib.hid (X0.out.step b7); have Z0 := Lib.hid (Z0.out.keep (KeepS.of_below b7 _)); have YZ0 := Lib.hid (YZ0.out.step b7); have D0 := Lib.hid (D0.out.keep (KeepS.of_below b7 _)); have YD0 := Lib.hid (YD0.out.step b7); have D1 := Lib.hid (D1.out.keep (KeepS.of_below b7 _)); have G0 := Lib.hid (G0.out.keep (KeepS.of_below b7 _)); have YG0 := Lib.hid (YG0.out.step b7); have SZ17 := Lib.hid (show w12.drew.heap.size ≤ w70.heap.size from b7.size); have B := Lib.hid (B.out.trans (b7.mono B.out.size)); have x0 : w70.cell? ⟨w7.heap.size, 0, none⟩ = some (.slice Q0 cs0.length q0) := (b7.cell (p := ⟨w7.heap.size, 0, none⟩) HZX.out).trans x0; have x1 : w70.cell? ⟨w7.heap.size, 1, none⟩ = some (.int .i64 pl0) := (b7.cell (p := ⟨w7.heap.size, 1, none⟩) HZX.out).trans x1; have x2 : w70.cell? ⟨w7.heap.size, 2, none⟩ = some (.slice S0 rs0.length s0) := (b7.cell (p := ⟨w7.heap.size, 2, none⟩) HZX.out).trans x2; have y0 : w70.cell? ⟨w.heap.size, 0, none⟩ = some (.slice E0 cs0.length f0) := (b7.cell (p := ⟨w.heap.size, 0, none⟩) HZY.out).trans y0; have y1 : w70.cell? ⟨w.heap.size, 1, none⟩ = some (.int .i64 pl0) := (b7.cell (p := ⟨w.heap.size, 1, none⟩) HZY.out).trans y1; have y2 : w70.cell? ⟨w.heap.size, 2, none⟩ = some (.slice Gg0 rs0.length l0) := (b7.cell (p := ⟨w.heap.size, 2, none⟩) HZY.out).trans y2; have HZX7 := Lib.hid (Nat.lt_of_lt_of_le HZX.out b7.size); have HZY7 := Lib.hid (Nat.lt_of_lt_of_le HZY.out b7.size); clear h7 b7)
    | (go_at_call 11; refine (eqTable_same _ _ ⟨cs0, pl0, rs0⟩ _ D0.out.at H7.out.at).mono ?_; rintro e w80 ⟨rfl, b8⟩; have B8 := Lib.hid b8))
  clear x0 y0 x1 y1 x2 y2 HZX HZY HZX7 HZY7 H7
  have SZ18 := Lib.hid (show w70.heap.size ≤ w80.heap.size from B8.out.size)
  replace X0 := Lib.hid (X0.out.step B8.out)
  replace Z0 := Lib.hid (Z0.out.keep (KeepS.of_below B8.out _))
  replace YZ0 := Lib.hid (YZ0.out.step B8.out)
  replace D0 := Lib.hid (D0.out.keep (KeepS.of_below B8.out _))
  replace YD0 := Lib.hid (YD0.out.step B8.out)
  replace D1 := Lib.hid (D1.out.keep (KeepS.of_below B8.out _))
  replace G0 := Lib.hid (G0.out.keep (KeepS.of_below B8.out _))
  replace YG0 := Lib.hid (YG0.out.step B8.out)
  replace B := Lib.hid (B.out.trans (B8.out.mono B.out.size))
  clear B8
  obtain ⟨p00, p01, p02, p03⟩ := X0.out
  clear p03
  obtain ⟨p10, p11, p12⟩ := YZ0.out
  clear p12
  obtain ⟨p20, p21, p22, p23⟩ := YD0.out
  clear p23
  obtain ⟨p30, p31, p32⟩ := YG0.out
  clear p32
  go_wp2_with fail
  clear p00 p01 p02
  clear p10 p11
  clear p20 p21 p22
  clear p30 p31
  refine (toIntS_any _ _ ns1 w80 ((HT1.out.below B.out).mono B.out.size) HQ1.out).mono ?_
  rintro e w14 ⟨rfl, ro, oo, b⟩
  have SZ19 := Lib.hid (show w80.heap.size ≤ w14.heap.size from b.size)
  replace X0 := Lib.hid (X0.out.step b)
  replace Z0 := Lib.hid (Z0.out.keep (KeepS.of_below b _))
  replace YZ0 := Lib.hid (YZ0.out.step b)
  replace D0 := Lib.hid (D0.out.keep (KeepS.of_below b _))
  replace YD0 := Lib.hid (YD0.out.step b)
  replace D1 := Lib.hid (D1.out.keep (KeepS.of_below b _))
  replace G0 := Lib.hid (G0.out.keep (KeepS.of_below b _))
  replace YG0 := Lib.hid (YG0.out.step b)
  replace B := Lib.hid (B.out.trans (b.mono B.out.size))
  have M1 := Lib.hid (IntF.copy ro oo HT1.out.1 HQ1.out)
  clear b ro oo
  obtain ⟨p00, p01, p02, p03⟩ := X0.out
  clear p03
  obtain ⟨p10, p11, p12⟩ := YZ0.out
  clear p12
  obtain ⟨p20, p21, p22, p23⟩ := YD0.out
  clear p23
  obtain ⟨p30, p31, p32⟩ := YG0.out
  clear p32
  go_wp2_with fail
  clear p00 p01 p02
  clear p10 p11
  clear p20 p21 p22
  clear p30 p31
  refine (eqIntS_same _ _ _ _ ns1 w14 D1.out.ints M1.out.ints).mono ?_
  rintro e w15 ⟨rfl, b⟩
  have SZ20 := Lib.hid (show w14.heap.size ≤ w15.heap.size from b.size)
  replace X0 := Lib.hid (X0.out.step b)
  replace Z0 := Lib.hid (Z0.out.keep (KeepS.of_below b _))
  replace YZ0 := Lib.hid (YZ0.out.step b)
  replace D0 := Lib.hid (D0.out.keep (KeepS.of_below b _))
  replace YD0 := Lib.hid (YD0.out.step b)
  replace D1 := Lib.hid (D1.out.keep (KeepS.of_below b _))
  replace G0 := Lib.hid (G0.out.keep (KeepS.of_below b _))
  replace YG0 := Lib.hid (YG0.out.step b)
  replace M1 := Lib.hid (M1.out.keep (KeepS.of_below b _))
  replace B := Lib.hid (B.out.trans (b.mono B.out.size))
  clear b
  clear M1
  have K0 : Hid ((0 : Int) ≤ 1 ∧ (1 : Int) ≤ 1) := Lib.hid ⟨by omega, by omega⟩
  obtain ⟨p00, p01, p02, p03⟩ := X0.out
  clear p03
  obtain ⟨p10, p11, p12⟩ := YZ0.out
  clear p12
  obtain ⟨p20, p21, p22, p23⟩ := YD0.out
  clear p23
  obtain ⟨p30, p31, p32⟩ := YG0.out
  clear p32
  go_wp2_with fail
  clear p00 p01 p02
  clear p10 p11
  clear p20 p21 p22
  clear p30 p31
  have KB := Lib.hid (And.intro (kTT_low (1) ⟨cs0, pl0, rs0⟩) (kTT_bound (1) HS0.out))
  refine (markT_f _ ⟨cs0, pl0, rs0⟩ _ (1) w15 D0.out (fun x hx => by have := hx.2; have o_SZ0 := SZ0.out; have o_GX0 := GX0.out; have o_SZ2 := SZ2.out; have o_SZ3 := SZ3.out; have o_SZ4 := SZ4.out; have o_SZ5 := SZ5.out; have o_SZ6 := SZ6.out; have o_GYZ0 := GYZ0.out; have o_SZ8 := SZ8.out; have o_SZ9 := SZ9.out; have o_GYD0 := GYD0.out; have o_SZ11 := SZ11.out; have o_SZ12 := SZ12.out; have o_SZ13 := SZ13.out; have o_GYG0 := GYG0.out; have o_SZ15 := SZ15.out; have o_SZ16 := SZ16.out; have o_SZ17 := SZ17.out; have o_SZ18 := SZ18.out; have o_SZ19 := SZ19.out; have o_SZ20 := SZ20.out; omega) (by have := K0.out; omega) (by have := K0.out; have := KB.out; omega)).mono ?_
  rintro e w16 ⟨rfl, _, o⟩
  clear D0
  have SZ21 := Lib.hid (show w15.heap.size ≤ w16.heap.size from o.size)
  replace X0 := Lib.hid (X0.out.keep (S := zone (w.heap.size) (w.heap.size + 1)) (o.keep (zone_apart (by have o_SZ0 := SZ0.out; have o_GX0 := GX0.out; have o_SZ2 := SZ2.out; have o_SZ3 := SZ3.out; have o_SZ4 := SZ4.out; have o_SZ5 := SZ5.out; have o_SZ6 := SZ6.out; have o_GYZ0 := GYZ0.out; have o_SZ8 := SZ8.out; have o_SZ9 := SZ9.out; have o_GYD0 := GYD0.out; have o_SZ11 := SZ11.out; have o_SZ12 := SZ12.out; have o_SZ13 := SZ13.out; have o_GYG0 := GYG0.out; have o_SZ15 := SZ15.out; have o_SZ16 := SZ16.out; have o_SZ17 := SZ17.out; have o_SZ18 := SZ18.out; have o_SZ19 := SZ19.out; have o_SZ20 := SZ20.out; have o_SZ21 := SZ21.out; omega))) ⟨Nat.le_refl _, Nat.lt_succ_self _⟩)
  replace Z0 := Lib.hid (Z0.out.keep (o.keep (zone_apart (by have o_SZ0 := SZ0.out; have o_GX0 := GX0.out; have o_SZ2 := SZ2.out; have o_SZ3 := SZ3.out; have o_SZ4 := SZ4.out; have o_SZ5 := SZ5.out; have o_SZ6 := SZ6.out; have o_GYZ0 := GYZ0.out; have o_SZ8 := SZ8.out; have o_SZ9 := SZ9.out; have o_GYD0 := GYD0.out; have o_SZ11 := SZ11.out; have o_SZ12 := SZ12.out; have o_SZ13 := SZ13.out; have o_GYG0 := GYG0.out; have o_SZ15 := SZ15.out; have o_SZ16 := SZ16.out; have o_SZ17 := SZ17.out; have o_SZ18 := SZ18.out; have o_SZ19 := SZ19.out; have o_SZ20 := SZ20.out; have o_SZ21 := SZ21.out; omega))))
  replace YZ0 := Lib.hid (YZ0.out.keep (S := zone (w5.heap.size) (w5.heap.size + 1)) (o.keep (zone_apart (by have o_SZ0 := SZ0.out; have o_GX0 := GX0.out; have o_SZ2 := SZ2.out; have o_SZ3 := SZ3.out; have o_SZ4 := SZ4.out; have o_SZ5 := SZ5.out; have o_SZ6 := SZ6.out; have o_GYZ0 := GYZ0.out; have o_SZ8 := SZ8.out; have o_SZ9 := SZ9.out; have o_GYD0 := GYD0.out; have o_SZ11 := SZ11.out; have o_SZ12 := SZ12.out; have o_SZ13 := SZ13.out; have o_GYG0 := GYG0.out; have o_SZ15 := SZ15.out; have o_SZ16 := SZ16.out; have o_SZ17 := SZ17.out; have o_SZ18 := SZ18.out; have o_SZ19 := SZ19.out; have o_SZ20 := SZ20.out; have o_SZ21 := SZ21.out; omega))) ⟨Nat.le_refl _, Nat.lt_succ_self _⟩)
  replace YD0 := Lib.hid (YD0.out.keep (S := zone (w7.heap.size) (w7.heap.size + 1)) (o.keep (zone_apart (by have o_SZ0 := SZ0.out; have o_GX0 := GX0.out; have o_SZ2 := SZ2.out; have o_SZ3 := SZ3.out; have o_SZ4 := SZ4.out; have o_SZ5 := SZ5.out; have o_SZ6 := SZ6.out; have o_GYZ0 := GYZ0.out; have o_SZ8 := SZ8.out; have o_SZ9 := SZ9.out; have o_GYD0 := GYD0.out; have o_SZ11 := SZ11.out; have o_SZ12 := SZ12.out; have o_SZ13 := SZ13.out; have o_GYG0 := GYG0.out; have o_SZ15 := SZ15.out; have o_SZ16 := SZ16.out; have o_SZ17 := SZ17.out; have o_SZ18 := SZ18.out; have o_SZ19 := SZ19.out; have o_SZ20 := SZ20.out; have o_SZ21 := SZ21.out; omega))) ⟨Nat.le_refl _, Nat.lt_succ_self _⟩)
  replace D1 := Lib.hid (D1.out.keep (o.keep (zone_apart (by have o_SZ0 := SZ0.out; have o_GX0 := GX0.out; have o_SZ2 := SZ2.out; have o_SZ3 := SZ3.out; have o_SZ4 := SZ4.out; have o_SZ5 := SZ5.out; have o_SZ6 := SZ6.out; have o_GYZ0 := GYZ0.out; have o_SZ8 := SZ8.out; have o_SZ9 := SZ9.out; have o_GYD0 := GYD0.out; have o_SZ11 := SZ11.out; have o_SZ12 := SZ12.out; have o_SZ13 := SZ13.out; have o_GYG0 := GYG0.out; have o_SZ15 := SZ15.out; have o_SZ16 := SZ16.out; have o_SZ17 := SZ17.out; have o_SZ18 := SZ18.out; have o_SZ19 := SZ19.out; have o_SZ20 := SZ20.out; have o_SZ21 := SZ21.out; omega))))
  replace G0 := Lib.hid (G0.out.keep (o.keep (zone_apart (by have o_SZ0 := SZ0.out; have o_GX0 := GX0.out; have o_SZ2 := SZ2.out; have o_SZ3 := SZ3.out; have o_SZ4 := SZ4.out; have o_SZ5 := SZ5.out; have o_SZ6 := SZ6.out; have o_GYZ0 := GYZ0.out; have o_SZ8 := SZ8.out; have o_SZ9 := SZ9.out; have o_GYD0 := GYD0.out; have o_SZ11 := SZ11.out; have o_SZ12 := SZ12.out; have o_SZ13 := SZ13.out; have o_GYG0 := GYG0.out; have o_SZ15 := SZ15.out; have o_SZ16 := SZ16.out; have o_SZ17 := SZ17.out; have o_SZ18 := SZ18.out; have o_SZ19 := SZ19.out; have o_SZ20 := SZ20.out; have o_SZ21 := SZ21.out; omega))))
  replace YG0 := Lib.hid (YG0.out.keep (S := zone (w10.heap.size) (w10.heap.size + 1)) (o.keep (zone_apart (by have o_SZ0 := SZ0.out; have o_GX0 := GX0.out; have o_SZ2 := SZ2.out; have o_SZ3 := SZ3.out; have o_SZ4 := SZ4.out; have o_SZ5 := SZ5.out; have o_SZ6 := SZ6.out; have o_GYZ0 := GYZ0.out; have o_SZ8 := SZ8.out; have o_SZ9 := SZ9.out; have o_GYD0 := GYD0.out; have o_SZ11 := SZ11.out; have o_SZ12 := SZ12.out; have o_SZ13 := SZ13.out; have o_GYG0 := GYG0.out; have o_SZ15 := SZ15.out; have o_SZ16 := SZ16.out; have o_SZ17 := SZ17.out; have o_SZ18 := SZ18.out; have o_SZ19 := SZ19.out; have o_SZ20 := SZ20.out; have o_SZ21 := SZ21.out; omega))) ⟨Nat.le_refl _, Nat.lt_succ_self _⟩)
  replace B := Lib.hid (B.out.trans (o.below (by have o_SZ0 := SZ0.out; have o_GX0 := GX0.out; have o_SZ2 := SZ2.out; have o_SZ3 := SZ3.out; have o_SZ4 := SZ4.out; have o_SZ5 := SZ5.out; have o_SZ6 := SZ6.out; have o_GYZ0 := GYZ0.out; have o_SZ8 := SZ8.out; have o_SZ9 := SZ9.out; have o_GYD0 := GYD0.out; have o_SZ11 := SZ11.out; have o_SZ12 := SZ12.out; have o_SZ13 := SZ13.out; have o_GYG0 := GYG0.out; have o_SZ15 := SZ15.out; have o_SZ16 := SZ16.out; have o_SZ17 := SZ17.out; have o_SZ18 := SZ18.out; have o_SZ19 := SZ19.out; have o_SZ20 := SZ20.out; have o_SZ21 := SZ21.out; omega) (fun k hk => by have := hk.1; have o_SZ0 := SZ0.out; have o_GX0 := GX0.out; have o_SZ2 := SZ2.out; have o_SZ3 := SZ3.out; have o_SZ4 := SZ4.out; have o_SZ5 := SZ5.out; have o_SZ6 := SZ6.out; have o_GYZ0 := GYZ0.out; have o_SZ8 := SZ8.out; have o_SZ9 := SZ9.out; have o_GYD0 := GYD0.out; have o_SZ11 := SZ11.out; have o_SZ12 := SZ12.out; have o_SZ13 := SZ13.out; have o_GYG0 := GYG0.out; have o_SZ15 := SZ15.out; have o_SZ16 := SZ16.out; have o_SZ17 := SZ17.out; have o_SZ18 := SZ18.out; have o_SZ19 := SZ19.out; have o_SZ20 := SZ20.out; have o_SZ21 := SZ21.out; omega)))
  clear o
  obtain ⟨kk1, hkk⟩ : ∃ kk, kTT (1) ⟨cs0, pl0, rs0⟩ = kk := ⟨_, rfl⟩
  have K1 : Hid ((0 : Int) ≤ kk1 ∧ kk1 ≤ 1 + 2305843009217888256) := Lib.hid (by have := K0.out; have := KB.out; rw [hkk] at this; simp only [] at this; omega)
  rw [hkk]
  clear hkk KB
  obtain ⟨p00, p01, p02, p03⟩ := X0.out
  clear p03
  obtain ⟨p10, p11, p12⟩ := YZ0.out
  clear p12
  obtain ⟨p20, p21, p22, p23⟩ := YD0.out
  clear p23
  obtain ⟨p30, p31, p32⟩ := YG0.out
  clear p32
  go_wp2_with fail
  clear p00 p01 p02
  clear p10 p11
  clear p20 p21 p22
  clear p30 p31
  refine (markI_f _ _ ns1 _ (kk1) w16 D1.out (by have := K1.out; omega) (by have := K1.out; have := HQ1.out; omega)).mono ?_
  rintro e w17 ⟨rfl, _, o⟩
  clear D1
  have SZ22 := Lib.hid (show w16.heap.size ≤ w17.heap.size from o.size)
  replace X0 := Lib.hid (X0.out.keep (S := zone (w.heap.size) (w.heap.size + 1)) (o.keep (zone_apart (by have o_SZ0 := SZ0.out; have o_GX0 := GX0.out; have o_SZ2 := SZ2.out; have o_SZ3 := SZ3.out; have o_SZ4 := SZ4.out; have o_SZ5 := SZ5.out; have o_SZ6 := SZ6.out; have o_GYZ0 := GYZ0.out; have o_SZ8 := SZ8.out; have o_SZ9 := SZ9.out; have o_GYD0 := GYD0.out; have o_SZ11 := SZ11.out; have o_SZ12 := SZ12.out; have o_SZ13 := SZ13.out; have o_GYG0 := GYG0.out; have o_SZ15 := SZ15.out; have o_SZ16 := SZ16.out; have o_SZ17 := SZ17.out; have o_SZ18 := SZ18.out; have o_SZ19 := SZ19.out; have o_SZ20 := SZ20.out; have o_SZ21 := SZ21.out; have o_SZ22 := SZ22.out; omega))) ⟨Nat.le_refl _, Nat.lt_succ_self _⟩)
  replace Z0 := Lib.hid (Z0.out.keep (o.keep (zone_apart (by have o_SZ0 := SZ0.out; have o_GX0 := GX0.out; have o_SZ2 := SZ2.out; have o_SZ3 := SZ3.out; have o_SZ4 := SZ4.out; have o_SZ5 := SZ5.out; have o_SZ6 := SZ6.out; have o_GYZ0 := GYZ0.out; have o_SZ8 := SZ8.out; have o_SZ9 := SZ9.out; have o_GYD0 := GYD0.out; have o_SZ11 := SZ11.out; have o_SZ12 := SZ12.out; have o_SZ13 := SZ13.out; have o_GYG0 := GYG0.out; have o_SZ15 := SZ15.out; have o_SZ16 := SZ16.out; have o_SZ17 := SZ17.out; have o_SZ18 := SZ18.out; have o_SZ19 := SZ19.out; have o_SZ20 := SZ20.out; have o_SZ21 := SZ21.out; have o_SZ22 := SZ22.out; omega))))
  replace YZ0 := Lib.hid (YZ0.out.keep (S := zone (w5.heap.size) (w5.heap.size + 1)) (o.keep (zone_apart (by have o_SZ0 := SZ0.out; have o_GX0 := GX0.out; have o_SZ2 := SZ2.out; have o_SZ3 := SZ3.out; have o_SZ4 := SZ4.out; have o_SZ5 := SZ5.out; have o_SZ6 := SZ6.out; have o_GYZ0 := GYZ0.out; have o_SZ8 := SZ8.out; have o_SZ9 := SZ9.out; have o_GYD0 := GYD0.out; have o_SZ11 := SZ11.out; have o_SZ12 := SZ12.out; have o_SZ13 := SZ13.out; have o_GYG0 := GYG0.out; have o_SZ15 := SZ15.out; have o_SZ16 := SZ16.out; have o_SZ17 := SZ17.out; have o_SZ18 := SZ18.out; have o_SZ19 := SZ19.out; have o_SZ20 := SZ20.out; have o_SZ21 := SZ21.out; have o_SZ22 := SZ22.out; omega))) ⟨Nat.le_refl _, Nat.lt_succ_self _⟩)
  replace YD0 := Lib.hid (YD0.out.keep (S := zone (w7.heap.size) (w7.heap.size + 1)) (o.keep (zone_apart (by have o_SZ0 := SZ0.out; have o_GX0 := GX0.out; have o_SZ2 := SZ2.out; have o_SZ3 := SZ3.out; have o_SZ4 := SZ4.out; have o_SZ5 := SZ5.out; have o_SZ6 := SZ6.out; have o_GYZ0 := GYZ0.out; have o_SZ8 := SZ8.out; have o_SZ9 := SZ9.out; have o_GYD0 := GYD0.out; have o_SZ11 := SZ11.out; have o_SZ12 := SZ12.out; have o_SZ13 := SZ13.out; have o_GYG0 := GYG0.out; have o_SZ15 := SZ15.out; have o_SZ16 := SZ16.out; have o_SZ17 := SZ17.out; have o_SZ18 := SZ18.out; have o_SZ19 := SZ19.out; have o_SZ20 := SZ20.out; have o_SZ21 := SZ21.out; have o_SZ22 := SZ22.out; omega))) ⟨Nat.le_refl _, Nat.lt_succ_self _⟩)
  replace G0 := Lib.hid (G0.out.keep (o.keep (zone_apart (by have o_SZ0 := SZ0.out; have o_GX0 := GX0.out; have o_SZ2 := SZ2.out; have o_SZ3 := SZ3.out; have o_SZ4 := SZ4.out; have o_SZ5 := SZ5.out; have o_SZ6 := SZ6.out; have o_GYZ0 := GYZ0.out; have o_SZ8 := SZ8.out; have o_SZ9 := SZ9.out; have o_GYD0 := GYD0.out; have o_SZ11 := SZ11.out; have o_SZ12 := SZ12.out; have o_SZ13 := SZ13.out; have o_GYG0 := GYG0.out; have o_SZ15 := SZ15.out; have o_SZ16 := SZ16.out; have o_SZ17 := SZ17.out; have o_SZ18 := SZ18.out; have o_SZ19 := SZ19.out; have o_SZ20 := SZ20.out; have o_SZ21 := SZ21.out; have o_SZ22 := SZ22.out; omega))))
  replace YG0 := Lib.hid (YG0.out.keep (S := zone (w10.heap.size) (w10.heap.size + 1)) (o.keep (zone_apart (by have o_SZ0 := SZ0.out; have o_GX0 := GX0.out; have o_SZ2 := SZ2.out; have o_SZ3 := SZ3.out; have o_SZ4 := SZ4.out; have o_SZ5 := SZ5.out; have o_SZ6 := SZ6.out; have o_GYZ0 := GYZ0.out; have o_SZ8 := SZ8.out; have o_SZ9 := SZ9.out; have o_GYD0 := GYD0.out; have o_SZ11 := SZ11.out; have o_SZ12 := SZ12.out; have o_SZ13 := SZ13.out; have o_GYG0 := GYG0.out; have o_SZ15 := SZ15.out; have o_SZ16 := SZ16.out; have o_SZ17 := SZ17.out; have o_SZ18 := SZ18.out; have o_SZ19 := SZ19.out; have o_SZ20 := SZ20.out; have o_SZ21 := SZ21.out; have o_SZ22 := SZ22.out; omega))) ⟨Nat.le_refl _, Nat.lt_succ_self _⟩)
  replace B := Lib.hid (B.out.trans (o.below (by have o_SZ0 := SZ0.out; have o_GX0 := GX0.out; have o_SZ2 := SZ2.out; have o_SZ3 := SZ3.out; have o_SZ4 := SZ4.out; have o_SZ5 := SZ5.out; have o_SZ6 := SZ6.out; have o_GYZ0 := GYZ0.out; have o_SZ8 := SZ8.out; have o_SZ9 := SZ9.out; have o_GYD0 := GYD0.out; have o_SZ11 := SZ11.out; have o_SZ12 := SZ12.out; have o_SZ13 := SZ13.out; have o_GYG0 := GYG0.out; have o_SZ15 := SZ15.out; have o_SZ16 := SZ16.out; have o_SZ17 := SZ17.out; have o_SZ18 := SZ18.out; have o_SZ19 := SZ19.out; have o_SZ20 := SZ20.out; have o_SZ21 := SZ21.out; have o_SZ22 := SZ22.out; omega) (fun k hk => by have := hk.1; have o_SZ0 := SZ0.out; have o_GX0 := GX0.out; have o_SZ2 := SZ2.out; have o_SZ3 := SZ3.out; have o_SZ4 := SZ4.out; have o_SZ5 := SZ5.out; have o_SZ6 := SZ6.out; have o_GYZ0 := GYZ0.out; have o_SZ8 := SZ8.out; have o_SZ9 := SZ9.out; have o_GYD0 := GYD0.out; have o_SZ11 := SZ11.out; have o_SZ12 := SZ12.out; have o_SZ13 := SZ13.out; have o_GYG0 := GYG0.out; have o_SZ15 := SZ15.out; have o_SZ16 := SZ16.out; have o_SZ17 := SZ17.out; have o_SZ18 := SZ18.out; have o_SZ19 := SZ19.out; have o_SZ20 := SZ20.out; have o_SZ21 := SZ21.out; have o_SZ22 := SZ22.out; omega)))
  clear o
  have K2 : Hid ((0 : Int) ≤ kk1 + (ns1.length : Int) ∧ kk1 + (ns1.length : Int) ≤ 1 + 2305843009217888256 + 2097152) := Lib.hid (by have := K1.out; have := HQ1.out; omega)
  have hkf : decide (kk1 + (ns1.length : Int) < 0) = false := decide_eq_false (by have := K2.out; omega)
  obtain ⟨p00, p01, p02, p03⟩ := X0.out
  clear p03
  obtain ⟨p10, p11, p12⟩ := YZ0.out
  clear p12
  obtain ⟨p20, p21, p22, p23⟩ := YD0.out
  clear p23
  obtain ⟨p30, p31, p32⟩ := YG0.out
  clear p32
  go_wp2_with fail
  clear p00 p01 p02
  clear p10 p11
  clear p20 p21 p22
  clear p30 p31
  refine (eqResult_same _ _ rv0 w17 ⟨_, _, rfl, G0.out.ints⟩ ⟨_, _, rfl, Z0.out.ints⟩).mono ?_
  rintro e w18 ⟨rfl, b⟩
  have SZ23 := Lib.hid (show w17.heap.size ≤ w18.heap.size from b.size)
  replace X0 := Lib.hid (X0.out.step b)
  replace Z0 := Lib.hid (Z0.out.keep (KeepS.of_below b _))
  replace YZ0 := Lib.hid (YZ0.out.step b)
  replace YD0 := Lib.hid (YD0.out.step b)
  replace G0 := Lib.hid (G0.out.keep (KeepS.of_below b _))
  replace YG0 := Lib.hid (YG0.out.step b)
  replace B := Lib.hid (B.out.trans (b.mono B.out.size))
  clear b
  obtain ⟨p00, p01, p02, p03⟩ := X0.out
  clear p03
  obtain ⟨p10, p11, p12⟩ := YZ0.out
  clear p12
  obtain ⟨p20, p21, p22, p23⟩ := YD0.out
  clear p23
  obtain ⟨p30, p31, p32⟩ := YG0.out
  clear p32
  go_wp2_with fail
  clear p00 p01 p02
  clear p10 p11
  clear p20 p21 p22
  clear p30 p31
  refine (markR_f _ rv0 _ (1) w18 ⟨_, _, rfl, G0.out⟩ (fun x hx => by have := hx.2; have o_SZ0 := SZ0.out; have o_GX0 := GX0.out; have o_SZ2 := SZ2.out; have o_SZ3 := SZ3.out; have o_SZ4 := SZ4.out; have o_SZ5 := SZ5.out; have o_SZ6 := SZ6.out; have o_GYZ0 := GYZ0.out; have o_SZ8 := SZ8.out; have o_SZ9 := SZ9.out; have o_GYD0 := GYD0.out; have o_SZ11 := SZ11.out; have o_SZ12 := SZ12.out; have o_SZ13 := SZ13.out; have o_GYG0 := GYG0.out; have o_SZ15 := SZ15.out; have o_SZ16 := SZ16.out; have o_SZ17 := SZ17.out; have o_SZ18 := SZ18.out; have o_SZ19 := SZ19.out; have o_SZ20 := SZ20.out; have o_SZ21 := SZ21.out; have o_SZ22 := SZ22.out; have o_SZ23 := SZ23.out; omega) (by omega) (by have := HB0.out; omega)).mono ?_
  rintro e w19 ⟨rfl, gm, o⟩
  clear G0
  have SZ24 := Lib.hid (show w18.heap.size ≤ w19.heap.size from o.size)
  replace X0 := Lib.hid (X0.out.keep (S := zone (w.heap.size) (w.heap.size + 1)) (o.keep (zone_apart (by have o_SZ0 := SZ0.out; have o_GX0 := GX0.out; have o_SZ2 := SZ2.out; have o_SZ3 := SZ3.out; have o_SZ4 := SZ4.out; have o_SZ5 := SZ5.out; have o_SZ6 := SZ6.out; have o_GYZ0 := GYZ0.out; have o_SZ8 := SZ8.out; have o_SZ9 := SZ9.out; have o_GYD0 := GYD0.out; have o_SZ11 := SZ11.out; have o_SZ12 := SZ12.out; have o_SZ13 := SZ13.out; have o_GYG0 := GYG0.out; have o_SZ15 := SZ15.out; have o_SZ16 := SZ16.out; have o_SZ17 := SZ17.out; have o_SZ18 := SZ18.out; have o_SZ19 := SZ19.out; have o_SZ20 := SZ20.out; have o_SZ21 := SZ21.out; have o_SZ22 := SZ22.out; have o_SZ23 := SZ23.out; have o_SZ24 := SZ24.out; omega))) ⟨Nat.le_refl _, Nat.lt_succ_self _⟩)
  replace Z0 := Lib.hid (Z0.out.keep (o.keep (zone_apart (by have o_SZ0 := SZ0.out; have o_GX0 := GX0.out; have o_SZ2 := SZ2.out; have o_SZ3 := SZ3.out; have o_SZ4 := SZ4.out; have o_SZ5 := SZ5.out; have o_SZ6 := SZ6.out; have o_GYZ0 := GYZ0.out; have o_SZ8 := SZ8.out; have o_SZ9 := SZ9.out; have o_GYD0 := GYD0.out; have o_SZ11 := SZ11.out; have o_SZ12 := SZ12.out; have o_SZ13 := SZ13.out; have o_GYG0 := GYG0.out; have o_SZ15 := SZ15.out; have o_SZ16 := SZ16.out; have o_SZ17 := SZ17.out; have o_SZ18 := SZ18.out; have o_SZ19 := SZ19.out; have o_SZ20 := SZ20.out; have o_SZ21 := SZ21.out; have o_SZ22 := SZ22.out; have o_SZ23 := SZ23.out; have o_SZ24 := SZ24.out; omega))))
  replace YZ0 := Lib.hid (YZ0.out.keep (S := zone (w5.heap.size) (w5.heap.size + 1)) (o.keep (zone_apart (by have o_SZ0 := SZ0.out; have o_GX0 := GX0.out; have o_SZ2 := SZ2.out; have o_SZ3 := SZ3.out; have o_SZ4 := SZ4.out; have o_SZ5 := SZ5.out; have o_SZ6 := SZ6.out; have o_GYZ0 := GYZ0.out; have o_SZ8 := SZ8.out; have o_SZ9 := SZ9.out; have o_GYD0 := GYD0.out; have o_SZ11 := SZ11.out; have o_SZ12 := SZ12.out; have o_SZ13 := SZ13.out; have o_GYG0 := GYG0.out; have o_SZ15 := SZ15.out; have o_SZ16 := SZ16.out; have o_SZ17 := SZ17.out; have o_SZ18 := SZ18.out; have o_SZ19 := SZ19.out; have o_SZ20 := SZ20.out; have o_SZ21 := SZ21.out; have o_SZ22 := SZ22.out; have o_SZ23 := SZ23.out; have o_SZ24 := SZ24.out; omega))) ⟨Nat.le_refl _, Nat.lt_succ_self _⟩)
  replace YD0 := Lib.hid (YD0.out.keep (S := zone (w7.heap.size) (w7.heap.size + 1)) (o.keep (zone_apart (by have o_SZ0 := SZ0.out; have o_GX0 := GX0.out; have o_SZ2 := SZ2.out; have o_SZ3 := SZ3.out; have o_SZ4 := SZ4.out; have o_SZ5 := SZ5.out; have o_SZ6 := SZ6.out; have o_GYZ0 := GYZ0.out; have o_SZ8 := SZ8.out; have o_SZ9 := SZ9.out; have o_GYD0 := GYD0.out; have o_SZ11 := SZ11.out; have o_SZ12 := SZ12.out; have o_SZ13 := SZ13.out; have o_GYG0 := GYG0.out; have o_SZ15 := SZ15.out; have o_SZ16 := SZ16.out; have o_SZ17 := SZ17.out; have o_SZ18 := SZ18.out; have o_SZ19 := SZ19.out; have o_SZ20 := SZ20.out; have o_SZ21 := SZ21.out; have o_SZ22 := SZ22.out; have o_SZ23 := SZ23.out; have o_SZ24 := SZ24.out; omega))) ⟨Nat.le_refl _, Nat.lt_succ_self _⟩)
  replace YG0 := Lib.hid (YG0.out.keep (S := zone (w10.heap.size) (w10.heap.size + 1)) (o.keep (zone_apart (by have o_SZ0 := SZ0.out; have o_GX0 := GX0.out; have o_SZ2 := SZ2.out; have o_SZ3 := SZ3.out; have o_SZ4 := SZ4.out; have o_SZ5 := SZ5.out; have o_SZ6 := SZ6.out; have o_GYZ0 := GYZ0.out; have o_SZ8 := SZ8.out; have o_SZ9 := SZ9.out; have o_GYD0 := GYD0.out; have o_SZ11 := SZ11.out; have o_SZ12 := SZ12.out; have o_SZ13 := SZ13.out; have o_GYG0 := GYG0.out; have o_SZ15 := SZ15.out; have o_SZ16 := SZ16.out; have o_SZ17 := SZ17.out; have o_SZ18 := SZ18.out; have o_SZ19 := SZ19.out; have o_SZ20 := SZ20.out; have o_SZ21 := SZ21.out; have o_SZ22 := SZ22.out; have o_SZ23 := SZ23.out; have o_SZ24 := SZ24.out; omega))) ⟨Nat.le_refl _, Nat.lt_succ_self _⟩)
  replace B := Lib.hid (B.out.trans (o.below (by have o_SZ0 := SZ0.out; have o_GX0 := GX0.out; have o_SZ2 := SZ2.out; have o_SZ3 := SZ3.out; have o_SZ4 := SZ4.out; have o_SZ5 := SZ5.out; have o_SZ6 := SZ6.out; have o_GYZ0 := GYZ0.out; have o_SZ8 := SZ8.out; have o_SZ9 := SZ9.out; have o_GYD0 := GYD0.out; have o_SZ11 := SZ11.out; have o_SZ12 := SZ12.out; have o_SZ13 := SZ13.out; have o_GYG0 := GYG0.out; have o_SZ15 := SZ15.out; have o_SZ16 := SZ16.out; have o_SZ17 := SZ17.out; have o_SZ18 := SZ18.out; have o_SZ19 := SZ19.out; have o_SZ20 := SZ20.out; have o_SZ21 := SZ21.out; have o_SZ22 := SZ22.out; have o_SZ23 := SZ23.out; have o_SZ24 := SZ24.out; omega) (fun k hk => by have := hk.1; have o_SZ0 := SZ0.out; have o_GX0 := GX0.out; have o_SZ2 := SZ2.out; have o_SZ3 := SZ3.out; have o_SZ4 := SZ4.out; have o_SZ5 := SZ5.out; have o_SZ6 := SZ6.out; have o_GYZ0 := GYZ0.out; have o_SZ8 := SZ8.out; have o_SZ9 := SZ9.out; have o_GYD0 := GYD0.out; have o_SZ11 := SZ11.out; have o_SZ12 := SZ12.out; have o_SZ13 := SZ13.out; have o_GYG0 := GYG0.out; have o_SZ15 := SZ15.out; have o_SZ16 := SZ16.out; have o_SZ17 := SZ17.out; have o_SZ18 := SZ18.out; have o_SZ19 := SZ19.out; have o_SZ20 := SZ20.out; have o_SZ21 := SZ21.out; have o_SZ22 := SZ22.out; have o_SZ23 := SZ23.out; have o_SZ24 := SZ24.out; omega)))
  clear o
  have P0 := Lib.hid gm
  clear gm
  have hq0 : decide (1 + (rv0.2.length : Int) < 0) = false := decide_eq_false (by omega)
  have hq1 : ((1 + (rv0.2.length : Int)) != (1 + (rv0.2.length : Int))) = false := by simp
  obtain ⟨p00, p01, p02, p03⟩ := X0.out
  clear p03
  obtain ⟨p10, p11, p12⟩ := YZ0.out
  clear p12
  obtain ⟨p20, p21, p22, p23⟩ := YD0.out
  clear p23
  obtain ⟨p30, p31, p32⟩ := YG0.out
  clear p32
  go_wp2_with fail
  clear p00 p01 p02
  clear p10 p11
  clear p20 p21 p22
  clear p30 p31
  refine (heldR_f _ rv0 1 w19 P0.out.at (by omega) (by have := HB0.out; omega)).mono ?_
  rintro e w20 ⟨rfl, b⟩
  have SZ25 := Lib.hid (show w19.heap.size ≤ w20.heap.size from b.size)
  replace X0 := Lib.hid (X0.out.step b)
  replace Z0 := Lib.hid (Z0.out.keep (KeepS.of_below b _))
  replace YZ0 := Lib.hid (YZ0.out.step b)
  replace YD0 := Lib.hid (YD0.out.step b)
  replace YG0 := Lib.hid (YG0.out.step b)
  replace P0 := Lib.hid (P0.out.keep (KeepS.of_below b _))
  replace B := Lib.hid (B.out.trans (b.mono B.out.size))
  clear b
  obtain ⟨p00, p01, p02, p03⟩ := X0.out
  clear p03
  obtain ⟨p10, p11, p12⟩ := YZ0.out
  clear p12
  obtain ⟨p20, p21, p22, p23⟩ := YD0.out
  clear p23
  obtain ⟨p30, p31, p32⟩ := YG0.out
  clear p32
  go_wp2_with fail
  clear p00 p01 p02
  clear p10 p11
  clear p20 p21 p22
  clear p30 p31
  refine (toTable_f _ ⟨cs0, pl0, rs0⟩ w20 ((HT0.out.below B.out).mono B.out.size) HS0.out).mono ?_
  rintro e w21 ⟨y_N0, rfl, hy, b⟩
  have SZ26 := Lib.hid (show w20.heap.size ≤ w21.heap.size from b.size)
  replace X0 := Lib.hid (X0.out.step b)
  replace Z0 := Lib.hid (Z0.out.keep (KeepS.of_below b _))
  replace YZ0 := Lib.hid (YZ0.out.step b)
  replace YD0 := Lib.hid (YD0.out.step b)
  replace YG0 := Lib.hid (YG0.out.step b)
  replace P0 := Lib.hid (P0.out.keep (KeepS.of_below b _))
  replace B := Lib.hid (B.out.trans (b.mono B.out.size))
  have N0 := Lib.hid hy
  clear b hy
  obtain ⟨p00, p01, p02, p03⟩ := X0.out
  clear p03
  obtain ⟨p10, p11, p12⟩ := YZ0.out
  clear p12
  obtain ⟨p20, p21, p22, p23⟩ := YD0.out
  clear p23
  obtain ⟨p30, p31, p32⟩ := YG0.out
  clear p32
  go_wp2_with fail
  clear p00 p01 p02
  clear p10 p11
  clear p20 p21 p22
  clear p30 p31
  refine (toIntS_any _ _ ns1 w21 ((HT1.out.below B.out).mono B.out.size) HQ1.out).mono ?_
  rintro e w22 ⟨rfl, ro, oo, b⟩
  have SZ27 := Lib.hid (show w21.heap.size ≤ w22.heap.size from b.size)
  replace X0 := Lib.hid (X0.out.step b)
  replace Z0 := Lib.hid (Z0.out.keep (KeepS.of_below b _))
  replace YZ0 := Lib.hid (YZ0.out.step b)
  replace YD0 := Lib.hid (YD0.out.step b)
  replace YG0 := Lib.hid (YG0.out.step b)
  replace P0 := Lib.hid (P0.out.keep (KeepS.of_below b _))
  replace N0 := Lib.hid (N0.out.keep (KeepS.of_below b _))
  replace B := Lib.hid (B.out.trans (b.mono B.out.size))
  have N1 := Lib.hid (IntF.copy ro oo HT1.out.1 HQ1.out)
  clear b ro oo
  obtain ⟨p00, p01, p02, p03⟩ := X0.out
  clear p03
  obtain ⟨p10, p11, p12⟩ := YZ0.out
  clear p12
  obtain ⟨p20, p21, p22, p23⟩ := YD0.out
  clear p23
  obtain ⟨p30, p31, p32⟩ := YG0.out
  clear p32
  go_wp2_with fail
  clear p00 p01 p02
  clear p10 p11
  clear p20 p21 p22
  clear p30 p31
  refine (implDcd_any z1 z2 z3 _ ⟨cs0, pl0, rs0⟩ _ _ ns1 w22 (E.out.step B.out) N0.out.at N1.out.ints).mono ?_
  rw [HV0.out]
  rintro e w23 ⟨A_H0, c_H0, rfl, oo, b⟩
  have SZ28 := Lib.hid (show w22.heap.size ≤ w23.heap.size from b.size)
  replace X0 := Lib.hid (X0.out.step b)
  replace Z0 := Lib.hid (Z0.out.keep (KeepS.of_below b _))
  replace YZ0 := Lib.hid (YZ0.out.step b)
  replace YD0 := Lib.hid (YD0.out.step b)
  replace YG0 := Lib.hid (YG0.out.step b)
  replace P0 := Lib.hid (P0.out.keep (KeepS.of_below b _))
  replace N0 := Lib.hid (N0.out.keep (KeepS.of_below b _))
  replace N1 := Lib.hid (N1.out.keep (KeepS.of_below b _))
  replace B := Lib.hid (B.out.trans (b.mono B.out.size))
  have H0 := Lib.hid (IntF.of_own oo)
  clear b oo
  have bz : Below w23.heap.size w23 (w23.alloc (.cells #[.int .i64 rv0.1, .slice A_H0 rv0.2.length c_H0] 29)) := (Below.refl _ _).alloc (Nat.le_refl _) _
  have SZ29 := Lib.hid (show w23.heap.size ≤ (w23.alloc (.cells #[.int .i64 rv0.1, .slice A_H0 rv0.2.length c_H0] 29)).heap.size from bz.size)
  replace X0 := Lib.hid (X0.out.step bz)
  replace Z0 := Lib.hid (Z0.out.keep (KeepS.of_below bz _))
  replace YZ0 := Lib.hid (YZ0.out.step bz)
  replace YD0 := Lib.hid (YD0.out.step bz)
  replace YG0 := Lib.hid (YG0.out.step bz)
  replace P0 := Lib.hid (P0.out.keep (KeepS.of_below bz _))
  replace N0 := Lib.hid (N0.out.keep (KeepS.of_below bz _))
  replace N1 := Lib.hid (N1.out.keep (KeepS.of_below bz _))
  replace H0 := Lib.hid (H0.out.keep (KeepS.of_below bz _))
  replace B := Lib.hid (B.out.trans (bz.mono B.out.size))
  have YH0 : Hid (RBox (w23.alloc (.cells #[.int .i64 rv0.1, .slice A_H0 rv0.2.length c_H0] 29)) w23.heap.size rv0.1 A_H0 rv0.2.length c_H0) := Lib.hid (RBox.made _ _ _ _ _ _)
  clear bz
  have GYH0 := Lib.hid (show w23.heap.size < (w23.alloc (.cells #[.int .i64 rv0.1, .slice A_H0 rv0.2.length c_H0] 29)).heap.size from YH0.out.2.2)
  clear N0
  clear N1
  obtain ⟨p00, p01, p02, p03⟩ := X0.out
  clear p03
  obtain ⟨p10, p11, p12⟩ := YZ0.out
  clear p12
  obtain ⟨p20, p21, p22, p23⟩ := YD0.out
  clear p23
  obtain ⟨p30, p31, p32⟩ := YG0.out
  clear p32
  obtain ⟨p40, p41, p42⟩ := YH0.out
  clear p42
  go_wp2_with fail
  clear p00 p01 p02
  clear p10 p11
  clear p20 p21 p22
  clear p30 p31
  clear p40 p41
  generalize (w23.alloc (.cells #[.int .i64 rv0.1, .slice A_H0 rv0.2.length c_H0] 29)) = w24 at X0 Z0 YZ0 YD0 YG0 P0 H0 YH0 SZ0 GX0 SZ2 SZ3 SZ4 SZ5 SZ6 GYZ0 SZ8 SZ9 GYD0 SZ11 SZ12 SZ13 GYG0 SZ15 SZ16 SZ17 SZ18 SZ19 SZ20 SZ21 SZ22 SZ23 SZ24 SZ25 SZ26 SZ27 SZ28 SZ29 GYH0 B ⊢
  refine (eqResult_same _ _ rv0 w24 ⟨_, _, rfl, H0.out.ints⟩ ⟨_, _, rfl, Z0.out.ints⟩).mono ?_
  rintro e w25 ⟨rfl, b⟩
  have SZ31 := Lib.hid (show w24.heap.size ≤ w25.heap.size from b.size)
  replace X0 := Lib.hid (X0.out.step b)
  replace Z0 := Lib.hid (Z0.out.keep (KeepS.of_below b _))
  replace YZ0 := Lib.hid (YZ0.out.step b)
  replace YD0 := Lib.hid (YD0.out.step b)
  replace YG0 := Lib.hid (YG0.out.step b)
  replace P0 := Lib.hid (P0.out.keep (KeepS.of_below b _))
  replace H0 := Lib.hid (H0.out.keep (KeepS.of_below b _))
  replace YH0 := Lib.hid (YH0.out.step b)
  replace B := Lib.hid (B.out.trans (b.mono B.out.size))
  clear b
  obtain ⟨p00, p01, p02, p03⟩ := X0.out
  clear p03
  obtain ⟨p10, p11, p12⟩ := YZ0.out
  clear p12
  obtain ⟨p20, p21, p22, p23⟩ := YD0.out
  clear p23
  obtain ⟨p30, p31, p32⟩ := YG0.out
  clear p32
  obtain ⟨p40, p41, p42⟩ := YH0.out
  clear p42
  go_wp2_with fail
  clear p00 p01 p02
  clear p10 p11
  clear p20 p21 p22
  clear p30 p31
  clear p40 p41
  refine (heldR_f _ rv0 1 w25 P0.out.at (by omega) (by have := HB0.out; omega)).mono ?_
  rintro e w26 ⟨rfl, b⟩
  have SZ32 := Lib.hid (show w25.heap.size ≤ w26.heap.size from b.size)
  replace X0 := Lib.hid (X0.out.step b)
  replace Z0 := Lib.hid (Z0.out.keep (KeepS.of_below b _))
  replace YZ0 := Lib.hid (YZ0.out.step b)
  replace YD0 := Lib.hid (YD0.out.step b)
  replace YG0 := Lib.hid (YG0.out.step b)
  replace P0 := Lib.hid (P0.out.keep (KeepS.of_below b _))
  replace H0 := Lib.hid (H0.out.keep (KeepS.of_below b _))
  replace YH0 := Lib.hid (YH0.out.step b)
  replace B := Lib.hid (B.out.trans (b.mono B.out.size))
  clear b
  obtain ⟨p00, p01, p02, p03⟩ := X0.out
  clear p03
  obtain ⟨p10, p11, p12⟩ := YZ0.out
  clear p12
  obtain ⟨p20, p21, p22, p23⟩ := YD0.out
  clear p23
  obtain ⟨p30, p31, p32⟩ := YG0.out
  clear p32
  obtain ⟨p40, p41, p42⟩ := YH0.out
  clear p42
  go_wp2
  go_ret
  exact ⟨rfl, B.out⟩
end Go.Proofs.YtamfmemdhldmjaaGreatDoor
