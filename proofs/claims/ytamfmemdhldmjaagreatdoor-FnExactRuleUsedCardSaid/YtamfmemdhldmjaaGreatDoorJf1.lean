/-
  The walk of FnExactRuleUsed: whatever the arguments, the law holds.
-/
import Derived.Test.YtamfmemdhldmjaaGreatDoorJf
import Derived.Test.YtamfmemdhldmjaaGreatDoorFaM
import Derived.Test.YtamfmemdhldmjaaGreatDoorWt
import Derived.Deep.RegionHeld3
namespace Go.Proofs.YtamfmemdhldmjaaGreatDoor
open Go.RowKit Sets

set_option maxRecDepth 100000 in
set_option maxHeartbeats 4000000 in
theorem exactRuleUsed_walk (v0 : Value) (t0 : Tb) (a1 : Int) (A2 : Option Addr) (c2 : Nat) (ns2 : List Int) (w : World) (h0 : TabAt w w.heap.size v0 t0)  (h2 : IntsAt w w.heap.size A2 c2 ns2) (z1 z2 z3 : Addr) (hE : EndsIs w z1 z2 z3) :
    Calls Tryz.prog 4 #[v0, .int .i64 a1, .slice A2 ns2.length c2] w fun e w' => e = .returned (.bool true) ∧ Below w.heap.size w w' := by
  have E := Lib.hid hE
  clear hE
  have HT0 := Lib.hid h0
  obtain ⟨E0, f0, Gg0, l0, rfl, hC0, hR0⟩ := h0
  clear hC0 hR0
  obtain ⟨cs0, pl0, rs0⟩ := t0
  have HT2 := Lib.hid h2
  clear h2
  simp only [] at HT0 ⊢
  have B := Lib.hid (Below.refl w.heap.size w)
  have bx0 : Below w.heap.size w (w.alloc (.cells #[.slice E0 cs0.length f0, .int .i64 pl0, .slice Gg0 rs0.length l0] 25)) := (Below.refl _ _).alloc (Nat.le_refl _) _
  have X0 : Hid (TBox (w.alloc (.cells #[.slice E0 cs0.length f0, .int .i64 pl0, .slice Gg0 rs0.length l0] 25)) (w.heap.size) E0 cs0.length f0 pl0 Gg0 rs0.length l0) := Lib.hid (TBox.made _ _ _ _ _ _ _ _ _)
  have SZ0 := Lib.hid (show w.heap.size ≤ (w.alloc (.cells #[.slice E0 cs0.length f0, .int .i64 pl0, .slice Gg0 rs0.length l0] 25)).heap.size from bx0.size)
  replace B := Lib.hid (B.out.trans (bx0.mono B.out.size))
  clear bx0
  have GX0 := Lib.hid (show w.heap.size < (w.alloc (.cells #[.slice E0 cs0.length f0, .int .i64 pl0, .slice Gg0 rs0.length l0] 25)).heap.size from X0.out.2.2.2)
  by_cases hn2 : 1048576 < ns2.length
  · have hq2 : (1048576 : Int) < (ns2.length : Int) := by omega
    obtain ⟨p00, p01, p02, p03⟩ := X0.out
    clear p03
    go_enter Tryz.func4, Tryz.ntmps4
    go_wp2
    go_ret
    exact ⟨rfl, B.out⟩
  have HQ2 := Lib.hid (show ns2.length ≤ 1048576 by omega)
  have hq2 : decide ((1048576 : Int) < (ns2.length : Int)) = false := decide_eq_false (by omega)
  clear hn2
  obtain ⟨p00, p01, p02, p03⟩ := X0.out
  clear p03
  go_enter Tryz.func4, Tryz.ntmps4
  go_wp2_with fail
  clear p00 p01 p02
  generalize (w.alloc (.cells #[.slice E0 cs0.length f0, .int .i64 pl0, .slice Gg0 rs0.length l0] 25)) = w1 at X0 SZ0 GX0 B ⊢
  refine (szTable_any _ ⟨cs0, pl0, rs0⟩ (1048576) w1 ((HT0.out.below B.out).mono B.out.size) (by omega) (by omega)).mono ?_
  rintro e w2 ⟨r0, rfl, ra0, rb0, rc0, b⟩
  have SZ2 := Lib.hid (show w1.heap.size ≤ w2.heap.size from b.size)
  replace X0 := Lib.hid (X0.out.step b)
  replace B := Lib.hid (B.out.trans (b.mono B.out.size))
  clear b
  by_cases hr0 : r0 < 0
  · clear ra0 rb0 rc0
    obtain ⟨p00, p01, p02, p03⟩ := X0.out
    clear p03
    go_wp2
    go_ret
    exact ⟨rfl, B.out⟩
  have hr0' : 0 ≤ r0 := by omega
  have HS0 := Lib.hid (rc0 hr0')
  clear rc0 hr0
  obtain ⟨p00, p01, p02, p03⟩ := X0.out
  clear p03
  go_wp2_with fail
  clear p00 p01 p02
  refine (toTable_f _ ⟨cs0, pl0, rs0⟩ w2 ((HT0.out.below B.out).mono B.out.size) HS0.out).mono ?_
  rintro e w3 ⟨y_C0, rfl, hy, b⟩
  have SZ3 := Lib.hid (show w2.heap.size ≤ w3.heap.size from b.size)
  replace X0 := Lib.hid (X0.out.step b)
  replace B := Lib.hid (B.out.trans (b.mono B.out.size))
  have C0 := Lib.hid hy
  clear b hy
  obtain ⟨p00, p01, p02, p03⟩ := X0.out
  clear p03
  go_wp2_with fail
  clear p00 p01 p02
  refine (toIntS_any _ _ ns2 w3 ((HT2.out.below B.out).mono B.out.size) HQ2.out).mono ?_
  rintro e w4 ⟨rfl, ro, oo, b⟩
  have SZ4 := Lib.hid (show w3.heap.size ≤ w4.heap.size from b.size)
  replace X0 := Lib.hid (X0.out.step b)
  replace C0 := Lib.hid (C0.out.keep (KeepS.of_below b _))
  replace B := Lib.hid (B.out.trans (b.mono B.out.size))
  have C2 := Lib.hid (IntF.copy ro oo HT2.out.1 HQ2.out)
  clear b ro oo
  obtain ⟨p00, p01, p02, p03⟩ := X0.out
  clear p03
  go_wp2_with fail
  clear p00 p01 p02
  refine (specRU_any _ ⟨cs0, pl0, rs0⟩ a1 _ _ ns2 w4 C0.out.at C2.out.ints).mono ?_
  obtain ⟨rv0, hrv0⟩ : ∃ rv, ruV ⟨cs0, pl0, rs0⟩ a1 ns2 = rv := ⟨_, rfl⟩
  have HV0 := Lib.hid hrv0
  rw [hrv0]
  clear hrv0
  rintro e w5 ⟨rfl, b⟩
  have SZ5 := Lib.hid (show w4.heap.size ≤ w5.heap.size from b.size)
  replace X0 := Lib.hid (X0.out.step b)
  replace C0 := Lib.hid (C0.out.keep (KeepS.of_below b _))
  replace C2 := Lib.hid (C2.out.keep (KeepS.of_below b _))
  replace B := Lib.hid (B.out.trans (b.mono B.out.size))
  clear b
  clear C0
  clear C2
  obtain ⟨p00, p01, p02, p03⟩ := X0.out
  clear p03
  go_wp2_with fail
  clear p00 p01 p02
  refine (toTable_f _ ⟨cs0, pl0, rs0⟩ w5 ((HT0.out.below B.out).mono B.out.size) HS0.out).mono ?_
  rintro e w6 ⟨y_D0, rfl, hy, b⟩
  have SZ6 := Lib.hid (show w5.heap.size ≤ w6.heap.size from b.size)
  replace X0 := Lib.hid (X0.out.step b)
  replace B := Lib.hid (B.out.trans (b.mono B.out.size))
  have D0 := Lib.hid hy
  clear b hy
  obtain ⟨Q0, q0, S0, s0, hv, hz⟩ := D0.out.at
  clear hz
  simp only [] at hv
  subst hv
  have bz : Below w6.heap.size w6 (w6.alloc (.cells #[.slice Q0 cs0.length q0, .int .i64 pl0, .slice S0 rs0.length s0] 34)) := (Below.refl _ _).alloc (Nat.le_refl _) _
  have SZ7 := Lib.hid (show w6.heap.size ≤ (w6.alloc (.cells #[.slice Q0 cs0.length q0, .int .i64 pl0, .slice S0 rs0.length s0] 34)).heap.size from bz.size)
  replace X0 := Lib.hid (X0.out.step bz)
  replace D0 := Lib.hid (D0.out.keep (KeepS.of_below bz _))
  replace B := Lib.hid (B.out.trans (bz.mono B.out.size))
  have YD0 : Hid (TBox (w6.alloc (.cells #[.slice Q0 cs0.length q0, .int .i64 pl0, .slice S0 rs0.length s0] 34)) w6.heap.size Q0 cs0.length q0 pl0 S0 rs0.length s0) := Lib.hid (TBox.made _ _ _ _ _ _ _ _ _)
  clear bz
  have GYD0 := Lib.hid (show w6.heap.size < (w6.alloc (.cells #[.slice Q0 cs0.length q0, .int .i64 pl0, .slice S0 rs0.length s0] 34)).heap.size from YD0.out.2.2.2)
  obtain ⟨p00, p01, p02, p03⟩ := X0.out
  clear p03
  obtain ⟨p10, p11, p12, p13⟩ := YD0.out
  clear p13
  go_wp2_with fail
  clear p00 p01 p02
  clear p10 p11 p12
  generalize (w6.alloc (.cells #[.slice Q0 cs0.length q0, .int .i64 pl0, .slice S0 rs0.length s0] 34)) = w7 at X0 D0 YD0 SZ0 GX0 SZ2 SZ3 SZ4 SZ5 SZ6 SZ7 GYD0 B ⊢
  refine (toIntS_any _ _ ns2 w7 ((HT2.out.below B.out).mono B.out.size) HQ2.out).mono ?_
  rintro e w8 ⟨rfl, ro, oo, b⟩
  have SZ9 := Lib.hid (show w7.heap.size ≤ w8.heap.size from b.size)
  replace X0 := Lib.hid (X0.out.step b)
  replace D0 := Lib.hid (D0.out.keep (KeepS.of_below b _))
  replace YD0 := Lib.hid (YD0.out.step b)
  replace B := Lib.hid (B.out.trans (b.mono B.out.size))
  have D2 := Lib.hid (IntF.copy ro oo HT2.out.1 HQ2.out)
  clear b ro oo
  obtain ⟨p00, p01, p02, p03⟩ := X0.out
  clear p03
  obtain ⟨p10, p11, p12, p13⟩ := YD0.out
  clear p13
  go_wp2_with fail
  clear p00 p01 p02
  clear p10 p11 p12
  have htt0 : (rv0 != rv0) = false := by simp
  refine (implRU_any z1 z2 z3 _ ⟨cs0, pl0, rs0⟩ a1 _ _ ns2 w8 (E.out.step B.out) D0.out.at D2.out.ints).mono ?_
  rw [HV0.out]
  rintro e w9 ⟨rfl, b⟩
  have SZ10 := Lib.hid (show w8.heap.size ≤ w9.heap.size from b.size)
  replace X0 := Lib.hid (X0.out.step b)
  replace D0 := Lib.hid (D0.out.keep (KeepS.of_below b _))
  replace YD0 := Lib.hid (YD0.out.step b)
  replace D2 := Lib.hid (D2.out.keep (KeepS.of_below b _))
  replace B := Lib.hid (B.out.trans (b.mono B.out.size))
  clear b
  have bd : Below w9.heap.size w9 w9.drew := (Below.refl _ _).drew
  have SZ11 := Lib.hid (show w9.heap.size ≤ w9.drew.heap.size from bd.size)
  replace X0 := Lib.hid (X0.out.step bd)
  replace D0 := Lib.hid (D0.out.keep (KeepS.of_below bd _))
  replace YD0 := Lib.hid (YD0.out.step bd)
  replace D2 := Lib.hid (D2.out.keep (KeepS.of_below bd _))
  replace B := Lib.hid (B.out.trans (bd.mono B.out.size))
  clear bd
  obtain ⟨y0, y1, y2, y3⟩ := X0.out
  obtain ⟨x0, x1, x2, x3⟩ := YD0.out
  have HZY := Lib.hid y3
  have HZX := Lib.hid x3
  clear y3 x3
  go_upto_region 13 with fail
  go_region_held3 (fun w' => (w'.cell? ⟨w6.heap.size, 0, none⟩ = some (.slice Q0 cs0.length q0) ∧ w'.cell? ⟨w6.heap.size, 1, none⟩ = some (.int .i64 pl0) ∧ w'.cell? ⟨w6.heap.size, 2, none⟩ = some (.slice S0 rs0.length s0)) ∧ w'.cell? ⟨w.heap.size, 0, none⟩ = some (.slice E0 cs0.length f0) ∧ w'.cell? ⟨w.heap.size, 1, none⟩ = some (.int .i64 pl0) ∧ w'.cell? ⟨w.heap.size, 2, none⟩ = some (.slice Gg0 rs0.length l0)) (first | exact ⟨⟨x0, x1, x2⟩, y0, y1, y2⟩ | exact ⟨⟨(Below.cell b8 (p := ⟨w6.heap.size, 0, none⟩) HZX7.out).trans x0, (Below.cell b8 (p := ⟨w6.heap.size, 1, none⟩) HZX7.out).trans x1, (Below.cell b8 (p := ⟨w6.heap.size, 2, none⟩) HZX7.out).trans x2⟩, (Below.cell b8 (p := ⟨w.heap.size, 0, none⟩) HZY7.out).trans y0, (Below.cell b8 (p := ⟨w.heap.size, 1, none⟩) HZY7.out).trans y1, (Below.cell b8 (p := ⟨w.heap.size, 2, none⟩) HZY7.out).trans y2⟩) (first
    | (go_at_call 7; refine (toTable_f _ ⟨cs0, pl0, rs0⟩ _ ((HT0.out.below B.out).mono B.out.size) HS0.out).mono ?_; rintro e w70 ⟨v7, rfl, h7, b7⟩; have H7 := Lib.hid h7; have X0 := Lib.hid (X0.out.step b7); have D0 := Lib.hid (D0.out.keep (KeepS.of_below b7 _)); have YD0 := Lib.hid (YD0.out.step b7); have D2 := Lib.hid (D2.out.keep (KeepS.of_below b7 _)); have SZ12 := Lib.hid (show w9.drew.heap.size ≤ w70.heap.size from b7.size); have B := Lib.hid (B.out.trans (b7.mono B.out.size)); have x0 : w70.cell? ⟨w6.heap.size, 0, none⟩ = some (.slice Q0 cs0.length q0) := (b7.cell (p := ⟨w6.heap.size, 0, none⟩) HZX.out).trans x0; have x1 : w70.cell? ⟨w6.heap.size, 1, none⟩ = some (.int .i64 pl0) := (b7.cell (p := ⟨w6.heap.size, 1, none⟩) HZX.out).trans x1; have x2 : w70.cell? ⟨w6.heap.size, 2, none⟩ = some (.slice S0 rs0.length s0) := (b7.cell (p := ⟨w6.heap.size, 2, none⟩) HZX.out).trans x2; have y0 : w70.cell? ⟨w.heap.size, 0, none⟩ = some (.slice E0 cs0.length f0) := (b7.cell (p := ⟨w.heap.size, 0, none⟩) HZY.out).trans y0; have y1 : w70.cell? ⟨w.heap.size, 1, none⟩ = some (.int .i64 pl0) := (b7.cell (p := ⟨w.heap.size, 1, none⟩) HZY.out).trans y1; have y2 : w70.cell? ⟨w.heap.size, 2, none⟩ = some (.slice Gg0 rs0.length l0) := (b7.cell (p := ⟨w.heap.size, 2, none⟩) HZY.out).trans y2; have HZX7 := Lib.hid (Nat.lt_of_lt_of_le HZX.out b7.size); have HZY7 := Lib.hid (Nat.lt_of_lt_of_le HZY.out b7.size); clear h7 b7)
    | (go_at_call 11; refine (eqTable_same _ _ ⟨cs0, pl0, rs0⟩ _ D0.out.at H7.out.at).mono ?_; rintro e w80 ⟨rfl, b8⟩; have B8 := Lib.hid b8))
  clear x0 y0 x1 y1 x2 y2 HZX HZY HZX7 HZY7 H7
  have SZ13 := Lib.hid (show w70.heap.size ≤ w80.heap.size from B8.out.size)
  replace X0 := Lib.hid (X0.out.step B8.out)
  replace D0 := Lib.hid (D0.out.keep (KeepS.of_below B8.out _))
  replace YD0 := Lib.hid (YD0.out.step B8.out)
  replace D2 := Lib.hid (D2.out.keep (KeepS.of_below B8.out _))
  replace B := Lib.hid (B.out.trans (B8.out.mono B.out.size))
  clear B8
  obtain ⟨p00, p01, p02, p03⟩ := X0.out
  clear p03
  obtain ⟨p10, p11, p12, p13⟩ := YD0.out
  clear p13
  go_wp2_with fail
  clear p00 p01 p02
  clear p10 p11 p12
  refine (toIntS_any _ _ ns2 w80 ((HT2.out.below B.out).mono B.out.size) HQ2.out).mono ?_
  rintro e w11 ⟨rfl, ro, oo, b⟩
  have SZ14 := Lib.hid (show w80.heap.size ≤ w11.heap.size from b.size)
  replace X0 := Lib.hid (X0.out.step b)
  replace D0 := Lib.hid (D0.out.keep (KeepS.of_below b _))
  replace YD0 := Lib.hid (YD0.out.step b)
  replace D2 := Lib.hid (D2.out.keep (KeepS.of_below b _))
  replace B := Lib.hid (B.out.trans (b.mono B.out.size))
  have M2 := Lib.hid (IntF.copy ro oo HT2.out.1 HQ2.out)
  clear b ro oo
  obtain ⟨p00, p01, p02, p03⟩ := X0.out
  clear p03
  obtain ⟨p10, p11, p12, p13⟩ := YD0.out
  clear p13
  go_wp2_with fail
  clear p00 p01 p02
  clear p10 p11 p12
  refine (eqIntS_same _ _ _ _ ns2 w11 D2.out.ints M2.out.ints).mono ?_
  rintro e w12 ⟨rfl, b⟩
  have SZ15 := Lib.hid (show w11.heap.size ≤ w12.heap.size from b.size)
  replace X0 := Lib.hid (X0.out.step b)
  replace D0 := Lib.hid (D0.out.keep (KeepS.of_below b _))
  replace YD0 := Lib.hid (YD0.out.step b)
  replace D2 := Lib.hid (D2.out.keep (KeepS.of_below b _))
  replace M2 := Lib.hid (M2.out.keep (KeepS.of_below b _))
  replace B := Lib.hid (B.out.trans (b.mono B.out.size))
  clear b
  clear M2
  obtain ⟨p00, p01, p02, p03⟩ := X0.out
  clear p03
  obtain ⟨p10, p11, p12, p13⟩ := YD0.out
  clear p13
  go_wp2
  go_ret
  exact ⟨rfl, B.out⟩
end Go.Proofs.YtamfmemdhldmjaaGreatDoor
