/-
  The walk of FnExactBoxFirst: whatever the arguments, the law holds.
-/
import Derived.Test.YtamfmemdhldmjaaBb
import Derived.Test.YtamfmemdhldmjaaFaM
import Derived.Deep.RegionHeld3
namespace Go.Proofs.Ytamfmemdhldmjaa
open Go.RowKit Sets

set_option maxRecDepth 100000 in
set_option maxHeartbeats 4000000 in
theorem exactBoxFirst_walk (A0 : Option Addr) (c0 : Nat) (xs0 : List Sp) (w : World) (h0 : Reads w w.heap.size A0 c0 xs0) :
    Calls Try.prog 10 #[.slice A0 xs0.length c0] w fun e w' => e = .returned (.bool true) ∧ Below w.heap.size w w' := by
  have HT0 := Lib.hid h0
  have lc0 := h0.2.1
  have ll0 := h0.1
  have HZ0 := Lib.hid (show xs0.length ≤ 9223372036854775807 by omega)
  have HF0 := Lib.hid h0.2.2.1
  clear h0 lc0 ll0
  have B := Lib.hid (Below.refl w.heap.size w)
  go_enter Try.func10, Try.ntmps10
  go_wp2_with fail
  refine (szSpanS_any _ xs0.length _ (1048576) _ HZ0.out (by omega) (by omega)).mono ?_
  rintro e w1 ⟨rfl, rfl⟩
  by_cases hr0 : (1048576) < (xs0.length : Int)
  · rw [if_pos hr0]
    go_wp2
    go_ret
    exact ⟨rfl, B.out⟩
  rw [if_neg hr0]
  have hr0' : 0 ≤ 1048576 - (xs0.length : Int) := by omega
  have HS0 := Lib.hid (show xs0.length ≤ 1048576 by omega)
  have hd0 : decide (1048576 - (xs0.length : Int) < 0) = false := decide_eq_false (by omega)
  go_wp2_with fail
  refine (toSpanS_any _ _ xs0 w ((HT0.out.below B.out).mono B.out.size) HS0.out).mono ?_
  rintro e w2 ⟨rfl, ro, oo, b⟩
  have SZ0 := Lib.hid (show w.heap.size ≤ w2.heap.size from b.size)
  replace B := Lib.hid (B.out.trans (b.mono B.out.size))
  have C0 := Lib.hid (SpanF.of_copy ro oo HF0.out HS0.out)
  clear b ro oo
  go_wp2_with fail
  refine (specBF_any _ _ xs0 w2 C0.out.reads).mono ?_
  obtain ⟨rv0, hrv0⟩ : ∃ rv, bfsV xs0 = rv := ⟨_, rfl⟩
  have HB0 := Lib.hid (show rv0.length ≤ 1048576 by rw [← hrv0]; exact bfs_small)
  have HV0 := Lib.hid hrv0
  obtain ⟨rv1, hrv1⟩ : ∃ rv, boxB xs0 = rv := ⟨_, rfl⟩
  have HV1 := Lib.hid hrv1
  rw [hrv0, hrv1]
  clear hrv0 hrv1
  rintro e w3 ⟨A_Z0, c_Z0, rfl, oo, b⟩
  have SZ1 := Lib.hid (show w2.heap.size ≤ w3.heap.size from b.size)
  replace C0 := Lib.hid (C0.out.keep (KeepS.of_below b _))
  replace B := Lib.hid (B.out.trans (b.mono B.out.size))
  have Z0 := Lib.hid (IntF.of_own oo)
  clear b oo
  clear C0
  go_wp2_with fail
  refine (toSpanS_any _ _ xs0 w3 ((HT0.out.below B.out).mono B.out.size) HS0.out).mono ?_
  rintro e w4 ⟨rfl, ro, oo, b⟩
  have SZ2 := Lib.hid (show w3.heap.size ≤ w4.heap.size from b.size)
  replace Z0 := Lib.hid (Z0.out.keep (KeepS.of_below b _))
  replace B := Lib.hid (B.out.trans (b.mono B.out.size))
  have D0 := Lib.hid (SpanF.of_copy ro oo HF0.out HS0.out)
  clear b ro oo
  go_wp2_with fail
  have htt1 : (rv1 != rv1) = false := by simp
  refine (implBF_any _ _ xs0 w4 D0.out.reads).mono ?_
  rw [HV0.out, HV1.out]
  rintro e w5 ⟨A_G0, c_G0, rfl, oo, b⟩
  have SZ3 := Lib.hid (show w4.heap.size ≤ w5.heap.size from b.size)
  replace Z0 := Lib.hid (Z0.out.keep (KeepS.of_below b _))
  replace D0 := Lib.hid (D0.out.keep (KeepS.of_below b _))
  replace B := Lib.hid (B.out.trans (b.mono B.out.size))
  have G0 := Lib.hid (IntF.of_own oo)
  clear b oo
  go_wp2_with fail
  refine (eqIntS_same _ _ _ _ rv0 w5 G0.out.ints Z0.out.ints).mono ?_
  rintro e w6 ⟨rfl, b⟩
  have SZ4 := Lib.hid (show w5.heap.size ≤ w6.heap.size from b.size)
  replace Z0 := Lib.hid (Z0.out.keep (KeepS.of_below b _))
  replace D0 := Lib.hid (D0.out.keep (KeepS.of_below b _))
  replace G0 := Lib.hid (G0.out.keep (KeepS.of_below b _))
  replace B := Lib.hid (B.out.trans (b.mono B.out.size))
  clear b
  go_wp2_with fail
  refine (toSpanS_any _ _ xs0 w6 ((HT0.out.below B.out).mono B.out.size) HS0.out).mono ?_
  rintro e w7 ⟨rfl, ro, oo, b⟩
  have SZ5 := Lib.hid (show w6.heap.size ≤ w7.heap.size from b.size)
  replace Z0 := Lib.hid (Z0.out.keep (KeepS.of_below b _))
  replace D0 := Lib.hid (D0.out.keep (KeepS.of_below b _))
  replace G0 := Lib.hid (G0.out.keep (KeepS.of_below b _))
  replace B := Lib.hid (B.out.trans (b.mono B.out.size))
  have M0 := Lib.hid (SpanF.of_copy ro oo HF0.out HS0.out)
  clear b ro oo
  go_wp2_with fail
  refine (eqSpanS_any _ _ _ _ xs0 xs0 w7 D0.out.reads M0.out.reads).mono ?_
  rw [(same_iff xs0 xs0).2 rfl]
  rintro e w8 ⟨rfl, b⟩
  have SZ6 := Lib.hid (show w7.heap.size ≤ w8.heap.size from b.size)
  replace Z0 := Lib.hid (Z0.out.keep (KeepS.of_below b _))
  replace D0 := Lib.hid (D0.out.keep (KeepS.of_below b _))
  replace G0 := Lib.hid (G0.out.keep (KeepS.of_below b _))
  replace M0 := Lib.hid (M0.out.keep (KeepS.of_below b _))
  replace B := Lib.hid (B.out.trans (b.mono B.out.size))
  clear b
  clear M0
  have K0 : Hid ((0 : Int) ≤ 1 ∧ (1 : Int) ≤ 1) := Lib.hid ⟨by omega, by omega⟩
  go_wp2_with fail
  refine (markS_f _ _ xs0 _ (1) w8 D0.out (by have := K0.out; omega) (by have := K0.out; have := HS0.out; omega)).mono ?_
  rintro e w9 ⟨rfl, _, o⟩
  clear D0
  have SZ7 := Lib.hid (show w8.heap.size ≤ w9.heap.size from o.size)
  replace Z0 := Lib.hid (Z0.out.keep (o.keep (zone_apart (by have o_SZ0 := SZ0.out; have o_SZ1 := SZ1.out; have o_SZ2 := SZ2.out; have o_SZ3 := SZ3.out; have o_SZ4 := SZ4.out; have o_SZ5 := SZ5.out; have o_SZ6 := SZ6.out; have o_SZ7 := SZ7.out; omega))))
  replace G0 := Lib.hid (G0.out.keep (o.keep (zone_apart (by have o_SZ0 := SZ0.out; have o_SZ1 := SZ1.out; have o_SZ2 := SZ2.out; have o_SZ3 := SZ3.out; have o_SZ4 := SZ4.out; have o_SZ5 := SZ5.out; have o_SZ6 := SZ6.out; have o_SZ7 := SZ7.out; omega))))
  replace B := Lib.hid (B.out.trans (o.below (by have o_SZ0 := SZ0.out; have o_SZ1 := SZ1.out; have o_SZ2 := SZ2.out; have o_SZ3 := SZ3.out; have o_SZ4 := SZ4.out; have o_SZ5 := SZ5.out; have o_SZ6 := SZ6.out; have o_SZ7 := SZ7.out; omega) (fun k hk => by have := hk.1; have o_SZ0 := SZ0.out; have o_SZ1 := SZ1.out; have o_SZ2 := SZ2.out; have o_SZ3 := SZ3.out; have o_SZ4 := SZ4.out; have o_SZ5 := SZ5.out; have o_SZ6 := SZ6.out; have o_SZ7 := SZ7.out; omega)))
  clear o
  have K1 : Hid ((0 : Int) ≤ 1 + 2 * (xs0.length : Int) ∧ 1 + 2 * (xs0.length : Int) ≤ 1 + 2097152) := Lib.hid (by have := K0.out; have := HS0.out; omega)
  have hkf : decide (1 + 2 * (xs0.length : Int) < 0) = false := decide_eq_false (by have := K1.out; omega)
  go_wp2_with fail
  refine (eqIntS_same _ _ _ _ rv0 w9 G0.out.ints Z0.out.ints).mono ?_
  rintro e w10 ⟨rfl, b⟩
  have SZ8 := Lib.hid (show w9.heap.size ≤ w10.heap.size from b.size)
  replace Z0 := Lib.hid (Z0.out.keep (KeepS.of_below b _))
  replace G0 := Lib.hid (G0.out.keep (KeepS.of_below b _))
  replace B := Lib.hid (B.out.trans (b.mono B.out.size))
  clear b
  go_wp2_with fail
  refine (markI_f _ _ rv0 _ (1) w10 G0.out (by omega) (by have := HB0.out; omega)).mono ?_
  rintro e w11 ⟨rfl, gm, o⟩
  clear G0
  have SZ9 := Lib.hid (show w10.heap.size ≤ w11.heap.size from o.size)
  replace Z0 := Lib.hid (Z0.out.keep (o.keep (zone_apart (by have o_SZ0 := SZ0.out; have o_SZ1 := SZ1.out; have o_SZ2 := SZ2.out; have o_SZ3 := SZ3.out; have o_SZ4 := SZ4.out; have o_SZ5 := SZ5.out; have o_SZ6 := SZ6.out; have o_SZ7 := SZ7.out; have o_SZ8 := SZ8.out; have o_SZ9 := SZ9.out; omega))))
  replace B := Lib.hid (B.out.trans (o.below (by have o_SZ0 := SZ0.out; have o_SZ1 := SZ1.out; have o_SZ2 := SZ2.out; have o_SZ3 := SZ3.out; have o_SZ4 := SZ4.out; have o_SZ5 := SZ5.out; have o_SZ6 := SZ6.out; have o_SZ7 := SZ7.out; have o_SZ8 := SZ8.out; have o_SZ9 := SZ9.out; omega) (fun k hk => by have := hk.1; have o_SZ0 := SZ0.out; have o_SZ1 := SZ1.out; have o_SZ2 := SZ2.out; have o_SZ3 := SZ3.out; have o_SZ4 := SZ4.out; have o_SZ5 := SZ5.out; have o_SZ6 := SZ6.out; have o_SZ7 := SZ7.out; have o_SZ8 := SZ8.out; have o_SZ9 := SZ9.out; omega)))
  clear o
  have P0 := Lib.hid gm
  clear gm
  have hq0 : decide (1 + (rv0.length : Int) < 0) = false := decide_eq_false (by omega)
  have hq1 : ((1 + (rv0.length : Int)) != (1 + (rv0.length : Int))) = false := by simp
  go_wp2_with fail
  refine (heldI_f _ _ rv0.length 1 w11 P0.out.ints (by omega) (by have := HB0.out; omega)).mono ?_
  rintro e w12 ⟨rfl, b⟩
  have SZ10 := Lib.hid (show w11.heap.size ≤ w12.heap.size from b.size)
  replace Z0 := Lib.hid (Z0.out.keep (KeepS.of_below b _))
  replace P0 := Lib.hid (P0.out.keep (KeepS.of_below b _))
  replace B := Lib.hid (B.out.trans (b.mono B.out.size))
  clear b
  go_wp2_with fail
  refine (toSpanS_any _ _ xs0 w12 ((HT0.out.below B.out).mono B.out.size) HS0.out).mono ?_
  rintro e w13 ⟨rfl, ro, oo, b⟩
  have SZ11 := Lib.hid (show w12.heap.size ≤ w13.heap.size from b.size)
  replace Z0 := Lib.hid (Z0.out.keep (KeepS.of_below b _))
  replace P0 := Lib.hid (P0.out.keep (KeepS.of_below b _))
  replace B := Lib.hid (B.out.trans (b.mono B.out.size))
  have N0 := Lib.hid (SpanF.of_copy ro oo HF0.out HS0.out)
  clear b ro oo
  go_wp2_with fail
  refine (implBF_any _ _ xs0 w13 N0.out.reads).mono ?_
  rw [HV0.out, HV1.out]
  rintro e w14 ⟨A_H0, c_H0, rfl, oo, b⟩
  have SZ12 := Lib.hid (show w13.heap.size ≤ w14.heap.size from b.size)
  replace Z0 := Lib.hid (Z0.out.keep (KeepS.of_below b _))
  replace P0 := Lib.hid (P0.out.keep (KeepS.of_below b _))
  replace N0 := Lib.hid (N0.out.keep (KeepS.of_below b _))
  replace B := Lib.hid (B.out.trans (b.mono B.out.size))
  have H0 := Lib.hid (IntF.of_own oo)
  clear b oo
  clear N0
  go_wp2_with fail
  refine (eqIntS_same _ _ _ _ rv0 w14 H0.out.ints Z0.out.ints).mono ?_
  rintro e w15 ⟨rfl, b⟩
  have SZ13 := Lib.hid (show w14.heap.size ≤ w15.heap.size from b.size)
  replace Z0 := Lib.hid (Z0.out.keep (KeepS.of_below b _))
  replace P0 := Lib.hid (P0.out.keep (KeepS.of_below b _))
  replace H0 := Lib.hid (H0.out.keep (KeepS.of_below b _))
  replace B := Lib.hid (B.out.trans (b.mono B.out.size))
  clear b
  go_wp2_with fail
  refine (heldI_f _ _ rv0.length 1 w15 P0.out.ints (by omega) (by have := HB0.out; omega)).mono ?_
  rintro e w16 ⟨rfl, b⟩
  have SZ14 := Lib.hid (show w15.heap.size ≤ w16.heap.size from b.size)
  replace Z0 := Lib.hid (Z0.out.keep (KeepS.of_below b _))
  replace P0 := Lib.hid (P0.out.keep (KeepS.of_below b _))
  replace H0 := Lib.hid (H0.out.keep (KeepS.of_below b _))
  replace B := Lib.hid (B.out.trans (b.mono B.out.size))
  clear b
  go_wp2
  go_ret
  exact ⟨rfl, B.out⟩
end Go.Proofs.Ytamfmemdhldmjaa
