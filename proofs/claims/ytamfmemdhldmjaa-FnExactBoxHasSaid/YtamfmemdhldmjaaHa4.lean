/-
  The walk of FnExactBoxHas: whatever the arguments, the law holds.
-/
import Derived.Test.YtamfmemdhldmjaaBb
import Derived.Test.YtamfmemdhldmjaaFaM
import Derived.Deep.RegionHeld3
namespace Go.Proofs.Ytamfmemdhldmjaa
open Go.RowKit Sets

set_option maxRecDepth 100000 in
set_option maxHeartbeats 4000000 in
theorem exactBoxHas_walk (A0 : Option Addr) (c0 : Nat) (xs0 : List Sp) (A1 : Option Addr) (c1 : Nat) (ns1 : List Int) (w : World) (h0 : Reads w w.heap.size A0 c0 xs0) (h1 : IntsAt w w.heap.size A1 c1 ns1) :
    Calls Try.prog 11 #[.slice A0 xs0.length c0, .slice A1 ns1.length c1] w fun e w' => e = .returned (.bool true) ∧ Below w.heap.size w w' := by
  have HT0 := Lib.hid h0
  have lc0 := h0.2.1
  have ll0 := h0.1
  have HZ0 := Lib.hid (show xs0.length ≤ 9223372036854775807 by omega)
  have HF0 := Lib.hid h0.2.2.1
  clear h0 lc0 ll0
  have HT1 := Lib.hid h1
  clear h1
  have B := Lib.hid (Below.refl w.heap.size w)
  by_cases hn1 : 1048576 < ns1.length
  · have hq1 : (1048576 : Int) < (ns1.length : Int) := by omega
    go_enter Try.func11, Try.ntmps11
    go_wp2
    go_ret
    exact ⟨rfl, B.out⟩
  have HQ1 := Lib.hid (show ns1.length ≤ 1048576 by omega)
  have hq1 : decide ((1048576 : Int) < (ns1.length : Int)) = false := decide_eq_false (by omega)
  clear hn1
  go_enter Try.func11, Try.ntmps11
  go_wp2_with fail
  refine (szSpanS_any _ xs0.length _ (1048576) _ HZ0.out (by omega) (by omega)).mono ?_
  rintro e w1 ⟨rfl, rfl⟩
  by_cases hr0 : (1048576) < (xs0.length : Int)
  · rw [if_pos hr0]
    go_wp2
    go_ret
    exact ⟨rfl, B.out⟩
  rw [if_neg hr0]
  have hr0' : 0 ≤ 1048576 - (xs0.length : Int) := by omega
  have HS0 := Lib.hid (show xs0.length ≤ 1048576 by omega)
  have hd0 : decide (1048576 - (xs0.length : Int) < 0) = false := decide_eq_false (by omega)
  go_wp2_with fail
  refine (toSpanS_any _ _ xs0 w ((HT0.out.below B.out).mono B.out.size) HS0.out).mono ?_
  rintro e w2 ⟨rfl, ro, oo, b⟩
  have SZ0 := Lib.hid (show w.heap.size ≤ w2.heap.size from b.size)
  replace B := Lib.hid (B.out.trans (b.mono B.out.size))
  have C0 := Lib.hid (SpanF.of_copy ro oo HF0.out HS0.out)
  clear b ro oo
  go_wp2_with fail
  refine (toIntS_any _ _ ns1 w2 ((HT1.out.below B.out).mono B.out.size) HQ1.out).mono ?_
  rintro e w3 ⟨rfl, ro, oo, b⟩
  have SZ1 := Lib.hid (show w2.heap.size ≤ w3.heap.size from b.size)
  replace C0 := Lib.hid (C0.out.keep (KeepS.of_below b _))
  replace B := Lib.hid (B.out.trans (b.mono B.out.size))
  have C1 := Lib.hid (IntF.copy ro oo HT1.out.1 HQ1.out)
  clear b ro oo
  go_wp2_with fail
  refine (specBH_any _ _ xs0 _ _ ns1 w3 C0.out.reads C1.out.ints).mono ?_
  obtain ⟨rv0, hrv0⟩ : ∃ rv, bhsV xs0 ns1 = rv := ⟨_, rfl⟩
  have HV0 := Lib.hid hrv0
  rw [hrv0]
  clear hrv0
  rintro e w4 ⟨rfl, b⟩
  have SZ2 := Lib.hid (show w3.heap.size ≤ w4.heap.size from b.size)
  replace C0 := Lib.hid (C0.out.keep (KeepS.of_below b _))
  replace C1 := Lib.hid (C1.out.keep (KeepS.of_below b _))
  replace B := Lib.hid (B.out.trans (b.mono B.out.size))
  clear b
  clear C0
  clear C1
  go_wp2_with fail
  refine (toSpanS_any _ _ xs0 w4 ((HT0.out.below B.out).mono B.out.size) HS0.out).mono ?_
  rintro e w5 ⟨rfl, ro, oo, b⟩
  have SZ3 := Lib.hid (show w4.heap.size ≤ w5.heap.size from b.size)
  replace B := Lib.hid (B.out.trans (b.mono B.out.size))
  have D0 := Lib.hid (SpanF.of_copy ro oo HF0.out HS0.out)
  clear b ro oo
  go_wp2_with fail
  refine (toIntS_any _ _ ns1 w5 ((HT1.out.below B.out).mono B.out.size) HQ1.out).mono ?_
  rintro e w6 ⟨rfl, ro, oo, b⟩
  have SZ4 := Lib.hid (show w5.heap.size ≤ w6.heap.size from b.size)
  replace D0 := Lib.hid (D0.out.keep (KeepS.of_below b _))
  replace B := Lib.hid (B.out.trans (b.mono B.out.size))
  have D1 := Lib.hid (IntF.copy ro oo HT1.out.1 HQ1.out)
  clear b ro oo
  go_wp2_with fail
  have htt0 : (rv0 != rv0) = false := by simp
  refine (implBH_any _ _ xs0 _ _ ns1 w6 D0.out.reads D1.out.ints).mono ?_
  rw [HV0.out]
  rintro e w7 ⟨rfl, b⟩
  have SZ5 := Lib.hid (show w6.heap.size ≤ w7.heap.size from b.size)
  replace D0 := Lib.hid (D0.out.keep (KeepS.of_below b _))
  replace D1 := Lib.hid (D1.out.keep (KeepS.of_below b _))
  replace B := Lib.hid (B.out.trans (b.mono B.out.size))
  clear b
  go_wp2_with fail
  refine (toSpanS_any _ _ xs0 w7 ((HT0.out.below B.out).mono B.out.size) HS0.out).mono ?_
  rintro e w8 ⟨rfl, ro, oo, b⟩
  have SZ6 := Lib.hid (show w7.heap.size ≤ w8.heap.size from b.size)
  replace D0 := Lib.hid (D0.out.keep (KeepS.of_below b _))
  replace D1 := Lib.hid (D1.out.keep (KeepS.of_below b _))
  replace B := Lib.hid (B.out.trans (b.mono B.out.size))
  have M0 := Lib.hid (SpanF.of_copy ro oo HF0.out HS0.out)
  clear b ro oo
  go_wp2_with fail
  refine (eqSpanS_any _ _ _ _ xs0 xs0 w8 D0.out.reads M0.out.reads).mono ?_
  rw [(same_iff xs0 xs0).2 rfl]
  rintro e w9 ⟨rfl, b⟩
  have SZ7 := Lib.hid (show w8.heap.size ≤ w9.heap.size from b.size)
  replace D0 := Lib.hid (D0.out.keep (KeepS.of_below b _))
  replace D1 := Lib.hid (D1.out.keep (KeepS.of_below b _))
  replace M0 := Lib.hid (M0.out.keep (KeepS.of_below b _))
  replace B := Lib.hid (B.out.trans (b.mono B.out.size))
  clear b
  clear M0
  go_wp2_with fail
  refine (toIntS_any _ _ ns1 w9 ((HT1.out.below B.out).mono B.out.size) HQ1.out).mono ?_
  rintro e w10 ⟨rfl, ro, oo, b⟩
  have SZ8 := Lib.hid (show w9.heap.size ≤ w10.heap.size from b.size)
  replace D0 := Lib.hid (D0.out.keep (KeepS.of_below b _))
  replace D1 := Lib.hid (D1.out.keep (KeepS.of_below b _))
  replace B := Lib.hid (B.out.trans (b.mono B.out.size))
  have M1 := Lib.hid (IntF.copy ro oo HT1.out.1 HQ1.out)
  clear b ro oo
  go_wp2_with fail
  refine (eqIntS_same _ _ _ _ ns1 w10 D1.out.ints M1.out.ints).mono ?_
  rintro e w11 ⟨rfl, b⟩
  have SZ9 := Lib.hid (show w10.heap.size ≤ w11.heap.size from b.size)
  replace D0 := Lib.hid (D0.out.keep (KeepS.of_below b _))
  replace D1 := Lib.hid (D1.out.keep (KeepS.of_below b _))
  replace M1 := Lib.hid (M1.out.keep (KeepS.of_below b _))
  replace B := Lib.hid (B.out.trans (b.mono B.out.size))
  clear b
  clear M1
  go_wp2
  go_ret
  exact ⟨rfl, B.out⟩
end Go.Proofs.Ytamfmemdhldmjaa
