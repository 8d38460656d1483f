/-
  The walk of FnExactBoxSize: whatever the arguments, the law holds.
-/
import Derived.Test.YtamfmemdhldmjaaBb
import Derived.Test.YtamfmemdhldmjaaFaM
import Derived.Deep.RegionHeld3
namespace Go.Proofs.Ytamfmemdhldmjaa
open Go.RowKit Sets

set_option maxRecDepth 100000 in
set_option maxHeartbeats 4000000 in
theorem exactBoxSize_walk (A0 : Option Addr) (c0 : Nat) (xs0 : List Sp) (w : World) (h0 : Reads w w.heap.size A0 c0 xs0) :
    Calls Try.prog 9 #[.slice A0 xs0.length c0] w fun e w' => e = .returned (.bool true) ∧ Below w.heap.size w w' := by
  have HT0 := Lib.hid h0
  have lc0 := h0.2.1
  have ll0 := h0.1
  have HZ0 := Lib.hid (show xs0.length ≤ 9223372036854775807 by omega)
  have HF0 := Lib.hid h0.2.2.1
  clear h0 lc0 ll0
  have B := Lib.hid (Below.refl w.heap.size w)
  go_enter Try.func9, Try.ntmps9
  go_wp2_with fail
  refine (szSpanS_any _ xs0.length _ (1048576) _ HZ0.out (by omega) (by omega)).mono ?_
  rintro e w1 ⟨rfl, rfl⟩
  by_cases hr0 : (1048576) < (xs0.length : Int)
  · rw [if_pos hr0]
    go_wp2
    go_ret
    exact ⟨rfl, B.out⟩
  rw [if_neg hr0]
  have hr0' : 0 ≤ 1048576 - (xs0.length : Int) := by omega
  have HS0 := Lib.hid (show xs0.length ≤ 1048576 by omega)
  have hd0 : decide (1048576 - (xs0.length : Int) < 0) = false := decide_eq_false (by omega)
  go_wp2_with fail
  refine (toSpanS_any _ _ xs0 w ((HT0.out.below B.out).mono B.out.size) HS0.out).mono ?_
  rintro e w2 ⟨rfl, ro, oo, b⟩
  have SZ0 := Lib.hid (show w.heap.size ≤ w2.heap.size from b.size)
  replace B := Lib.hid (B.out.trans (b.mono B.out.size))
  have C0 := Lib.hid (SpanF.of_copy ro oo HF0.out HS0.out)
  clear b ro oo
  go_wp2_with fail
  refine (specBSz_any _ _ xs0 w2 C0.out.reads).mono ?_
  obtain ⟨rv0, hrv0⟩ : ∃ rv, bszV xs0 = rv := ⟨_, rfl⟩
  have HV0 := Lib.hid hrv0
  rw [hrv0]
  clear hrv0
  rintro e w3 ⟨rfl, b⟩
  have SZ1 := Lib.hid (show w2.heap.size ≤ w3.heap.size from b.size)
  replace C0 := Lib.hid (C0.out.keep (KeepS.of_below b _))
  replace B := Lib.hid (B.out.trans (b.mono B.out.size))
  clear b
  clear C0
  go_wp2_with fail
  refine (toSpanS_any _ _ xs0 w3 ((HT0.out.below B.out).mono B.out.size) HS0.out).mono ?_
  rintro e w4 ⟨rfl, ro, oo, b⟩
  have SZ2 := Lib.hid (show w3.heap.size ≤ w4.heap.size from b.size)
  replace B := Lib.hid (B.out.trans (b.mono B.out.size))
  have D0 := Lib.hid (SpanF.of_copy ro oo HF0.out HS0.out)
  clear b ro oo
  go_wp2_with fail
  have htt0 : (rv0 != rv0) = false := by simp
  refine (implBSz_any _ _ xs0 w4 D0.out.reads).mono ?_
  rw [HV0.out]
  rintro e w5 ⟨rfl, b⟩
  have SZ3 := Lib.hid (show w4.heap.size ≤ w5.heap.size from b.size)
  replace D0 := Lib.hid (D0.out.keep (KeepS.of_below b _))
  replace B := Lib.hid (B.out.trans (b.mono B.out.size))
  clear b
  go_wp2_with fail
  refine (toSpanS_any _ _ xs0 w5 ((HT0.out.below B.out).mono B.out.size) HS0.out).mono ?_
  rintro e w6 ⟨rfl, ro, oo, b⟩
  have SZ4 := Lib.hid (show w5.heap.size ≤ w6.heap.size from b.size)
  replace D0 := Lib.hid (D0.out.keep (KeepS.of_below b _))
  replace B := Lib.hid (B.out.trans (b.mono B.out.size))
  have M0 := Lib.hid (SpanF.of_copy ro oo HF0.out HS0.out)
  clear b ro oo
  go_wp2_with fail
  refine (eqSpanS_any _ _ _ _ xs0 xs0 w6 D0.out.reads M0.out.reads).mono ?_
  rw [(same_iff xs0 xs0).2 rfl]
  rintro e w7 ⟨rfl, b⟩
  have SZ5 := Lib.hid (show w6.heap.size ≤ w7.heap.size from b.size)
  replace D0 := Lib.hid (D0.out.keep (KeepS.of_below b _))
  replace M0 := Lib.hid (M0.out.keep (KeepS.of_below b _))
  replace B := Lib.hid (B.out.trans (b.mono B.out.size))
  clear b
  clear M0
  go_wp2
  go_ret
  exact ⟨rfl, B.out⟩
end Go.Proofs.Ytamfmemdhldmjaa
