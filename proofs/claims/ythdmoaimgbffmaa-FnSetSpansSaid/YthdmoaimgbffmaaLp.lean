/-
  The walk of the law on the order of spans.
-/
import Derived.Test.YthdmoaimgbffmaaDo
import Derived.Test.YthdmoaimgbffmaaPr2
namespace Go.Proofs.Ythdmoaimgbffmaa
open Go.RowKit Sets


set_option maxRecDepth 100000 in
set_option maxHeartbeats 2000000 in
theorem setSpans_walk (A : Option Addr) (n c : Nat) (z : Nat → Int) (w : World) (h : Bytes w A n c z) :
    Calls Try.prog 8 #[.slice A n c] w fun e w' => e = .returned (.bool true) ∧ Below w.heap.size w w' := by
  have hnc := h.1
  have hc := h.2.1
  by_cases hn : 1048576 < n
  · have hn' : (1048576 : Int) < (n : Int) := by omega
    go_enter Try.func8, Try.ntmps8
    go_wp2
    go_ret
    exact ⟨rfl, Below.refl _ _⟩
  have hn' : ¬ (1048576 : Int) < (n : Int) := by omega
  go_enter Try.func8, Try.ntmps8
  go_wp2_with fail
  refine (drawOf_any A n c z w h).mono ?_
  rintro e w1 ⟨v1, xs, rfl, own1, hf1, hl1, b1⟩
  obtain ⟨A1, c1, hv1, hr1, hz1⟩ := own1.form0 hf1
  subst hv1
  clear own1
  have X1 := Lib.hid hr1
  clear hr1
  have ZX := Lib.hid hz1
  clear hz1
  obtain ⟨i0, hi0, hz0, hz1, hz2⟩ := infoSp
  go_wp2_with fail
  refine (implOf_any _ _ xs _ X1.out ZX.out).mono ?_
  rintro e w2 ⟨v2, rfl, own2, hf2, b2⟩
  obtain ⟨A2, c2, hv2, hr2, hz2⟩ := own2.form0 hf2
  subst hv2
  clear own2
  have Z2 := Lib.hid hz2
  clear hz2
  have B2 := b1.trans (b2.mono b1.size)
  have X2 := Lib.hid (X1.out.step b2)
  have S_2 := Lib.hid hr2
  clear hr2
  go_wp2_with fail
  refine (specOf_any _ _ xs _ X2.out).mono ?_
  rintro e w3 ⟨v3, rfl, own3, hf3, b3⟩
  obtain ⟨A3, c3, hv3, hr3, hz3⟩ := own3.form0 hf3
  subst hv3
  clear own3
  have Z3 := Lib.hid hz3
  clear hz3
  have B3 := B2.trans (b3.mono B2.size)
  have X3 := Lib.hid (X2.out.step b3)
  have S_3 := Lib.hid (S_2.out.step b3)
  have T_3 := Lib.hid hr3
  clear hr3
  have HF := Lib.hid hf1
  go_wp2
  have own0 := own_empty w3
  have hb0 : Below w3.heap.size w3 (w3.alloc (.cells #[] 29)) := (Below.refl _ _).alloc (Nat.le_refl _) _
  go_loopw [8, 9] (fun bv iv wr => ∃ m : Nat, m ≤ xs.length ∧ iv = .int .i64 ((m : Int) - 1) ∧ OwnS wr w3.heap.size bv (xs.drop m).reverse ∧ Below w3.heap.size w3 wr) (fun _ iv _ => (intOf iv + 1).toNat)
  case atStart => exact ⟨xs.length, Nat.le_refl _, rfl, by rw [List.drop_length]; exact own0, hb0⟩
  case round =>
    obtain ⟨m, hm, rfl, hown, hb⟩ := hrel
    have hsz := hb.size
    cases m with
    | zero =>
      have hb3 := Lib.hid (setOfB_rev xs)
      have hv3 := Lib.hid (setOfV_rev xs)
      rw [List.drop_zero] at hown
      have hfr : Fits xs.reverse := by have := fits_rev HF.out 0; rwa [List.drop_zero] at this
      generalize xs.reverse = ys at hb3 hv3 hown hfr
      obtain ⟨Ar, cr, hvr, hrr, hzr⟩ := hown.form0 hfr
      subst hvr
      have R_3 := Lib.hid hrr
      have ZR := Lib.hid hzr
      clear hrr hzr
      have S_3' := Lib.hid (S_3.out.step hb)
      have T_3' := Lib.hid (T_3.out.step hb)
      have BR := B3.trans (hb.mono B3.size)
      go_wp2_with fail
      refine (implOf_any _ _ ys _ R_3.out ZR.out).mono ?_
      unfold OwnRes2
      rw [hb3.out, hv3.out]
      rintro e w4 ⟨v4, rfl, own4, hf4, b4⟩
      obtain ⟨A4, c4, hv4, hr4, _⟩ := own4.form hf4
      subst hv4
      clear own4
      have B4 := BR.trans (b4.mono BR.size)
      have S_4 := Lib.hid (S_3'.out.step b4)
      have T_4 := Lib.hid (T_3'.out.step b4)
      have X_4 := Lib.hid hr4
      clear hr4
      have heq : (setOfB xs == setOfB xs) = true := by simp
      go_wp2_with fail
      refine (toBelow (implSame_any _ _ _ _ (setOfV xs) (setOfV xs) _ _ _ S_4.out T_4.out)).mono ?_
      rw [sameB_self]
      rintro e w5 ⟨rfl, b5⟩
      have B5 := B4.trans (b5.mono B4.size)
      have S_5 := Lib.hid (S_4.out.step b5)
      have X_5 := Lib.hid (X_4.out.step b5)
      go_wp2_with fail
      refine (toBelow (implSame_any _ _ _ _ (setOfV xs) (setOfV xs) _ _ _ X_5.out S_5.out)).mono ?_
      rw [sameB_self]
      rintro e w6 ⟨rfl, b6⟩
      go_wp2
      go_ret
      exact ⟨rfl, B5.trans (b6.mono B5.size)⟩
    | succ m =>
      have hx3 := X3.out.step hb
      obtain ⟨_, _, _, hrow⟩ := hx3
      rcases hrow with rfl | ⟨gb, off, rfl, hgb, hrow⟩
      · simp at hm
      obtain ⟨c1', c2'⟩ := hrow m (by omega)
      have hd := Lib.hid (drop_rev (xs := xs) (m := m) (by omega))
      have e1 : ((m + 1 : Nat) : Int) - 1 = (m : Int) := by omega
      rw [e1]
      have hml : (m : Int) < (xs.length : Int) := by omega
      obtain ⟨Av, cv, hvv, _, _⟩ := hown.form (fits_rev HF.out (m + 1))
      subst hvv
      have hown1 := World.ownsRow.alloc hown (.cells #[.int .i64 (lo xs m), .int .i64 (hi xs m)] 29)
      have hrl : (xs.drop (m + 1)).reverse.length ≤ 300 := by rw [List.length_reverse, List.length_drop]; omega
      go_wp2_with (at_builtin; refine wpList_append_own _ rfl (.tmp 35) (.tmp 40) 23 rfl w3.heap.size 29 i0 _ 2 16 Try.underlying23 hi0 hz0 hz1 hz2 rfl (by decide) _ (xs.drop (m + 1)).reverse.length (cellsOf (xs.drop (m + 1)).reverse) rfl hown1 ⟨wr.heap.size, 0, none⟩ 1 1 [.int .i64 (lo xs m), .int .i64 (hi xs m)] rfl rfl ?hc1 ?hc2 ?hc3 ?hc4 ?hc5 ?_; rotate_right; intro v' w5 hown2 hgrow _)
      case hc1 => exact cell_one _ _ _ _ rfl
      case hc2 => simp [Value.oneCell']
      case hc3 => unfold maxLen; omega
      case hc4 => omega
      case hc5 => simp; omega
      go_roundw
      case rel => exact ⟨m, by omega, by go_num, by rw [hd.out]; exact OwnS.of_append hown2, Below.grown (row := (Value.slice Av (xs.drop (m + 1)).reverse.length cv).ownBlock) (hb.alloc hsz _) hgrow (by simp; omega) (fun k hk => (hown.lt k hk).1)⟩
      case measure => simp [intOf]
end Go.Proofs.Ythdmoaimgbffmaa
