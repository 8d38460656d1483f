/-
  Contracts of the program's texts of values.
-/
import Derived.Test.YthkjcljhfjaabaaGreatDoorTa
import Derived.Test.YthkjcljhfjaabaaGreatDoorRdM
import Derived.Test.YthkjcljhfjaabaaGreatDoorTn
import Derived.Lib.AppendIntMem
namespace Go.Proofs.YthkjcljhfjaabaaGreatDoor
open Go.RowKit Sets

/-- The library's table of powers of ten reads as it should, now and in whatever world grows out of this one. -/
def PowIs (w : World) : Prop := Lib.TabBelow Tryz.prog w.heap.size w "internal/strconv.uint64pow10" .u64 Lib.pow10Tab
theorem PowIs.step {w w' : World} (h : PowIs w) (hb : Below w.heap.size w w') : PowIs w' := fun w2 h2 => h w2 (hb.trans (h2.mono hb.size))
theorem PowIs.here {w : World} (h : PowIs w) : Lib.TabIs Tryz.prog w "internal/strconv.uint64pow10" .u64 Lib.pow10Tab := Lib.TabBelow.here h

theorem itoa_any (n : Int) (h1 : -99 ≤ n) (h2 : n ≤ 99) (w : World) (hp : PowIs w) :
    Calls Tryz.prog 67 #[.int .i64 n] w fun e w' => e = .returned (strV (decT n)) ∧ Below w.heap.size w w' := by
  rw [← decT_eq h1 h2]
  exact (Tryz.strconv_Itoa n (by omega) (by omega) w hp.here).mono fun e w' ⟨he, k, os, hw⟩ => ⟨he, by rw [hw]; exact Lib.below_grow _ w (Nat.le_refl _) k os⟩

theorem encode_let (n : Int) (h0 : 0 ≤ n) (h1 : n ≤ 25) : Utf8.encode (65 + n) = ⟨#[UInt8.ofNat (65 + n.toNat)]⟩ := by
  have hv : Utf8.valid (65 + n) = true := by unfold Utf8.valid; simp; omega
  unfold Utf8.encode
  simp only [hv, if_true]
  rw [if_pos (by omega), show (65 + n).toNat = 65 + n.toNat by omega]

set_option maxRecDepth 100000 in
theorem implFV_any (L : Bool) (a b n : Int) (w : World) (hp : PowIs w) :
    Calls Tryz.prog 29 #[colV L a b, .int .i64 n] w fun e w' => e = .returned (strV (fV L a b n)) ∧ Below w.heap.size w w' := by
  have b0 : Below w.heap.size w (w.alloc (.cells #[.bool L, .int .i64 a, .int .i64 b] 27)) := (Below.refl _ w).alloc (Nat.le_refl _) _
  have hp0 := Lib.hid (hp.step b0)
  obtain ⟨k0, k1, k2⟩ := ColAt.box w L a b 27
  clear hp
  cases hin : inB L a b n
  · have hv := Lib.hid (fV_no hin)
    have hh := Lib.hid ((has_col L a b n).trans hin)
    clear hin
    go_enter Tryz.func29, Tryz.ntmps29
    go_wp2_with fail
    refine (implColSet_any L a b _).mono ?_
    rintro e w1 ⟨v1, rfl, own1, hf1, b1⟩
    obtain ⟨A1, c1, hv1, hr1, _⟩ := own1.form hf1
    subst hv1
    have X1 := Lib.hid hr1
    have b01 := b0.trans (b1.mono b0.size)
    clear own1 hr1
    go_wp2_with fail
    refine (implHas_any _ _ (colS L a b) n _ X1.out).mono ?_
    rw [hh.out]
    rintro e w2 ⟨rfl, b2⟩
    go_wp2
    go_ret
    exact ⟨by rw [hv.out]; rfl, b01.trans (b2.mono b01.size)⟩
  · have hv := Lib.hid (fV_yes hin)
    have hh := Lib.hid ((has_col L a b n).trans hin)
    obtain ⟨hc, h1, h2⟩ := (inB_iff _ _ _ _).1 hin
    obtain ⟨d1, d2, d3, d4⟩ := (colB_iff _ _ _).1 hc
    clear hin hc
    go_enter Tryz.func29, Tryz.ntmps29
    go_wp2_with fail
    refine (implColSet_any L a b _).mono ?_
    rintro e w1 ⟨v1, rfl, own1, hf1, b1⟩
    obtain ⟨A1, c1, hv1, hr1, _⟩ := own1.form hf1
    subst hv1
    have X1 := Lib.hid hr1
    have b01 := b0.trans (b1.mono b0.size)
    obtain ⟨g0, g1, g2⟩ := ColAt.below (g := w.heap.size) ⟨k0, k1, k2⟩ b1 (by simp)
    have z1 := b1.size
    have hp1 := Lib.hid (hp0.out.step b1)
    simp at z1
    clear own1 hr1 k0 k1 k2
    go_wp2_with fail
    refine (implHas_any _ _ (colS L a b) n _ X1.out).mono ?_
    rw [hh.out]
    rintro e w2 ⟨rfl, b2⟩
    have b02 := b01.trans (b2.mono b01.size)
    obtain ⟨m0, m1, m2⟩ := ColAt.below (g := w.heap.size) ⟨g0, g1, g2⟩ b2 (by omega)
    have hp2 := Lib.hid (hp1.out.step b2)
    clear g0 g1 g2
    cases L
    · have HV := Lib.hid (vT_num n)
      clear d4
      go_wp2_with fail
      refine (itoa_any n (by omega) (by omega) _ hp2.out).mono ?_
      rintro e w3 ⟨rfl, b3⟩
      go_wp2
      go_ret
      exact ⟨by rw [hv.out, HV.out]; rfl, b02.trans (b3.mono b02.size)⟩
    · have HV := Lib.hid (vT_let n)
      obtain ⟨rfl, e2⟩ := d4 rfl
      have he := encode_let n (by omega) (by omega)
      clear d4
      go_wp2
      go_ret
      exact ⟨ret_str (by rw [hv.out, HV.out]; simp), b02⟩
end Go.Proofs.YthkjcljhfjaabaaGreatDoor
