/-
  The walk of the law on the values of columns.
-/
import Derived.Test.YtajjmdnbmicefaaDoorDd
import Derived.Test.YtajjmdnbmicefaaDoorTjM
import Derived.Test.YtajjmdnbmicefaaDoorTn
namespace Go.Proofs.YtajjmdnbmicefaaDoor
open Go.RowKit Go.Sort Sets

theorem text_has (L : Bool) (a b k : Int) : (!((!List.isEmpty (fV L a b k)) == hasB (colS L a b) k)) = false := by
  rw [has_col]
  cases h : inB L a b k
  · rw [fV_no h]; rfl
  · have : fV L a b k ≠ [] := fun e => by rw [fV_nil.1 e] at h; cases h
    simp [this]

set_option maxRecDepth 100000 in
set_option maxHeartbeats 2000000 in
theorem columnValues_walk (A : Option Addr) (n c : Nat) (z : Nat → Int) (w : World) (h : Bytes w A n c z) (hL : LibIs w) :
    Calls Tryd.prog 6 #[.slice A n c] w fun e w' => e = .returned (.bool true) ∧ Below w.heap.size w w' := by
  have hnc := h.1
  have hc := h.2.1
  by_cases hn : 1048576 < n
  · have hn' : (1048576 : Int) < (n : Int) := by omega
    go_enter Tryd.func6, Tryd.ntmps6
    go_wp2
    go_ret
    exact ⟨rfl, Below.refl _ _⟩
  · have hn' : ¬ (1048576 : Int) < (n : Int) := by omega
    have P0 := Lib.hid hL
    clear hL
    go_enter Tryd.func6, Tryd.ntmps6
    go_wp2_with fail
    refine (drawCol_any A n c z w h).mono ?_
    rintro e w1 ⟨L, a, b, rfl, a1, a2, b1, b2, bl1⟩
    have B2 : Below w.heap.size w (w1.alloc (.cells #[.bool L, .int .i64 a, .int .i64 b] 24)) := bl1.alloc bl1.size _
    obtain ⟨k0, k1, k2⟩ := ColAt.box w1 L a b 24
    have zz : w1.heap.size < (w1.alloc (.cells #[.bool L, .int .i64 a, .int .i64 b] 24)).heap.size := by simp
    clear bl1
    cases hcb : colB L a b
    · have cV := fun w => implCol_any L a b w
      have cW := fun w => specCol_b L a b w
      rw [hcb] at cV cW
      have CV := Lib.hid cV
      have CW := Lib.hid cW
      clear cV cW hcb
      go_wp2_with fail
      refine (CV.out _).mono ?_
      rintro e w3 ⟨rfl, b3⟩
      obtain ⟨g0, g1, g2⟩ := ColAt.below (g := w1.heap.size) ⟨k0, k1, k2⟩ b3 zz
      have B3 := B2.trans (b3.mono B2.size)
      have z3 : w1.heap.size < w3.heap.size := Nat.lt_of_lt_of_le zz b3.size
      clear k0 k1 k2 zz b3 B2
      go_wp2_with fail
      refine (CW.out _).mono ?_
      rintro e w4 ⟨rfl, b4⟩
      obtain ⟨d0, d1, d2⟩ := ColAt.below (g := w1.heap.size) ⟨g0, g1, g2⟩ b4 z3
      have B4 := B3.trans (b4.mono B3.size)
      clear g0 g1 g2 z3 b4 B3
      go_wp2_with fail
      refine (CW.out _).mono ?_
      rintro e w5 ⟨rfl, b5⟩
      go_wp2
      go_ret
      exact ⟨rfl, B4.trans (b5.mono B4.size)⟩
    · have cV := fun w => implCol_any L a b w
      have cW := fun w => specCol_b L a b w
      rw [hcb] at cV cW
      have CV := Lib.hid cV
      have CW := Lib.hid cW
      clear cV cW hcb
      go_wp2_with fail
      refine (CV.out _).mono ?_
      rintro e w3 ⟨rfl, b3⟩
      obtain ⟨g0, g1, g2⟩ := ColAt.below (g := w1.heap.size) ⟨k0, k1, k2⟩ b3 zz
      have B3 := B2.trans (b3.mono B2.size)
      have z3 : w1.heap.size < w3.heap.size := Nat.lt_of_lt_of_le zz b3.size
      clear k0 k1 k2 zz b3 B2
      go_wp2_with fail
      refine (CW.out _).mono ?_
      rintro e w4 ⟨rfl, b4⟩
      obtain ⟨d0, d1, d2⟩ := ColAt.below (g := w1.heap.size) ⟨g0, g1, g2⟩ b4 z3
      have B4 := B3.trans (b4.mono B3.size)
      have z4 : w1.heap.size < w4.heap.size := Nat.lt_of_lt_of_le z3 b4.size
      have P4 := Lib.hid (P0.out.step B4)
      clear g0 g1 g2 z3 b4 B3
      go_wp2
      go_loopw [5] (fun i wr => ∃ k : Int, -99 ≤ k ∧ k ≤ 100 ∧ i = .int .i64 k ∧ Below w4.heap.size w4 wr) (fun i _ => (100 - intOf i).toNat)
      case atStart => exact ⟨-99, by omega, by omega, rfl, Below.refl _ _⟩
      case round =>
        obtain ⟨k, hk1, hk2, rfl, hb⟩ := hrel
        by_cases hk : k ≤ 99
        · have tst := Lib.hid (text_has L a b k)
          obtain ⟨x0, x1, x2⟩ := ColAt.below (g := w1.heap.size) ⟨d0, d1, d2⟩ hb z4
          have zx : w1.heap.size < wr.heap.size := Nat.lt_of_lt_of_le z4 hb.size
          have BX : Below wr.heap.size wr wr.drew := (Below.refl _ _).drew
          have PX := Lib.hid ((P4.out.step hb).step BX)
          obtain ⟨x0, x1, x2⟩ := ColAt.below (g := w1.heap.size) ⟨x0, x1, x2⟩ BX zx
          have zx : w1.heap.size < wr.drew.heap.size := zx
          have cF := Lib.hid (fun w hp => implFV_any L a b k w hp)
          generalize hF : fV L a b k = fx at tst cF
          have cH := Lib.hid (fun A c w hp => implHas_any A c (colS L a b) k w hp)
          have cC := Lib.hid (fun w => implColSet_any L a b w)
          generalize hG : hasB (colS L a b) k = gx at tst cH
          generalize hH : colS L a b = cs at cH cC
          clear hF hG hH
          go_upto_region 10 with fail
          go_region_with (first
            | (go_at_call 9; refine (cF.out _ PX.out.1).mono ?_; rintro e wy ⟨rfl, by'⟩; obtain ⟨x0, x1, x2⟩ := ColAt.below (g := w1.heap.size) ⟨x0, x1, x2⟩ by' zx; have zx := Nat.lt_of_lt_of_le zx by'.size; have PX := Lib.hid (PX.out.step by'); have BX := BX.trans (by'.mono BX.size); try have HS := Lib.hid (HS.out.step by'))
            | (go_at_call 23; refine (cC.out _).mono ?_; rintro e wy ⟨vy, rfl, owny, fity, by'⟩; obtain ⟨Ay, cy, rfl, hry, _⟩ := owny.form fity; have HS := Lib.hid hry; clear owny fity hry; obtain ⟨x0, x1, x2⟩ := ColAt.below (g := w1.heap.size) ⟨x0, x1, x2⟩ by' zx; have zx := Nat.lt_of_lt_of_le zx by'.size; have PX := Lib.hid (PX.out.step by'); have BX := BX.trans (by'.mono BX.size))
            | (go_at_call 30; refine (cH.out _ _ _ HS.out).mono ?_; rintro e wy ⟨rfl, by'⟩; obtain ⟨x0, x1, x2⟩ := ColAt.below (g := w1.heap.size) ⟨x0, x1, x2⟩ by' zx; have zx := Nat.lt_of_lt_of_le zx by'.size; have PX := Lib.hid (PX.out.step by'); have BX := BX.trans (by'.mono BX.size)))
          all_goals
            go_wp2
            all_goals first
              | (exfalso
                 have T : (!((!List.isEmpty fx) == gx)) = true := by assumption
                 rw [tst.out] at T
                 cases T)
              | (refine ⟨⟨k + 1, by omega, by omega, rfl, hb.trans (BX.mono hb.size)⟩, ?_⟩
                 simp [intOf]
                 omega)
        · obtain rfl : k = 100 := by omega
          go_wp2
          go_ret
          exact ⟨rfl, B4.trans (hb.mono B4.size)⟩
end Go.Proofs.YtajjmdnbmicefaaDoor
