/-
  The walk of the law on the sets of columns.
-/
import Derived.Test.YtajjmdnbmicefaaDoorDd
import Derived.Test.YtajjmdnbmicefaaDoorTjM
import Derived.Test.YtajjmdnbmicefaaDoorTn
namespace Go.Proofs.YtajjmdnbmicefaaDoor
open Go.RowKit Go.Sort Sets

set_option maxRecDepth 100000 in
set_option maxHeartbeats 2000000 in
theorem columnSet_walk (A : Option Addr) (n c : Nat) (z : Nat → Int) (w : World) (h : Bytes w A n c z) (hL : LibIs w) :
    Calls Tryd.prog 5 #[.slice A n c] w fun e w' => e = .returned (.bool true) ∧ Below w.heap.size w w' := by
  have hnc := h.1
  have hc := h.2.1
  by_cases hn : 1048576 < n
  · have hn' : (1048576 : Int) < (n : Int) := by omega
    go_enter Tryd.func5, Tryd.ntmps5
    go_wp2
    go_ret
    exact ⟨rfl, Below.refl _ _⟩
  · have hn' : ¬ (1048576 : Int) < (n : Int) := by omega
    have P0 := Lib.hid hL
    clear hL
    go_enter Tryd.func5, Tryd.ntmps5
    go_wp2_with fail
    refine (drawColSet_any A n c z w h).mono ?_
    rintro e w1 ⟨L, a, b, rfl, a1, a2, b1, b2, bl1⟩
    have B2 : Below w.heap.size w (w1.alloc (.cells #[.bool L, .int .i64 a, .int .i64 b] 24)) := bl1.alloc bl1.size _
    obtain ⟨k0, k1, k2⟩ := ColAt.box w1 L a b 24
    have zz : w1.heap.size < (w1.alloc (.cells #[.bool L, .int .i64 a, .int .i64 b] 24)).heap.size := by simp
    clear bl1
    cases hcb : colB L a b
    · have cI := fun w => implColSet_any L a b w
      have cS := fun w => specColSet_any L a b w
      have cV := fun w => implCol_any L a b w
      rw [colS_no hcb] at cI cS
      rw [hcb] at cV
      have CI := Lib.hid cI
      have CS := Lib.hid cS
      have CV := Lib.hid cV
      clear cI cS cV hcb
      go_wp2_with fail
      refine (CI.out _).mono ?_
      rintro e w3 ⟨v3, rfl, own3, fit3, b3⟩
      obtain ⟨g0, g1, g2⟩ := ColAt.below (g := w1.heap.size) ⟨k0, k1, k2⟩ b3 zz
      have B3 := B2.trans (b3.mono B2.size)
      obtain ⟨A3, c3, rfl, hr3, _⟩ := own3.form fit3
      have z3 : w1.heap.size < w3.heap.size := Nat.lt_of_lt_of_le zz b3.size
      have R3 := Lib.hid hr3
      clear own3 fit3 hr3 k0 k1 k2 zz b3 B2
      go_wp2_with fail
      refine (CS.out _).mono ?_
      rintro e w4 ⟨v4, rfl, own4, fit4, b4⟩
      obtain ⟨d0, d1, d2⟩ := ColAt.below (g := w1.heap.size) ⟨g0, g1, g2⟩ b4 z3
      have B4 := B3.trans (b4.mono B3.size)
      obtain ⟨A4, c4, rfl, hr4, _⟩ := own4.form fit4
      have z4 : w1.heap.size < w4.heap.size := Nat.lt_of_lt_of_le z3 b4.size
      have R4 := Lib.hid (R3.out.step b4)
      have S4 := Lib.hid hr4
      clear own4 fit4 hr4 g0 g1 g2 z3 b4 B3
      go_wp2_with fail
      refine (toBelow (implSame_any _ _ _ _ [] [] _ _ _ R4.out S4.out)).mono ?_
      rw [(same_iff [] []).2 rfl]
      rintro e w5 ⟨rfl, b5⟩
      obtain ⟨g0, g1, g2⟩ := ColAt.below (g := w1.heap.size) ⟨d0, d1, d2⟩ b5 z4
      have B5 := B4.trans (b5.mono B4.size)
      have z5 : w1.heap.size < w5.heap.size := Nat.lt_of_lt_of_le z4 b5.size
      have R5 := Lib.hid (R4.out.step b5)
      clear d0 d1 d2 z4 b5 B4
      go_wp2_with fail
      refine (CV.out _).mono ?_
      rintro e w6 ⟨rfl, b6⟩
      obtain ⟨d0, d1, d2⟩ := ColAt.below (g := w1.heap.size) ⟨g0, g1, g2⟩ b6 z5
      have B6 := B5.trans (b6.mono B5.size)
      have z6 : w1.heap.size < w6.heap.size := Nat.lt_of_lt_of_le z5 b6.size
      have R6 := Lib.hid (R5.out.step b6)
      clear g0 g1 g2 z5 b6 B5
      go_wp2_with fail
      refine (CS.out _).mono ?_
      rintro e w7 ⟨v7, rfl, own7, fit7, b7⟩
      obtain ⟨g0, g1, g2⟩ := ColAt.below (g := w1.heap.size) ⟨d0, d1, d2⟩ b7 z6
      have B7 := B6.trans (b7.mono B6.size)
      obtain ⟨A7, c7, rfl, hr7, _⟩ := own7.form fit7
      have z7 : w1.heap.size < w7.heap.size := Nat.lt_of_lt_of_le z6 b7.size
      have R7 := Lib.hid (R6.out.step b7)
      have S7 := Lib.hid hr7
      clear own7 fit7 hr7 d0 d1 d2 z6 b7 B6
      go_wp2_with fail
      refine (toBelow (implSame_any _ _ _ _ [] [] _ _ _ R7.out S7.out)).mono ?_
      rw [(same_iff [] []).2 rfl]
      rintro e w8 ⟨rfl, b8⟩
      obtain ⟨d0, d1, d2⟩ := ColAt.below (g := w1.heap.size) ⟨g0, g1, g2⟩ b8 z7
      have B8 := B7.trans (b8.mono B7.size)
      clear g0 g1 g2 z7 b8 B7
      go_wp2_with fail
      refine (CV.out _).mono ?_
      rintro e w9 ⟨rfl, b9⟩
      go_wp2
      go_ret
      exact ⟨rfl, B8.trans (b9.mono B8.size)⟩
    · have cI := fun w => implColSet_any L a b w
      have cS := fun w => specColSet_any L a b w
      have cV := fun w => implCol_any L a b w
      obtain ⟨l1, l2⟩ := col_law hcb
      rw [colS_yes hcb] at cI cS l1 l2
      have hv1 : validB [(a, b)] = true := by have := colS_valid L a b; rw [colS_yes hcb] at this; exact this
      have hi1 : I64 a := by unfold I64; omega
      have hi2 : I64 b := by unfold I64; omega
      rw [hcb] at cV
      have CI := Lib.hid cI
      have CS := Lib.hid cS
      have CV := Lib.hid cV
      have L1 := Lib.hid l1
      have L2 := Lib.hid l2
      have HV1 := Lib.hid hv1
      clear cI cS cV l1 l2 hcb hv1
      go_wp2_with fail
      refine (CI.out _).mono ?_
      rintro e w3 ⟨v3, rfl, own3, fit3, b3⟩
      obtain ⟨g0, g1, g2⟩ := ColAt.below (g := w1.heap.size) ⟨k0, k1, k2⟩ b3 zz
      have B3 := B2.trans (b3.mono B2.size)
      obtain ⟨A3, c3, rfl, hr3, _⟩ := own3.form fit3
      have z3 : w1.heap.size < w3.heap.size := Nat.lt_of_lt_of_le zz b3.size
      have R3 := Lib.hid hr3
      clear own3 fit3 hr3 k0 k1 k2 zz b3 B2
      go_wp2_with fail
      refine (CS.out _).mono ?_
      rintro e w4 ⟨v4, rfl, own4, fit4, b4⟩
      obtain ⟨d0, d1, d2⟩ := ColAt.below (g := w1.heap.size) ⟨g0, g1, g2⟩ b4 z3
      have B4 := B3.trans (b4.mono B3.size)
      obtain ⟨A4, c4, rfl, hr4, _⟩ := own4.form fit4
      have z4 : w1.heap.size < w4.heap.size := Nat.lt_of_lt_of_le z3 b4.size
      have R4 := Lib.hid (R3.out.step b4)
      have S4 := Lib.hid hr4
      clear own4 fit4 hr4 g0 g1 g2 z3 b4 B3
      go_wp2_with fail
      refine (toBelow (implSame_any _ _ _ _ [(a, b)] [(a, b)] _ _ _ R4.out S4.out)).mono ?_
      rw [(same_iff [(a, b)] [(a, b)]).2 rfl]
      rintro e w5 ⟨rfl, b5⟩
      obtain ⟨g0, g1, g2⟩ := ColAt.below (g := w1.heap.size) ⟨d0, d1, d2⟩ b5 z4
      have B5 := B4.trans (b5.mono B4.size)
      have z5 : w1.heap.size < w5.heap.size := Nat.lt_of_lt_of_le z4 b5.size
      have R5 := Lib.hid (R4.out.step b5)
      clear d0 d1 d2 z4 b5 B4
      go_wp2_with fail
      refine (CV.out _).mono ?_
      rintro e w6 ⟨rfl, b6⟩
      obtain ⟨d0, d1, d2⟩ := ColAt.below (g := w1.heap.size) ⟨g0, g1, g2⟩ b6 z5
      have B6 := B5.trans (b6.mono B5.size)
      have R6 := Lib.hid (R5.out.step b6)
      have P6 := Lib.hid (P0.out.step B6)
      clear g0 g1 g2 z5 b6 B5 R5 R4 S4 R3
      have x0 := cell_regrown d0
      have x1 := cell_regrown d1
      have x2 := cell_regrown d2
      have cA := fun d os => Calls.regrown_of (implValid_any A3 c3 [(a, b)] (grow (redrawn w6 d) os) (R6.out.step (below_regrown w6 d os)))
      have cB := fun d os => Calls.regrown_of (implSize_any A3 c3 [(a, b)] (grow (redrawn w6 d) os) (R6.out.step (below_regrown w6 d os)))
      have cC := fun d os => Calls.regrown_of (implFT_any L a b A3 c3 [(a, b)] (grow (redrawn w6 d) os) (R6.out.step (below_regrown w6 d os)) (P6.out.step (below_regrown w6 d os)).1)
      simp only [List.length_cons, List.length_nil, Nat.zero_add] at cA cB cC
      rw [HV1.out] at cA
      rw [L1.out] at cB
      rw [L2.out] at cC
      have e1 : IntKind.i64.wrap (b - a) = b - a := IntWalk.i64_in _ (by omega)
      have e2 : IntKind.i64.wrap (b - a + 1) = b - a + 1 := IntWalk.i64_in _ (by omega)
      go_wp2_with fail
      refine wp_region_quiet_below (by kernel_rfl) (by kernel_rfl) ?_
      repeat (quiet_step (first | with_reducible exact cA _ _ | with_reducible exact cB _ _ | with_reducible exact cC _ _))
      refine wpQuiet_nil ?_
      intro w7 hw'
      obtain ⟨⟨dq, osq⟩, hw7⟩ := hw'
      have b7 : Below w6.heap.size w6 w7 := by rw [hw7]; exact below_regrown w6 dq osq
      clear hw7
      go_wp2
      go_ret
      exact ⟨rfl, B6.trans (b7.mono B6.size)⟩
end Go.Proofs.YtajjmdnbmicefaaDoor
