/-
  Contracts of the texts of columns of both programs.
-/
import Derived.Test.YtajjmdnbmicefaaDoorTcM
import Derived.Test.YtajjmdnbmicefaaDoorTeM
import Derived.Test.YtajjmdnbmicefaaDoorTpM
import Derived.Lib.QuietBelow
namespace Go.Proofs.YtajjmdnbmicefaaDoor
open Go.RowKit Go.Sort Sets

theorem ret_dots {s1 s2 : ByteArray} {x y : Bs} (h1 : s1.data.toList = x) (h2 : s2.data.toList = y) : Ending.returned (.string (s1 ++ ⟨#[46, 46]⟩ ++ s2)) = .returned (strV (x ++ (dots ++ y))) :=
  ret_str (by subst h1 h2; simp [dots])
theorem txt_size {s : ByteArray} {l : Bs} (h : s.data.toList = l) : s.size = l.length := by rw [Lib.size_eq, h]

set_option maxRecDepth 100000 in
theorem specFC_any (L : Bool) (a b : Int) (w : World) :
    Calls Tryd.prog 18 #[colV L a b] w fun e w' => e = .returned (strV (fC L a b)) ∧ Below w.heap.size w w' := by
  have b0 : Below w.heap.size w (w.alloc (.cells #[.bool L, .int .i64 a, .int .i64 b] 24)) := (Below.refl _ w).alloc (Nat.le_refl _) _
  obtain ⟨k0, k1, k2⟩ := ColAt.box w L a b 24
  cases hc : colB L a b
  · have hv := Lib.hid (fC_no hc)
    have HC := Lib.hid hc
    clear hc
    go_enter Tryd.func18, Tryd.ntmps18
    go_wp2_with fail
    refine (specCol_b L a b _).mono ?_
    rw [HC.out]
    rintro e w1 ⟨rfl, b1⟩
    go_wp2
    go_ret
    exact ⟨by rw [hv.out]; rfl, b0.trans (b1.mono b0.size)⟩
  · have hv := Lib.hid (fC_yes hc)
    have hl1 := (vT_bytes (in_lo hc)).2.2.1
    have hl2 := (vT_bytes (in_hi hc)).2.2.1
    have spA := fun w => specText_any L a b a (in_lo hc) w
    have spB := fun w => specText_any L a b b (in_hi hc) w
    have HC := Lib.hid hc
    clear hc
    generalize h1 : vT L a = x at hl1 spA hv
    generalize h2 : vT L b = y at hl2 spB hv
    clear h1 h2
    obtain ⟨s1, hs1⟩ : ∃ s : ByteArray, s = ⟨x.toArray⟩ := ⟨_, rfl⟩
    obtain ⟨s2, hs2⟩ : ∃ s : ByteArray, s = ⟨y.toArray⟩ := ⟨_, rfl⟩
    simp only [strV, ← hs1] at spA
    simp only [strV, ← hs2] at spB
    have e1 : s1.data.toList = x := by rw [hs1]
    have e2 : s2.data.toList = y := by rw [hs2]
    have z1 := txt_size e1
    have z2 := txt_size e2
    have n1 : ¬ 9223372036854775807 < s1.size + 2 := by omega
    have n2 : ¬ 9223372036854775807 < s1.size + 2 + s2.size := by omega
    have hE := Lib.hid (ret_dots e1 e2)
    clear hs1 hs2 e1 e2 z1 z2 hl1 hl2
    go_enter Tryd.func18, Tryd.ntmps18
    go_wp2_with fail
    refine (specCol_b L a b _).mono ?_
    rw [HC.out]
    rintro e w1 ⟨rfl, b1⟩
    obtain ⟨g0, g1, g2⟩ := ColAt.below (g := w.heap.size) ⟨k0, k1, k2⟩ b1 (by simp)
    have b01 := b0.trans (b1.mono b0.size)
    clear k0 k1 k2 b0
    go_wp2
    have r0 := cell_regrown g0
    have r1 := cell_regrown g1
    have r2 := cell_regrown g2
    have cA := fun d os => Calls.regrown_of (spA (grow (redrawn w1 d) os))
    have cB := fun d os => Calls.regrown_of (spB (grow (redrawn w1 d) os))
    refine wp_region_quiet_below (by kernel_rfl) (by kernel_rfl) ?_
    repeat (quiet_step (first | with_reducible exact cA _ _ | with_reducible exact cB _ _))
    refine wpQuiet_nil ?_
    intro _ hw'
    obtain ⟨⟨dq, osq⟩, hw''⟩ := hw'
    subst hw''
    go_wp2
    go_ret
    exact ⟨by rw [hv.out]; exact hE.out, b01.trans ((below_regrown w1 dq osq).mono b01.size)⟩

set_option maxRecDepth 100000 in
theorem implFC_any (L : Bool) (a b : Int) (w : World) (hp : PowIs w) :
    Calls Tryd.prog 16 #[colV L a b] w fun e w' => e = .returned (strV (fC L a b)) ∧ Below w.heap.size w w' := by
  have b0 : Below w.heap.size w (w.alloc (.cells #[.bool L, .int .i64 a, .int .i64 b] 24)) := (Below.refl _ w).alloc (Nat.le_refl _) _
  obtain ⟨k0, k1, k2⟩ := ColAt.box w L a b 24
  have P0 := Lib.hid (hp.step b0)
  clear hp
  cases hc : colB L a b
  · have hv := Lib.hid (fC_no hc)
    have HC := Lib.hid hc
    clear hc
    go_enter Tryd.func16, Tryd.ntmps16
    go_wp2_with fail
    refine (implCol_any L a b _).mono ?_
    rw [HC.out]
    rintro e w1 ⟨rfl, b1⟩
    go_wp2
    go_ret
    exact ⟨by rw [hv.out]; rfl, b0.trans (b1.mono b0.size)⟩
  · have hv := Lib.hid (fC_yes hc)
    have hl1 := (vT_bytes (in_lo hc)).2.2.1
    have hl2 := (vT_bytes (in_hi hc)).2.2.1
    have spA := fun w hp => implFV_any L a b a w hp
    have spB := fun w hp => implFV_any L a b b w hp
    rw [fV_yes (in_lo hc)] at spA
    rw [fV_yes (in_hi hc)] at spB
    have HC := Lib.hid hc
    clear hc
    generalize h1 : vT L a = x at hl1 spA hv
    generalize h2 : vT L b = y at hl2 spB hv
    clear h1 h2
    obtain ⟨s1, hs1⟩ : ∃ s : ByteArray, s = ⟨x.toArray⟩ := ⟨_, rfl⟩
    obtain ⟨s2, hs2⟩ : ∃ s : ByteArray, s = ⟨y.toArray⟩ := ⟨_, rfl⟩
    simp only [strV, ← hs1] at spA
    simp only [strV, ← hs2] at spB
    have e1 : s1.data.toList = x := by rw [hs1]
    have e2 : s2.data.toList = y := by rw [hs2]
    have z1 := txt_size e1
    have z2 := txt_size e2
    have n1 : ¬ 9223372036854775807 < s1.size + 2 := by omega
    have n2 : ¬ 9223372036854775807 < s1.size + 2 + s2.size := by omega
    have hE := Lib.hid (ret_dots e1 e2)
    clear hs1 hs2 e1 e2 z1 z2 hl1 hl2
    go_enter Tryd.func16, Tryd.ntmps16
    go_wp2_with fail
    refine (implCol_any L a b _).mono ?_
    rw [HC.out]
    rintro e w1 ⟨rfl, b1⟩
    obtain ⟨g0, g1, g2⟩ := ColAt.below (g := w.heap.size) ⟨k0, k1, k2⟩ b1 (by simp)
    have b01 := b0.trans (b1.mono b0.size)
    have P1 := Lib.hid (P0.out.step b1)
    clear k0 k1 k2 b0 P0
    go_wp2
    have r0 := cell_regrown g0
    have r1 := cell_regrown g1
    have r2 := cell_regrown g2
    have cA := fun d os => Calls.regrown_of (spA (grow (redrawn w1 d) os) (P1.out.step (below_regrown w1 d os)))
    have cB := fun d os => Calls.regrown_of (spB (grow (redrawn w1 d) os) (P1.out.step (below_regrown w1 d os)))
    refine wp_region_quiet_below (by kernel_rfl) (by kernel_rfl) ?_
    repeat (quiet_step (first | with_reducible exact cA _ _ | with_reducible exact cB _ _))
    refine wpQuiet_nil ?_
    intro _ hw'
    obtain ⟨⟨dq, osq⟩, hw''⟩ := hw'
    subst hw''
    go_wp2
    go_ret
    exact ⟨by rw [hv.out]; exact hE.out, b01.trans ((below_regrown w1 dq osq).mono b01.size)⟩
end Go.Proofs.YtajjmdnbmicefaaDoor
