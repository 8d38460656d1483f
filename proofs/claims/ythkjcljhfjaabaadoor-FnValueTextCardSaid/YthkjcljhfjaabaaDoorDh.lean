/-
  Contracts of the draws of values of columns.
-/
import Derived.Test.YthkjcljhfjaabaaDoorDg
namespace Go.Proofs.YthkjcljhfjaabaaDoor
open Go.RowKit Go.Sort Sets

/-- A column and a number that a draw hands back. -/
def DrawCN (w : World) (e : Ending) (w' : World) : Prop := ∃ (L : Bool) (a b m : Int), e = .returned (.tuple #[colV L a b, .int .i64 m]) ∧ -200 ≤ a ∧ a ≤ 200 ∧ -200 ≤ b ∧ b ≤ 200 ∧ -200 ≤ m ∧ m ≤ 200 ∧ Below w.heap.size w w'

set_option maxRecDepth 100000 in
set_option maxHeartbeats 1000000 in
theorem drawFV_any (A : Option Addr) (n c : Nat) (z : Nat → Int) (w : World) (h : Bytes w A n c z) :
    Calls Tryd.prog 4 #[.slice A n c] w (DrawCN w) := by
  have b0 : Below w.heap.size w (w.alloc (.cells #[.bool false, .int .i64 0, .int .i64 0] 24)) := (Below.refl _ w).alloc (Nat.le_refl _) _
  obtain ⟨k0, k1, k2⟩ := ColAt.box w false 0 0 24
  have fz : ∀ o, (w.alloc (.cells #[.bool false, .int .i64 0, .int .i64 0] 24)).frozen? ⟨w.heap.size, o, none⟩ = false := fun o => World.frozen?_alloc_at _ _ _ _ rfl
  have h1 := h.step b0
  have z0 : w.heap.size < (w.alloc (.cells #[.bool false, .int .i64 0, .int .i64 0] 24)).heap.size := by simp
  go_enter Tryd.func4, Tryd.ntmps4
  go_wp2_with fail
  refine (drawCol_any A n c z _ h1).mono ?_
  rintro e w1 ⟨L, a, b, rfl, a1, a2, b1, b2, bl1⟩
  have h2 := h1.step bl1
  go_wp2_with fail
  refine (open_any A n c z _ h2).mono ?_
  rintro e w2 ⟨rfl, hR2, bl2⟩
  go_wp2_with fail
  refine (num_step _ _ _ _ _ _ z [0, 1, 3, -5, 20, 9, 100, -1] _ _ _ w2 rfl rfl rfl hR2 (by omega) (by decide) (by decide)).mono ?_
  rintro e w3 ⟨m, rfl, hm, hR3, hg3⟩
  have hm1 : -200 ≤ m := by simp at hm; omega
  have hm2 : m ≤ 200 := by simp at hm; omega
  have bl3 : Below w1.heap.size w1 w3 := bl2.trans (gr_to_below hg3 bl2.size (Nat.le_refl _))
  generalize World.alloc w _ = W0 at b0 k0 k1 k2 fz h1 z0 bl1
  have bG : Below W0.heap.size W0 w3 := bl1.trans (bl3.mono bl1.size)
  obtain ⟨m0, m1, m2⟩ := ColAt.below (g := w.heap.size) ⟨k0, k1, k2⟩ bG z0
  have f0 := (bG.frozen (p := ⟨w.heap.size, 0, none⟩) z0).trans (fz 0)
  have f1 := (bG.frozen (p := ⟨w.heap.size, 1, none⟩) z0).trans (fz 1)
  have f2 := (bG.frozen (p := ⟨w.heap.size, 2, none⟩) z0).trans (fz 2)
  have BZ := Lib.hid (b0.trans (bG.mono b0.size))
  clear k0 k1 k2 fz h1 h2 bG b0 hR2 hR3 hg3 bl1 bl2 bl3 hm
  go_wp2
  obtain ⟨y0, y1, y2⟩ := set_col m0 m1 m2 L a b
  exact bodyPost_ret (v := .tuple #[colV L a b, .int .i64 m]) (by simp [results, Tryd.results4, go_sem, y0, y1, y2]) rfl ⟨L, a, b, m, rfl, a1, a2, b1, b2, hm1, hm2, set_below BZ.out (Nat.le_refl _) _ _ _⟩
end Go.Proofs.YthkjcljhfjaabaaDoor
