/-
  Contracts of the draws of one column.
-/
import Derived.Test.YthkjcljhfjaabaaGreatDoorDc
namespace Go.Proofs.YthkjcljhfjaabaaGreatDoor
open Go.RowKit Sets

/-- A column that a draw hands back. -/
def DrawC (w : World) (e : Ending) (w' : World) : Prop := ∃ (L : Bool) (a b : Int), e = .returned (colV L a b) ∧ -200 ≤ a ∧ a ≤ 200 ∧ -200 ≤ b ∧ b ≤ 200 ∧ Below w.heap.size w w'

set_option maxRecDepth 100000 in
set_option maxHeartbeats 1000000 in
theorem drawCol_any (A : Option Addr) (n c : Nat) (z : Nat → Int) (w : World) (h : Bytes w A n c z) :
    Calls Tryz.prog 66 #[.slice A n c] w (DrawC w) := by
  have b0 : Below w.heap.size w (w.alloc (.cells #[.bool false, .int .i64 0, .int .i64 0] 27)) := (Below.refl _ w).alloc (Nat.le_refl _) _
  obtain ⟨k0, k1, k2⟩ := ColAt.box w false 0 0 27
  have fz : ∀ o, (w.alloc (.cells #[.bool false, .int .i64 0, .int .i64 0] 27)).frozen? ⟨w.heap.size, o, none⟩ = false := fun o => World.frozen?_alloc_at _ _ _ _ rfl
  have h1 := h.step b0
  have z0 : (w.alloc (.cells #[.bool false, .int .i64 0, .int .i64 0] 27)).heap.size = w.heap.size + 1 := by simp
  go_enter Tryz.func66, Tryz.ntmps66
  go_wp2_with fail
  refine (open_any A n c z _ h1).mono ?_
  rintro e w1 ⟨rfl, hR1, b1⟩
  generalize hW0 : World.alloc w _ = W0 at b0 k0 k1 k2 fz h1 z0 hR1 b1 ⊢
  rw [z0] at hR1
  have z1 := b1.size
  go_wp2_with fail
  refine (l2col_any _ _ _ _ _ _ z w1 hR1 (by omega)).mono ?_
  rintro e w2 ⟨L2, a2, b2, p2, rfl, _, r1, r2, r3, r4, hp2, hR2, hg2⟩
  have z2 := hg2.size
  go_wp2_with fail
  refine (l2wrong_any _ _ _ _ _ p2 z L2 a2 b2 w2 hR2 (by omega) r1 r2 r3 r4).mono ?_
  rintro e w3 ⟨L3, a3, b3, p3, rfl, _, s1, s2, s3, s4, hp3, hR3, hg3⟩
  have z3 := hg3.size
  go_wp2_with fail
  refine (l2wrong_any _ _ _ _ _ p3 z L3 a3 b3 w3 hR3 (by omega) s1 s2 s3 s4).mono ?_
  rintro e w4 ⟨L4, a4, b4, p4, rfl, _, t1, t2, t3, t4, hp4, hR4, hg4⟩
  have G := gr_trans (gr_trans hg2 hg3) hg4
  have bG : Below W0.heap.size W0 w4 := b1.trans (gr_to_below G z1 (by omega))
  obtain ⟨m0, m1, m2⟩ := ColAt.below (g := w.heap.size) ⟨k0, k1, k2⟩ bG (by omega)
  have f0 := (bG.frozen (p := ⟨w.heap.size, 0, none⟩) (by simp only; omega)).trans (fz 0)
  have f1 := (bG.frozen (p := ⟨w.heap.size, 1, none⟩) (by simp only; omega)).trans (fz 1)
  have f2 := (bG.frozen (p := ⟨w.heap.size, 2, none⟩) (by simp only; omega)).trans (fz 2)
  have BZ := Lib.hid (b0.trans (bG.mono b0.size))
  clear k0 k1 k2 fz h1 hR1 hR2 hR3 hR4 hg2 hg3 hg4 G bG b0 b1
  go_wp2
  obtain ⟨y0, y1, y2⟩ := set_col m0 m1 m2 L4 a4 b4
  exact bodyPost_ret (v := colV L4 a4 b4) (by simp [results, Tryz.results66, go_sem, y0, y1, y2]) rfl ⟨L4, a4, b4, rfl, t1, t2, t3, t4, set_below BZ.out (Nat.le_refl _) _ _ _⟩

end Go.Proofs.YthkjcljhfjaabaaGreatDoor
