/-
  Contract of the draw of a column and a set.
-/
import Derived.Test.YtajjmdnbmicefaaDoorDk
namespace Go.Proofs.YtajjmdnbmicefaaDoor
open Go.RowKit Sets

/-- A column and a set that a draw hands back. -/
def DrawCS (w : World) (e : Ending) (w' : World) : Prop := ∃ (L : Bool) (a b : Int) (v : Value) (xs : List Sp), e = .returned (.tuple #[colV L a b, v]) ∧ -200 ≤ a ∧ a ≤ 200 ∧ -200 ≤ b ∧ b ≤ 200 ∧ OwnS w' w.heap.size v xs ∧ Fits xs ∧ xs.length ≤ 300 ∧ Below w.heap.size w w'

set_option maxRecDepth 100000 in
set_option maxHeartbeats 1000000 in
theorem drawFT_any (A : Option Addr) (n c : Nat) (z : Nat → Int) (w : World) (h : Bytes w A n c z) :
    Calls Tryd.prog 31 #[.slice A n c] w (DrawCS w) := by
  have b0 : Below w.heap.size w (w.alloc (.cells #[.bool false, .int .i64 0, .int .i64 0] 24)) := (Below.refl _ w).alloc (Nat.le_refl _) _
  have k := ColAt.box w false 0 0 24
  have fz : ∀ o, (w.alloc (.cells #[.bool false, .int .i64 0, .int .i64 0] 24)).frozen? ⟨w.heap.size, o, none⟩ = false := fun o => World.frozen?_alloc_at _ _ _ _ rfl
  have h1 := h.step b0
  have z0 : (w.alloc (.cells #[.bool false, .int .i64 0, .int .i64 0] 24)).heap.size = w.heap.size + 1 := by simp
  go_enter Tryd.func31, Tryd.ntmps31
  go_wp2_with fail
  refine (open_any A n c z _ h1).mono ?_
  rintro e w1 ⟨rfl, hR1, b1⟩
  generalize World.alloc w _ = W0 at b0 k fz h1 z0 hR1 b1 ⊢
  rw [z0] at hR1
  have z1 := b1.size
  go_wp2_with fail
  refine (l2col_any _ _ _ _ _ _ z w1 hR1 (by omega)).mono ?_
  rintro e w2 ⟨L, a, b, p2, rfl, hcb, r1, r2, r3, r4, hp2, hR2, hg2⟩
  have hab := ((colB_iff _ _ _).1 (hcb rfl)).2.1
  have z2 := hg2.size
  have bx : Below w2.heap.size w2 (w2.alloc (.cells #[.bool L, .int .i64 a, .int .i64 b] 24)) := (Below.refl _ _).alloc (Nat.le_refl _) _
  obtain ⟨x0, x1, x2⟩ := ColAt.box w2 L a b 24
  have zx : w2.heap.size < (w2.alloc (.cells #[.bool L, .int .i64 a, .int .i64 b] 24)).heap.size := by simp
  have hR3 := hR2.below bx
  have hg3 := gr_trans hg2 (gr_below _ bx)
  go_wp2_with fail
  generalize World.alloc w2 _ = W3 at bx x0 x1 x2 zx hR3 hg3 ⊢
  refine (some_any _ _ _ _ _ p2 z L a b W3 hR3 (by omega) hab (by omega) (by omega)).mono ?_
  rintro e w4 ⟨v4, xs, p4, rfl, own4, fit4, len4, hp4, hR4, hg4⟩
  obtain ⟨A4, c4, rfl, hr4, _⟩ := own4.form fit4
  go_wp2_with fail
  refine (mutate_any _ _ _ _ _ p4 z _ _ xs w4 hR4 (by omega) hr4 (by omega)).mono ?_
  rintro e w5 ⟨v5, ys, p5, rfl, own5, fit5, len5, hp5, hR5, hg5⟩
  have hg35 := gr_trans hg4 hg5
  have hne : w2.heap.size ≠ w.heap.size + 1 := by have := hR1.lt; omega
  have y0 := (gr_kept hg35 zx hne 0).1.trans x0
  have y1 := (gr_kept hg35 zx hne 1).1.trans x1
  have y2 := (gr_kept hg35 zx hne 2).1.trans x2
  clear x0 x1 x2 own4
  go_wp2_with fail
  refine (l2wrong_any _ _ _ _ _ p5 z L a b w5 hR5 (by omega) r1 r2 r3 r4).mono ?_
  rintro e w6 ⟨L6, a6, b6, p6, rfl, _, s1, s2, s3, s4, hp6, hR6, hg6⟩
  have G := gr_trans (gr_trans hg3 hg35) hg6
  have own6 := own5.gr hg6 (by have := hR1.lt; have := hg4.size; omega)
  have bG : Below W0.heap.size W0 w6 := b1.trans (gr_to_below G z1 (by omega))
  obtain ⟨m0, m1, m2⟩ := k.below bG (by omega)
  have f0 := (bG.frozen (p := ⟨w.heap.size, 0, none⟩) (by simp only; omega)).trans (fz 0)
  have f1 := (bG.frozen (p := ⟨w.heap.size, 1, none⟩) (by simp only; omega)).trans (fz 1)
  have f2 := (bG.frozen (p := ⟨w.heap.size, 2, none⟩) (by simp only; omega)).trans (fz 2)
  have BZ := Lib.hid (b0.trans (bG.mono b0.size))
  have hbase : w.heap.size < w4.heap.size := by have := hR1.lt; have := hg4.size; omega
  have OW := Lib.hid own6
  clear k fz h1 hR1 hR2 hR3 hR4 hR5 hR6 hg2 hg3 hg4 hg5 hg6 hg35 G bG b0 b1 own5 own6 bx
  go_wp2
  obtain ⟨u0, u1, u2⟩ := set_col m0 m1 m2 L6 a6 b6
  have o1 := ownsRow_setCell_below OW.out (a := ⟨w.heap.size, 0, none⟩) hbase (.bool L6)
  have o2 := ownsRow_setCell_below o1 (a := ⟨w.heap.size, 1, none⟩) hbase (.int .i64 a6)
  have o3 := ownsRow_setCell_below o2 (a := ⟨w.heap.size, 2, none⟩) hbase (.int .i64 b6)
  exact bodyPost_ret (v := .tuple #[colV L6 a6 b6, v5]) (by simp [results, Tryd.results31, go_sem, u0, u1, u2]) rfl ⟨L6, a6, b6, v5, ys, rfl, s1, s2, s3, s4, OwnS.mono o3 (by omega), fit5, by omega, set_below BZ.out (Nat.le_refl _) _ _ _⟩
end Go.Proofs.YtajjmdnbmicefaaDoor
