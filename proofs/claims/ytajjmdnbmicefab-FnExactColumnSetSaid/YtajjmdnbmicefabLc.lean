/-
  Contract of the laws' copies of columns; the walk of the exact law on the check of columns.
-/
import Derived.Test.YtajjmdnbmicefabCl
namespace Go.Proofs.Ytajjmdnbmicefab
open Go.RowKit Sets

theorem toColumn_any (L : Bool) (a b : Int) (w : World) : Calls Try.prog 6 #[colV L a b] w fun e w' => e = .returned (colV L a b) ∧ Below w.heap.size w w' := by
  go_enter Try.func6, Try.ntmps6
  go_wp2
  exact bodyPost_ret (v := colV L a b) (by simp [results, Try.results6, go_sem]) rfl ⟨rfl, (((Below.refl _ w).alloc (Nat.le_refl _) _).alloc (by simp) _).alloc (by simp; omega) _⟩

theorem exactColumnValid_walk (L : Bool) (a b : Int) (w : World) (_ : I64 a ∧ I64 b) :
    Calls Try.prog 3 #[colV L a b] w fun e w' => e = .returned (.bool true) ∧ Below w.heap.size w w' := by
  obtain ⟨c0, c1, c2⟩ := ColAt.box w L a b 23
  have b0 : Below w.heap.size w (w.alloc (.cells #[.bool L, .int .i64 a, .int .i64 b] 23)) := (Below.refl _ w).alloc (Nat.le_refl _) _
  cases hc : colB L a b
  all_goals
    have HC := Lib.hid hc
    clear hc
    go_enter Try.func3, Try.ntmps3
    go_wp2_with fail
    refine (toColumn_any L a b _).mono ?_
    rintro e w1 ⟨rfl, b1⟩
    obtain ⟨d0, d1, d2⟩ := ColAt.below (g := w.heap.size) ⟨c0, c1, c2⟩ b1 (by simp)
    have B1 := b0.trans (b1.mono b0.size)
    have z1 := b1.size
    simp at z1
    go_wp2_with fail
    refine (specCol_b L a b _).mono ?_
    rw [HC.out]
    rintro e w2 ⟨rfl, b2⟩
    obtain ⟨e0, e1, e2⟩ := ColAt.below (g := w.heap.size) ⟨d0, d1, d2⟩ b2 (by omega)
    have B2 := B1.trans (b2.mono B1.size)
    go_wp2_with fail
    refine (toColumn_any L a b _).mono ?_
    rintro e w3 ⟨rfl, b3⟩
    have B3 := B2.trans (b3.mono B2.size)
    go_wp2_with fail
    refine (implCol_any L a b _).mono ?_
    rw [HC.out]
    rintro e w4 ⟨rfl, b4⟩
    have B4 := B3.trans (b4.mono B3.size)
    go_wp2
    go_ret
    exact ⟨rfl, B4⟩
end Go.Proofs.Ytajjmdnbmicefab
