/-
  The walk of the exact law on SetValid.
-/
import Derived.Test.YtcjoidoodggfkabLw
namespace Go.Proofs.Ytcjoidoodggfkab
open Go.RowKit Sets

theorem exactValid_walk (A : Option Addr) (c : Nat) (xs : List Sp) (w : World) (h : Reads w w.heap.size A c xs) :
    Calls Try.prog 3 #[.slice A xs.length c] w fun e w' => e = .returned (.bool true) ∧ Below w.heap.size w w' := by
  have hlc := h.1
  have hc := h.2.1
  have hf := h.2.2.1
  have H0 := Lib.hid h
  clear h
  by_cases hn : xs.length ≤ 1048576
  · have hsz : Hid ((if (1048576 : Int) < xs.length then (-1 : Int) else 1048576 - xs.length) = 1048576 - xs.length) := Lib.hid (if_neg (by omega))
    have h3 : 0 ≤ (1048576 : Int) - xs.length := by omega
    go_enter Try.func3, Try.ntmps3
    go_wp2_with fail
    refine (szSpanS_any _ _ _ _ _ (by omega) (by omega) (by omega)).mono ?_
    rw [hsz.out]
    rintro e w1 ⟨rfl, rfl⟩
    go_wp2_with fail
    refine (toSpanS_any _ _ xs _ H0.out hn).mono ?_
    rintro e w1 ⟨rfl, r1, o1, b1⟩
    have H1 := Lib.hid (H0.out.step b1)
    have X1 := Lib.hid (Reads.of_own r1 o1 hf hn)
    go_wp2_with fail
    refine (specValid_any _ _ xs w1.heap.size _ X1.out).mono ?_
    rintro e w2 ⟨rfl, n2, rfl⟩
    have b2 : Below w.heap.size w (w1.drewN n2) := below_drewN b1 n2
    have H2 := Lib.hid (H1.out.step (below_drewN (Below.refl _ _) n2))
    go_wp2_with fail
    refine (toSpanS_any _ _ xs _ H2.out hn).mono ?_
    rintro e w3 ⟨rfl, r3, o3, b3⟩
    have H3 := Lib.hid (H2.out.step b3)
    have X3 := Lib.hid (Reads.of_own r3 o3 hf hn)
    go_wp2_with fail
    refine (implValid_any _ _ xs _ X3.out).mono ?_
    rintro e w4 ⟨rfl, b4⟩
    have H4 := Lib.hid (H3.out.step b4)
    have X4 := Lib.hid (X3.out.step b4)
    have heq : (validB xs != validB xs) = false := by simp
    go_wp2_with fail
    refine (toSpanS_any _ _ xs _ H4.out hn).mono ?_
    rintro e w5 ⟨rfl, r5, o5, b5⟩
    have X5 := Lib.hid (X4.out.step b5)
    have Y5 := Lib.hid (Reads.of_own r5 o5 hf hn)
    go_wp2_with fail
    refine (eqSpanS_any _ _ _ _ xs xs _ X5.out Y5.out).mono ?_
    rw [(same_iff xs xs).2 rfl]
    rintro e w6 ⟨rfl, b6⟩
    go_wp2
    go_ret
    exact ⟨rfl, ((((b2.trans (b3.mono b2.size)).trans (b4.mono (by have := b2.size; have := b3.size; omega))).trans (b5.mono (by have := b2.size; have := b3.size; have := b4.size; omega))).trans (b6.mono (by have := b2.size; have := b3.size; have := b4.size; have := b5.size; omega)))⟩
  · have hsz : Hid ((if (1048576 : Int) < xs.length then (-1 : Int) else 1048576 - xs.length) = -1) := Lib.hid (if_pos (by omega))
    go_enter Try.func3, Try.ntmps3
    go_wp2_with fail
    refine (szSpanS_any _ _ _ _ _ (by omega) (by omega) (by omega)).mono ?_
    rw [hsz.out]
    rintro e w1 ⟨rfl, rfl⟩
    go_wp2
    go_ret
    exact ⟨rfl, Below.refl _ _⟩
end Go.Proofs.Ytcjoidoodggfkab
