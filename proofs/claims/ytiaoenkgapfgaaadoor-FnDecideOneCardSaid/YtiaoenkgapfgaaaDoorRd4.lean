/-
  Contracts: equality of slices by the laws.
-/
import Derived.Test.YtiaoenkgapfgaaaDoorRdM
import Derived.StillTailTactics
namespace Go.Proofs.YtiaoenkgapfgaaaDoor
open Go.RowKit Sets

set_option maxRecDepth 100000 in
theorem eqSpan_any (a b c d : Int) (w : World) : Calls Tryd.prog 114 #[.agg #[.int .i64 a, .int .i64 b], .agg #[.int .i64 c, .int .i64 d]] w fun e w' =>
    e = .returned (.bool ((a == c) && (b == d))) ∧ (w.alloc (.cells #[.int .i64 a, .int .i64 b] 126)).alloc (.cells #[.int .i64 c, .int .i64 d] 126) = w' := by
  go_enter Tryd.func114, Tryd.ntmps114
  cases h1 : a == c <;> cases h2 : b == d
  all_goals
    have g1 : (a != c) = !(a == c) := rfl
    have g2 : (b != d) = !(b == d) := rfl
    go_wp2
    go_ret
    exact ⟨rfl, rfl⟩

set_option maxRecDepth 100000 in
theorem eqSpanS_any (A1 A2 : Option Addr) (c1 c2 : Nat) (xs ys : List Sp) (w : World) (h1 : Reads w w.heap.size A1 c1 xs) (h2 : Reads w w.heap.size A2 c2 ys) :
    Calls Tryd.prog 107 #[.slice A1 xs.length c1, .slice A2 ys.length c2] w fun e w' => e = .returned (.bool (sameB xs ys)) ∧ Below w.heap.size w w' := by
  by_cases hl : xs.length = ys.length
  · obtain ⟨hlc, hc, hfit, hrow⟩ := h1
    obtain ⟨hlc2, hcc2, hfit2, hrow2⟩ := h2
    have hne : ((xs.length : Int) != (ys.length : Int)) = false := by simp [hl]
    have HL := Lib.hid hl
    clear hl
    go_enter Tryd.func107, Tryd.ntmps107
    go_wp2
    go_loopw [5] (fun i wr => ∃ k : Nat, k ≤ xs.length ∧ i = .int .i64 k ∧ (∀ j, j < k → lo xs j = lo ys j ∧ hi xs j = hi ys j) ∧ Below w.heap.size w wr) (fun i _ => xs.length - (intOf i).toNat)
    case atStart => exact ⟨0, Nat.zero_le _, rfl, fun j hj => absurd hj (by omega), Below.refl _ _⟩
    case round =>
      obtain ⟨k, hk, rfl, hsame, hb⟩ := hrel
      by_cases hlt : k < xs.length
      · rcases hrow with rfl | ⟨b, off, rfl, hB, hrow⟩
        · simp at hlt
        · rcases hrow2 with rfl | ⟨b2, off2, rfl, hB2, hrow2⟩
          · have := HL.out; simp at this hlt; simp [this] at hlt
          · have hkl : (k : Int) < (xs.length : Int) := by omega
            have hkl2 : (k : Int) < (ys.length : Int) := by have := HL.out; omega
            obtain ⟨c1, c2⟩ := (hrow.below hb hB) k hlt
            obtain ⟨d1, d2⟩ := (hrow2.below hb hB2) k (by omega)
            have Hs := Lib.hid hsame
            clear hsame
            go_wp2
            go_still_tail 8, (by kernel_rfl)
            change wpList _ _ _ _ _ wr.drew
            have hb2 : Below w.heap.size w wr.drew := hb.drew
            generalize wr.drew = w2 at hb2 ⊢
            cases hc : ((lo xs k == lo ys k) && (hi xs k == hi ys k))
            · have hv := Lib.hid (same_no (xs := xs) (ys := ys) (j := k) (by simp only [Bool.and_eq_false_iff, beq_eq_false_iff_ne] at hc; exact hc))
              have HC := Lib.hid hc
              clear hc
              go_wp2_with (go_at_call 114; refine (eqSpan_any _ _ _ _ _).mono ?_; rw [HC.out]; rintro e w' ⟨rfl, rfl⟩)
              go_ret
              exact ⟨by rw [hv.out]; rfl, (hb2.alloc hb2.size _).alloc (by have := hb2.size; simp; omega) _⟩
            · have HC := Lib.hid hc
              clear hc
              go_wp2_with (go_at_call 114; refine (eqSpan_any _ _ _ _ _).mono ?_; rw [HC.out]; rintro e w' ⟨rfl, rfl⟩)
              go_roundw
              case rel => exact ⟨k + 1, hlt, by go_num, (fun j hj => by
                 rcases Nat.lt_or_ge j k with h | h
                 · exact Hs.out j h
                 · obtain rfl : j = k := by omega
                   have h1 := HC.out
                   simpa using h1), (hb2.alloc hb2.size _).alloc (by have := hb2.size; simp; omega) _⟩
              case measure => simp [intOf]; omega
      · have hv := Lib.hid (same_yes HL.out fun j hj => hsame j (by omega))
        go_wp2
        go_ret
        exact ⟨by rw [hv.out]; rfl, hb⟩
  · have hne : ((xs.length : Int) != (ys.length : Int)) = true := by simp; omega
    have hv := Lib.hid (same_no_len hl)
    clear hl
    go_enter Tryd.func107, Tryd.ntmps107
    go_wp2
    go_ret
    exact ⟨by rw [hv.out]; rfl, Below.refl _ _⟩
end Go.Proofs.YtiaoenkgapfgaaaDoor
