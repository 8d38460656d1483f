/-
  Contracts of the functions that only read sets: both programs' checks, searches, sizes.
-/
import Derived.Test.YtiaoenkgapfgaaaDoorProg
import Derived.Test.YtiaoenkgapfgaaaDoorPureM
import Derived.WalkKit
import Derived.BigQuiet
import Derived.Deep.QuietTactic
import Derived.WalkLawsBesides
import Derived.WalkSpells
import Derived.Lib.Hide
import Derived.Outline
namespace Go.Proofs.YtiaoenkgapfgaaaDoor
open Go.RowKit Sets

theorem below_drewN {B : Nat} {a w : World} (h : Below B a w) (n : Nat) : Below B a (w.drewN n) := ⟨h.os, h.tape, h.output, h.size, h.block⟩

set_option maxRecDepth 100000 in
set_option maxHeartbeats 1000000 in
theorem specValid_any (A : Option Addr) (c : Nat) (xs : List Sp) (B : Nat) (w : World) (h : Reads w B A c xs) :
    Calls Tryd.prog 108 #[.slice A xs.length c] w fun e w' => e = .returned (.bool (validB xs)) ∧ ∃ n, w' = w.drewN n := by
  obtain ⟨hlc, hc, hfit, hrow⟩ := h
  go_enter Tryd.func108, Tryd.ntmps108
  go_wp2
  go_loopw [3] (fun i wr => ∃ k : Nat, k ≤ xs.length ∧ k ≤ 13 ∧ i = .int .i64 k ∧ (∀ j, j < k → okAt xs j) ∧ ∃ n, wr = w.drewN n) (fun i _ => xs.length - (intOf i).toNat)
  case atStart => exact ⟨0, Nat.zero_le _, by omega, rfl, fun j hj => absurd hj (by omega), 0, rfl⟩
  case round =>
    obtain ⟨k, hk, hk13, rfl, hok, nd, hnd⟩ := hrel
    by_cases hlt : k < xs.length ∧ k ≤ 12
    · obtain ⟨hlt, hk12⟩ := hlt
      rcases hrow with rfl | ⟨b, off, rfl, hB, hrow⟩
      · simp at hlt
      · have hkl : (k : Int) < (xs.length : Int) := by omega
        have hkl' : (k : Int) ≤ 12 := by omega
        have hrow' : RowAt wr b off xs := hrow.keep fun o => by rw [hnd]; rfl
        obtain ⟨c1, c2⟩ := hrow' k hlt
        have Hnd := Lib.hid hnd
        clear hnd
        by_cases t1 : lo xs k < -99
        · go_wp2
          go_quiet (fail)
          go_wp2
          go_ret
          refine ⟨?_, _, by rw [Hnd.out]; exact World.drewN_drewN _ _ _⟩
          rw [(validB_no xs).2 (fun h => by have := (h.2 k hlt).1; unfold lo at t1; omega)]; rfl
        · have t1' : decide (lo xs k < -99) = false := by simpa using t1
          by_cases t2 : 99 < hi xs k
          · go_wp2
            go_quiet (fail)
            go_wp2
            go_ret
            refine ⟨?_, _, by rw [Hnd.out]; exact World.drewN_drewN _ _ _⟩
            rw [(validB_no xs).2 (fun h => by have := (h.2 k hlt).2.1; unfold hi at t2; omega)]; rfl
          · have t2' : decide (99 < hi xs k) = false := by simpa using t2
            by_cases t3 : hi xs k < lo xs k
            · go_wp2
              go_quiet (fail)
              go_wp2
              go_ret
              refine ⟨?_, _, by rw [Hnd.out]; exact World.drewN_drewN _ _ _⟩
              rw [(validB_no xs).2 (fun h => by have := (h.2 k hlt).2.2.1; unfold hi lo at t3; omega)]; rfl
            · have t3' : decide (hi xs k < lo xs k) = false := by simpa using t3
              by_cases t4 : 0 < k
              · have hk1 : (1 : Int) ≤ (k : Int) := by omega
                have hk2 : (0 : Int) ≤ (k : Int) - 1 := by omega
                have hk3 : (k : Int) - 1 < (xs.length : Int) := by omega
                obtain ⟨_, d2⟩ := hrow' (k - 1) (by omega)
                have p1 : hi xs (k - 1) ≤ 99 := (hok (k - 1) (by omega)).2.1
                have p2 : lo xs (k - 1) ≤ hi xs (k - 1) := (hok (k - 1) (by omega)).2.2.1
                have p3 : -99 ≤ lo xs (k - 1) := (hok (k - 1) (by omega)).1
                have e1 : IntKind.i64.wrap ((k : Int) - 1) = (k : Int) - 1 := IntWalk.i64_in _ (by omega)
                have e2 : ((k : Int) - 1).toNat = k - 1 := by omega
                have e3 : IntKind.i64.wrap (hi xs (k - 1) + 1) = hi xs (k - 1) + 1 := IntWalk.i64_in _ (by omega)
                by_cases t5 : lo xs k ≤ hi xs (k - 1) + 1
                · go_wp2
                  go_quiet (fail)
                  go_wp2
                  go_ret
                  refine ⟨?_, _, by rw [Hnd.out]; exact World.drewN_drewN _ _ _⟩
                  rw [(validB_no xs).2 (fun h => by have := (h.2 k hlt).2.2.2 t4; unfold hi lo at t5; omega)]; rfl
                · go_wp2
                  go_quiet (fail)
                  go_wp2
                  go_roundw
                  case rel => exact ⟨k + 1, hlt, by omega, by go_num, (fun j hj => by
                      rcases Nat.lt_or_ge j k with h | h
                      · exact hok j h
                      · obtain rfl : j = k := by omega
                        unfold lo hi at *
                        exact ⟨by omega, by omega, by omega, fun _ => by omega⟩), _, by rw [Hnd.out]; exact World.drewN_drewN _ _ _⟩
                  case measure => simp [intOf]; omega
              · have hk1 : decide (0 < k) = false := by simpa using t4
                go_wp2
                go_quiet (fail)
                go_wp2
                go_roundw
                case rel => exact ⟨k + 1, hlt, by omega, by go_num, (fun j hj => by
                    rcases Nat.lt_or_ge j k with h | h
                    · exact hok j h
                    · obtain rfl : j = k := by omega
                      unfold lo hi at *
                      exact ⟨by omega, by omega, by omega, fun h => absurd h t4⟩), _, by rw [Hnd.out]; exact World.drewN_drewN _ _ _⟩
                case measure => simp [intOf]; omega
    · have hv : validB xs = decide ((xs.length : Int) ≤ 12) := by
        by_cases h12 : xs.length ≤ 12
        · rw [(validB_iff xs).2 ⟨h12, fun j hj => hok j (by omega)⟩]; symm; simp; omega
        · rw [(validB_no xs).2 (fun h => h12 h.1)]; symm; simp; omega
      have Hv := Lib.hid hv
      have Hnd := Lib.hid hnd
      clear hv hnd
      by_cases hlt' : k < xs.length
      all_goals
        go_wp2
        go_ret
        exact ⟨by rw [Hv.out]; rfl, _, Hnd.out⟩

end Go.Proofs.YtiaoenkgapfgaaaDoor
