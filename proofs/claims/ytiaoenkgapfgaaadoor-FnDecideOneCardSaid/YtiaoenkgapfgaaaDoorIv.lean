/-
  Contract of the program's own check of a set.
-/
import Derived.Test.YtiaoenkgapfgaaaDoorRd
namespace Go.Proofs.YtiaoenkgapfgaaaDoor
open Go.RowKit Sets

def isNumB (n : Int) : Bool := decide (-99 ≤ n) && decide (n ≤ 99)

set_option maxRecDepth 100000 in
theorem isNumber_any (n : Int) (w : World) : Calls Tryd.prog 100 #[.int .i64 n] w fun e w' => e = .returned (.bool (isNumB n)) ∧ w = w' := by
  unfold isNumB
  go_enter Tryd.func100, Tryd.ntmps100
  go_wp2
  all_goals go_ret
  all_goals refine ⟨?_, rfl⟩
  all_goals simp [*]
  all_goals omega

def limB (lo hi : Int) : Bool := isNumB lo && isNumB hi
theorem limB_iff (lo hi : Int) : limB lo hi = true ↔ (-99 ≤ lo ∧ lo ≤ 99) ∧ -99 ≤ hi ∧ hi ≤ 99 := by simp [limB, isNumB]

set_option maxRecDepth 100000 in
theorem inLimits_any (lo hi : Int) (w : World) : Calls Tryd.prog 81 #[.agg #[.int .i64 lo, .int .i64 hi]] w fun e w' => e = .returned (.bool (limB lo hi)) ∧ w.alloc (.cells #[.int .i64 lo, .int .i64 hi] 126) = w' := by
  go_enter Tryd.func81, Tryd.ntmps81
  unfold limB
  cases h1 : isNumB lo
  all_goals
    have H := Lib.hid h1
    clear h1
    go_wp2_with (go_at_call 100; refine (isNumber_any _ _).mono ?_; rintro e w' ⟨rfl, rfl⟩; try rw [H.out])
  all_goals go_ret
  all_goals exact ⟨rfl, rfl⟩

set_option maxRecDepth 100000 in
theorem empty_any (lo hi : Int) (w : World) : Calls Tryd.prog 82 #[.agg #[.int .i64 lo, .int .i64 hi]] w fun e w' => e = .returned (.bool (decide (hi < lo))) ∧ w.alloc (.cells #[.int .i64 lo, .int .i64 hi] 126) = w' := by
  go_enter Tryd.func82, Tryd.ntmps82
  go_wp2
  go_ret
  exact ⟨rfl, rfl⟩

theorem below3 {B : Nat} {w a : World} (h : Below B w a) (hB : B ≤ a.heap.size) (o1 o2 o3 : Obj) : Below B w (((a.alloc o1).alloc o2).alloc o3) :=
  ((h.alloc hB _).alloc (by simp; omega) _).alloc (by simp; omega) _
theorem below2 {B : Nat} {w a : World} (h : Below B w a) (hB : B ≤ a.heap.size) (o1 o2 : Obj) : Below B w ((a.alloc o1).alloc o2) :=
  (h.alloc hB _).alloc (by simp; omega) _

set_option maxRecDepth 100000 in
theorem implValid_any (A : Option Addr) (c : Nat) (xs : List Sp) (w : World) (h : Reads w w.heap.size A c xs) :
    Calls Tryd.prog 102 #[.slice A xs.length c] w fun e w' => e = .returned (.bool (validB xs)) ∧ Below w.heap.size w w' := by
  obtain ⟨hlc, hc, hfit, hrow⟩ := h
  by_cases hlen : 12 < xs.length
  · have hv := Lib.hid ((validB_no xs).2 (fun h => by have := h.1; omega))
    go_enter Tryd.func102, Tryd.ntmps102
    go_wp2
    go_ret
    exact ⟨by rw [hv.out]; rfl, Below.refl _ _⟩
  · have hd1 : decide ((12 : Int) < (xs.length : Int)) = false := by simp; omega
    go_enter Tryd.func102, Tryd.ntmps102
    go_wp2
    go_loopw [10] (fun i wr => ∃ k : Nat, k ≤ xs.length ∧ i = .int .i64 k ∧ (∀ j, j < k → okAt xs j) ∧ Below w.heap.size w wr) (fun i _ => xs.length - (intOf i).toNat)
    case atStart => exact ⟨0, Nat.zero_le _, rfl, fun j hj => absurd hj (by omega), Below.refl _ _⟩
    case round =>
      obtain ⟨k, hk, rfl, hok, hb⟩ := hrel
      by_cases hlt : k < xs.length
      · rcases hrow with rfl | ⟨b, off, rfl, hB, hrow⟩
        · simp at hlt
        · obtain ⟨c1, c2⟩ := (hrow.below hb hB) k hlt
          have hbw : b < wr.heap.size := by have := hb.size; omega
          have hbw1 : b < wr.heap.size + 1 := by omega
          have hbw2 : b < wr.heap.size + 1 + 1 := by omega
          have hkl : (k : Int) < (xs.length : Int) := by omega
          cases hL : limB (lo xs k) (hi xs k)
          · go_wp2_with (first | (go_at_call 81; refine (inLimits_any _ _ _).mono ?_; rintro e w1 ⟨rfl, rfl⟩) | (go_at_call 82; refine (empty_any _ _ _).mono ?_; rintro e w2 ⟨rfl, rfl⟩))
            go_ret
            refine ⟨?_, below2 hb hb.size _ _⟩
            rw [(validB_no xs).2 (fun h => ?_)]
            · rfl
            · have ho := h.2 k hlt
              have o1 := ho.1; have o2 := ho.2.1; have o3 := ho.2.2.1
              rw [(limB_iff (lo xs k) (hi xs k)).2 (by unfold lo hi; omega)] at hL
              cases hL
          · by_cases hem : hi xs k < lo xs k
            · go_wp2_with (first | (go_at_call 81; refine (inLimits_any _ _ _).mono ?_; rintro e w1 ⟨rfl, rfl⟩) | (go_at_call 82; refine (empty_any _ _ _).mono ?_; rintro e w2 ⟨rfl, rfl⟩))
              go_ret
              refine ⟨?_, below3 hb hb.size _ _ _⟩
              rw [(validB_no xs).2 (fun h => ?_)]
              · rfl
              · have := (h.2 k hlt).2.2.1; unfold lo hi at hem; omega
            · by_cases hk0 : 0 < k
              · have hk1 : (1 : Int) ≤ (k : Int) := by omega
                have hk2 : (0 : Int) ≤ (k : Int) - 1 := by omega
                have hk3 : (k : Int) - 1 < (xs.length : Int) := by omega
                have hk4 := Lib.hid (show k < 9223372036854775807 by omega)
                obtain ⟨d1, d2⟩ := (hrow.below hb hB) (k - 1) (by omega)
                have hpre := (hok (k - 1) (by omega)).2.1
                have hpre0 := (hok (k - 1) (by omega)).2.2.1
                have hpre1 := (hok (k - 1) (by omega)).1
                change hi xs (k - 1) ≤ 99 at hpre
                change lo xs (k - 1) ≤ hi xs (k - 1) at hpre0
                change -99 ≤ lo xs (k - 1) at hpre1
                by_cases hgap : lo xs k < hi xs (k - 1) + 2
                · go_wp2_with (first | (go_at_call 81; refine (inLimits_any _ _ _).mono ?_; rintro e w1 ⟨rfl, rfl⟩) | (go_at_call 82; refine (empty_any _ _ _).mono ?_; rintro e w2 ⟨rfl, rfl⟩))
                  have e1 : IntKind.i64.wrap ((k : Int) - 1) = (k : Int) - 1 := IntWalk.i64_in _ (by have := hk4.out; omega)
                  have e2 : ((k : Int) - 1).toNat = k - 1 := by omega
                  have e3 : IntKind.i64.wrap (hi xs (k - 1) + 2) = hi xs (k - 1) + 2 := IntWalk.i64_in _ (by omega)
                  go_quiet (fail)
                  go_wp2
                  go_ret
                  refine ⟨?_, below_drewN (below3 hb hb.size _ _ _) _⟩
                  rw [(validB_no xs).2 (fun h => ?_)]
                  · rfl
                  · have := (h.2 k hlt).2.2.2 hk0; unfold lo hi at hgap; omega
                · go_wp2_with (first | (go_at_call 81; refine (inLimits_any _ _ _).mono ?_; rintro e w1 ⟨rfl, rfl⟩) | (go_at_call 82; refine (empty_any _ _ _).mono ?_; rintro e w2 ⟨rfl, rfl⟩))
                  have e1 : IntKind.i64.wrap ((k : Int) - 1) = (k : Int) - 1 := IntWalk.i64_in _ (by have := hk4.out; omega)
                  have e2 : ((k : Int) - 1).toNat = k - 1 := by omega
                  have e3 : IntKind.i64.wrap (hi xs (k - 1) + 2) = hi xs (k - 1) + 2 := IntWalk.i64_in _ (by omega)
                  go_quiet (fail)
                  go_wp2
                  go_roundw
                  case rel => exact ⟨k + 1, hlt, by go_num, (fun j hj => by
                    rcases Nat.lt_or_ge j k with h | h
                    · exact hok j h
                    · obtain rfl : j = k := by omega
                      have hl := (limB_iff _ _).1 hL
                      unfold lo hi at hl hem hgap
                      exact ⟨by omega, by omega, by omega, fun _ => by omega⟩), below_drewN (below3 hb hb.size _ _ _) _⟩
                  case measure => simp [intOf]; omega
              · have hk1 : decide (0 < k) = false := by simpa using hk0
                go_wp2_with (first | (go_at_call 81; refine (inLimits_any _ _ _).mono ?_; rintro e w1 ⟨rfl, rfl⟩) | (go_at_call 82; refine (empty_any _ _ _).mono ?_; rintro e w2 ⟨rfl, rfl⟩))
                go_quiet (fail)
                go_wp2
                go_roundw
                case rel => exact ⟨k + 1, hlt, by go_num, (fun j hj => by
                  rcases Nat.lt_or_ge j k with h | h
                  · exact hok j h
                  · obtain rfl : j = k := by omega
                    have hl := (limB_iff _ _).1 hL
                    unfold lo hi at hl hem
                    exact ⟨by omega, by omega, by omega, fun h => absurd h hk0⟩), below_drewN (below3 hb hb.size _ _ _) _⟩
                case measure => simp [intOf]; omega
      · go_wp2
        go_ret
        refine ⟨?_, hb⟩
        rw [(validB_iff xs).2 ⟨by omega, fun j hj => hok j (by omega)⟩]
        rfl
end Go.Proofs.YtiaoenkgapfgaaaDoor
