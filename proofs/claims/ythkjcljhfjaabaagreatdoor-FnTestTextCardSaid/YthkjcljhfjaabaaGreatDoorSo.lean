/-
  Contract of the model's set of the numbers of spans.
-/
import Derived.Test.YthkjcljhfjaabaaGreatDoorJo
namespace Go.Proofs.YthkjcljhfjaabaaGreatDoor
open Go.RowKit Sets

def LimAll (xs : List Sp) : Prop := ∀ j, j < xs.length → limB (lo xs j) (hi xs j) = true
instance (xs : List Sp) : Decidable (LimAll xs) := by unfold LimAll; infer_instance
def setOfB (xs : List Sp) : Bool := decide (xs.length ≤ 100) && decide (LimAll xs) && decide ((fromF (flag xs) 199).length ≤ 12)
def setOfV (xs : List Sp) : List Sp := if setOfB xs = true then fromF (flag xs) 199 else []
theorem setOf_long {xs : List Sp} (h : 100 < xs.length) : setOfB xs = false := by unfold setOfB; rw [decide_eq_false (by omega)]; rfl
theorem setOf_out {xs : List Sp} {j : Nat} (hj : j < xs.length) (h : limB (lo xs j) (hi xs j) = false) : setOfB xs = false := by
  unfold setOfB
  rw [decide_eq_false (p := LimAll xs) (fun hl => by rw [hl j hj] at h; cases h)]; simp
theorem setOf_in {xs : List Sp} (h1 : xs.length ≤ 100) (h2 : LimAll xs) : setOfB xs = decide ((fromF (flag xs) 199).length ≤ 12) := by
  unfold setOfB
  rw [decide_eq_true h1, decide_eq_true h2]; simp
theorem setOfV_no {xs : List Sp} (h : setOfB xs = false) : setOfV xs = [] := by unfold setOfV; rw [h]; rfl
theorem setOfV_yes {xs : List Sp} (h : setOfB xs = true) : setOfV xs = fromF (flag xs) 199 := by unfold setOfV; rw [if_pos h]

set_option maxRecDepth 100000 in
theorem specOf_any (A : Option Addr) (c : Nat) (xs : List Sp) (w : World) (h : Reads w w.heap.size A c xs) :
    Calls Tryz.prog 73 #[.slice A xs.length c] w (OwnRes2 w.heap.size (setOfV xs) (setOfB xs) w) := by
  have H := Lib.hid h
  obtain ⟨hlc, hc, hfit, hrow⟩ := h
  by_cases h100 : 100 < xs.length
  · have hb := Lib.hid (setOf_long h100)
    have hv := Lib.hid (setOfV_no hb.out)
    have h1 : (100 : Int) < (xs.length : Int) := by omega
    go_enter Tryz.func73, Tryz.ntmps73
    go_wp2
    go_ret2
    unfold OwnRes2
    rw [hv.out, hb.out]
    exact ⟨_, rfl, own_empty _, fits_nil, (Below.refl _ _).alloc (Nat.le_refl _) _⟩
  · have h1 : ¬ (100 : Int) < (xs.length : Int) := by omega
    have h2 : decide ((100 : Int) < (xs.length : Int)) = false := decide_eq_false h1
    go_enter Tryz.func73, Tryz.ntmps73
    go_wp2
    go_loop [4] (fun i => ∃ k : Nat, k ≤ xs.length ∧ i = .int .i64 k ∧ ∀ j, j < k → limB (lo xs j) (hi xs j) = true) (fun i => xs.length - (intOf i).toNat)
    case atStart => exact ⟨0, Nat.zero_le _, rfl, fun j hj => absurd hj (by omega)⟩
    case round =>
      obtain ⟨k, hk, rfl, hall⟩ := hrel
      by_cases hlt : k < xs.length
      · rcases hrow with rfl | ⟨b, off, rfl, hB, hrow⟩
        · simp at hlt
        · have hkl : (k : Int) < (xs.length : Int) := by omega
          obtain ⟨c1, c2⟩ := hrow k hlt
          have HA := Lib.hid hall
          clear hall
          cases hL : limB (lo xs k) (hi xs k)
          · have hb := Lib.hid (setOf_out hlt hL)
            have hv := Lib.hid (setOfV_no hb.out)
            have hno : ¬ ((-99 ≤ lo xs k ∧ lo xs k ≤ 99) ∧ -99 ≤ hi xs k ∧ hi xs k ≤ 99) := fun h => by rw [(limB_iff _ _).2 h] at hL; cases hL
            clear hL
            go_wp2
            all_goals first
              | (exfalso; omega)
              | (go_ret2
                 unfold OwnRes2
                 rw [hv.out, hb.out]
                 exact ⟨_, rfl, own_empty _, fits_nil, (Below.refl _ _).alloc (Nat.le_refl _) _⟩)
          · obtain ⟨⟨l1, l2⟩, l3, l4⟩ := (limB_iff _ _).1 hL
            have HL := Lib.hid hL
            clear hL
            go_wp2
            go_round
            case rel => exact ⟨k + 1, hlt, by go_num, fun j hj => by
              rcases Nat.lt_or_ge j k with h | h
              · exact HA.out j h
              · obtain rfl : j = k := by omega
                exact HL.out⟩
            case measure => simp [intOf]; omega
      · have hin := Lib.hid (setOf_in (xs := xs) (by omega) (fun j hj => hall j (by omega)))
        clear hall
        go_wp2_with fail
        refine (flags_any _ _ xs _ H.out).mono ?_
        rintro e w1 ⟨rfl, hx1, b1⟩
        go_wp2_with fail
        refine (from_any _ _ _ hx1).mono ?_
        rintro e w3 ⟨v, rfl, hown, hf, b3⟩
        have b03 := b1.trans (b3.mono b1.size)
        obtain ⟨A4, c4, hv4, r4, _⟩ := hown.form hf
        subst hv4
        clear r4
        go_wp2_with fail
        refine (done_any _ _ _ _).mono ?_
        rintro e w4 (⟨h12, rfl, rfl⟩ | ⟨h12, rfl, rfl⟩)
        · have hk2 := Lib.hid (hin.out.trans (decide_eq_true h12))
          have hm := Lib.hid (setOfV_yes hk2.out)
          clear h12
          go_wp2
          go_ret2
          unfold OwnRes2
          rw [hm.out, hk2.out]
          exact ⟨_, rfl, hown.mono b1.size, hf, b03⟩
        · have hk2 := Lib.hid (hin.out.trans (decide_eq_false h12))
          have hm := Lib.hid (setOfV_no hk2.out)
          clear h12
          go_wp2
          go_ret2
          unfold OwnRes2
          rw [hm.out, hk2.out]
          exact ⟨_, rfl, (own_empty _).mono b03.size, fits_nil, b03.alloc b03.size _⟩
end Go.Proofs.YthkjcljhfjaabaaGreatDoor
