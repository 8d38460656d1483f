/-
  The walk of the law on first numbers of sets.
-/
import Derived.Test.YtcjoidoodggfkaaFi
import Derived.Test.YtcjoidoodggfkaaDs
namespace Go.Proofs.Ytcjoidoodggfkaa
open Go.RowKit Sets

theorem first_has {xs : List Sp} (h : firstB xs = true) : hasB xs (lo xs 0) = true ∧ (∀ k, k < lo xs 0 → hasB xs k = false) ∧ -99 ≤ lo xs 0 ∧ lo xs 0 ≤ 99 := by
  unfold firstB at h
  rw [Bool.and_eq_true] at h
  obtain ⟨hv, hl⟩ := h
  have hl := of_decide_eq_true hl
  have h0 := valid_at hv hl
  refine ⟨?_, fun k hk => ?_, h0.1, by omega⟩
  · unfold hasB
    rw [hv, have_yes hl (Int.le_refl _) h0.2.1]; rfl
  · unfold hasB
    rw [Bool.and_eq_false_iff]
    right
    rw [← Bool.not_eq_true, haveB_iff]
    intro hm
    match xs, hl with
    | x :: r, _ =>
      have := norm_low (norm_of_valid hv).1 k hm
      unfold lo at hk
      simp at hk
      omega

set_option maxHeartbeats 2000000 in
theorem setFirst_walk (A : Option Addr) (n c : Nat) (z : Nat → Int) (w : World) (h : Bytes w A n c z) :
    Calls Try.prog 8 #[.slice A n c] w fun e w' => e = .returned (.bool true) ∧ Below w.heap.size w w' := by
  have hnc := h.1
  have hc := h.2.1
  by_cases hn : 1048576 < n
  · have hn' : (1048576 : Int) < (n : Int) := by omega
    go_enter Try.func8, Try.ntmps8
    go_wp2
    go_ret
    exact ⟨rfl, Below.refl _ _⟩
  · have hn' : ¬ (1048576 : Int) < (n : Int) := by omega
    go_enter Try.func8, Try.ntmps8
    go_wp2_with fail
    refine (drawFirst_any A n c z w h).mono ?_
    rintro e w1 ⟨v1, xs, rfl, own1, hf1, hl1, b1⟩
    obtain ⟨A1, c1, hv1, hr1, _⟩ := own1.form hf1
    subst hv1
    clear own1
    have X1 := Lib.hid hr1
    clear hr1
    go_wp2_with fail
    refine (implFirst_any _ _ xs _ X1.out).mono ?_
    rintro e w2 ⟨rfl, b2⟩
    have B2 := b1.trans (b2.mono b1.size)
    have X2 := Lib.hid (X1.out.step b2)
    go_wp2_with fail
    refine (toBelow (specFirst_any _ _ xs _ _ X2.out)).mono ?_
    rintro e w3 ⟨rfl, b3⟩
    have B3 := B2.trans (b3.mono B2.size)
    have X3 := Lib.hid (X2.out.step b3)
    have q1 : (firstV xs != firstV xs) = false := by simp
    have q2 : (firstB xs != firstB xs) = false := by simp
    have q3 : (firstV xs == firstV xs) = true := by simp
    have q4 : (firstB xs == firstB xs) = true := by simp
    cases hk : firstB xs
    · have HK := Lib.hid hk
      by_cases hl : xs.length = 0
      · have he : xs = [] := List.eq_nil_of_length_eq_zero hl
        subst he
        go_wp2
        go_ret
        exact ⟨rfl, B3⟩
      · have hv : validB xs = false := by
          have := HK.out
          unfold firstB at this
          rw [decide_eq_true (by omega), Bool.and_true] at this
          exact this
        have HV := Lib.hid hv
        clear hv
        have hne : ((xs.length : Int) == 0) = false := beq_eq_false_iff_ne.2 (by omega)
        go_wp2_with fail
        refine (implValid_any _ _ xs _ X3.out).mono ?_
        rw [HV.out]
        rintro e w4 ⟨rfl, b4⟩
        go_wp2
        go_ret
        exact ⟨rfl, B3.trans (b4.mono B3.size)⟩
    · have hV := Lib.hid (show firstV xs = lo xs 0 by unfold firstV; rw [if_pos hk])
      obtain ⟨hh1, hh2, hh3, hh4⟩ := first_has hk
      have HH1 := Lib.hid hh1
      have HH2 := Lib.hid hh2
      clear hh1 hh2
      have hV1 : -99 ≤ firstV xs := by rw [hV.out]; exact hh3
      have hV2 : firstV xs ≤ 99 := by rw [hV.out]; exact hh4
      go_wp2
      go_loopw [8] (fun i wr => ∃ k : Int, -99 ≤ k ∧ k ≤ firstV xs ∧ i = .int .i64 k ∧ Below w3.heap.size w3 wr) (fun i _ => (firstV xs - intOf i).toNat)
      case atStart => exact ⟨-99, by omega, hV1, rfl, Below.refl _ _⟩
      case round =>
        obtain ⟨k, hk1, hk2, rfl, hb⟩ := hrel
        have X4 := Lib.hid (X3.out.step hb)
        by_cases hlt : k < firstV xs
        · have hno := Lib.hid (HH2.out k (by rw [← hV.out]; exact hlt))
          go_wp2_with fail
          refine (implHas_any _ _ xs k _ X4.out).mono ?_
          rw [hno.out]
          rintro e w5 ⟨rfl, b5⟩
          go_wp2
          go_roundw
          case rel => exact ⟨k + 1, by omega, by omega, rfl, hb.trans (b5.mono hb.size)⟩
          case measure => simp [intOf]; omega
        · have hyes := Lib.hid (show hasB xs (firstV xs) = true by rw [hV.out]; exact HH1.out)
          go_wp2_with fail
          refine (implHas_any _ _ xs (firstV xs) _ X4.out).mono ?_
          rw [hyes.out]
          rintro e w5 ⟨rfl, b5⟩
          go_wp2
          go_ret
          exact ⟨rfl, B3.trans ((hb.trans (b5.mono hb.size)).mono B3.size)⟩
end Go.Proofs.Ytcjoidoodggfkaa
