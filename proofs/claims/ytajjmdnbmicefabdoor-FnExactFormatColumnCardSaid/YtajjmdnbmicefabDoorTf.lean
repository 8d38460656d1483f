/-
  Contracts of the model's readers of values.
-/
import Derived.Test.YtajjmdnbmicefabDoorTe
import Derived.Test.YtajjmdnbmicefabDoorTc
namespace Go.Proofs.YtajjmdnbmicefabDoor
open Go.RowKit Sets

set_option maxRecDepth 100000 in
theorem l2numE_any (s : ByteArray) (h0 : s.size = 0) (w : World) :
    Calls Tryd.prog 45 #[.string s] w fun e w' => e = .returned (.tuple #[.int .i64 (numP s.data.toList).1, .int .i64 (numP s.data.toList).2]) ∧ Below w.heap.size w w' := by
  have hsx : s.size ≤ 9223372036854775807 := by omega
  have hi0 : decide ((0 : Int) < (s.size : Int)) = false := decide_eq_false (by omega)
  have hi1 : decide (0 < s.size) = false := decide_eq_false (by omega)
  have hl : s.data.toList = [] := List.eq_nil_of_length_eq_zero (by rw [← Lib.size_eq]; exact h0)
  have HZ : Hid (numP s.data.toList = (0, 0)) := Lib.hid (by rw [hl]; rfl)
  clear hl
  have H0 := Lib.hid h0
  clear h0
  go_enter Tryd.func45, Tryd.ntmps45
  go_wp2
  refine wp_loop_rounds 1 ?_
  rw [rounds_succ]
  go_wp2
  go_ret2
  exact ⟨by rw [HZ.out]; rfl, Below.refl _ _⟩
theorem l2num_any (s : ByteArray) (hs : s.size ≤ 1048600) (w : World) :
    Calls Tryd.prog 45 #[.string s] w fun e w' => e = .returned (.tuple #[.int .i64 (numP s.data.toList).1, .int .i64 (numP s.data.toList).2]) ∧ Below w.heap.size w w' := by
  by_cases h0 : 0 < s.size
  · cases hn : negB s.data.toList
    · exact l2num0_any s hs h0 hn w
    · exact l2num1_any s hs h0 hn w
  · exact l2numE_any s (by omega) w

theorem valP_zero {L : Bool} {a b : Int} {l : Bs} (h : (rawP L l).2 = 0) : valP L a b l = (0, 0) := by unfold valP; rw [if_pos (.inl h)]
theorem valP_low {L : Bool} {a b : Int} {l : Bs} (h : (rawP L l).1 < a) : valP L a b l = (0, 0) := by unfold valP; rw [if_pos (.inr (.inl h))]
theorem valP_high {L : Bool} {a b : Int} {l : Bs} (h : b < (rawP L l).1) : valP L a b l = (0, 0) := by unfold valP; rw [if_pos (.inr (.inr h))]
theorem valP_in {L : Bool} {a b : Int} {l : Bs} (h : (rawP L l).2 ≠ 0) (h1 : a ≤ (rawP L l).1) (h2 : (rawP L l).1 ≤ b) : valP L a b l = rawP L l := by
  unfold valP
  rw [if_neg]
  omega
theorem head_eq (s : ByteArray) (h : 0 < s.size) : s.data.toList = s[0] :: s.data.toList.drop 1 := by
  have := drop_cons s 0 h
  simpa using this

set_option maxRecDepth 100000 in
set_option maxHeartbeats 1000000 in
theorem l2val_any (L : Bool) (a b : Int) (s : ByteArray) (hs : s.size ≤ 1048600) (w : World) :
    Calls Tryd.prog 28 #[colV L a b, .string s] w fun e w' => e = .returned (.tuple #[.int .i64 (valP L a b s.data.toList).1, .int .i64 (valP L a b s.data.toList).2]) ∧ Below w.heap.size w w' := by
  have b0 : Below w.heap.size w (w.alloc (.cells #[.bool L, .int .i64 a, .int .i64 b] 25)) := (Below.refl _ w).alloc (Nat.le_refl _) _
  obtain ⟨k0, k1, k2⟩ := ColAt.box w L a b 25
  have hsx : s.size ≤ 9223372036854775807 := by omega
  cases L
  · go_enter Tryd.func28, Tryd.ntmps28
    go_wp2_with fail
    refine (l2num_any s hs _).mono ?_
    generalize hq : numP s.data.toList = q
    obtain ⟨n, k⟩ := q
    have HQ : Hid (rawP false s.data.toList = (n, k)) := Lib.hid hq
    clear hq
    rintro e w1 ⟨rfl, b1⟩
    obtain ⟨g0, g1, g2⟩ := ColAt.below (g := w.heap.size) ⟨k0, k1, k2⟩ b1 (by simp)
    have b01 := b0.trans (b1.mono b0.size)
    clear k0 k1 k2
    by_cases hk : k = 0
    · subst hk
      have HV : Hid (valP false a b s.data.toList = (0, 0)) := Lib.hid (valP_zero (by rw [HQ.out]))
      go_wp2
      go_ret2
      exact ⟨by rw [HV.out]; rfl, b01⟩
    · have hk1 : ((k : Int) == 0) = false := beq_eq_false_iff_ne.2 (by omega)
      by_cases h1 : n < a
      · have HV : Hid (valP false a b s.data.toList = (0, 0)) := Lib.hid (valP_low (by rw [HQ.out]; exact h1))
        go_wp2
        go_ret2
        exact ⟨by rw [HV.out]; rfl, b01⟩
      · have h1d : decide (n < a) = false := decide_eq_false h1
        by_cases h2 : b < n
        · have HV : Hid (valP false a b s.data.toList = (0, 0)) := Lib.hid (valP_high (by rw [HQ.out]; exact h2))
          go_wp2
          go_ret2
          exact ⟨by rw [HV.out]; rfl, b01⟩
        · have h2d : decide (b < n) = false := decide_eq_false h2
          have HV : Hid (valP false a b s.data.toList = (n, k)) := Lib.hid ((valP_in (by rw [HQ.out]; exact hk) (by rw [HQ.out]; show a ≤ n; omega) (by rw [HQ.out]; show n ≤ b; omega)).trans HQ.out)
          go_wp2
          go_ret2
          exact ⟨by rw [HV.out]; rfl, b01⟩
  · by_cases h0 : 0 < s.size
    · have hi0 : (0 : Int) < (s.size : Int) := by omega
      have HH := Lib.hid (head_eq s h0)
      by_cases hlet : isLet s[0] = true
      · obtain ⟨g1, g2⟩ := (isLet_iff _).1 hlet
        have HQ : Hid (rawP true s.data.toList = (((s[0]).toNat : Int) - 65, 1)) := Lib.hid (by
          show letP s.data.toList = _
          rw [HH.out, letP, if_pos hlet])
        clear hlet
        by_cases h1 : ((s[0]).toNat : Int) - 65 < a
        · have HV : Hid (valP true a b s.data.toList = (0, 0)) := Lib.hid (valP_low (by rw [HQ.out]; exact h1))
          go_enter Tryd.func28, Tryd.ntmps28
          go_wp2
          go_ret2
          exact ⟨by rw [HV.out]; rfl, b0⟩
        · have h1d : decide (((s[0]).toNat : Int) - 65 < a) = false := decide_eq_false h1
          by_cases h2 : b < ((s[0]).toNat : Int) - 65
          · have HV : Hid (valP true a b s.data.toList = (0, 0)) := Lib.hid (valP_high (by rw [HQ.out]; exact h2))
            go_enter Tryd.func28, Tryd.ntmps28
            go_wp2
            go_ret2
            exact ⟨by rw [HV.out]; rfl, b0⟩
          · have h2d : decide (b < ((s[0]).toNat : Int) - 65) = false := decide_eq_false h2
            have HV : Hid (valP true a b s.data.toList = (((s[0]).toNat : Int) - 65, 1)) := Lib.hid ((valP_in (by rw [HQ.out]; exact Nat.one_ne_zero) (by rw [HQ.out]; show a ≤ _; omega) (by rw [HQ.out]; show _ ≤ b; omega)).trans HQ.out)
            go_enter Tryd.func28, Tryd.ntmps28
            go_wp2
            go_ret2
            exact ⟨by rw [HV.out]; rfl, b0⟩
      · have HV : Hid (valP true a b s.data.toList = (0, 0)) := Lib.hid (valP_zero (by
          show (letP s.data.toList).2 = 0
          rw [HH.out, letP, if_neg hlet]))
        have hdig : ¬ (65 ≤ (s[0]).toNat ∧ (s[0]).toNat ≤ 90) := fun h => hlet ((isLet_iff _).2 h)
        clear hlet
        by_cases hc : (s[0]).toNat < 65
        · have hc1 : ¬ (65 : Int) ≤ (((s[0]).toNat : Nat) : Int) := by omega
          have hc2 : decide ((65 : Int) ≤ (((s[0]).toNat : Nat) : Int)) = false := decide_eq_false hc1
          go_enter Tryd.func28, Tryd.ntmps28
          go_wp2
          go_ret2
          exact ⟨by rw [HV.out]; rfl, b0⟩
        · have hc1 : (65 : Int) ≤ (((s[0]).toNat : Nat) : Int) := by omega
          have hc2 : ¬ (((s[0]).toNat : Nat) : Int) ≤ 90 := by omega
          go_enter Tryd.func28, Tryd.ntmps28
          go_wp2
          go_ret2
          exact ⟨by rw [HV.out]; rfl, b0⟩
    · have hl : s.data.toList = [] := List.eq_nil_of_length_eq_zero (by rw [← Lib.size_eq]; omega)
      have HV : Hid (valP true a b s.data.toList = (0, 0)) := Lib.hid (valP_zero (by rw [hl]; rfl))
      have hi0 : decide ((0 : Int) < (s.size : Int)) = false := decide_eq_false (by omega)
      have hi1 : decide (0 < s.size) = false := decide_eq_false (by omega)
      clear hl
      go_enter Tryd.func28, Tryd.ntmps28
      go_wp2
      go_ret2
      exact ⟨by rw [HV.out]; rfl, b0⟩

set_option maxRecDepth 100000 in
set_option maxHeartbeats 1000000 in
theorem specPV_any (L : Bool) (a b : Int) (s : ByteArray) (hs : s.size ≤ 1048600) (w : World) :
    Calls Tryd.prog 11 #[colV L a b, .string s] w fun e w' => e = .returned (.tuple #[.int .i64 (pvN L a b s.data.toList), .bool (pvB L a b s.data.toList)]) ∧ Below w.heap.size w w' := by
  have b0 : Below w.heap.size w (w.alloc (.cells #[.bool L, .int .i64 a, .int .i64 b] 25)) := (Below.refl _ w).alloc (Nat.le_refl _) _
  obtain ⟨k0, k1, k2⟩ := ColAt.box w L a b 25
  have hsx : s.size ≤ 9223372036854775807 := by omega
  cases hc : colB L a b
  · have hv := Lib.hid (pv_nocol (l := s.data.toList) hc)
    have HC := Lib.hid hc
    clear hc
    go_enter Tryd.func11, Tryd.ntmps11
    go_wp2_with fail
    refine (specCol_b L a b _).mono ?_
    rw [HC.out]
    rintro e w1 ⟨rfl, b1⟩
    go_wp2
    go_ret2
    exact ⟨by rw [hv.out.1, hv.out.2]; rfl, b0.trans (b1.mono b0.size)⟩
  · have HC := Lib.hid hc
    clear hc
    go_enter Tryd.func11, Tryd.ntmps11
    go_wp2_with fail
    refine (specCol_b L a b _).mono ?_
    rw [HC.out]
    rintro e w1 ⟨rfl, b1⟩
    obtain ⟨g0, g1, g2⟩ := ColAt.below (g := w.heap.size) ⟨k0, k1, k2⟩ b1 (by simp)
    have b01 := b0.trans (b1.mono b0.size)
    clear k0 k1 k2
    go_wp2_with fail
    refine (l2val_any L a b s hs _).mono ?_
    have hl := Lib.size_eq s
    have hno := fun h => specPV_no (L := L) (a := a) (b := b) (l := s.data.toList) h
    have hys := fun h1 h2 => specPV_yes (L := L) (a := a) (b := b) (l := s.data.toList) HC.out h1 h2
    generalize valP L a b s.data.toList = q at hno hys
    obtain ⟨n, k⟩ := q
    simp only at hno hys
    rw [← hl] at hno hys
    have HO := Lib.hid hno
    have HY := Lib.hid hys
    clear hno hys hl
    rintro e w2 ⟨rfl, b2⟩
    have b02 := b01.trans (b2.mono b01.size)
    by_cases hk : k = 0
    · subst hk
      have hv := Lib.hid (HO.out (.inl rfl))
      go_wp2
      go_ret2
      exact ⟨by rw [hv.out.1, hv.out.2]; rfl, b02⟩
    · have hk1 : ((k : Int) == 0) = false := beq_eq_false_iff_ne.2 (by omega)
      by_cases hkl : k = s.size
      · have hv := Lib.hid (HY.out hk hkl)
        have hkn : ((k : Int) != (s.size : Int)) = false := by simp [hkl]
        have HK := Lib.hid hkl
        clear hkl
        go_wp2
        go_ret2
        exact ⟨by rw [hv.out.1, hv.out.2]; rfl, b02⟩
      · have hv := Lib.hid (HO.out (.inr hkl))
        have hkn : ((k : Int) != (s.size : Int)) = true := by simp; omega
        go_wp2
        go_ret2
        exact ⟨by rw [hv.out.1, hv.out.2]; rfl, b02⟩
end Go.Proofs.YtajjmdnbmicefabDoor
