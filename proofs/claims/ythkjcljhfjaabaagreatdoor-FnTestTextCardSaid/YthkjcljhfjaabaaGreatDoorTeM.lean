/-
  Contracts of the model's texts and readers of values.
-/
import Derived.Test.YthkjcljhfjaabaaGreatDoorTa
import Derived.Test.YthkjcljhfjaabaaGreatDoorTpM
import Derived.Deep.QuietTactic
import Derived.BigQuiet
import Derived.Deep.RegionWith
import Derived.Test.YthkjcljhfjaabaaGreatDoorTcM
namespace Go.Proofs.YthkjcljhfjaabaaGreatDoor
open Go.RowKit Sets

set_option maxRecDepth 100000 in
theorem specFV_any (L : Bool) (a b n : Int) (w : World) :
    Calls Tryz.prog 30 #[colV L a b, .int .i64 n] w fun e w' => e = .returned (strV (fV L a b n)) ∧ Below w.heap.size w w' := by
  have b0 : Below w.heap.size w (w.alloc (.cells #[.bool L, .int .i64 a, .int .i64 b] 27)) := (Below.refl _ w).alloc (Nat.le_refl _) _
  obtain ⟨k0, k1, k2⟩ := ColAt.box w L a b 27
  cases hc : colB L a b
  · have hv : Hid (fV L a b n = []) := Lib.hid (fV_no (by unfold inB; rw [hc]; rfl))
    have HC := Lib.hid hc
    clear hc
    go_enter Tryz.func30, Tryz.ntmps30
    go_wp2_with fail
    refine (specCol_b L a b _).mono ?_
    rw [HC.out]
    rintro e w1 ⟨rfl, b1⟩
    go_wp2
    go_ret
    exact ⟨by rw [hv.out]; rfl, b0.trans (b1.mono b0.size)⟩
  · cases hin : inB L a b n
    · have hv := Lib.hid (fV_no hin)
      have hr : n < a ∨ b < n := by
        have := mt (inB_iff L a b n).2 (by rw [hin]; simp)
        simp only [hc, true_and] at this
        omega
      have HC := Lib.hid hc
      clear hc hin
      go_enter Tryz.func30, Tryz.ntmps30
      go_wp2_with fail
      refine (specCol_b L a b _).mono ?_
      rw [HC.out]
      rintro e w1 ⟨rfl, b1⟩
      obtain ⟨g0, g1, g2⟩ := ColAt.below (g := w.heap.size) ⟨k0, k1, k2⟩ b1 (by simp)
      have b01 := b0.trans (b1.mono b0.size)
      clear k0 k1 k2
      by_cases h1 : n < a
      · go_wp2
        go_ret
        exact ⟨by rw [hv.out]; rfl, b01⟩
      · have h1d : decide (n < a) = false := decide_eq_false h1
        have h2 : b < n := by omega
        go_wp2
        go_ret
        exact ⟨by rw [hv.out]; rfl, b01⟩
    · have hv := Lib.hid (fV_yes hin)
      have HI := Lib.hid hin
      obtain ⟨_, h1, h2⟩ := (inB_iff _ _ _ _).1 hin
      have h1d : decide (n < a) = false := decide_eq_false (by omega)
      have h2d : decide (b < n) = false := decide_eq_false (by omega)
      have HC := Lib.hid hc
      clear hc hin
      go_enter Tryz.func30, Tryz.ntmps30
      go_wp2_with fail
      refine (specCol_b L a b _).mono ?_
      rw [HC.out]
      rintro e w1 ⟨rfl, b1⟩
      obtain ⟨g0, g1, g2⟩ := ColAt.below (g := w.heap.size) ⟨k0, k1, k2⟩ b1 (by simp)
      have b01 := b0.trans (b1.mono b0.size)
      clear k0 k1 k2
      go_wp2_with fail
      refine (specText_any L a b n HI.out _).mono ?_
      rintro e w2 ⟨rfl, b2⟩
      go_wp2
      go_ret
      exact ⟨by rw [hv.out]; rfl, b01.trans (b2.mono b01.size)⟩

theorem take_snoc' (r : Bs) (k : Nat) (h : k < r.length) : r.take (k + 1) = r.take k ++ [r[k]] := List.take_succ_eq_append_getElem h

def vb (k : Nat) (v : Int) : Prop := 0 ≤ v ∧ ((k = 0 ∧ v ≤ 0) ∨ (k = 1 ∧ v ≤ 9) ∨ (k = 2 ∧ v ≤ 99) ∨ (k = 3 ∧ v ≤ 999))
theorem vb_next {k : Nat} {v c : Int} (h : vb k v) (hk : k < 3) (h1 : 48 ≤ c) (h2 : c ≤ 57) : vb (k + 1) (v * 10 + (c - 48)) := by
  unfold vb at h ⊢
  omega
def leadAt (d : Bs) (k : Nat) (v : Int) : Prop := v = dvn (d.take k) ∧ ∀ j (_ : j < k) (h2 : j < d.length), isDig d[j] = true
theorem leadAt_next {d : Bs} {k : Nat} {v : Int} {c : UInt8} (h : leadAt d k v) (hk : k < d.length) (hc : d[k] = c) (hd : isDig c = true) : leadAt d (k + 1) (v * 10 + ((c.toNat : Int) - 48)) := by
  subst hc
  refine ⟨by rw [List.take_succ_eq_append_getElem hk, dvn_snoc, ← h.1], fun j hj h2 => ?_⟩
  by_cases e : j = k
  · subst e; exact hd
  · exact h.2 j (by omega) h2
theorem leadAt_end {d : Bs} {k : Nat} {v : Int} (h : leadAt d k v) (h3 : k ≤ 3) (hk : k ≤ d.length) (he : k = 3 ∨ k = d.length ∨ ∃ h : k < d.length, isDig d[k] = false) : lead d = k ∧ v = dvn (d.take (lead d)) := by
  have := lead_eq h3 hk (fun j hj => h.2 j hj (by omega)) he
  exact ⟨this, by rw [this]; exact h.1⟩
theorem numP_none {l : Bs} (h : lead (digsOf l) = 0) : numP l = (0, 0) := by unfold numP; rw [if_pos h]

theorem numP_bad {s : ByteArray} {l : Bs} {v : Int} {m : Nat} (hl : s.data.toList = l) (hv : numV l = v) (hm : numK l = m) (h : (!Lib.itoa v == (s.extract 0 m).toList) = true) : numP l = (0, 0) := by
  rw [Lib.extract_toList, hl, List.drop_zero, Nat.sub_zero] at h
  unfold numP
  split
  · rfl
  · rw [hv, hm, if_neg]
    intro e
    rw [e] at h
    simp at h
theorem numP_ok {s : ByteArray} {l : Bs} {v : Int} {m : Nat} (hl : s.data.toList = l) (h0 : lead (digsOf l) ≠ 0) (hv : numV l = v) (hm : numK l = m) (h : (!Lib.itoa v == (s.extract 0 m).toList) = false) : numP l = (v, m) := by
  rw [Lib.extract_toList, hl, List.drop_zero, Nat.sub_zero] at h
  unfold numP
  rw [if_neg h0, hv, hm, if_pos (by simpa using h)]

set_option maxRecDepth 100000 in
set_option maxHeartbeats 2000000 in
theorem l2num0_any (s : ByteArray) (hs : s.size ≤ 1048600) (h0 : 0 < s.size) (hn : negB s.data.toList = false) (w : World) :
    Calls Tryz.prog 95 #[.string s] w fun e w' => e = .returned (.tuple #[.int .i64 (numP s.data.toList).1, .int .i64 (numP s.data.toList).2]) ∧ Below w.heap.size w w' := by
  obtain ⟨d, hd⟩ : ∃ d, d = digsOf s.data.toList := ⟨_, rfl⟩
  have hsx : s.size ≤ 9223372036854775807 := by omega
  have hi0 : (0 : Int) < (s.size : Int) := by omega
  have hdd : d = s.data.toList := by rw [hd]; unfold digsOf; rw [hn]; rfl
  have hdl : d.length = s.size := by rw [hdd, ← Lib.size_eq]
  have hget : ∀ j (h : j < d.length) (h2 : j < s.size), d[j] = s[j] := by
    intro j h h2
    subst hdd
    rfl
  have hn0 : ((((s[0]).toNat : Nat) : Int) == 45) = false := by
    have h1 : d.length ≠ 0 := by omega
    have h2 := hget 0 (by omega) h0
    rw [← h2]
    cases d with
    | nil => simp at h1
    | cons c t =>
      rw [← hdd, negB_cons] at hn
      have := beq_eq_false_iff_ne.1 hn
      refine beq_eq_false_iff_ne.2 ?_
      simp only [List.getElem_cons_zero]
      intro e
      exact this (UInt8.toNat_inj.1 (by show 45 = _; omega))
  have HG := Lib.hid hget
  have HD := Lib.hid hd
  have HL := Lib.hid hdl
  have HN := Lib.hid hn
  clear hget hd hn hdl hdd
  go_enter Tryz.func95, Tryz.ntmps95
  go_wp2
  go_loop [5, 6] (fun n e => ∃ m : Nat, m ≤ 3 ∧ m ≤ s.size ∧ e = .int .i64 m ∧ (∃ v : Int, n = .int .i64 v ∧ vb (m) v ∧ Hid (leadAt d (m) v))) (fun _ e => s.size - (intOf e).toNat)
  case atStart => exact ⟨0, by omega, by omega, rfl, 0, rfl, by unfold vb; omega, Lib.hid ⟨rfl, fun j h => absurd h (by omega)⟩⟩
  case round =>
    obtain ⟨m, hk3, hks, rfl, v, rfl, hvb, HA⟩ := hrel
    have hv0 : 0 ≤ v ∧ v ≤ 999 := by unfold vb at hvb; omega
    obtain ⟨hv0, hv1⟩ := hv0
    by_cases hgo : ∃ h : m < s.size, m < 3 ∧ isDig s[m] = true
    · obtain ⟨hlt, h3, hdig⟩ := hgo
      have hkl : (m : Int) < (s.size : Int) := by omega
      have h3l : (m : Int) < 3 := by omega
      obtain ⟨g1, g2⟩ := (isDig_iff _).1 hdig
      have HI := Lib.hid hdig
      have HV := Lib.hid hvb
      clear hdig hvb
      go_wp2
      go_round
      case rel => exact ⟨m + 1, by omega, by omega, by go_num, _, rfl, vb_next HV.out h3 (by omega) (by omega), Lib.hid (leadAt_next HA.out (by rw [HL.out]; exact hlt) (HG.out m _ hlt) HI.out)⟩
      case measure => simp [intOf]; omega
    · have hend : (m) = 3 ∨ (m) = d.length ∨ ∃ h : (m) < d.length, isDig d[m] = false := by
        by_cases e3 : m = 3
        · exact .inl (by omega)
        · by_cases el : m < s.size
          · refine .inr (.inr ⟨by have := HL.out; omega, ?_⟩)
            have hq := HG.out (m) (by have := HL.out; omega) (by omega)
            rw [hq]
            have hm1 : m = m := rfl
            try simp only [hm1]
            have := fun h => hgo ⟨el, by omega, h⟩
            simpa using this
          · exact .inr (.inl (by have := HL.out; omega))
      have HE := Lib.hid (leadAt_end HA.out (by omega) (by have := HL.out; omega) hend)
      have HV := Lib.hid (show numV s.data.toList = v by unfold numV; rw [HN.out, if_neg (by simp), ← HD.out, ← HE.out.2])
      have HK := Lib.hid (show numK s.data.toList = m by unfold numK negN; rw [HN.out, if_neg (by simp), ← HD.out, HE.out.1]; omega)
      clear hend
      by_cases hlt : m < s.size
      · have hkl : (m : Int) < (s.size : Int) := by omega
        by_cases h3 : m < 3
        · have h3l : (m : Int) < 3 := by omega
          have hdig : ¬ (48 ≤ (s[m]).toNat ∧ (s[m]).toNat ≤ 57) := fun h => hgo ⟨hlt, h3, (isDig_iff _).2 h⟩
          clear hgo
          by_cases hc : (s[m]).toNat < 48
          · have hc1 : ¬ (48 : Int) ≤ (((s[m]).toNat : Nat) : Int) := by omega
            have hc2 : decide ((48 : Int) ≤ (((s[m]).toNat : Nat) : Int)) = false := decide_eq_false hc1
            go_wp2
            all_goals first
              | (have hk0 : (((m : Int)) == 0) = true := by assumption
                 have HZ := numP_none (l := s.data.toList) (by rw [← HD.out, HE.out.1]; have := beq_iff_eq.1 hk0; omega)
                 go_ret2
                 exact ⟨by rw [HZ]; rfl, Below.refl _ _⟩)
              | (have HZ : Hid (lead (digsOf s.data.toList) ≠ 0) := Lib.hid (by
                   rw [← HD.out, HE.out.1]
                   first
                     | omega
                     | (have hk0 : (((m : Int)) == 0) = false := by assumption
                        have := beq_eq_false_iff_ne.1 hk0; omega))
                 go_region_with (go_at_call 92; refine (dec2_any (v) (by omega) (by omega) _).mono ?_; rintro e w1 ⟨rfl, b1⟩)
                 go_wp2
                 all_goals first
                   | (have hq : (!Lib.itoa (v) == (s.extract 0 m).toList) = true := by assumption
                      have hr := numP_bad rfl HV.out HK.out hq
                      go_ret2
                      first | exact ⟨by rw [hr]; rfl, b1⟩ | exact ⟨by rw [hr]; rfl, ((Below.refl _ w).drew).trans b1⟩)
                   | (have hq : (!Lib.itoa (v) == (s.extract 0 m).toList) = false := by assumption
                      have hr := numP_ok rfl HZ.out HV.out HK.out hq
                      go_ret2
                      first | exact ⟨by rw [hr]; rfl, b1⟩ | exact ⟨by rw [hr]; rfl, ((Below.refl _ w).drew).trans b1⟩))
          · have hc1 : (48 : Int) ≤ (((s[m]).toNat : Nat) : Int) := by omega
            have hc2 : ¬ (((s[m]).toNat : Nat) : Int) ≤ 57 := by omega
            go_wp2
            all_goals first
              | (have hk0 : (((m : Int)) == 0) = true := by assumption
                 have HZ := numP_none (l := s.data.toList) (by rw [← HD.out, HE.out.1]; have := beq_iff_eq.1 hk0; omega)
                 go_ret2
                 exact ⟨by rw [HZ]; rfl, Below.refl _ _⟩)
              | (have HZ : Hid (lead (digsOf s.data.toList) ≠ 0) := Lib.hid (by
                   rw [← HD.out, HE.out.1]
                   first
                     | omega
                     | (have hk0 : (((m : Int)) == 0) = false := by assumption
                        have := beq_eq_false_iff_ne.1 hk0; omega))
                 go_region_with (go_at_call 92; refine (dec2_any (v) (by omega) (by omega) _).mono ?_; rintro e w1 ⟨rfl, b1⟩)
                 go_wp2
                 all_goals first
                   | (have hq : (!Lib.itoa (v) == (s.extract 0 m).toList) = true := by assumption
                      have hr := numP_bad rfl HV.out HK.out hq
                      go_ret2
                      first | exact ⟨by rw [hr]; rfl, b1⟩ | exact ⟨by rw [hr]; rfl, ((Below.refl _ w).drew).trans b1⟩)
                   | (have hq : (!Lib.itoa (v) == (s.extract 0 m).toList) = false := by assumption
                      have hr := numP_ok rfl HZ.out HV.out HK.out hq
                      go_ret2
                      first | exact ⟨by rw [hr]; rfl, b1⟩ | exact ⟨by rw [hr]; rfl, ((Below.refl _ w).drew).trans b1⟩))
        · have h3l : ¬ (m : Int) < 3 := by omega
          have h3d : decide ((m : Int) < 3) = false := decide_eq_false h3l
          clear hgo
          go_wp2
          all_goals first
            | (have hk0 : (((m : Int)) == 0) = true := by assumption
               have HZ := numP_none (l := s.data.toList) (by rw [← HD.out, HE.out.1]; have := beq_iff_eq.1 hk0; omega)
               go_ret2
               exact ⟨by rw [HZ]; rfl, Below.refl _ _⟩)
            | (have HZ : Hid (lead (digsOf s.data.toList) ≠ 0) := Lib.hid (by
                 rw [← HD.out, HE.out.1]
                 first
                   | omega
                   | (have hk0 : (((m : Int)) == 0) = false := by assumption
                      have := beq_eq_false_iff_ne.1 hk0; omega))
               go_region_with (go_at_call 92; refine (dec2_any (v) (by omega) (by omega) _).mono ?_; rintro e w1 ⟨rfl, b1⟩)
               go_wp2
               all_goals first
                 | (have hq : (!Lib.itoa (v) == (s.extract 0 m).toList) = true := by assumption
                    have hr := numP_bad rfl HV.out HK.out hq
                    go_ret2
                    first | exact ⟨by rw [hr]; rfl, b1⟩ | exact ⟨by rw [hr]; rfl, ((Below.refl _ w).drew).trans b1⟩)
                 | (have hq : (!Lib.itoa (v) == (s.extract 0 m).toList) = false := by assumption
                    have hr := numP_ok rfl HZ.out HV.out HK.out hq
                    go_ret2
                    first | exact ⟨by rw [hr]; rfl, b1⟩ | exact ⟨by rw [hr]; rfl, ((Below.refl _ w).drew).trans b1⟩))
      · have hkl : decide ((m : Int) < (s.size : Int)) = false := decide_eq_false (by omega)
        have hkl2 : decide (m < s.size) = false := decide_eq_false hlt
        clear hgo
        go_wp2
        all_goals first
          | (have hk0 : (((m : Int)) == 0) = true := by assumption
             have HZ := numP_none (l := s.data.toList) (by rw [← HD.out, HE.out.1]; have := beq_iff_eq.1 hk0; omega)
             go_ret2
             exact ⟨by rw [HZ]; rfl, Below.refl _ _⟩)
          | (have HZ : Hid (lead (digsOf s.data.toList) ≠ 0) := Lib.hid (by
               rw [← HD.out, HE.out.1]
               first
                 | omega
                 | (have hk0 : (((m : Int)) == 0) = false := by assumption
                    have := beq_eq_false_iff_ne.1 hk0; omega))
             go_region_with (go_at_call 92; refine (dec2_any (v) (by omega) (by omega) _).mono ?_; rintro e w1 ⟨rfl, b1⟩)
             go_wp2
             all_goals first
               | (have hq : (!Lib.itoa (v) == (s.extract 0 m).toList) = true := by assumption
                  have hr := numP_bad rfl HV.out HK.out hq
                  go_ret2
                  first | exact ⟨by rw [hr]; rfl, b1⟩ | exact ⟨by rw [hr]; rfl, ((Below.refl _ w).drew).trans b1⟩)
               | (have hq : (!Lib.itoa (v) == (s.extract 0 m).toList) = false := by assumption
                  have hr := numP_ok rfl HZ.out HV.out HK.out hq
                  go_ret2
                  first | exact ⟨by rw [hr]; rfl, b1⟩ | exact ⟨by rw [hr]; rfl, ((Below.refl _ w).drew).trans b1⟩))

set_option maxRecDepth 100000 in
set_option maxHeartbeats 2000000 in
theorem l2num1_any (s : ByteArray) (hs : s.size ≤ 1048600) (h0 : 0 < s.size) (hn : negB s.data.toList = true) (w : World) :
    Calls Tryz.prog 95 #[.string s] w fun e w' => e = .returned (.tuple #[.int .i64 (numP s.data.toList).1, .int .i64 (numP s.data.toList).2]) ∧ Below w.heap.size w w' := by
  obtain ⟨d, hd⟩ : ∃ d, d = digsOf s.data.toList := ⟨_, rfl⟩
  have hsx : s.size ≤ 9223372036854775807 := by omega
  have hi0 : (0 : Int) < (s.size : Int) := by omega
  have hdd : d = s.data.toList.drop 1 := by rw [hd]; unfold digsOf; rw [hn]; rfl
  have hdl : d.length + 1 = s.size := by rw [hdd, List.length_drop, ← Lib.size_eq]; omega
  have hget : ∀ j (h : j < d.length) (h2 : j + 1 < s.size), d[j] = s[j + 1] := by
    intro j h h2
    subst hdd
    rw [List.getElem_drop]
    simp only [Nat.add_comm 1 j]
    rfl
  have hn0 : ((((s[0]).toNat : Nat) : Int) == 45) = true := by
    obtain ⟨c, t, hct⟩ : ∃ c t, s.data.toList = c :: t := by
      cases h : s.data.toList with
      | nil => have h5 := Lib.size_eq s; rw [h] at h5; have h6 : s.size = 0 := h5; omega
      | cons c t => exact ⟨c, t, rfl⟩
    have h2 : s[0] = c := by
      have : s.data.toList[0]'(by rw [hct]; simp) = c := by simp [hct]
      rw [← this]; rfl
    rw [h2]
    rw [hct, negB_cons] at hn
    have := beq_iff_eq.1 hn
    subst this
    rfl
  have HG := Lib.hid hget
  have HD := Lib.hid hd
  have HL := Lib.hid hdl
  have HN := Lib.hid hn
  clear hget hd hn hdl hdd
  go_enter Tryz.func95, Tryz.ntmps95
  go_wp2
  go_loop [5, 6] (fun n e => ∃ m : Nat, 1 ≤ m ∧ m ≤ 4 ∧ m ≤ s.size ∧ e = .int .i64 m ∧ (∃ v : Int, n = .int .i64 v ∧ vb (m - 1) v ∧ Hid (leadAt d (m - 1) v))) (fun _ e => s.size - (intOf e).toNat)
  case atStart => exact ⟨1, by omega, by omega, by omega, rfl, 0, rfl, by unfold vb; omega, Lib.hid ⟨rfl, fun j h => absurd h (by omega)⟩⟩
  case round =>
    obtain ⟨m, hlow, hk3, hks, rfl, v, rfl, hvb, HA⟩ := hrel
    have hv0 : 0 ≤ v ∧ v ≤ 999 := by unfold vb at hvb; omega
    obtain ⟨hv0, hv1⟩ := hv0
    by_cases hgo : ∃ h : m < s.size, m < 4 ∧ isDig s[m] = true
    · obtain ⟨hlt, h3, hdig⟩ := hgo
      have hkl : (m : Int) < (s.size : Int) := by omega
      have h3l : (m : Int) < 4 := by omega
      obtain ⟨g1, g2⟩ := (isDig_iff _).1 hdig
      have HI := Lib.hid hdig
      have HV := Lib.hid hvb
      clear hdig hvb
      go_wp2
      go_round
      case rel => exact ⟨m + 1, by omega, by omega, by omega, by go_num, _, rfl, by have := vb_next HV.out (by omega) (c := ((s[m]).toNat : Int)) (by omega) (by omega); rwa [show m - 1 + 1 = m + 1 - 1 by omega] at this, Lib.hid (by have := leadAt_next HA.out (by have := HL.out; omega) ((HG.out (m - 1) (by have := HL.out; omega) (by omega)).trans (by simp only [show m - 1 + 1 = m by omega])) HI.out; rwa [show m - 1 + 1 = m + 1 - 1 by omega] at this)⟩
      case measure => simp [intOf]; omega
    · have hend : (m - 1) = 3 ∨ (m - 1) = d.length ∨ ∃ h : (m - 1) < d.length, isDig d[m - 1] = false := by
        by_cases e3 : m = 4
        · exact .inl (by omega)
        · by_cases el : m < s.size
          · refine .inr (.inr ⟨by have := HL.out; omega, ?_⟩)
            have hq := HG.out (m - 1) (by have := HL.out; omega) (by omega)
            rw [hq]
            have hm1 : m - 1 + 1 = m := by omega
            try simp only [hm1]
            have := fun h => hgo ⟨el, by omega, h⟩
            simpa using this
          · exact .inr (.inl (by have := HL.out; omega))
      have HE := Lib.hid (leadAt_end HA.out (by omega) (by have := HL.out; omega) hend)
      have HV := Lib.hid (show numV s.data.toList = -v by unfold numV; rw [if_pos HN.out, ← HD.out, ← HE.out.2])
      have HK := Lib.hid (show numK s.data.toList = m by unfold numK negN; rw [if_pos HN.out, ← HD.out, HE.out.1]; omega)
      clear hend
      by_cases hlt : m < s.size
      · have hkl : (m : Int) < (s.size : Int) := by omega
        by_cases h3 : m < 4
        · have h3l : (m : Int) < 4 := by omega
          have hdig : ¬ (48 ≤ (s[m]).toNat ∧ (s[m]).toNat ≤ 57) := fun h => hgo ⟨hlt, h3, (isDig_iff _).2 h⟩
          clear hgo
          by_cases hc : (s[m]).toNat < 48
          · have hc1 : ¬ (48 : Int) ≤ (((s[m]).toNat : Nat) : Int) := by omega
            have hc2 : decide ((48 : Int) ≤ (((s[m]).toNat : Nat) : Int)) = false := decide_eq_false hc1
            go_wp2
            all_goals first
              | (have hk0 : (((m : Int)) == 1) = true := by assumption
                 have HZ := numP_none (l := s.data.toList) (by rw [← HD.out, HE.out.1]; have := beq_iff_eq.1 hk0; omega)
                 go_ret2
                 exact ⟨by rw [HZ]; rfl, Below.refl _ _⟩)
              | (have HZ : Hid (lead (digsOf s.data.toList) ≠ 0) := Lib.hid (by
                   rw [← HD.out, HE.out.1]
                   first
                     | omega
                     | (have hk0 : (((m : Int)) == 1) = false := by assumption
                        have := beq_eq_false_iff_ne.1 hk0; omega))
                 go_region_with (go_at_call 92; refine (dec2_any (-v) (by omega) (by omega) _).mono ?_; rintro e w1 ⟨rfl, b1⟩)
                 go_wp2
                 all_goals first
                   | (have hq : (!Lib.itoa (-v) == (s.extract 0 m).toList) = true := by assumption
                      have hr := numP_bad rfl HV.out HK.out hq
                      go_ret2
                      first | exact ⟨by rw [hr]; rfl, b1⟩ | exact ⟨by rw [hr]; rfl, ((Below.refl _ w).drew).trans b1⟩)
                   | (have hq : (!Lib.itoa (-v) == (s.extract 0 m).toList) = false := by assumption
                      have hr := numP_ok rfl HZ.out HV.out HK.out hq
                      go_ret2
                      first | exact ⟨by rw [hr]; rfl, b1⟩ | exact ⟨by rw [hr]; rfl, ((Below.refl _ w).drew).trans b1⟩))
          · have hc1 : (48 : Int) ≤ (((s[m]).toNat : Nat) : Int) := by omega
            have hc2 : ¬ (((s[m]).toNat : Nat) : Int) ≤ 57 := by omega
            go_wp2
            all_goals first
              | (have hk0 : (((m : Int)) == 1) = true := by assumption
                 have HZ := numP_none (l := s.data.toList) (by rw [← HD.out, HE.out.1]; have := beq_iff_eq.1 hk0; omega)
                 go_ret2
                 exact ⟨by rw [HZ]; rfl, Below.refl _ _⟩)
              | (have HZ : Hid (lead (digsOf s.data.toList) ≠ 0) := Lib.hid (by
                   rw [← HD.out, HE.out.1]
                   first
                     | omega
                     | (have hk0 : (((m : Int)) == 1) = false := by assumption
                        have := beq_eq_false_iff_ne.1 hk0; omega))
                 go_region_with (go_at_call 92; refine (dec2_any (-v) (by omega) (by omega) _).mono ?_; rintro e w1 ⟨rfl, b1⟩)
                 go_wp2
                 all_goals first
                   | (have hq : (!Lib.itoa (-v) == (s.extract 0 m).toList) = true := by assumption
                      have hr := numP_bad rfl HV.out HK.out hq
                      go_ret2
                      first | exact ⟨by rw [hr]; rfl, b1⟩ | exact ⟨by rw [hr]; rfl, ((Below.refl _ w).drew).trans b1⟩)
                   | (have hq : (!Lib.itoa (-v) == (s.extract 0 m).toList) = false := by assumption
                      have hr := numP_ok rfl HZ.out HV.out HK.out hq
                      go_ret2
                      first | exact ⟨by rw [hr]; rfl, b1⟩ | exact ⟨by rw [hr]; rfl, ((Below.refl _ w).drew).trans b1⟩))
        · have h3l : ¬ (m : Int) < 4 := by omega
          have h3d : decide ((m : Int) < 4) = false := decide_eq_false h3l
          clear hgo
          go_wp2
          all_goals first
            | (have hk0 : (((m : Int)) == 1) = true := by assumption
               have HZ := numP_none (l := s.data.toList) (by rw [← HD.out, HE.out.1]; have := beq_iff_eq.1 hk0; omega)
               go_ret2
               exact ⟨by rw [HZ]; rfl, Below.refl _ _⟩)
            | (have HZ : Hid (lead (digsOf s.data.toList) ≠ 0) := Lib.hid (by
                 rw [← HD.out, HE.out.1]
                 first
                   | omega
                   | (have hk0 : (((m : Int)) == 1) = false := by assumption
                      have := beq_eq_false_iff_ne.1 hk0; omega))
               go_region_with (go_at_call 92; refine (dec2_any (-v) (by omega) (by omega) _).mono ?_; rintro e w1 ⟨rfl, b1⟩)
               go_wp2
               all_goals first
                 | (have hq : (!Lib.itoa (-v) == (s.extract 0 m).toList) = true := by assumption
                    have hr := numP_bad rfl HV.out HK.out hq
                    go_ret2
                    first | exact ⟨by rw [hr]; rfl, b1⟩ | exact ⟨by rw [hr]; rfl, ((Below.refl _ w).drew).trans b1⟩)
                 | (have hq : (!Lib.itoa (-v) == (s.extract 0 m).toList) = false := by assumption
                    have hr := numP_ok rfl HZ.out HV.out HK.out hq
                    go_ret2
                    first | exact ⟨by rw [hr]; rfl, b1⟩ | exact ⟨by rw [hr]; rfl, ((Below.refl _ w).drew).trans b1⟩))
      · have hkl : decide ((m : Int) < (s.size : Int)) = false := decide_eq_false (by omega)
        have hkl2 : decide (m < s.size) = false := decide_eq_false hlt
        clear hgo
        go_wp2
        all_goals first
          | (have hk0 : (((m : Int)) == 1) = true := by assumption
             have HZ := numP_none (l := s.data.toList) (by rw [← HD.out, HE.out.1]; have := beq_iff_eq.1 hk0; omega)
             go_ret2
             exact ⟨by rw [HZ]; rfl, Below.refl _ _⟩)
          | (have HZ : Hid (lead (digsOf s.data.toList) ≠ 0) := Lib.hid (by
               rw [← HD.out, HE.out.1]
               first
                 | omega
                 | (have hk0 : (((m : Int)) == 1) = false := by assumption
                    have := beq_eq_false_iff_ne.1 hk0; omega))
             go_region_with (go_at_call 92; refine (dec2_any (-v) (by omega) (by omega) _).mono ?_; rintro e w1 ⟨rfl, b1⟩)
             go_wp2
             all_goals first
               | (have hq : (!Lib.itoa (-v) == (s.extract 0 m).toList) = true := by assumption
                  have hr := numP_bad rfl HV.out HK.out hq
                  go_ret2
                  first | exact ⟨by rw [hr]; rfl, b1⟩ | exact ⟨by rw [hr]; rfl, ((Below.refl _ w).drew).trans b1⟩)
               | (have hq : (!Lib.itoa (-v) == (s.extract 0 m).toList) = false := by assumption
                  have hr := numP_ok rfl HZ.out HV.out HK.out hq
                  go_ret2
                  first | exact ⟨by rw [hr]; rfl, b1⟩ | exact ⟨by rw [hr]; rfl, ((Below.refl _ w).drew).trans b1⟩))

end Go.Proofs.YthkjcljhfjaabaaGreatDoor

namespace Go.Proofs.YthkjcljhfjaabaaGreatDoor
open Go.RowKit Sets

set_option maxRecDepth 100000 in
theorem l2numE_any (s : ByteArray) (h0 : s.size = 0) (w : World) :
    Calls Tryz.prog 95 #[.string s] w fun e w' => e = .returned (.tuple #[.int .i64 (numP s.data.toList).1, .int .i64 (numP s.data.toList).2]) ∧ Below w.heap.size w w' := by
  have hsx : s.size ≤ 9223372036854775807 := by omega
  have hi0 : decide ((0 : Int) < (s.size : Int)) = false := decide_eq_false (by omega)
  have hi1 : decide (0 < s.size) = false := decide_eq_false (by omega)
  have hl : s.data.toList = [] := List.eq_nil_of_length_eq_zero (by rw [← Lib.size_eq]; exact h0)
  have HZ : Hid (numP s.data.toList = (0, 0)) := Lib.hid (by rw [hl]; rfl)
  clear hl
  have H0 := Lib.hid h0
  clear h0
  go_enter Tryz.func95, Tryz.ntmps95
  go_wp2
  refine wp_loop_rounds 1 ?_
  rw [rounds_succ]
  go_wp2
  go_ret2
  exact ⟨by rw [HZ.out]; rfl, Below.refl _ _⟩
theorem l2num_any (s : ByteArray) (hs : s.size ≤ 1048600) (w : World) :
    Calls Tryz.prog 95 #[.string s] w fun e w' => e = .returned (.tuple #[.int .i64 (numP s.data.toList).1, .int .i64 (numP s.data.toList).2]) ∧ Below w.heap.size w w' := by
  by_cases h0 : 0 < s.size
  · cases hn : negB s.data.toList
    · exact l2num0_any s hs h0 hn w
    · exact l2num1_any s hs h0 hn w
  · exact l2numE_any s (by omega) w

theorem valP_zero {L : Bool} {a b : Int} {l : Bs} (h : (rawP L l).2 = 0) : valP L a b l = (0, 0) := by unfold valP; rw [if_pos (.inl h)]
theorem valP_low {L : Bool} {a b : Int} {l : Bs} (h : (rawP L l).1 < a) : valP L a b l = (0, 0) := by unfold valP; rw [if_pos (.inr (.inl h))]
theorem valP_high {L : Bool} {a b : Int} {l : Bs} (h : b < (rawP L l).1) : valP L a b l = (0, 0) := by unfold valP; rw [if_pos (.inr (.inr h))]
theorem valP_in {L : Bool} {a b : Int} {l : Bs} (h : (rawP L l).2 ≠ 0) (h1 : a ≤ (rawP L l).1) (h2 : (rawP L l).1 ≤ b) : valP L a b l = rawP L l := by
  unfold valP
  rw [if_neg]
  omega
theorem head_eq (s : ByteArray) (h : 0 < s.size) : s.data.toList = s[0] :: s.data.toList.drop 1 := by
  have := drop_cons s 0 h
  simpa using this

set_option maxRecDepth 100000 in
set_option maxHeartbeats 1000000 in
theorem l2val_any (L : Bool) (a b : Int) (s : ByteArray) (hs : s.size ≤ 1048600) (w : World) :
    Calls Tryz.prog 65 #[colV L a b, .string s] w fun e w' => e = .returned (.tuple #[.int .i64 (valP L a b s.data.toList).1, .int .i64 (valP L a b s.data.toList).2]) ∧ Below w.heap.size w w' := by
  have b0 : Below w.heap.size w (w.alloc (.cells #[.bool L, .int .i64 a, .int .i64 b] 27)) := (Below.refl _ w).alloc (Nat.le_refl _) _
  obtain ⟨k0, k1, k2⟩ := ColAt.box w L a b 27
  have hsx : s.size ≤ 9223372036854775807 := by omega
  cases L
  · go_enter Tryz.func65, Tryz.ntmps65
    go_wp2_with fail
    refine (l2num_any s hs _).mono ?_
    generalize hq : numP s.data.toList = q
    obtain ⟨n, k⟩ := q
    have HQ : Hid (rawP false s.data.toList = (n, k)) := Lib.hid hq
    clear hq
    rintro e w1 ⟨rfl, b1⟩
    obtain ⟨g0, g1, g2⟩ := ColAt.below (g := w.heap.size) ⟨k0, k1, k2⟩ b1 (by simp)
    have b01 := b0.trans (b1.mono b0.size)
    clear k0 k1 k2
    by_cases hk : k = 0
    · subst hk
      have HV : Hid (valP false a b s.data.toList = (0, 0)) := Lib.hid (valP_zero (by rw [HQ.out]))
      go_wp2
      go_ret2
      exact ⟨by rw [HV.out]; rfl, b01⟩
    · have hk1 : ((k : Int) == 0) = false := beq_eq_false_iff_ne.2 (by omega)
      by_cases h1 : n < a
      · have HV : Hid (valP false a b s.data.toList = (0, 0)) := Lib.hid (valP_low (by rw [HQ.out]; exact h1))
        go_wp2
        go_ret2
        exact ⟨by rw [HV.out]; rfl, b01⟩
      · have h1d : decide (n < a) = false := decide_eq_false h1
        by_cases h2 : b < n
        · have HV : Hid (valP false a b s.data.toList = (0, 0)) := Lib.hid (valP_high (by rw [HQ.out]; exact h2))
          go_wp2
          go_ret2
          exact ⟨by rw [HV.out]; rfl, b01⟩
        · have h2d : decide (b < n) = false := decide_eq_false h2
          have HV : Hid (valP false a b s.data.toList = (n, k)) := Lib.hid ((valP_in (by rw [HQ.out]; exact hk) (by rw [HQ.out]; show a ≤ n; omega) (by rw [HQ.out]; show n ≤ b; omega)).trans HQ.out)
          go_wp2
          go_ret2
          exact ⟨by rw [HV.out]; rfl, b01⟩
  · by_cases h0 : 0 < s.size
    · have hi0 : (0 : Int) < (s.size : Int) := by omega
      have HH := Lib.hid (head_eq s h0)
      by_cases hlet : isLet s[0] = true
      · obtain ⟨g1, g2⟩ := (isLet_iff _).1 hlet
        have HQ : Hid (rawP true s.data.toList = (((s[0]).toNat : Int) - 65, 1)) := Lib.hid (by
          show letP s.data.toList = _
          rw [HH.out, letP, if_pos hlet])
        clear hlet
        by_cases h1 : ((s[0]).toNat : Int) - 65 < a
        · have HV : Hid (valP true a b s.data.toList = (0, 0)) := Lib.hid (valP_low (by rw [HQ.out]; exact h1))
          go_enter Tryz.func65, Tryz.ntmps65
          go_wp2
          go_ret2
          exact ⟨by rw [HV.out]; rfl, b0⟩
        · have h1d : decide (((s[0]).toNat : Int) - 65 < a) = false := decide_eq_false h1
          by_cases h2 : b < ((s[0]).toNat : Int) - 65
          · have HV : Hid (valP true a b s.data.toList = (0, 0)) := Lib.hid (valP_high (by rw [HQ.out]; exact h2))
            go_enter Tryz.func65, Tryz.ntmps65
            go_wp2
            go_ret2
            exact ⟨by rw [HV.out]; rfl, b0⟩
          · have h2d : decide (b < ((s[0]).toNat : Int) - 65) = false := decide_eq_false h2
            have HV : Hid (valP true a b s.data.toList = (((s[0]).toNat : Int) - 65, 1)) := Lib.hid ((valP_in (by rw [HQ.out]; exact Nat.one_ne_zero) (by rw [HQ.out]; show a ≤ _; omega) (by rw [HQ.out]; show _ ≤ b; omega)).trans HQ.out)
            go_enter Tryz.func65, Tryz.ntmps65
            go_wp2
            go_ret2
            exact ⟨by rw [HV.out]; rfl, b0⟩
      · have HV : Hid (valP true a b s.data.toList = (0, 0)) := Lib.hid (valP_zero (by
          show (letP s.data.toList).2 = 0
          rw [HH.out, letP, if_neg hlet]))
        have hdig : ¬ (65 ≤ (s[0]).toNat ∧ (s[0]).toNat ≤ 90) := fun h => hlet ((isLet_iff _).2 h)
        clear hlet
        by_cases hc : (s[0]).toNat < 65
        · have hc1 : ¬ (65 : Int) ≤ (((s[0]).toNat : Nat) : Int) := by omega
          have hc2 : decide ((65 : Int) ≤ (((s[0]).toNat : Nat) : Int)) = false := decide_eq_false hc1
          go_enter Tryz.func65, Tryz.ntmps65
          go_wp2
          go_ret2
          exact ⟨by rw [HV.out]; rfl, b0⟩
        · have hc1 : (65 : Int) ≤ (((s[0]).toNat : Nat) : Int) := by omega
          have hc2 : ¬ (((s[0]).toNat : Nat) : Int) ≤ 90 := by omega
          go_enter Tryz.func65, Tryz.ntmps65
          go_wp2
          go_ret2
          exact ⟨by rw [HV.out]; rfl, b0⟩
    · have hl : s.data.toList = [] := List.eq_nil_of_length_eq_zero (by rw [← Lib.size_eq]; omega)
      have HV : Hid (valP true a b s.data.toList = (0, 0)) := Lib.hid (valP_zero (by rw [hl]; rfl))
      have hi0 : decide ((0 : Int) < (s.size : Int)) = false := decide_eq_false (by omega)
      have hi1 : decide (0 < s.size) = false := decide_eq_false (by omega)
      clear hl
      go_enter Tryz.func65, Tryz.ntmps65
      go_wp2
      go_ret2
      exact ⟨by rw [HV.out]; rfl, b0⟩

set_option maxRecDepth 100000 in
set_option maxHeartbeats 1000000 in
theorem specPV_any (L : Bool) (a b : Int) (s : ByteArray) (hs : s.size ≤ 1048600) (w : World) :
    Calls Tryz.prog 26 #[colV L a b, .string s] w fun e w' => e = .returned (.tuple #[.int .i64 (pvN L a b s.data.toList), .bool (pvB L a b s.data.toList)]) ∧ Below w.heap.size w w' := by
  have b0 : Below w.heap.size w (w.alloc (.cells #[.bool L, .int .i64 a, .int .i64 b] 27)) := (Below.refl _ w).alloc (Nat.le_refl _) _
  obtain ⟨k0, k1, k2⟩ := ColAt.box w L a b 27
  have hsx : s.size ≤ 9223372036854775807 := by omega
  cases hc : colB L a b
  · have hv := Lib.hid (pv_nocol (l := s.data.toList) hc)
    have HC := Lib.hid hc
    clear hc
    go_enter Tryz.func26, Tryz.ntmps26
    go_wp2_with fail
    refine (specCol_b L a b _).mono ?_
    rw [HC.out]
    rintro e w1 ⟨rfl, b1⟩
    go_wp2
    go_ret2
    exact ⟨by rw [hv.out.1, hv.out.2]; rfl, b0.trans (b1.mono b0.size)⟩
  · have HC := Lib.hid hc
    clear hc
    go_enter Tryz.func26, Tryz.ntmps26
    go_wp2_with fail
    refine (specCol_b L a b _).mono ?_
    rw [HC.out]
    rintro e w1 ⟨rfl, b1⟩
    obtain ⟨g0, g1, g2⟩ := ColAt.below (g := w.heap.size) ⟨k0, k1, k2⟩ b1 (by simp)
    have b01 := b0.trans (b1.mono b0.size)
    clear k0 k1 k2
    go_wp2_with fail
    refine (l2val_any L a b s hs _).mono ?_
    have hl := Lib.size_eq s
    have hno := fun h => specPV_no (L := L) (a := a) (b := b) (l := s.data.toList) h
    have hys := fun h1 h2 => specPV_yes (L := L) (a := a) (b := b) (l := s.data.toList) HC.out h1 h2
    generalize valP L a b s.data.toList = q at hno hys
    obtain ⟨n, k⟩ := q
    simp only at hno hys
    rw [← hl] at hno hys
    have HO := Lib.hid hno
    have HY := Lib.hid hys
    clear hno hys hl
    rintro e w2 ⟨rfl, b2⟩
    have b02 := b01.trans (b2.mono b01.size)
    by_cases hk : k = 0
    · subst hk
      have hv := Lib.hid (HO.out (.inl rfl))
      go_wp2
      go_ret2
      exact ⟨by rw [hv.out.1, hv.out.2]; rfl, b02⟩
    · have hk1 : ((k : Int) == 0) = false := beq_eq_false_iff_ne.2 (by omega)
      by_cases hkl : k = s.size
      · have hv := Lib.hid (HY.out hk hkl)
        have hkn : ((k : Int) != (s.size : Int)) = false := by simp [hkl]
        have HK := Lib.hid hkl
        clear hkl
        go_wp2
        go_ret2
        exact ⟨by rw [hv.out.1, hv.out.2]; rfl, b02⟩
      · have hv := Lib.hid (HO.out (.inr hkl))
        have hkn : ((k : Int) != (s.size : Int)) = true := by simp; omega
        go_wp2
        go_ret2
        exact ⟨by rw [hv.out.1, hv.out.2]; rfl, b02⟩
end Go.Proofs.YthkjcljhfjaabaaGreatDoor
