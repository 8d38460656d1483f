/-
  Contract of the model's reader of tests.
-/
import Derived.Test.YthkjcljhfjaabaaGreatDoorKl
import Derived.Test.YthkjcljhfjaabaaGreatDoorKh
import Derived.Test.YthkjcljhfjaabaaGreatDoorJo
namespace Go.Proofs.YthkjcljhfjaabaaGreatDoor
open Go.RowKit Go.Sort Sets

theorem notB_take (l : Bs) : notB l = (l.take 4 == [110, 111, 116, 40]) := by
  unfold notB Lib.hasPrefix
  rw [Bool.eq_iff_iff, List.isPrefixOf_iff_prefix, beq_iff_eq, List.prefix_iff_eq_take]
  exact ⟨fun h => h.symm, fun h => h.symm⟩

set_option maxRecDepth 100000 in
set_option maxHeartbeats 4000000 in
theorem specPT_any (L : Bool) (a b : Int) (s : ByteArray) (hs : s.size ≤ 1048600) (w : World) :
    Calls Tryz.prog 9 #[colV L a b, .string s] w (OwnRes2 w.heap.size (tV L a b s.data.toList) (tB L a b s.data.toList) w) := by
  have hsx : s.size ≤ 9223372036854775807 := by omega
  obtain ⟨W1, hW1⟩ : ∃ W, W = w.alloc (.cells #[.bool L, .int .i64 a, .int .i64 b] 27) := ⟨_, rfl⟩
  have b1 : Below w.heap.size w W1 := by rw [hW1]; exact (Below.refl _ w).alloc (Nat.le_refl _) _
  have k := ColAt.box w L a b 27
  rw [← hW1] at k
  have z1 : W1.heap.size = w.heap.size + 1 := by rw [hW1]; simp
  obtain ⟨W2, hW2⟩ : ∃ W, W = W1.alloc (.cells #[] 55) := ⟨_, rfl⟩
  have b2 : Below W1.heap.size W1 W2 := by rw [hW2]; exact (Below.refl _ _).alloc (Nat.le_refl _) _
  have z2 : W2.heap.size = w.heap.size + 2 := by rw [hW2]; simp; omega
  have ow : OwnS W2 w.heap.size (.slice (some ⟨w.heap.size + 1, 0, none⟩) 0 0) [] := by
    have h := own_empty W1
    rw [← hW2, z1] at h
    exact h.mono (by omega)
  obtain ⟨k0, k1, k2⟩ := k.below b2 (by omega)
  have B2 := Lib.hid (b1.trans (b2.mono b1.size))
  have OW := Lib.hid ow
  have Z2 := Lib.hid z2
  have HS := Lib.hid hs
  have HW : Hid (W2 = (w.alloc (.cells #[.bool L, .int .i64 a, .int .i64 b] 27)).alloc (.cells #[] 55)) := Lib.hid (by rw [hW2, hW1])
  clear b1 k z1 b2 z2 ow hW1 hW2
  go_enter Tryz.func9, Tryz.ntmps9
  go_wp2_with fail
  rw [← HW.out]
  refine (specCol_b L a b _).mono ?_
  cases hc : colB L a b
  · have HV := Lib.hid (t_none (l := s.data.toList) hc)
    clear hc
    rintro e w1 ⟨rfl, b3⟩
    have B3 := Lib.hid (B2.out.trans (b3.mono B2.out.size))
    have O3 := Lib.hid (OW.out.below b3)
    clear k0 k1 k2 b3
    go_wp2
    go_ret2
    rw [HV.out.1, HV.out.2]
    exact .of O3.out fits_nil B3.out
  · have HC := Lib.hid hc
    clear hc
    rintro e w1 ⟨rfl, b3⟩
    obtain ⟨g0, g1, g2⟩ := ColAt.below (g := w.heap.size) ⟨k0, k1, k2⟩ b3 (by have := Z2.out; omega)
    have B3 := Lib.hid (B2.out.trans (b3.mono B2.out.size))
    have O3 := Lib.hid (OW.out.below b3)
    have z3 : w.heap.size < w1.heap.size := by have := Z2.out; have := b3.size; omega
    clear k0 k1 k2 b3
    by_cases h45 : s.data.toList = [45]
    · have HV := Lib.hid (t_dash HC.out h45)
      have hq : (s.toList == [45]) = true := by rw [Lib.toList_data, h45]; rfl
      have hq2 : s.toList = [45] := by rw [Lib.toList_data, h45]
      clear h45
      go_wp2_with fail
      refine (specColSet_any L a b _).mono ?_
      rintro e w4 ⟨v4, rfl, own4, fit4, b4⟩
      have B4 := Lib.hid (B3.out.trans (b4.mono B3.out.size))
      have O4 := Lib.hid (own4.mono (Nat.le_of_lt z3))
      clear own4 b4
      go_wp2
      go_ret2
      rw [HV.out.1, HV.out.2]
      exact .of O4.out fit4 B4.out
    · have hq : (s.toList == [45]) = false := by rw [Lib.toList_data]; exact beq_eq_false_iff_ne.2 h45
      have hq1 : ¬ s.toList = [45] := by rw [Lib.toList_data]; exact h45
      by_cases h0 : s.data.toList = []
      · have HV := Lib.hid (t_nil HC.out h0)
        have hp1 : s.toList = [] := by rw [Lib.toList_data, h0]
        have hp2 : s.toList.isEmpty = true := by rw [hp1]; rfl
        clear h45 h0
        go_wp2
        go_ret2
        rw [HV.out.1, HV.out.2]
        exact .of O3.out fits_nil B3.out
      · have hp1 : ¬ s.toList = [] := by rw [Lib.toList_data]; exact h0
        have hp2 : s.toList.isEmpty = false := by simpa using hp1
        have H45 := Lib.hid h45
        have H0 := Lib.hid h0
        clear h45 h0
        by_cases hneg : notB s.data.toList = true ∧ 5 < s.size ∧ closeB s.data.toList = true
        · obtain ⟨hn, h5, hcb⟩ := hneg
          have h5l : 5 ≤ s.data.toList.length := by rw [← Lib.size_eq]; omega
          have hci := close_iff hn h5l
          have c1 : (5 : Int) < (s.size : Int) := by omega
          have c2 : ((s.extract 0 4).toList == [110, 111, 116, 40]) = true := by
            rw [Lib.toList_data, extL, List.drop_zero, ← notB_take]; exact hn
          have c2a : (s.extract 0 4).toList = [110, 111, 116, 40] := by simpa using c2
          have hb : s[s.size - 1]'(by omega) = 41 := by
            rw [hcb] at hci
            have h1 := byte_at s (s.size - 1) (by omega)
            rw [← h1]
            have h2 := beq_iff_eq.1 hci.symm
            rw [← h2]
            congr 1
          have c3 : (((s[s.size - 1]'(by omega)).toNat : Int) == 41) = true := by rw [hb]; rfl
          have e1 : IntKind.i64.wrap ((s.size : Int) - 1) = (s.size : Int) - 1 := IntWalk.i64_in _ (by omega)
          have e2 : (0 : Int) ≤ (s.size : Int) - 1 ∧ (s.size : Int) - 1 < (s.size : Int) := by omega
          have e3 : ((s.size : Int) - 1).toNat = s.size - 1 := by omega
          have e4 : (4 : Int) ≤ (s.size : Int) - 1 ∧ (s.size : Int) - 1 ≤ (s.size : Int) := by omega
          have e5 : (4 : Int) ≤ (s.size : Int) := by omega
          have ex : (s.extract 4 (s.size - 1)).data.toList = notP s.data.toList := by
            rw [extL]
            unfold notP
            rw [← Lib.size_eq]
            congr 1
          have pc := fun w => specPieces_any L a b HC.out (s.extract 4 (s.size - 1)) (by simp; have := HS.out; omega) w
          rw [ex] at pc
          have HN := Lib.hid hn
          have HCB := Lib.hid hcb
          have tb := fun h => t_bad (L := L) (a := a) (b := b) hn h
          have tn := fun h => t_not HC.out hn hcb h
          generalize listB L a b (notP s.data.toList) = ok at pc tb tn
          generalize listV L a b (notP s.data.toList) = ys at pc tn
          have PC := Lib.hid pc
          have TB := Lib.hid tb
          have TN := Lib.hid tn
          clear hn hcb h5l hci hb ex pc tb tn
          go_upto_region 9 with fail
          go_region_with (go_at_call 35; refine (PC.out _).mono ?_; rintro e w4 ⟨v4, rfl, own4, fit4, b4⟩)
          all_goals
            have b4' : Below w1.heap.size w1 w4 := (Below.refl _ w1).drew.trans b4
            obtain ⟨g0', g1', g2'⟩ := ColAt.below (g := w.heap.size) ⟨g0, g1, g2⟩ b4' z3
            have z4 := Nat.lt_of_lt_of_le z3 b4'.size
            have B4 := Lib.hid (B3.out.trans (b4'.mono B3.out.size))
            have O4 := Lib.hid (O3.out.below b4')
            clear g0 g1 g2 b4 b4' PC c3
            cases ok
            · have HV := Lib.hid (TB.out rfl)
              clear TB TN
              go_wp2
              go_ret2
              rw [HV.out.1, HV.out.2]
              exact .of O4.out fits_nil B4.out
            · have HV := Lib.hid (TN.out rfl)
              obtain ⟨A4, c4, rfl, hr4, _⟩ := own4.form fit4
              have R4 := Lib.hid hr4
              clear TB TN own4 hr4
              go_wp2_with fail
              refine (specColSet_any L a b _).mono ?_
              rintro e w5 ⟨v5, rfl, own5, fit5, b5⟩
              obtain ⟨A5, c5, rfl, hr5, _⟩ := own5.form fit5
              have R5 := Lib.hid hr5
              have R45 := Lib.hid (R4.out.step b5)
              have B5 := Lib.hid (B4.out.trans (b5.mono B4.out.size))
              have z5 := Nat.lt_of_lt_of_le z4 b5.size
              clear own5 hr5 b5
              go_wp2_with fail
              refine (specMinus_any A5 A4 c5 c4 (colS L a b) ys _ R5.out R45.out).mono ?_
              rintro e w6 ⟨v6, rfl, own6, fit6, b6⟩
              have B6 := Lib.hid (B5.out.trans (b6.mono B5.out.size))
              have O6 := Lib.hid (own6.mono (Nat.le_of_lt z5))
              clear own6 b6
              go_wp2
              go_ret2
              rw [HV.out.1, HV.out.2]
              exact .of O6.out fit6 B6.out
        · have hl : Hid (tB L a b s.data.toList = listB L a b s.data.toList ∧ tV L a b s.data.toList = listV L a b s.data.toList) := Lib.hid (by
            cases hn : notB s.data.toList
            · exact t_list HC.out H45.out H0.out hn
            · refine t_model hn ?_
              rw [← Lib.size_eq]
              by_cases h5 : 5 < s.size
              · right
                cases hcb : closeB s.data.toList
                · rfl
                · exact absurd ⟨hn, h5, hcb⟩ hneg
              · left; omega)
          have pc := fun w => specPieces_any L a b HC.out s HS.out w
          have PC := Lib.hid pc
          clear pc
          by_cases h5 : 5 < s.size
          · have c1 : (5 : Int) < (s.size : Int) := by omega
            have e1 : IntKind.i64.wrap ((s.size : Int) - 1) = (s.size : Int) - 1 := IntWalk.i64_in _ (by omega)
            have e2 : (0 : Int) ≤ (s.size : Int) - 1 ∧ (s.size : Int) - 1 < (s.size : Int) := by omega
            have e3 : ((s.size : Int) - 1).toNat = s.size - 1 := by omega
            have e5 : (4 : Int) ≤ (s.size : Int) := by omega
            cases hn : notB s.data.toList
            · have c2 : ((s.extract 0 4).toList == [110, 111, 116, 40]) = false := by
                rw [Lib.toList_data, extL, List.drop_zero, ← notB_take]; exact hn
              have c2a : ¬ (s.extract 0 4).toList = [110, 111, 116, 40] := by simpa using c2
              clear hn hneg
              go_wp2_with fail
              refine (PC.out _).mono ?_
              rintro e w4 ⟨v4, rfl, own4, fit4, b4⟩
              have B4 := Lib.hid (B3.out.trans (b4.mono B3.out.size))
              have O4 := Lib.hid (O3.out.below b4)
              have OV := Lib.hid (own4.mono (Nat.le_of_lt z3))
              clear own4 b4 g0 g1 g2
              cases hlb : listB L a b s.data.toList
              · have hno : Hid (tB L a b s.data.toList = false ∧ tV L a b s.data.toList = []) := Lib.hid ⟨hl.out.1.trans hlb, by rw [hl.out.2]; unfold listV; rw [hlb]; rfl⟩
                clear hlb
                go_wp2
                go_ret2
                rw [hno.out.1, hno.out.2]
                exact .of O4.out fits_nil B4.out
              · have hys : Hid (tB L a b s.data.toList = true ∧ tV L a b s.data.toList = listV L a b s.data.toList) := Lib.hid ⟨hl.out.1.trans hlb, hl.out.2⟩
                clear hlb
                go_wp2
                go_ret2
                rw [hys.out.1, hys.out.2]
                exact .of OV.out fit4 B4.out
            · have c2 : ((s.extract 0 4).toList == [110, 111, 116, 40]) = true := by
                rw [Lib.toList_data, extL, List.drop_zero, ← notB_take]; exact hn
              have c2a : (s.extract 0 4).toList = [110, 111, 116, 40] := by simpa using c2
              have hcb : closeB s.data.toList = false := by
                cases hcb : closeB s.data.toList
                · rfl
                · exact absurd ⟨hn, h5, hcb⟩ hneg
              have hci := close_iff hn (by rw [← Lib.size_eq]; omega)
              have hb : s[s.size - 1]'(by omega) ≠ 41 := by
                rw [hcb] at hci
                have h1 := byte_at s (s.size - 1) (by omega)
                rw [← h1]
                intro h2
                have h3 := beq_eq_false_iff_ne.1 hci.symm
                refine h3 ?_
                rw [← h2]
                congr 1
              have c3 : (((s[s.size - 1]'(by omega)).toNat : Int) == 41) = false := beq_eq_false_iff_ne.2 (fun e => hb (UInt8.toNat_inj.1 (by show (s[s.size - 1]'(by omega)).toNat = 41; omega)))
              clear hn hneg hcb hci hb
              go_wp2_with fail
              refine (PC.out _).mono ?_
              rintro e w4 ⟨v4, rfl, own4, fit4, b4⟩
              have B4 := Lib.hid (B3.out.trans (b4.mono B3.out.size))
              have O4 := Lib.hid (O3.out.below b4)
              have OV := Lib.hid (own4.mono (Nat.le_of_lt z3))
              clear own4 b4 g0 g1 g2
              cases hlb : listB L a b s.data.toList
              · have hno : Hid (tB L a b s.data.toList = false ∧ tV L a b s.data.toList = []) := Lib.hid ⟨hl.out.1.trans hlb, by rw [hl.out.2]; unfold listV; rw [hlb]; rfl⟩
                clear hlb
                go_wp2
                go_ret2
                rw [hno.out.1, hno.out.2]
                exact .of O4.out fits_nil B4.out
              · have hys : Hid (tB L a b s.data.toList = true ∧ tV L a b s.data.toList = listV L a b s.data.toList) := Lib.hid ⟨hl.out.1.trans hlb, hl.out.2⟩
                clear hlb
                go_wp2
                go_ret2
                rw [hys.out.1, hys.out.2]
                exact .of OV.out fit4 B4.out
          · have c1 : decide ((5 : Int) < (s.size : Int)) = false := decide_eq_false (by omega)
            have c1b : ¬ (5 : Int) < (s.size : Int) := by omega
            clear hneg h5
            go_wp2_with fail
            refine (PC.out _).mono ?_
            rintro e w4 ⟨v4, rfl, own4, fit4, b4⟩
            have B4 := Lib.hid (B3.out.trans (b4.mono B3.out.size))
            have O4 := Lib.hid (O3.out.below b4)
            have OV := Lib.hid (own4.mono (Nat.le_of_lt z3))
            clear own4 b4 g0 g1 g2
            cases hlb : listB L a b s.data.toList
            · have hno : Hid (tB L a b s.data.toList = false ∧ tV L a b s.data.toList = []) := Lib.hid ⟨hl.out.1.trans hlb, by rw [hl.out.2]; unfold listV; rw [hlb]; rfl⟩
              clear hlb
              go_wp2
              go_ret2
              rw [hno.out.1, hno.out.2]
              exact .of O4.out fits_nil B4.out
            · have hys : Hid (tB L a b s.data.toList = true ∧ tV L a b s.data.toList = listV L a b s.data.toList) := Lib.hid ⟨hl.out.1.trans hlb, hl.out.2⟩
              clear hlb
              go_wp2
              go_ret2
              rw [hys.out.1, hys.out.2]
              exact .of OV.out fit4 B4.out
end Go.Proofs.YthkjcljhfjaabaaGreatDoor
