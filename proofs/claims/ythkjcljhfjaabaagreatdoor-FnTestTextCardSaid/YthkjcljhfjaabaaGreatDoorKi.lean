/-
  Contract of the program's reader of tests.
-/
import Derived.Test.YthkjcljhfjaabaaGreatDoorKf
import Derived.Test.YthkjcljhfjaabaaGreatDoorKh
namespace Go.Proofs.YthkjcljhfjaabaaGreatDoor
open Go.RowKit Sets

set_option maxRecDepth 100000 in
set_option maxHeartbeats 4000000 in
theorem implPT_any (L : Bool) (a b : Int) (s : ByteArray) (hs : s.size ≤ 1048600) (w : World) (hL : LibIs w) :
    Calls Tryz.prog 11 #[colV L a b, .string s] w (OwnRes2 w.heap.size (tV L a b s.data.toList) (tB L a b s.data.toList) w) := by
  have hsx : s.size ≤ 9223372036854775807 := by omega
  have b0 : Below w.heap.size w (w.alloc (.cells #[.bool L, .int .i64 a, .int .i64 b] 27)) := (Below.refl _ w).alloc (Nat.le_refl _) _
  obtain ⟨k0, k1, k2⟩ := ColAt.box w L a b 27
  have zz : w.heap.size < (w.alloc (.cells #[.bool L, .int .i64 a, .int .i64 b] 27)).heap.size := by simp
  have LL := Lib.hid (hL.step b0)
  have HS := Lib.hid hs
  clear hL
  go_enter Tryz.func11, Tryz.ntmps11
  go_wp2_with fail
  refine (implCol_any L a b _).mono ?_
  cases hc : colB L a b
  · obtain ⟨h1, h2⟩ := t_none (l := s.data.toList) hc
    have HV := Lib.hid (And.intro h1 h2)
    rintro e w1 ⟨rfl, b1⟩
    have BB := Lib.hid (b0.trans (b1.mono b0.size))
    clear h1 h2 hc
    go_wp2
    go_ret2
    rw [HV.out.1, HV.out.2]
    exact .of (OwnS.nil _ _) fits_nil BB.out
  · rintro e w1 ⟨rfl, b1⟩
    have g := ColAt.below (g := w.heap.size) ⟨k0, k1, k2⟩ b1 zz
    have z1 := Nat.lt_of_lt_of_le zz b1.size
    have B1 := Lib.hid (b0.trans (b1.mono b0.size))
    have L1 := Lib.hid (LL.out.step b1)
    have HC := Lib.hid hc
    obtain ⟨g0, g1, g2⟩ := g
    clear b0 k0 k1 k2 zz b1 hc
    by_cases h45 : s.data.toList = [45]
    · obtain ⟨h1, h2⟩ := t_dash HC.out h45
      have HV := Lib.hid (And.intro h1 h2)
      have hq : (s.toList == [45]) = true := by rw [Lib.toList_data, h45]; rfl
      have hq2 : s.toList = [45] := by rw [Lib.toList_data, h45]
      clear h1 h2 h45
      go_wp2_with fail
      refine (implColSet_any L a b _).mono ?_
      rintro e w2 ⟨v2, rfl, own2, fit2, b2⟩
      have B2 := Lib.hid (B1.out.trans (b2.mono B1.out.size))
      have OW := Lib.hid (own2.mono (Nat.le_of_lt z1))
      clear own2 b2
      go_wp2
      go_ret2
      rw [HV.out.1, HV.out.2]
      exact .of OW.out fit2 B2.out
    · have hq : (s.toList == [45]) = false := by rw [Lib.toList_data]; exact beq_eq_false_iff_ne.2 h45
      have hq1 : ¬ s.toList = [45] := by rw [Lib.toList_data]; exact h45
      by_cases h0 : s.data.toList = []
      · obtain ⟨h1, h2⟩ := t_nil HC.out h0
        have HV := Lib.hid (And.intro h1 h2)
        have hp : (s.toList == []) = true := by rw [Lib.toList_data, h0]; rfl
        have hp1 : s.toList = [] := by rw [Lib.toList_data, h0]
        clear h1 h2 h45 h0
        go_wp2
        go_ret2
        rw [HV.out.1, HV.out.2]
        exact .of (OwnS.nil _ _) fits_nil B1.out
      · have hp : (s.toList == []) = false := by rw [Lib.toList_data]; exact beq_eq_false_iff_ne.2 h0
        have hp1 : ¬ s.toList = [] := by rw [Lib.toList_data]; exact h0
        have H45 := Lib.hid h45
        have H0 := Lib.hid h0
        clear h45 h0
        obtain ⟨s1, hs1⟩ : ∃ s1 : ByteArray, s1 = ⟨(Lib.trimPrefix s.data.toList [110, 111, 116, 40]).toArray⟩ := ⟨_, rfl⟩
        have CP := fun w => Tryz.strings_CutPrefix s ⟨#[110, 111, 116, 40]⟩ w
        change ∀ w, Calls Tryz.prog 37 #[.string s, .string ⟨#[110, 111, 116, 40]⟩] w fun e w' => e = .returned (.tuple #[.string ⟨(Lib.trimPrefix s.data.toList [110, 111, 116, 40]).toArray⟩, .bool (notB s.data.toList)]) ∧ w' = w at CP
        rw [← hs1] at CP
        cases hn : notB s.data.toList
        · rw [hn] at CP
          obtain ⟨h1, h2⟩ := t_list HC.out H45.out H0.out hn
          have HV := Lib.hid (And.intro h1 h2)
          have CPH := Lib.hid CP
          clear CP h1 h2 hs1 hn
          go_wp2_with fail
          refine (CPH.out _).mono ?_
          rintro e w2 ⟨rfl, rfl⟩
          go_wp2_with fail
          refine (implParts_any L a b s HS.out _ L1.out).mono ?_
          rintro e w3 ⟨v3, rfl, own3, fit3, b3⟩
          have B3 := Lib.hid (B1.out.trans (b3.mono B1.out.size))
          have OW := Lib.hid (own3.mono (Nat.le_of_lt z1))
          clear own3 b3
          go_wp2
          go_ret2
          rw [HV.out.1, HV.out.2]
          exact .of OW.out fit3 B3.out
        · rw [hn] at CP
          have e1 : s1.data.toList = s.data.toList.drop 4 := by rw [hs1]; exact trim_yes hn
          have hs1s : s1.size ≤ 1048600 := by rw [Lib.size_eq, e1, List.length_drop, ← Lib.size_eq]; omega
          obtain ⟨s2, hs2⟩ : ∃ s2 : ByteArray, s2 = ⟨(Lib.trimSuffix s1.data.toList [41]).toArray⟩ := ⟨_, rfl⟩
          have CS := fun w => Tryz.strings_CutSuffix s1 ⟨#[41]⟩ w (by omega)
          change ∀ w, Calls Tryz.prog 39 #[.string s1, .string ⟨#[41]⟩] w fun e w' => e = .returned (.tuple #[.string ⟨(Lib.trimSuffix s1.data.toList [41]).toArray⟩, .bool (Lib.hasSuffix s1.data.toList [41])]) ∧ w' = w at CS
          rw [← hs2] at CS
          have hcl : Lib.hasSuffix s1.data.toList [41] = closeB s.data.toList := by rw [e1]; rfl
          rw [hcl] at CS
          have CPH := Lib.hid CP
          clear CP hcl
          cases hcb : closeB s.data.toList
          · obtain ⟨h1, h2⟩ := t_open (L := L) (a := a) (b := b) hn hcb
            have HV := Lib.hid (And.intro h1 h2)
            rw [hcb] at CS
            have CSH := Lib.hid CS
            clear CS h1 h2 hs1 hs2 hn hcb e1 hs1s
            go_wp2_with fail
            refine (CPH.out _).mono ?_
            rintro e w2 ⟨rfl, rfl⟩
            go_wp2_with fail
            refine (CSH.out _).mono ?_
            rintro e w3 ⟨rfl, rfl⟩
            go_wp2
            go_ret2
            rw [HV.out.1, HV.out.2]
            exact .of (OwnS.nil _ _) fits_nil B1.out
          · rw [hcb] at CS
            have e2 : s2.data.toList = notP s.data.toList := by rw [hs2, e1]; exact notP_trim hcb
            have hs2s : s2.size ≤ 1048600 := by rw [Lib.size_eq, e2]; unfold notP; rw [List.length_take, List.length_drop, ← Lib.size_eq]; omega
            have IP := fun w hL => implParts_any L a b s2 hs2s w hL
            rw [e2] at IP
            have CSH := Lib.hid CS
            have IPH := Lib.hid IP
            have HN := Lib.hid hn
            have HCB := Lib.hid hcb
            clear CS IP hs1 hs2 hn hcb e1 e2 hs1s hs2s
            go_wp2_with fail
            refine (CPH.out _).mono ?_
            rintro e w2 ⟨rfl, rfl⟩
            go_wp2_with fail
            refine (CSH.out _).mono ?_
            rintro e w3 ⟨rfl, rfl⟩
            go_wp2_with fail
            refine (IPH.out _ L1.out).mono ?_
            rintro e w4 ⟨v4, rfl, own4, fit4, b4⟩
            have g := ColAt.below (g := w.heap.size) ⟨g0, g1, g2⟩ b4 z1
            obtain ⟨q0, q1, q2⟩ := g
            have B4 := Lib.hid (B1.out.trans (b4.mono B1.out.size))
            have z4 := Nat.lt_of_lt_of_le z1 b4.size
            clear g0 g1 g2 b4
            cases hl : listB L a b (notP s.data.toList)
            · obtain ⟨h1, h2⟩ := t_bad HN.out hl
              have HV := Lib.hid (And.intro h1 h2)
              clear h1 h2 hl own4 fit4
              go_wp2
              go_ret2
              rw [HV.out.1, HV.out.2]
              exact .of (OwnS.nil _ _) fits_nil B4.out
            · obtain ⟨h1, h2⟩ := t_not HC.out HN.out HCB.out hl
              have HV := Lib.hid (And.intro h1 h2)
              clear h1 h2 hl
              generalize listV L a b (notP s.data.toList) = ys at own4 fit4 HV
              obtain ⟨A4, c4, rfl, hr4, _⟩ := own4.form fit4
              have R4 := Lib.hid hr4
              clear own4 hr4
              go_wp2_with fail
              refine (implColSet_any L a b _).mono ?_
              rintro e w5 ⟨v5, rfl, own5, fit5, b5⟩
              obtain ⟨A5, c5, rfl, hr5, _⟩ := own5.form fit5
              have R5 := Lib.hid hr5
              have R45 := Lib.hid (R4.out.step b5)
              have B5 := Lib.hid (B4.out.trans (b5.mono B4.out.size))
              have z5 := Nat.lt_of_lt_of_le z4 b5.size
              clear own5 hr5 b5
              go_wp2_with fail
              refine (implMinus_any A5 A4 c5 c4 (colS L a b) ys _ R5.out R45.out).mono ?_
              rintro e w6 ⟨v6, rfl, own6, fit6, b6⟩
              have B6 := Lib.hid (B5.out.trans (b6.mono B5.out.size))
              have OW := Lib.hid (own6.mono (Nat.le_of_lt z5))
              clear own6 b6
              go_wp2
              go_ret2
              rw [HV.out.1, HV.out.2]
              exact .of OW.out fit6 B6.out
end Go.Proofs.YthkjcljhfjaabaaGreatDoor
