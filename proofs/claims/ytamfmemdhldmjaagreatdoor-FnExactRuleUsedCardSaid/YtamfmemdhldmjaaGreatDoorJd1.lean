/-
  The rules that count for a result: the model.
-/
import Derived.Test.YtamfmemdhldmjaaGreatDoorJd
namespace Go.Proofs.YtamfmemdhldmjaaGreatDoor
open Go.RowKit Sets

set_option maxRecDepth 100000 in
set_option maxHeartbeats 4000000 in
theorem specUsed_any (v : Value) (t : Tb) (n : Nat) (A : Option Addr) (c : Nat) (ns : List Int) (w : World) (hT : TabAt w w.heap.size v t) (hN : IntsAt w w.heap.size A c ns) (hI : inpB t ns = true) (hn : n < t.rules.length) :
    Calls Tryz.prog 32 #[v, .int .i64 n, .slice A ns.length c] w fun e w' => e = .returned (.bool (mB (t.rules.getD n ([], 0)).1 ns && uB t n ns)) ∧ Below w.heap.size w w' := by
  have HT := Lib.hid hT
  have HN := Lib.hid hN
  have HI := Lib.hid hI
  have HV := Lib.hid (inp_parts hI).1
  have HP := Lib.hid (tab_parts (inp_parts hI).1).1
  have HLN := Lib.hid (inp_rule hI hn)
  have HMI := Lib.hid (fun (hm : mB (t.rules.getD n ([], 0)).1 ns = true) => mat_in hn hm)
  have HO := Lib.hid (outs_ok (ns := ns) HV.out)
  have HY := Lib.hid (show outR t n = (t.rules.getD n ([], 0)).2 from rfl)
  obtain ⟨A1, c1, A2, c2, rfl, hC, hR⟩ := hT
  obtain ⟨b2, off2, A3, c3, rfl, hB2, u1, u2, u3⟩ := rule_at hR hn
  obtain ⟨cs, x, rs⟩ := t
  simp only [] at HT HI HV HP HLN HMI HO HY hn u1 u2 u3 ⊢
  have HS := Lib.hid u2
  obtain ⟨m, hm⟩ : ∃ m, mB (rs.getD n ([], 0)).1 ns = m := ⟨_, rfl⟩
  have HM := Lib.hid hm
  rw [hm] at HMI ⊢
  obtain ⟨⟨xss, y⟩, hr⟩ : ∃ r, rs.getD n ([], 0) = r := ⟨_, rfl⟩
  rw [hr] at u1 u3 HS HM HLN HY
  simp only [] at u1 u3 HS HM HLN HY
  have hnl : (n : Int) < (rs.length : Int) := by omega
  have hb0 : Below w.heap.size w (w.alloc (.cells #[.slice A1 cs.length c1, .int .i64 x, .slice (some ⟨b2, off2, none⟩) rs.length c2] 34)) := (Below.refl _ _).alloc (Nat.le_refl _) _
  have X := Lib.hid (TBox.made w A1 cs.length c1 x (some ⟨b2, off2, none⟩) rs.length c2 34)
  have d1 := (hb0.cell (p := ⟨b2, off2 + n * 2, none⟩) hB2).trans u1
  have d2 := (hb0.cell (p := ⟨b2, off2 + n * 2 + 1, none⟩) hB2).trans u3
  have HU3 := Lib.hid u3
  obtain ⟨p0, p1, p2, p3⟩ := X.out
  clear p3 hC hR hN hI u1 u2 u3 hm hr
  go_enter Tryz.func32, Tryz.ntmps32
  go_wp2_with fail
  clear p0 p1 p2 d1 d2
  generalize (w.alloc (.cells #[.slice A1 cs.length c1, .int .i64 x, .slice (some ⟨b2, off2, none⟩) rs.length c2] 34)) = W at hb0 X ⊢
  refine (specMat_any A3 c3 xss y A c ns W ((HS.out.below hb0).mono hb0.size) (HN.out.step hb0) HLN.out).mono ?_
  rw [HM.out]
  rintro e w1 ⟨rfl, b1⟩
  have B1 := Lib.hid (hb0.trans (b1.mono hb0.size))
  have X1 := Lib.hid (X.out.step b1)
  obtain ⟨p0, p1, p2, p3⟩ := X1.out
  clear p3 b1 X hb0
  cases m
  · go_wp2
    go_ret
    exact ⟨rfl, B1.out⟩
  · have hmp := HMI.out rfl
    have HPO := Lib.hid (show 0 < (outsV ⟨cs, x, rs⟩ ns).length by unfold outsV; rw [outK_len]; exact hmp)
    have HMP := Lib.hid hmp
    clear hmp
    go_wp2_with fail
    clear p0 p1 p2
    refine (specAll_any _ ⟨cs, x, rs⟩ _ _ ns w1 (HT.out.step B1.out) (HN.out.step B1.out) (fun i hi => inp_rule HI.out hi) HP.out.2.2.1).mono ?_
    rintro e w4 ⟨A4, c4, rfl, h4, b4⟩
    have I4 := Lib.hid h4.ints
    have B := Lib.hid (B1.out.trans (b4.mono B1.out.size))
    have X4 := Lib.hid (X1.out.step b4)
    obtain ⟨p0, p1, p2, p3⟩ := X4.out
    clear p3 h4 b4
    by_cases e4 : x = 4
    · subst e4
      obtain ⟨b5, off5, rfl, hB5, q5⟩ := int_rd I4.out HMP.out
      rw [Nat.add_zero] at q5
      have hl0 : (0 : Int) < ((matK rs ns rs.length).length : Int) := by have := HMP.out; omega
      by_cases hq : (matK rs ns rs.length).getD 0 0 = (n : Int)
      · have HU := Lib.hid (show uB ⟨cs, 4, rs⟩ n ns = true by unfold uB; rw [if_pos rfl, decide_eq_true hq])
        rw [hq] at q5
        clear hq
        go_wp2
        go_ret
        exact ⟨by rw [HU.out]; simp, B.out⟩
      · have HU := Lib.hid (show uB ⟨cs, 4, rs⟩ n ns = false by unfold uB; rw [if_pos rfl, decide_eq_false hq])
        generalize (matK rs ns rs.length).getD 0 0 = z at q5 hq
        have hq' : (z == (n : Int)) = false := beq_eq_false_iff_ne.2 hq
        clear hq
        go_wp2
        go_ret
        exact ⟨by rw [HU.out]; rfl, B.out⟩
    by_cases e3 : x = 3
    · subst e3
      clear p0 p1 p2
      have bd : Below w4.heap.size w4 w4.drew := (Below.refl _ _).drew
      have x3 := ((B.out.trans (bd.mono B.out.size)).cell (p := ⟨b2, off2 + n * 2 + 1, none⟩) hB2).trans HU3.out
      replace B := Lib.hid (B.out.trans (bd.mono B.out.size))
      replace I4 := Lib.hid (I4.out.step bd)
      obtain ⟨x0, x1, x2, xz⟩ := X4.out.step bd
      have HZ := Lib.hid xz
      obtain ⟨k0, k1, k2, _⟩ := X4.out
      clear xz bd
      go_upto_region 10 with fail
      clear k0 k1 k2
      go_region_held3 (fun w' => (w'.cell? ⟨w.heap.size, 0, none⟩ = some (.slice A1 cs.length c1) ∧ w'.cell? ⟨w.heap.size, 1, none⟩ = some (.int .i64 3) ∧ w'.cell? ⟨w.heap.size, 2, none⟩ = some (.slice (some ⟨b2, off2, none⟩) rs.length c2)) ∧ w'.cell? ⟨b2, off2 + n * 2 + 1, none⟩ = some (.int .i64 y)) (first | exact ⟨⟨x0, x1, x2⟩, x3⟩) (first
        | (go_at_call 39; refine (specOutsM_any _ ⟨cs, 3, rs⟩ _ _ ns _ (HT.out.step B.out) I4.out HV.out).mono ?_; rintro e w5 ⟨A5, c5, rfl, h5, b5⟩; have I5 := Lib.hid h5.ints; have x0 : w5.cell? ⟨w.heap.size, 0, none⟩ = some (.slice A1 cs.length c1) := (b5.cell (p := ⟨w.heap.size, 0, none⟩) HZ.out).trans x0; have x1 : w5.cell? ⟨w.heap.size, 1, none⟩ = some (.int .i64 3) := (b5.cell (p := ⟨w.heap.size, 1, none⟩) HZ.out).trans x1; have x2 : w5.cell? ⟨w.heap.size, 2, none⟩ = some (.slice (some ⟨b2, off2, none⟩) rs.length c2) := (b5.cell (p := ⟨w.heap.size, 2, none⟩) HZ.out).trans x2; have x3 : w5.cell? ⟨b2, off2 + n * 2 + 1, none⟩ = some (.int .i64 y) := (b5.cell (p := ⟨b2, off2 + n * 2 + 1, none⟩) (Nat.lt_of_lt_of_le hB2 B.out.size)).trans x3; have B := Lib.hid (B.out.trans (b5.mono B.out.size)); clear h5 b5)
        | (go_at_call 52; refine (specNumTop_any _ _ (outsV ⟨cs, 3, rs⟩ ns) _ I5.out HPO.out HO.out).mono ?_; rintro e w6 ⟨rfl, hw6⟩; subst hw6))
      all_goals
        clear x0 x1 x2 x3
        by_cases hq : y = numV 3 (outsV ⟨cs, 3, rs⟩ ns)
        · have hq' : (y == numV 3 (outsV ⟨cs, 3, rs⟩ ns)) = true := beq_iff_eq.2 hq
          have HU := Lib.hid (show uB ⟨cs, 3, rs⟩ n ns = true by unfold uB; dsimp only; rw [if_neg (by decide), if_pos (by decide), decide_eq_true (by rw [show outR ⟨cs, 3, rs⟩ n = y from HY.out]; exact hq)])
          clear hq
          go_wp2
          go_ret
          refine ⟨?_, B.out⟩
          show Ending.returned (.bool (y == numV 3 (outsV ⟨cs, 3, rs⟩ ns))) = _
          rw [hq', HU.out]; rfl
        · have hq' : (y == numV 3 (outsV ⟨cs, 3, rs⟩ ns)) = false := beq_eq_false_iff_ne.2 hq
          have HU := Lib.hid (show uB ⟨cs, 3, rs⟩ n ns = false by unfold uB; dsimp only; rw [if_neg (by decide), if_pos (by decide), decide_eq_false (by rw [show outR ⟨cs, 3, rs⟩ n = y from HY.out]; exact hq)])
          clear hq
          go_wp2
          go_ret
          refine ⟨?_, B.out⟩
          show Ending.returned (.bool (y == numV 3 (outsV ⟨cs, 3, rs⟩ ns))) = _
          rw [hq', HU.out]; rfl
    by_cases e9 : x = 9
    · subst e9
      clear p0 p1 p2
      have bd : Below w4.heap.size w4 w4.drew := (Below.refl _ _).drew
      have x3 := ((B.out.trans (bd.mono B.out.size)).cell (p := ⟨b2, off2 + n * 2 + 1, none⟩) hB2).trans HU3.out
      replace B := Lib.hid (B.out.trans (bd.mono B.out.size))
      replace I4 := Lib.hid (I4.out.step bd)
      obtain ⟨x0, x1, x2, xz⟩ := X4.out.step bd
      have HZ := Lib.hid xz
      obtain ⟨k0, k1, k2, _⟩ := X4.out
      clear xz bd
      go_upto_region 10 with fail
      clear k0 k1 k2
      go_region_held3 (fun w' => (w'.cell? ⟨w.heap.size, 0, none⟩ = some (.slice A1 cs.length c1) ∧ w'.cell? ⟨w.heap.size, 1, none⟩ = some (.int .i64 9) ∧ w'.cell? ⟨w.heap.size, 2, none⟩ = some (.slice (some ⟨b2, off2, none⟩) rs.length c2)) ∧ w'.cell? ⟨b2, off2 + n * 2 + 1, none⟩ = some (.int .i64 y)) (first | exact ⟨⟨x0, x1, x2⟩, x3⟩) (first
        | (go_at_call 39; refine (specOutsM_any _ ⟨cs, 9, rs⟩ _ _ ns _ (HT.out.step B.out) I4.out HV.out).mono ?_; rintro e w5 ⟨A5, c5, rfl, h5, b5⟩; have I5 := Lib.hid h5.ints; have x0 : w5.cell? ⟨w.heap.size, 0, none⟩ = some (.slice A1 cs.length c1) := (b5.cell (p := ⟨w.heap.size, 0, none⟩) HZ.out).trans x0; have x1 : w5.cell? ⟨w.heap.size, 1, none⟩ = some (.int .i64 9) := (b5.cell (p := ⟨w.heap.size, 1, none⟩) HZ.out).trans x1; have x2 : w5.cell? ⟨w.heap.size, 2, none⟩ = some (.slice (some ⟨b2, off2, none⟩) rs.length c2) := (b5.cell (p := ⟨w.heap.size, 2, none⟩) HZ.out).trans x2; have x3 : w5.cell? ⟨b2, off2 + n * 2 + 1, none⟩ = some (.int .i64 y) := (b5.cell (p := ⟨b2, off2 + n * 2 + 1, none⟩) (Nat.lt_of_lt_of_le hB2 B.out.size)).trans x3; have B := Lib.hid (B.out.trans (b5.mono B.out.size)); clear h5 b5)
        | (go_at_call 52; refine (specNumMax_any _ _ (outsV ⟨cs, 9, rs⟩ ns) _ I5.out HPO.out HO.out).mono ?_; rintro e w6 ⟨rfl, hw6⟩; subst hw6))
      all_goals
        clear x0 x1 x2 x3
        by_cases hq : y = numV 9 (outsV ⟨cs, 9, rs⟩ ns)
        · have hq' : (y == numV 9 (outsV ⟨cs, 9, rs⟩ ns)) = true := beq_iff_eq.2 hq
          have HU := Lib.hid (show uB ⟨cs, 9, rs⟩ n ns = true by unfold uB; dsimp only; rw [if_neg (by decide), if_pos (by decide), decide_eq_true (by rw [show outR ⟨cs, 9, rs⟩ n = y from HY.out]; exact hq)])
          clear hq
          go_wp2
          go_ret
          refine ⟨?_, B.out⟩
          show Ending.returned (.bool (y == numV 9 (outsV ⟨cs, 9, rs⟩ ns))) = _
          rw [hq', HU.out]; rfl
        · have hq' : (y == numV 9 (outsV ⟨cs, 9, rs⟩ ns)) = false := beq_eq_false_iff_ne.2 hq
          have HU := Lib.hid (show uB ⟨cs, 9, rs⟩ n ns = false by unfold uB; dsimp only; rw [if_neg (by decide), if_pos (by decide), decide_eq_false (by rw [show outR ⟨cs, 9, rs⟩ n = y from HY.out]; exact hq)])
          clear hq
          go_wp2
          go_ret
          refine ⟨?_, B.out⟩
          show Ending.returned (.bool (y == numV 9 (outsV ⟨cs, 9, rs⟩ ns))) = _
          rw [hq', HU.out]; rfl
    by_cases e8 : x = 8
    · subst e8
      clear p0 p1 p2
      have bd : Below w4.heap.size w4 w4.drew := (Below.refl _ _).drew
      have x3 := ((B.out.trans (bd.mono B.out.size)).cell (p := ⟨b2, off2 + n * 2 + 1, none⟩) hB2).trans HU3.out
      replace B := Lib.hid (B.out.trans (bd.mono B.out.size))
      replace I4 := Lib.hid (I4.out.step bd)
      obtain ⟨x0, x1, x2, xz⟩ := X4.out.step bd
      have HZ := Lib.hid xz
      obtain ⟨k0, k1, k2, _⟩ := X4.out
      clear xz bd
      go_upto_region 10 with fail
      clear k0 k1 k2
      go_region_held3 (fun w' => (w'.cell? ⟨w.heap.size, 0, none⟩ = some (.slice A1 cs.length c1) ∧ w'.cell? ⟨w.heap.size, 1, none⟩ = some (.int .i64 8) ∧ w'.cell? ⟨w.heap.size, 2, none⟩ = some (.slice (some ⟨b2, off2, none⟩) rs.length c2)) ∧ w'.cell? ⟨b2, off2 + n * 2 + 1, none⟩ = some (.int .i64 y)) (first | exact ⟨⟨x0, x1, x2⟩, x3⟩) (first
        | (go_at_call 39; refine (specOutsM_any _ ⟨cs, 8, rs⟩ _ _ ns _ (HT.out.step B.out) I4.out HV.out).mono ?_; rintro e w5 ⟨A5, c5, rfl, h5, b5⟩; have I5 := Lib.hid h5.ints; have x0 : w5.cell? ⟨w.heap.size, 0, none⟩ = some (.slice A1 cs.length c1) := (b5.cell (p := ⟨w.heap.size, 0, none⟩) HZ.out).trans x0; have x1 : w5.cell? ⟨w.heap.size, 1, none⟩ = some (.int .i64 8) := (b5.cell (p := ⟨w.heap.size, 1, none⟩) HZ.out).trans x1; have x2 : w5.cell? ⟨w.heap.size, 2, none⟩ = some (.slice (some ⟨b2, off2, none⟩) rs.length c2) := (b5.cell (p := ⟨w.heap.size, 2, none⟩) HZ.out).trans x2; have x3 : w5.cell? ⟨b2, off2 + n * 2 + 1, none⟩ = some (.int .i64 y) := (b5.cell (p := ⟨b2, off2 + n * 2 + 1, none⟩) (Nat.lt_of_lt_of_le hB2 B.out.size)).trans x3; have B := Lib.hid (B.out.trans (b5.mono B.out.size)); clear h5 b5)
        | (go_at_call 52; refine (specNumMin_any _ _ (outsV ⟨cs, 8, rs⟩ ns) _ I5.out HPO.out HO.out).mono ?_; rintro e w6 ⟨rfl, hw6⟩; subst hw6))
      all_goals
        clear x0 x1 x2 x3
        by_cases hq : y = numV 8 (outsV ⟨cs, 8, rs⟩ ns)
        · have hq' : (y == numV 8 (outsV ⟨cs, 8, rs⟩ ns)) = true := beq_iff_eq.2 hq
          have HU := Lib.hid (show uB ⟨cs, 8, rs⟩ n ns = true by unfold uB; dsimp only; rw [if_neg (by decide), if_pos (by decide), decide_eq_true (by rw [show outR ⟨cs, 8, rs⟩ n = y from HY.out]; exact hq)])
          clear hq
          go_wp2
          go_ret
          refine ⟨?_, B.out⟩
          show Ending.returned (.bool (y == numV 8 (outsV ⟨cs, 8, rs⟩ ns))) = _
          rw [hq', HU.out]; rfl
        · have hq' : (y == numV 8 (outsV ⟨cs, 8, rs⟩ ns)) = false := beq_eq_false_iff_ne.2 hq
          have HU := Lib.hid (show uB ⟨cs, 8, rs⟩ n ns = false by unfold uB; dsimp only; rw [if_neg (by decide), if_pos (by decide), decide_eq_false (by rw [show outR ⟨cs, 8, rs⟩ n = y from HY.out]; exact hq)])
          clear hq
          go_wp2
          go_ret
          refine ⟨?_, B.out⟩
          show Ending.returned (.bool (y == numV 8 (outsV ⟨cs, 8, rs⟩ ns))) = _
          rw [hq', HU.out]; rfl
    · have HU := Lib.hid (show uB ⟨cs, x, rs⟩ n ns = true by unfold uB; simp only []; rw [if_neg e4, if_neg (by omega)])
      have f4 : (x == 4) = false := beq_eq_false_iff_ne.2 e4
      have f3 : (x == 3) = false := beq_eq_false_iff_ne.2 e3
      have f9 : (x == 9) = false := beq_eq_false_iff_ne.2 e9
      have f8 : (x == 8) = false := beq_eq_false_iff_ne.2 e8
      clear e4 e3 e9 e8
      go_wp2
      go_ret
      exact ⟨by rw [HU.out]; rfl, B.out⟩
end Go.Proofs.YtamfmemdhldmjaaGreatDoor
