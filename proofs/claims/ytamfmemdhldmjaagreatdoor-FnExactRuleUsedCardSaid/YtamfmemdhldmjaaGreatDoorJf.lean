/-
  The rules that count for a result: the program.
-/
import Derived.Test.YtamfmemdhldmjaaGreatDoorJe
namespace Go.Proofs.YtamfmemdhldmjaaGreatDoor
open Go.RowKit Sets

theorem field_res (a b : Value) (w : World) : (Instr.field 29 (.agg #[a, b]) 1).run Tryz.prog w = .ok b w := by kernel_rfl
theorem dc_one {p : Int} {L : List Int} (hp : 0 < L.length) (h : p = 3 ∨ p = 9 ∨ p = 8) : dcV p L = (0, [numV p L]) := by
  unfold dcV
  rw [if_neg (by omega), if_neg (by omega), if_neg (by omega), if_neg (by omega), if_neg (by omega)]
theorem implDec1_any (a1 a2 a3 : Addr) (v : Value) (t : Tb) (A : Option Addr) (c : Nat) (ns : List Int) (w : World) (hE : EndsIs w a1 a2 a3) (hT : TabAt w w.heap.size v t) (hN : IntsAt w w.heap.size A c ns) (hI : inpB t ns = true) (z : Int) (hz : dcV t.pol (outsV t ns) = (0, [z])) :
    Calls Tryz.prog 26 #[v, .slice A ns.length c] w fun e w' => ∃ A' c', e = .returned (.agg #[.int .i64 0, .slice A' 1 c']) ∧ IntsAt w' w'.heap.size A' c' [z] ∧ Below w.heap.size w w' := by
  refine (implTab4_any a1 a2 a3 v t A c ns w hE hT hN hI).mono ?_
  rw [hz]
  rintro e w' ⟨A', c', rfl, hO, hb⟩
  exact ⟨A', c', rfl, hO.ints, hb⟩

set_option maxRecDepth 100000 in
set_option maxHeartbeats 4000000 in
theorem implUses_any (a1 a2 a3 : Addr) (v : Value) (t : Tb) (n : Nat) (A : Option Addr) (c : Nat) (ns : List Int) (w : World) (hE : EndsIs w a1 a2 a3) (hT : TabAt w w.heap.size v t) (hN : IntsAt w w.heap.size A c ns) (hI : inpB t ns = true) (hn : n < t.rules.length) (hm : mB (t.rules.getD n ([], 0)).1 ns = true) :
    Calls Tryz.prog 34 #[v, .int .i64 n, .slice A ns.length c] w fun e w' => e = .returned (.bool (uB t n ns)) ∧ Below w.heap.size w w' := by
  have HT := Lib.hid hT
  have HN := Lib.hid hN
  have HI := Lib.hid hI
  have HE := Lib.hid hE
  have HP := Lib.hid (tab_parts (inp_parts hI).1).1
  have hmp := mat_in hn hm
  have HY := Lib.hid (show outR t n = (t.rules.getD n ([], 0)).2 from rfl)
  have HPO := Lib.hid (show 0 < (outsV t ns).length by unfold outsV; rw [outK_len]; exact hmp)
  have HML := Lib.hid (matK_len t.rules ns t.rules.length)
  have HMP := Lib.hid hmp
  obtain ⟨A1, c1, A2, c2, rfl, hC, hR⟩ := hT
  obtain ⟨b2, off2, A3, c3, rfl, hB2, _, _, u3⟩ := rule_at hR hn
  obtain ⟨cs, x, rs⟩ := t
  simp only [] at HT HI HP HY HPO HML HMP hn u3 ⊢
  generalize (rs.getD n ([], 0)).2 = y at u3 HY
  have hnl : (n : Int) < (rs.length : Int) := by omega
  have hb0 : Below w.heap.size w (w.alloc (.cells #[.slice A1 cs.length c1, .int .i64 x, .slice (some ⟨b2, off2, none⟩) rs.length c2] 34)) := (Below.refl _ _).alloc (Nat.le_refl _) _
  have X := Lib.hid (TBox.made w A1 cs.length c1 x (some ⟨b2, off2, none⟩) rs.length c2 34)
  have HU3 := Lib.hid u3
  obtain ⟨p0, p1, p2, p3⟩ := X.out
  clear p3 hC hR hN hI u3 hm hmp hE
  by_cases e4 : x = 4
  · subst e4
    go_enter Tryz.func34, Tryz.ntmps34
    go_wp2_with fail
    clear p0 p1 p2
    generalize (w.alloc (.cells #[.slice A1 cs.length c1, .int .i64 4, .slice (some ⟨b2, off2, none⟩) rs.length c2] 34)) = W at hb0 X ⊢
    refine (implAll_any _ ⟨cs, 4, rs⟩ _ _ ns W (HT.out.step hb0) (HN.out.step hb0) (fun i hi => inp_rule HI.out hi) HP.out.2.2.1).mono ?_
    rintro e w4 ⟨A4, c4, rfl, h4, b4⟩
    have I4 := Lib.hid h4.ints
    have B := Lib.hid (hb0.trans (b4.mono hb0.size))
    clear h4 b4 X hb0
    go_wp2_with fail
    refine (index_any A4 c4 (matK rs ns rs.length) (n : Int) w4 I4.out (by have := HML.out; have := HP.out; omega)).mono ?_
    rintro e w5 ⟨⟨r, rfl, hr⟩, hw⟩
    subst hw
    by_cases hq : (matK rs ns rs.length).getD 0 0 = (n : Int)
    · have HU := Lib.hid (show uB ⟨cs, 4, rs⟩ n ns = true by unfold uB; rw [if_pos rfl, decide_eq_true hq])
      have hr0 : r = 0 := by
        rcases hr with ⟨_, hno⟩ | ⟨p, rfl, hp, _, hall⟩
        · exact absurd hq (hno 0 HMP.out)
        · rcases Nat.eq_zero_or_pos p with h0 | h0
          · rw [h0]; rfl
          · exact absurd hq (hall 0 h0)
      subst hr0
      clear hr hq
      go_wp2
      go_ret
      exact ⟨by rw [HU.out]; rfl, B.out⟩
    · have HU := Lib.hid (show uB ⟨cs, 4, rs⟩ n ns = false by unfold uB; rw [if_pos rfl, decide_eq_false hq])
      have hr0 : (r == 0) = false := by
        rw [beq_eq_false_iff_ne]
        rintro rfl
        rcases hr with ⟨h, _⟩ | ⟨p, h, hp, hz, _⟩
        · omega
        · have : p = 0 := by omega
          rw [this] at hz
          exact hq hz
      clear hr hq
      go_wp2
      go_ret
      exact ⟨by rw [HU.out]; rfl, B.out⟩
  by_cases e3 : x = 3
  · subst e3
    have hfr := field_res
    have HD := Lib.hid (dc_one (p := 3) HPO.out (by decide))
    have x3 := ((hb0.trans ((Below.refl (w.alloc (.cells #[.slice A1 cs.length c1, .int .i64 3, .slice (some ⟨b2, off2, none⟩) rs.length c2] 34)).heap.size (w.alloc (.cells #[.slice A1 cs.length c1, .int .i64 3, .slice (some ⟨b2, off2, none⟩) rs.length c2] 34))).drew.mono hb0.size)).cell (p := ⟨b2, off2 + n * 2 + 1, none⟩) hB2).trans HU3.out
    go_enter Tryz.func34, Tryz.ntmps34
    go_upto_region 7 with fail
    clear p0 p1 p2
    generalize (w.alloc (.cells #[.slice A1 cs.length c1, .int .i64 3, .slice (some ⟨b2, off2, none⟩) rs.length c2] 34)) = W at hb0 X x3 ⊢
    have bd : Below W.heap.size W W.drew := (Below.refl _ _).drew
    have B := Lib.hid (hb0.trans (bd.mono hb0.size))
    obtain ⟨x0, x1, x2, xz⟩ := X.out.step bd
    have HZ := Lib.hid xz
    clear xz bd hb0 X
    go_region_held3 (fun w' => (w'.cell? ⟨w.heap.size, 0, none⟩ = some (.slice A1 cs.length c1) ∧ w'.cell? ⟨w.heap.size, 1, none⟩ = some (.int .i64 3) ∧ w'.cell? ⟨w.heap.size, 2, none⟩ = some (.slice (some ⟨b2, off2, none⟩) rs.length c2)) ∧ w'.cell? ⟨b2, off2 + n * 2 + 1, none⟩ = some (.int .i64 y)) (first | exact ⟨⟨x0, x1, x2⟩, x3⟩) (first
      | (go_at_call 26; refine (implDec1_any a1 a2 a3 _ ⟨cs, 3, rs⟩ _ _ ns _ (HE.out.step B.out) (HT.out.step B.out) (HN.out.step B.out) HI.out _ HD.out).mono ?_; rintro e w5 ⟨A5, c5, rfl, h5, b5⟩; have I5 := Lib.hid h5; have x0 : w5.cell? ⟨w.heap.size, 0, none⟩ = some (.slice A1 cs.length c1) := (b5.cell (p := ⟨w.heap.size, 0, none⟩) HZ.out).trans x0; have x1 : w5.cell? ⟨w.heap.size, 1, none⟩ = some (.int .i64 3) := (b5.cell (p := ⟨w.heap.size, 1, none⟩) HZ.out).trans x1; have x2 : w5.cell? ⟨w.heap.size, 2, none⟩ = some (.slice (some ⟨b2, off2, none⟩) rs.length c2) := (b5.cell (p := ⟨w.heap.size, 2, none⟩) HZ.out).trans x2; have x3 : w5.cell? ⟨b2, off2 + n * 2 + 1, none⟩ = some (.int .i64 y) := (b5.cell (p := ⟨b2, off2 + n * 2 + 1, none⟩) (Nat.lt_of_lt_of_le hB2 B.out.size)).trans x3; have B := Lib.hid (B.out.trans (b5.mono B.out.size)); clear h5 b5)
      | (go_at_call 56; refine (has1_any _ _ (numV 3 (outsV ⟨cs, 3, rs⟩ ns)) y _ I5.out).mono ?_; rintro e w6 ⟨rfl, hw6⟩; subst hw6))
    all_goals
      clear x0 x1 x2 x3
      by_cases hq : y = numV 3 (outsV ⟨cs, 3, rs⟩ ns)
      · have hq' : (y == numV 3 (outsV ⟨cs, 3, rs⟩ ns)) = true := beq_iff_eq.2 hq
        have HU := Lib.hid (show uB ⟨cs, 3, rs⟩ n ns = true by unfold uB; dsimp only; rw [if_neg (by decide), if_pos (by decide), decide_eq_true (by rw [show outR ⟨cs, 3, rs⟩ n = y from HY.out]; exact hq)])
        clear hq
        go_wp2
        go_ret
        refine ⟨?_, B.out⟩
        show Ending.returned (.bool (y == numV 3 (outsV ⟨cs, 3, rs⟩ ns))) = _
        rw [hq', HU.out]
      · have hq' : (y == numV 3 (outsV ⟨cs, 3, rs⟩ ns)) = false := beq_eq_false_iff_ne.2 hq
        have HU := Lib.hid (show uB ⟨cs, 3, rs⟩ n ns = false by unfold uB; dsimp only; rw [if_neg (by decide), if_pos (by decide), decide_eq_false (by rw [show outR ⟨cs, 3, rs⟩ n = y from HY.out]; exact hq)])
        clear hq
        go_wp2
        go_ret
        refine ⟨?_, B.out⟩
        show Ending.returned (.bool (y == numV 3 (outsV ⟨cs, 3, rs⟩ ns))) = _
        rw [hq', HU.out]
  by_cases e9 : x = 9
  · subst e9
    have hfr := field_res
    have HD := Lib.hid (dc_one (p := 9) HPO.out (by decide))
    have x3 := ((hb0.trans ((Below.refl (w.alloc (.cells #[.slice A1 cs.length c1, .int .i64 9, .slice (some ⟨b2, off2, none⟩) rs.length c2] 34)).heap.size (w.alloc (.cells #[.slice A1 cs.length c1, .int .i64 9, .slice (some ⟨b2, off2, none⟩) rs.length c2] 34))).drew.mono hb0.size)).cell (p := ⟨b2, off2 + n * 2 + 1, none⟩) hB2).trans HU3.out
    go_enter Tryz.func34, Tryz.ntmps34
    go_upto_region 7 with fail
    clear p0 p1 p2
    generalize (w.alloc (.cells #[.slice A1 cs.length c1, .int .i64 9, .slice (some ⟨b2, off2, none⟩) rs.length c2] 34)) = W at hb0 X x3 ⊢
    have bd : Below W.heap.size W W.drew := (Below.refl _ _).drew
    have B := Lib.hid (hb0.trans (bd.mono hb0.size))
    obtain ⟨x0, x1, x2, xz⟩ := X.out.step bd
    have HZ := Lib.hid xz
    clear xz bd hb0 X
    go_region_held3 (fun w' => (w'.cell? ⟨w.heap.size, 0, none⟩ = some (.slice A1 cs.length c1) ∧ w'.cell? ⟨w.heap.size, 1, none⟩ = some (.int .i64 9) ∧ w'.cell? ⟨w.heap.size, 2, none⟩ = some (.slice (some ⟨b2, off2, none⟩) rs.length c2)) ∧ w'.cell? ⟨b2, off2 + n * 2 + 1, none⟩ = some (.int .i64 y)) (first | exact ⟨⟨x0, x1, x2⟩, x3⟩) (first
      | (go_at_call 26; refine (implDec1_any a1 a2 a3 _ ⟨cs, 9, rs⟩ _ _ ns _ (HE.out.step B.out) (HT.out.step B.out) (HN.out.step B.out) HI.out _ HD.out).mono ?_; rintro e w5 ⟨A5, c5, rfl, h5, b5⟩; have I5 := Lib.hid h5; have x0 : w5.cell? ⟨w.heap.size, 0, none⟩ = some (.slice A1 cs.length c1) := (b5.cell (p := ⟨w.heap.size, 0, none⟩) HZ.out).trans x0; have x1 : w5.cell? ⟨w.heap.size, 1, none⟩ = some (.int .i64 9) := (b5.cell (p := ⟨w.heap.size, 1, none⟩) HZ.out).trans x1; have x2 : w5.cell? ⟨w.heap.size, 2, none⟩ = some (.slice (some ⟨b2, off2, none⟩) rs.length c2) := (b5.cell (p := ⟨w.heap.size, 2, none⟩) HZ.out).trans x2; have x3 : w5.cell? ⟨b2, off2 + n * 2 + 1, none⟩ = some (.int .i64 y) := (b5.cell (p := ⟨b2, off2 + n * 2 + 1, none⟩) (Nat.lt_of_lt_of_le hB2 B.out.size)).trans x3; have B := Lib.hid (B.out.trans (b5.mono B.out.size)); clear h5 b5)
      | (go_at_call 56; refine (has1_any _ _ (numV 9 (outsV ⟨cs, 9, rs⟩ ns)) y _ I5.out).mono ?_; rintro e w6 ⟨rfl, hw6⟩; subst hw6))
    all_goals
      clear x0 x1 x2 x3
      by_cases hq : y = numV 9 (outsV ⟨cs, 9, rs⟩ ns)
      · have hq' : (y == numV 9 (outsV ⟨cs, 9, rs⟩ ns)) = true := beq_iff_eq.2 hq
        have HU := Lib.hid (show uB ⟨cs, 9, rs⟩ n ns = true by unfold uB; dsimp only; rw [if_neg (by decide), if_pos (by decide), decide_eq_true (by rw [show outR ⟨cs, 9, rs⟩ n = y from HY.out]; exact hq)])
        clear hq
        go_wp2
        go_ret
        refine ⟨?_, B.out⟩
        show Ending.returned (.bool (y == numV 9 (outsV ⟨cs, 9, rs⟩ ns))) = _
        rw [hq', HU.out]
      · have hq' : (y == numV 9 (outsV ⟨cs, 9, rs⟩ ns)) = false := beq_eq_false_iff_ne.2 hq
        have HU := Lib.hid (show uB ⟨cs, 9, rs⟩ n ns = false by unfold uB; dsimp only; rw [if_neg (by decide), if_pos (by decide), decide_eq_false (by rw [show outR ⟨cs, 9, rs⟩ n = y from HY.out]; exact hq)])
        clear hq
        go_wp2
        go_ret
        refine ⟨?_, B.out⟩
        show Ending.returned (.bool (y == numV 9 (outsV ⟨cs, 9, rs⟩ ns))) = _
        rw [hq', HU.out]
  by_cases e8 : x = 8
  · subst e8
    have hfr := field_res
    have HD := Lib.hid (dc_one (p := 8) HPO.out (by decide))
    have x3 := ((hb0.trans ((Below.refl (w.alloc (.cells #[.slice A1 cs.length c1, .int .i64 8, .slice (some ⟨b2, off2, none⟩) rs.length c2] 34)).heap.size (w.alloc (.cells #[.slice A1 cs.length c1, .int .i64 8, .slice (some ⟨b2, off2, none⟩) rs.length c2] 34))).drew.mono hb0.size)).cell (p := ⟨b2, off2 + n * 2 + 1, none⟩) hB2).trans HU3.out
    go_enter Tryz.func34, Tryz.ntmps34
    go_upto_region 7 with fail
    clear p0 p1 p2
    generalize (w.alloc (.cells #[.slice A1 cs.length c1, .int .i64 8, .slice (some ⟨b2, off2, none⟩) rs.length c2] 34)) = W at hb0 X x3 ⊢
    have bd : Below W.heap.size W W.drew := (Below.refl _ _).drew
    have B := Lib.hid (hb0.trans (bd.mono hb0.size))
    obtain ⟨x0, x1, x2, xz⟩ := X.out.step bd
    have HZ := Lib.hid xz
    clear xz bd hb0 X
    go_region_held3 (fun w' => (w'.cell? ⟨w.heap.size, 0, none⟩ = some (.slice A1 cs.length c1) ∧ w'.cell? ⟨w.heap.size, 1, none⟩ = some (.int .i64 8) ∧ w'.cell? ⟨w.heap.size, 2, none⟩ = some (.slice (some ⟨b2, off2, none⟩) rs.length c2)) ∧ w'.cell? ⟨b2, off2 + n * 2 + 1, none⟩ = some (.int .i64 y)) (first | exact ⟨⟨x0, x1, x2⟩, x3⟩) (first
      | (go_at_call 26; refine (implDec1_any a1 a2 a3 _ ⟨cs, 8, rs⟩ _ _ ns _ (HE.out.step B.out) (HT.out.step B.out) (HN.out.step B.out) HI.out _ HD.out).mono ?_; rintro e w5 ⟨A5, c5, rfl, h5, b5⟩; have I5 := Lib.hid h5; have x0 : w5.cell? ⟨w.heap.size, 0, none⟩ = some (.slice A1 cs.length c1) := (b5.cell (p := ⟨w.heap.size, 0, none⟩) HZ.out).trans x0; have x1 : w5.cell? ⟨w.heap.size, 1, none⟩ = some (.int .i64 8) := (b5.cell (p := ⟨w.heap.size, 1, none⟩) HZ.out).trans x1; have x2 : w5.cell? ⟨w.heap.size, 2, none⟩ = some (.slice (some ⟨b2, off2, none⟩) rs.length c2) := (b5.cell (p := ⟨w.heap.size, 2, none⟩) HZ.out).trans x2; have x3 : w5.cell? ⟨b2, off2 + n * 2 + 1, none⟩ = some (.int .i64 y) := (b5.cell (p := ⟨b2, off2 + n * 2 + 1, none⟩) (Nat.lt_of_lt_of_le hB2 B.out.size)).trans x3; have B := Lib.hid (B.out.trans (b5.mono B.out.size)); clear h5 b5)
      | (go_at_call 56; refine (has1_any _ _ (numV 8 (outsV ⟨cs, 8, rs⟩ ns)) y _ I5.out).mono ?_; rintro e w6 ⟨rfl, hw6⟩; subst hw6))
    all_goals
      clear x0 x1 x2 x3
      by_cases hq : y = numV 8 (outsV ⟨cs, 8, rs⟩ ns)
      · have hq' : (y == numV 8 (outsV ⟨cs, 8, rs⟩ ns)) = true := beq_iff_eq.2 hq
        have HU := Lib.hid (show uB ⟨cs, 8, rs⟩ n ns = true by unfold uB; dsimp only; rw [if_neg (by decide), if_pos (by decide), decide_eq_true (by rw [show outR ⟨cs, 8, rs⟩ n = y from HY.out]; exact hq)])
        clear hq
        go_wp2
        go_ret
        refine ⟨?_, B.out⟩
        show Ending.returned (.bool (y == numV 8 (outsV ⟨cs, 8, rs⟩ ns))) = _
        rw [hq', HU.out]
      · have hq' : (y == numV 8 (outsV ⟨cs, 8, rs⟩ ns)) = false := beq_eq_false_iff_ne.2 hq
        have HU := Lib.hid (show uB ⟨cs, 8, rs⟩ n ns = false by unfold uB; dsimp only; rw [if_neg (by decide), if_pos (by decide), decide_eq_false (by rw [show outR ⟨cs, 8, rs⟩ n = y from HY.out]; exact hq)])
        clear hq
        go_wp2
        go_ret
        refine ⟨?_, B.out⟩
        show Ending.returned (.bool (y == numV 8 (outsV ⟨cs, 8, rs⟩ ns))) = _
        rw [hq', HU.out]
  · have HU := Lib.hid (show uB ⟨cs, x, rs⟩ n ns = true by unfold uB; dsimp only; rw [if_neg e4, if_neg (by omega)])
    have f4 : (x == 4) = false := beq_eq_false_iff_ne.2 e4
    have f3 : (x == 3) = false := beq_eq_false_iff_ne.2 e3
    have f9 : (x == 9) = false := beq_eq_false_iff_ne.2 e9
    have f8 : (x == 8) = false := beq_eq_false_iff_ne.2 e8
    clear e4 e3 e9 e8
    go_enter Tryz.func34, Tryz.ntmps34
    go_wp2
    go_ret
    exact ⟨by rw [HU.out]; rfl, hb0⟩

set_option maxRecDepth 100000 in
set_option maxHeartbeats 4000000 in
theorem implRU_any (a1 a2 a3 : Addr) (v : Value) (t : Tb) (n : Int) (A : Option Addr) (c : Nat) (ns : List Int) (w : World) (hE : EndsIs w a1 a2 a3) (hT : TabAt w w.heap.size v t) (hN : IntsAt w w.heap.size A c ns) :
    Calls Tryz.prog 18 #[v, .int .i64 n, .slice A ns.length c] w fun e w' => e = .returned (.bool (ruV t n ns)) ∧ Below w.heap.size w w' := by
  have HT := Lib.hid hT
  have HN := Lib.hid hN
  have HE := Lib.hid hE
  obtain ⟨A1, c1, A2, c2, rfl, hC, hR⟩ := hT
  obtain ⟨cs, x, rs⟩ := t
  simp only [] at HT ⊢
  clear hC hR hN hE
  have hb0 : Below w.heap.size w (w.alloc (.cells #[.slice A1 cs.length c1, .int .i64 x, .slice A2 rs.length c2] 34)) := (Below.refl _ _).alloc (Nat.le_refl _) _
  have X := Lib.hid (TBox.made w A1 cs.length c1 x A2 rs.length c2 34)
  obtain ⟨p0, p1, p2, p3⟩ := X.out
  clear p3
  go_enter Tryz.func18, Tryz.ntmps18
  go_wp2_with fail
  clear p0 p1 p2
  generalize (w.alloc (.cells #[.slice A1 cs.length c1, .int .i64 x, .slice A2 rs.length c2] 34)) = W at hb0 X ⊢
  refine (implRM_any _ ⟨cs, x, rs⟩ n _ _ ns W (HT.out.step hb0) (HN.out.step hb0)).mono ?_
  rintro e w1 ⟨rfl, b1⟩
  have B := Lib.hid (hb0.trans (b1.mono hb0.size))
  obtain ⟨p0, p1, p2, p3⟩ := X.out.step b1
  clear p3 X b1 hb0
  cases hr : rmB ⟨cs, x, rs⟩ n ns
  · have hv := Lib.hid (ru_no hr)
    clear hr
    go_wp2
    try trivial
    go_ret
    exact ⟨by rw [hv.out]; rfl, B.out⟩
  · have hv := Lib.hid (ru_yes hr)
    have hq : inpB ⟨cs, x, rs⟩ ns = true ∧ 0 ≤ n ∧ n < (rs.length : Int) ∧ mB (rs.getD n.toNat ([], 0)).1 ns = true := by
      unfold rmB at hr
      rw [Bool.and_eq_true, Bool.and_eq_true, Bool.and_eq_true, decide_eq_true_eq, decide_eq_true_eq] at hr
      exact hr
    obtain ⟨h1, h2, h3, h4⟩ := hq
    obtain ⟨m, hm⟩ : ∃ m : Nat, n = (m : Int) := ⟨n.toNat, by omega⟩
    subst hm
    rw [Int.toNat_natCast] at h4 hv
    have HI := Lib.hid h1
    have HM := Lib.hid (And.intro (show m < rs.length by omega) h4)
    clear hr h1 h2 h3 h4
    go_wp2_with fail
    clear p0 p1 p2
    refine (implUses_any a1 a2 a3 _ ⟨cs, x, rs⟩ m A c ns w1 (HE.out.step B.out) (HT.out.step B.out) (HN.out.step B.out) HI.out HM.out.1 HM.out.2).mono ?_
    rw [← hv.out]
    rintro e w2 ⟨rfl, b2⟩
    obtain ⟨r, hr⟩ : ∃ r, ruV ⟨cs, x, rs⟩ (m : Int) ns = r := ⟨_, rfl⟩
    have HR := Lib.hid hr
    rw [hr]
    clear hr
    go_wp2
    go_ret
    exact ⟨by rw [HR.out]; rfl, B.out.trans (b2.mono B.out.size)⟩
end Go.Proofs.YtamfmemdhldmjaaGreatDoor
