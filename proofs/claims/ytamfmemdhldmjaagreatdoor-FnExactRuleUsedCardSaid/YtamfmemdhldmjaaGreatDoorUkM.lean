/-
  Tables that are valid: the program.
-/
import Derived.Test.YtamfmemdhldmjaaGreatDoorUiM
namespace Go.Proofs.YtamfmemdhldmjaaGreatDoor
open Go.RowKit Sets

set_option maxRecDepth 100000 in
set_option maxHeartbeats 1000000 in
theorem eqFit_any (A1 A2 : Option Addr) (c1 c2 : Nat) (cs : List Co) (xss : List (List Sp)) (w : World) (h1 : ColsAt w w.heap.size A1 c1 cs) (h2 : SetsAt w w.heap.size A2 c2 xss) :
    Calls Tryz.prog 79 #[.slice A1 cs.length c1, .slice A2 xss.length c2, .func (.func 80) #[] #[]] w fun e w' =>
      e = .returned (.bool (decide (xss.length = cs.length) && (List.range cs.length).all (tAt cs xss))) ∧ Below w.heap.size w w' := by
  have eg : ∀ args w, (callFunc 80 args).run Tryz.prog w = .ok (.enter 80 args) w := enters_of Tryz.func80 (by kernel_rfl) rfl
  obtain ⟨hlc, hc, hrow⟩ := h1
  obtain ⟨hlc2, hcc2, hrow2⟩ := h2
  by_cases hl : xss.length = cs.length
  · have hne : ((cs.length : Int) != (xss.length : Int)) = false := by simp [hl]
    have HL := Lib.hid hl
    rw [decide_eq_true hl, Bool.true_and]
    clear hl
    go_enter Tryz.func79, Tryz.ntmps79
    go_wp2
    go_loopw [17] (fun i wr => ∃ k : Nat, k ≤ cs.length ∧ i = .int .i64 k ∧ Hid (∀ j, j < k → tAt cs xss j = true) ∧ Below w.heap.size w wr) (fun i _ => cs.length - (intOf i).toNat)
    case atStart => exact ⟨0, Nat.zero_le _, rfl, Lib.hid (fun i hi => absurd hi (by omega)), Below.refl _ _⟩
    case round =>
      obtain ⟨k, hk, rfl, hall, hb⟩ := hrel
      by_cases hlt : k < cs.length
      · rcases hrow with hz | ⟨b, off, rfl, hB, hrow⟩
        · omega
        · rcases hrow2 with hz | ⟨b2, off2, rfl, hB2, hrow2⟩
          · have := HL.out; omega
          · have hkl : (k : Int) < (cs.length : Int) := by omega
            have hkl2 : (k : Int) < (xss.length : Int) := by have := HL.out; omega
            obtain ⟨u1, u2, u3⟩ := hrow k hlt
            obtain ⟨A'', c'', v1, v2⟩ := hrow2 k (by have := HL.out; omega)
            rw [Nat.mul_one] at v1
            have d1 := (hb.cell (p := ⟨b, off + k * 3, none⟩) hB).trans u1
            have d2 := (hb.cell (p := ⟨b, off + k * 3 + 1, none⟩) hB).trans u2
            have d3 := (hb.cell (p := ⟨b, off + k * 3 + 2, none⟩) hB).trans u3
            obtain ⟨ht, HT⟩ : ∃ t, Hid (tAt cs xss k = t) := ⟨_, Lib.hid rfl⟩
            obtain ⟨⟨L, a, b'⟩, hv'⟩ : ∃ v, cs.getD k (false, 0, 0) = v := ⟨_, rfl⟩
            obtain ⟨xs, hxs⟩ : ∃ xs, xss.getD k [] = xs := ⟨_, rfl⟩
            have HI := Lib.hid (show isT L a b' xs = ht by rw [← HT.out]; unfold tAt; rw [hv', hxs])
            rw [hv'] at d1 d2 d3
            simp only [] at d1 d2 d3
            have hb2 := hb.alloc hb.size (.cells #[.bool L, .int .i64 a, .int .i64 b'] 65)
            have e1 := (hb2.cell (p := ⟨b2, off2 + k, none⟩) hB2).trans v1
            have V2 := Lib.hid ((v2.below hb2).mono hb2.size)
            rw [hxs] at e1 V2
            have HB2 := Lib.hid hb2
            clear u1 u2 u3 v1 v2 hv' hxs hrow hrow2 hne hb2
            cases ht
            · go_wp2_with (go_at_fn 80; refine (implIn_any L a b' _ _ xs _ V2.out).mono ?_; rw [HI.out]; rintro e w' ⟨rfl, hb3⟩)
              go_ret
              exact ⟨by rw [all_no hlt HT.out]; rfl, HB2.out.trans (hb3.mono HB2.out.size)⟩
            · go_wp2_with (go_at_fn 80; refine (implIn_any L a b' _ _ xs _ V2.out).mono ?_; rw [HI.out]; rintro e w' ⟨rfl, hb3⟩)
              go_roundw
              case rel =>
                refine ⟨k + 1, hlt, by go_num, Lib.hid (fun i hi => ?_), HB2.out.trans (hb3.mono HB2.out.size)⟩
                by_cases e : i = k
                · rw [e]; exact HT.out
                · exact hall.out i (by omega)
              case measure => simp [intOf]; omega
      · obtain rfl : k = cs.length := by omega
        go_wp2
        go_ret
        exact ⟨by rw [all_yes hall.out]; rfl, hb⟩
  · have hne : ((cs.length : Int) != (xss.length : Int)) = true := by simp; omega
    rw [decide_eq_false hl, Bool.false_and]
    clear hl
    go_enter Tryz.func79, Tryz.ntmps79
    go_wp2
    go_ret
    exact ⟨rfl, Below.refl _ _⟩

set_option maxRecDepth 100000 in
theorem fits_any (A1 A2 : Option Addr) (c1 c2 : Nat) (cs : List Co) (xss : List (List Sp)) (w : World) (h1 : ColsAt w w.heap.size A1 c1 cs) (h2 : SetsAt w w.heap.size A2 c2 xss) :
    Calls Tryz.prog 65 #[.slice A2 xss.length c2, .slice A1 cs.length c1] w fun e w' =>
      e = .returned (.bool (decide (xss.length = cs.length) && (List.range cs.length).all (tAt cs xss))) ∧ Below w.heap.size w w' := by
  have H1 := Lib.hid h1
  have H2 := Lib.hid h2
  clear h1 h2
  go_enter Tryz.func65, Tryz.ntmps65
  go_wp2_with fail
  refine (eqFit_any A1 A2 c1 c2 cs xss w H1.out H2.out).mono ?_
  rintro e w' ⟨rfl, hb⟩
  go_wp2
  go_ret
  exact ⟨rfl, hb⟩
set_option maxRecDepth 100000 in
theorem isOut_any (x : Int) (w : World) : Calls Tryz.prog 66 #[.int .i64 x] w fun e w' => e = .returned (.bool (decide (0 ≤ x) && decide (x ≤ 99))) ∧ w = w' := by
  by_cases h0 : 0 ≤ x
  · by_cases h1 : x ≤ 99
    · rw [decide_eq_true h0, decide_eq_true h1]
      go_enter Tryz.func66, Tryz.ntmps66
      go_wp2
      go_ret
      exact ⟨rfl, rfl⟩
    · have h1' : 99 < x := by omega
      rw [decide_eq_true h0, decide_eq_false h1]
      go_enter Tryz.func66, Tryz.ntmps66
      go_wp2
      go_ret
      exact ⟨rfl, rfl⟩
  · have h0' : x < 0 := by omega
    rw [decide_eq_false h0]
    go_enter Tryz.func66, Tryz.ntmps66
    go_wp2
    go_ret
    exact ⟨rfl, rfl⟩
set_option maxRecDepth 100000 in
theorem isPol_any (x : Int) (w : World) : Calls Tryz.prog 63 #[.int .i64 x] w fun e w' => e = .returned (.bool (decide (1 ≤ x) && decide (x ≤ 10))) ∧ w = w' := by
  by_cases h0 : 1 ≤ x
  · by_cases h1 : x ≤ 10
    · rw [decide_eq_true h0, decide_eq_true h1]
      go_enter Tryz.func63, Tryz.ntmps63
      go_wp2
      go_ret
      exact ⟨rfl, rfl⟩
    · have h1' : 10 < x := by omega
      rw [decide_eq_true h0, decide_eq_false h1]
      go_enter Tryz.func63, Tryz.ntmps63
      go_wp2
      go_ret
      exact ⟨rfl, rfl⟩
  · have h0' : x < 1 := by omega
    rw [decide_eq_false h0]
    go_enter Tryz.func63, Tryz.ntmps63
    go_wp2
    go_ret
    exact ⟨rfl, rfl⟩
set_option maxRecDepth 100000 in
theorem rowOf_any (A : Option Addr) (n c : Nat) (x : Int) (w : World) :
    Calls Tryz.prog 53 #[.agg #[.slice A n c, .int .i64 x]] w fun e w' => e = .returned (.agg #[.slice A n c, .int .i64 x]) ∧ Below w.heap.size w w' := by
  go_enter Tryz.func53, Tryz.ntmps53
  go_wp2
  refine bodyPost_ret (v := .agg #[.slice A n c, .int .i64 x]) (by simp [results, Tryz.results53, go_sem]) rfl ⟨rfl, ?_⟩
  exact ((Below.refl _ _).alloc (Nat.le_refl _) _).alloc (by simp) _
end Go.Proofs.YtamfmemdhldmjaaGreatDoor

namespace Go.Proofs.YtamfmemdhldmjaaGreatDoor
open Go.RowKit Sets

set_option maxRecDepth 100000 in
set_option maxHeartbeats 2000000 in
theorem implTabV_any (v : Value) (t : Tb) (w : World) (h : TabAt w w.heap.size v t) :
    Calls Tryz.prog 43 #[v] w fun e w' => e = .returned (.bool (tabB t)) ∧ Below w.heap.size w w' := by
  obtain ⟨A1, c1, A2, c2, rfl, hC, hR⟩ := h
  obtain ⟨cs, x, rs⟩ := t
  simp only [] at hC hR ⊢
  have hb0 : Below w.heap.size w (w.alloc (.cells #[.slice A1 cs.length c1, .int .i64 x, .slice A2 rs.length c2] 34)) := (Below.refl _ _).alloc (Nat.le_refl _) _
  have p0 : (w.alloc (.cells #[.slice A1 cs.length c1, .int .i64 x, .slice A2 rs.length c2] 34)).cell? ⟨w.heap.size, 0, none⟩ = some (.slice A1 cs.length c1) := by rw [World.cell?_alloc_new]; rfl
  have p1 : (w.alloc (.cells #[.slice A1 cs.length c1, .int .i64 x, .slice A2 rs.length c2] 34)).cell? ⟨w.heap.size, 1, none⟩ = some (.int .i64 x) := by rw [World.cell?_alloc_new]; rfl
  have p2 : (w.alloc (.cells #[.slice A1 cs.length c1, .int .i64 x, .slice A2 rs.length c2] 34)).cell? ⟨w.heap.size, 2, none⟩ = some (.slice A2 rs.length c2) := by rw [World.cell?_alloc_new]; rfl
  have hz0 : (w.alloc (.cells #[.slice A1 cs.length c1, .int .i64 x, .slice A2 rs.length c2] 34)).heap.size = w.heap.size + 1 := by simp
  have HC := Lib.hid hC
  have HR := Lib.hid hR
  obtain ⟨hlc, hc, hrow⟩ := hC
  obtain ⟨hlc2, hcc2, hrow2⟩ := hR
  by_cases a1 : cs.length = 0
  · have hv := Lib.hid (tab_no (t := ⟨cs, x, rs⟩) (by simp only; omega))
    have q1 : (cs.length : Int) < 1 := by omega
    clear a1
    go_enter Tryz.func43, Tryz.ntmps43
    go_wp2
    go_ret
    exact ⟨by rw [hv.out]; rfl, hb0⟩
  have q1 : (1 : Int) ≤ (cs.length : Int) := by omega
  by_cases a2 : 4 < cs.length
  · have hv := Lib.hid (tab_no (t := ⟨cs, x, rs⟩) (by simp only; omega))
    have q2 : (4 : Int) < (cs.length : Int) := by omega
    clear a1
    go_enter Tryz.func43, Tryz.ntmps43
    go_wp2
    go_ret
    exact ⟨by rw [hv.out]; rfl, hb0⟩
  have q2 : (cs.length : Int) ≤ 4 := by omega
  by_cases a3 : 12 < rs.length
  · have hv := Lib.hid (tab_no (t := ⟨cs, x, rs⟩) (by simp only; omega))
    have q3 : (12 : Int) < (rs.length : Int) := by omega
    clear a1
    go_enter Tryz.func43, Tryz.ntmps43
    go_wp2
    go_ret
    exact ⟨by rw [hv.out]; rfl, hb0⟩
  have q3 : (rs.length : Int) ≤ 12 := by omega
  by_cases a4 : x < 1 ∨ 10 < x
  · have hv := Lib.hid (tab_no (t := ⟨cs, x, rs⟩) (by simp only; omega))
    have HPB := Lib.hid (show (decide (1 ≤ x) && decide (x ≤ 10)) = false by
      rcases a4 with a | a
      · rw [decide_eq_false (show ¬ 1 ≤ x by omega)]; rfl
      · rw [decide_eq_false (show ¬ x ≤ 10 by omega)]; simp)
    clear a1 a4
    go_enter Tryz.func43, Tryz.ntmps43
    go_wp2_with (go_at_call 63; refine (isPol_any x _).mono ?_; rw [HPB.out]; rintro e w' ⟨rfl, rfl⟩)
    go_ret
    exact ⟨by rw [hv.out]; rfl, hb0⟩
  have HPB := Lib.hid (show (decide (1 ≤ x) && decide (x ≤ 10)) = true by rw [decide_eq_true (show 1 ≤ x by omega), decide_eq_true (show x ≤ 10 by omega)]; rfl)
  have hv := Lib.hid (show tabB ⟨cs, x, rs⟩ = ((List.range cs.length).all (cAt cs) && (List.range rs.length).all (rAt cs rs)) by unfold tabB; rw [decide_eq_true (by simp only; omega)]; rfl)
  clear a1 a2 a3 a4
  go_enter Tryz.func43, Tryz.ntmps43
  go_wp2_with (go_at_call 63; refine (isPol_any x _).mono ?_; rw [HPB.out]; rintro e w' ⟨rfl, rfl⟩)
  clear HPB
  generalize w.alloc (.cells #[.slice A1 cs.length c1, .int .i64 x, .slice A2 rs.length c2] 34) = W at hb0 p0 p1 p2 hz0 ⊢
  clear q1 q2 q3 p1
  go_loopw [31] (fun i wr => ∃ k : Nat, k ≤ cs.length ∧ i = .int .i64 k ∧ Hid (∀ j, j < k → cAt cs j = true) ∧ Below W.heap.size W wr) (fun i _ => cs.length - (intOf i).toNat)
  case atStart => exact ⟨0, Nat.zero_le _, rfl, Lib.hid (fun i hi => absurd hi (by omega)), Below.refl _ _⟩
  case round =>
    obtain ⟨k, hk, rfl, hall, hb⟩ := hrel
    have hbw := hb0.trans (hb.mono hb0.size)
    have d0 := (hb.cell (p := ⟨w.heap.size, 0, none⟩) (by simp only; omega)).trans p0
    by_cases hlt : k < cs.length
    · rcases hrow with hz | ⟨b, off, rfl, hB, hrow⟩
      · omega
      · have hkl : (k : Int) < (cs.length : Int) := by omega
        obtain ⟨u1, u2, u3⟩ := hrow k hlt
        have d1 := (hbw.cell (p := ⟨b, off + k * 3, none⟩) hB).trans u1
        have d2 := (hbw.cell (p := ⟨b, off + k * 3 + 1, none⟩) hB).trans u2
        have d3 := (hbw.cell (p := ⟨b, off + k * 3 + 2, none⟩) hB).trans u3
        obtain ⟨ht, HT⟩ : ∃ t, Hid (cAt cs k = t) := ⟨_, Lib.hid rfl⟩
        obtain ⟨⟨L, a, b'⟩, hv'⟩ : ∃ v, cs.getD k (false, 0, 0) = v := ⟨_, rfl⟩
        have HI := Lib.hid (show colB L a b' = ht by rw [← HT.out]; unfold cAt; rw [hv'])
        rw [hv'] at d1 d2 d3
        simp only [] at d1 d2 d3
        clear u1 u2 u3 hv' hrow hrow2
        have hbA := hb.alloc hb.size (.cells #[.bool L, .int .i64 a, .int .i64 b'] 65)
        have HBA := Lib.hid hbA
        have HBWA := Lib.hid (hb0.trans (hbA.mono hb0.size))
        clear hbA
        cases ht
        · go_wp2_with (go_at_call 64; refine (implCol_any L a b' _).mono ?_; rw [HI.out]; rintro e w' ⟨rfl, hb3⟩)
          go_ret
          exact ⟨by rw [hv.out, all_no hlt HT.out]; rfl, HBWA.out.trans (hb3.mono HBWA.out.size)⟩
        · go_wp2_with (go_at_call 64; refine (implCol_any L a b' _).mono ?_; rw [HI.out]; rintro e w' ⟨rfl, hb3⟩)
          go_roundw
          case rel =>
            refine ⟨k + 1, hlt, by go_num, Lib.hid (fun i hi => ?_), HBA.out.trans (hb3.mono HBA.out.size)⟩
            by_cases e : i = k
            · rw [e]; exact HT.out
            · exact hall.out i (by omega)
          case measure => simp [intOf]; omega
    · obtain rfl : k = cs.length := by omega
      have hv2 := Lib.hid (show tabB ⟨cs, x, rs⟩ = (List.range rs.length).all (rAt cs rs) by rw [hv.out, all_yes hall.out]; rfl)
      clear hv hrow hlt hk
      have HB := Lib.hid hb
      have HBW := Lib.hid hbw
      have d9 := (hb.cell (p := ⟨w.heap.size, 2, none⟩) (by simp only; omega)).trans p2
      clear hb hbw hall
      go_wp2
      clear d0 d9
      go_loopw [42] (fun i wr => ∃ k : Nat, k ≤ rs.length ∧ i = .int .i64 k ∧ Hid (∀ j, j < k → rAt cs rs j = true) ∧ Below W.heap.size W wr) (fun i _ => rs.length - (intOf i).toNat)
      case atStart => exact ⟨0, Nat.zero_le _, rfl, Lib.hid (fun i hi => absurd hi (by omega)), HB.out⟩
      case round =>
        clear HB HBW
        obtain ⟨k, hk, rfl, hall, hb⟩ := hrel
        have hbw := hb0.trans (hb.mono hb0.size)
        have d0 := (hb.cell (p := ⟨w.heap.size, 0, none⟩) (by simp only; omega)).trans p0
        have d9 := (hb.cell (p := ⟨w.heap.size, 2, none⟩) (by simp only; omega)).trans p2
        by_cases hlt : k < rs.length
        · rcases hrow2 with hz | ⟨b, off, rfl, hB, hrow2⟩
          · omega
          · have hkl : (k : Int) < (rs.length : Int) := by omega
            obtain ⟨⟨A', c', v1, v2⟩, v3⟩ := hrow2 k hlt
            have d1 := (hbw.cell (p := ⟨b, off + k * 2, none⟩) hB).trans v1
            have d2 := (hbw.cell (p := ⟨b, off + k * 2 + 1, none⟩) hB).trans v3
            obtain ⟨ht, HT⟩ : ∃ t, Hid (rAt cs rs k = t) := ⟨_, Lib.hid rfl⟩
            obtain ⟨xss, y, hxs⟩ : ∃ xss y, rs.getD k ([], 0) = (xss, y) := ⟨_, _, rfl⟩
            have HI := Lib.hid (show ruleB cs xss y = ht by rw [← HT.out]; unfold rAt; rw [hxs])
            rw [hxs] at d1 d2 v2
            simp only [] at d1 d2 v2
            have hbA := hb.alloc hb.size (.cells #[.slice A' xss.length c', .int .i64 y] 70)
            have HBA := Lib.hid hbA
            have V9 := Lib.hid v2
            have HALL := Lib.hid hall
            clear hall v1 v2 v3 hxs hrow2 hbw hb hbA d0 d9
            go_wp2_with fail
            refine (rowOf_any _ _ _ _ _).mono ?_
            rintro e w1 ⟨rfl, hb3⟩
            have hb4 := (HBA.out.trans (hb3.mono HBA.out.size)).alloc ((HBA.out.trans (hb3.mono HBA.out.size))).size (.cells #[.slice A' xss.length c', .int .i64 y] 82)
            have HB4 := Lib.hid hb4
            have d0 := (hb4.cell (p := ⟨w.heap.size, 0, none⟩) (by simp only; omega)).trans p0
            have r0 : (w1.alloc (.cells #[.slice A' xss.length c', .int .i64 y] 82)).cell? ⟨w1.heap.size, 0, none⟩ = some (.slice A' xss.length c') := by rw [World.cell?_alloc_new]; rfl
            have r1 : (w1.alloc (.cells #[.slice A' xss.length c', .int .i64 y] 82)).cell? ⟨w1.heap.size, 1, none⟩ = some (.int .i64 y) := by rw [World.cell?_alloc_new]; rfl
            have hbw := hb0.trans (hb4.mono hb0.size)
            have V2 := Lib.hid ((V9.out.below hbw).mono hbw.size)
            have C2 := Lib.hid ((HC.out.below hbw).mono hbw.size)
            have hz4 : (w1.alloc (.cells #[.slice A' xss.length c', .int .i64 y] 82)).heap.size = w1.heap.size + 1 := by simp
            have HZ4 := Lib.hid hz4
            have HB3 := Lib.hid hb3
            clear hb4 hbw hz4 hb3
            go_wp2_with fail
            refine (fits_any _ _ _ _ cs xss _ C2.out V2.out).mono ?_
            rintro e w4 ⟨rfl, hb5⟩
            have r2 := (hb5.cell (p := ⟨w1.heap.size, 1, none⟩) (by rw [HZ4.out]; simp only; omega)).trans r1
            have HB5 := Lib.hid (HB4.out.trans (hb5.mono HB4.out.size))
            have HRB := Lib.hid (show ruleB cs xss y = ((decide (xss.length = cs.length) && (List.range cs.length).all (tAt cs xss)) && (decide (0 ≤ y) && decide (y ≤ 99))) by unfold ruleB; cases decide (xss.length = cs.length) <;> cases decide (0 ≤ y) <;> cases decide (y ≤ 99) <;> cases (List.range cs.length).all (tAt cs xss) <;> rfl)
            obtain ⟨fb, hfb⟩ : ∃ fb, (decide (xss.length = cs.length) && (List.range cs.length).all (tAt cs xss)) = fb := ⟨_, rfl⟩
            obtain ⟨ob, hob⟩ : ∃ ob, (decide (0 ≤ y) && decide (y ≤ 99)) = ob := ⟨_, rfl⟩
            rw [hfb, hob] at HRB
            rw [hfb]
            have HOB := Lib.hid hob
            clear hfb hob d0 r0 r1 hb5
            cases fb
            · have HF := Lib.hid (show rAt cs rs k = false by rw [HT.out, ← HI.out, HRB.out]; rfl)
              go_wp2
              try trivial
              go_ret
              exact ⟨by rw [hv2.out, all_no hlt HF.out]; rfl, hb0.trans (HB5.out.mono hb0.size)⟩
            · cases ob
              · have HF := Lib.hid (show rAt cs rs k = false by rw [HT.out, ← HI.out, HRB.out]; rfl)
                go_wp2_with (go_at_call 66; refine (isOut_any y _).mono ?_; rw [HOB.out]; rintro e w' ⟨rfl, rfl⟩)
                go_ret
                exact ⟨by rw [hv2.out, all_no hlt HF.out]; rfl, hb0.trans (HB5.out.mono hb0.size)⟩
              · have HF := Lib.hid (show rAt cs rs k = true by rw [HT.out, ← HI.out, HRB.out]; rfl)
                go_wp2_with (go_at_call 66; refine (isOut_any y _).mono ?_; rw [HOB.out]; rintro e w' ⟨rfl, rfl⟩)
                go_roundw
                case rel =>
                  refine ⟨k + 1, hlt, by go_num, Lib.hid (fun i hi => ?_), HB5.out⟩
                  by_cases e : i = k
                  · rw [e]; exact HF.out
                  · exact HALL.out i (by omega)
                case measure => simp [intOf]; omega
        · obtain rfl : k = rs.length := by omega
          go_wp2
          go_ret
          exact ⟨by rw [hv2.out, all_yes hall.out]; rfl, hbw⟩
end Go.Proofs.YtamfmemdhldmjaaGreatDoor
