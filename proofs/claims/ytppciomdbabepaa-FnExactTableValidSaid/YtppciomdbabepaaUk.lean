/-
  Tables that are valid: the program.
-/
import Derived.Test.YtppciomdbabepaaUj
namespace Go.Proofs.Ytppciomdbabepaa
open Go.RowKit Sets

set_option maxRecDepth 100000 in
set_option maxHeartbeats 1000000 in
theorem eqFit_any (A1 A2 : Option Addr) (c1 c2 : Nat) (cs : List Co) (xss : List (List Sp)) (w : World) (h1 : ColsAt w w.heap.size A1 c1 cs) (h2 : SetsAt w w.heap.size A2 c2 xss) :
    Calls Try.prog 79 #[.slice A1 cs.length c1, .slice A2 xss.length c2, .func (.func 80) #[] #[]] w fun e w' =>
      e = .returned (.bool (decide (xss.length = cs.length) && (List.range cs.length).all (tAt cs xss))) ∧ Below w.heap.size w w' := by
  have eg : ∀ args w, (callFunc 80 args).run Try.prog w = .ok (.enter 80 args) w := enters_of Try.func80 (by kernel_rfl) rfl
  obtain ⟨hlc, hc, hrow⟩ := h1
  obtain ⟨hlc2, hcc2, hrow2⟩ := h2
  by_cases hl : xss.length = cs.length
  · have hne : ((cs.length : Int) != (xss.length : Int)) = false := by simp [hl]
    have HL := Lib.hid hl
    rw [decide_eq_true hl, Bool.true_and]
    clear hl
    go_enter Try.func79, Try.ntmps79
    go_wp2
    go_loopw [17] (fun i wr => ∃ k : Nat, k ≤ cs.length ∧ i = .int .i64 k ∧ Hid (∀ j, j < k → tAt cs xss j = true) ∧ Below w.heap.size w wr) (fun i _ => cs.length - (intOf i).toNat)
    case atStart => exact ⟨0, Nat.zero_le _, rfl, Lib.hid (fun i hi => absurd hi (by omega)), Below.refl _ _⟩
    case round =>
      obtain ⟨k, hk, rfl, hall, hb⟩ := hrel
      by_cases hlt : k < cs.length
      · rcases hrow with hz | ⟨b, off, rfl, hB, hrow⟩
        · omega
        · rcases hrow2 with hz | ⟨b2, off2, rfl, hB2, hrow2⟩
          · have := HL.out; omega
          · have hkl : (k : Int) < (cs.length : Int) := by omega
            have hkl2 : (k : Int) < (xss.length : Int) := by have := HL.out; omega
            obtain ⟨u1, u2, u3⟩ := hrow k hlt
            obtain ⟨A'', c'', v1, v2⟩ := hrow2 k (by have := HL.out; omega)
            rw [Nat.mul_one] at v1
            have d1 := (hb.cell (p := ⟨b, off + k * 3, none⟩) hB).trans u1
            have d2 := (hb.cell (p := ⟨b, off + k * 3 + 1, none⟩) hB).trans u2
            have d3 := (hb.cell (p := ⟨b, off + k * 3 + 2, none⟩) hB).trans u3
            obtain ⟨ht, HT⟩ : ∃ t, Hid (tAt cs xss k = t) := ⟨_, Lib.hid rfl⟩
            obtain ⟨⟨L, a, b'⟩, hv'⟩ : ∃ v, cs.getD k (false, 0, 0) = v := ⟨_, rfl⟩
            obtain ⟨xs, hxs⟩ : ∃ xs, xss.getD k [] = xs := ⟨_, rfl⟩
            have HI := Lib.hid (show isT L a b' xs = ht by rw [← HT.out]; unfold tAt; rw [hv', hxs])
            rw [hv'] at d1 d2 d3
            simp only [] at d1 d2 d3
            have hb2 := hb.alloc hb.size (.cells #[.bool L, .int .i64 a, .int .i64 b'] 61)
            have e1 := (hb2.cell (p := ⟨b2, off2 + k, none⟩) hB2).trans v1
            have V2 := Lib.hid ((v2.below hb2).mono hb2.size)
            rw [hxs] at e1 V2
            have HB2 := Lib.hid hb2
            clear u1 u2 u3 v1 v2 hv' hxs hrow hrow2 hne hb2
            cases ht
            · go_wp2_with (go_at_fn 80; refine (implIn_any L a b' _ _ xs _ V2.out).mono ?_; rw [HI.out]; rintro e w' ⟨rfl, hb3⟩)
              go_ret
              exact ⟨by rw [all_no hlt HT.out]; rfl, HB2.out.trans (hb3.mono HB2.out.size)⟩
            · go_wp2_with (go_at_fn 80; refine (implIn_any L a b' _ _ xs _ V2.out).mono ?_; rw [HI.out]; rintro e w' ⟨rfl, hb3⟩)
              go_roundw
              case rel =>
                refine ⟨k + 1, hlt, by go_num, Lib.hid (fun i hi => ?_), HB2.out.trans (hb3.mono HB2.out.size)⟩
                by_cases e : i = k
                · rw [e]; exact HT.out
                · exact hall.out i (by omega)
              case measure => simp [intOf]; omega
      · obtain rfl : k = cs.length := by omega
        go_wp2
        go_ret
        exact ⟨by rw [all_yes hall.out]; rfl, hb⟩
  · have hne : ((cs.length : Int) != (xss.length : Int)) = true := by simp; omega
    rw [decide_eq_false hl, Bool.false_and]
    clear hl
    go_enter Try.func79, Try.ntmps79
    go_wp2
    go_ret
    exact ⟨rfl, Below.refl _ _⟩

set_option maxRecDepth 100000 in
theorem fits_any (A1 A2 : Option Addr) (c1 c2 : Nat) (cs : List Co) (xss : List (List Sp)) (w : World) (h1 : ColsAt w w.heap.size A1 c1 cs) (h2 : SetsAt w w.heap.size A2 c2 xss) :
    Calls Try.prog 48 #[.slice A2 xss.length c2, .slice A1 cs.length c1] w fun e w' =>
      e = .returned (.bool (decide (xss.length = cs.length) && (List.range cs.length).all (tAt cs xss))) ∧ Below w.heap.size w w' := by
  have H1 := Lib.hid h1
  have H2 := Lib.hid h2
  clear h1 h2
  go_enter Try.func48, Try.ntmps48
  go_wp2_with fail
  refine (eqFit_any A1 A2 c1 c2 cs xss w H1.out H2.out).mono ?_
  rintro e w' ⟨rfl, hb⟩
  go_wp2
  go_ret
  exact ⟨rfl, hb⟩
set_option maxRecDepth 100000 in
theorem isOut_any (x : Int) (w : World) : Calls Try.prog 49 #[.int .i64 x] w fun e w' => e = .returned (.bool (decide (0 ≤ x) && decide (x ≤ 99))) ∧ w = w' := by
  by_cases h0 : 0 ≤ x
  · by_cases h1 : x ≤ 99
    · rw [decide_eq_true h0, decide_eq_true h1]
      go_enter Try.func49, Try.ntmps49
      go_wp2
      go_ret
      exact ⟨rfl, rfl⟩
    · have h1' : 99 < x := by omega
      rw [decide_eq_true h0, decide_eq_false h1]
      go_enter Try.func49, Try.ntmps49
      go_wp2
      go_ret
      exact ⟨rfl, rfl⟩
  · have h0' : x < 0 := by omega
    rw [decide_eq_false h0]
    go_enter Try.func49, Try.ntmps49
    go_wp2
    go_ret
    exact ⟨rfl, rfl⟩
set_option maxRecDepth 100000 in
theorem isPol_any (x : Int) (w : World) : Calls Try.prog 45 #[.int .i64 x] w fun e w' => e = .returned (.bool (decide (1 ≤ x) && decide (x ≤ 10))) ∧ w = w' := by
  by_cases h0 : 1 ≤ x
  · by_cases h1 : x ≤ 10
    · rw [decide_eq_true h0, decide_eq_true h1]
      go_enter Try.func45, Try.ntmps45
      go_wp2
      go_ret
      exact ⟨rfl, rfl⟩
    · have h1' : 10 < x := by omega
      rw [decide_eq_true h0, decide_eq_false h1]
      go_enter Try.func45, Try.ntmps45
      go_wp2
      go_ret
      exact ⟨rfl, rfl⟩
  · have h0' : x < 1 := by omega
    rw [decide_eq_false h0]
    go_enter Try.func45, Try.ntmps45
    go_wp2
    go_ret
    exact ⟨rfl, rfl⟩
set_option maxRecDepth 100000 in
theorem rowOf_any (A : Option Addr) (n c : Nat) (x : Int) (w : World) :
    Calls Try.prog 47 #[.agg #[.slice A n c, .int .i64 x]] w fun e w' => e = .returned (.agg #[.slice A n c, .int .i64 x]) ∧ Below w.heap.size w w' := by
  go_enter Try.func47, Try.ntmps47
  go_wp2
  refine bodyPost_ret (v := .agg #[.slice A n c, .int .i64 x]) (by simp [results, Try.results47, go_sem]) rfl ⟨rfl, ?_⟩
  exact ((Below.refl _ _).alloc (Nat.le_refl _) _).alloc (by simp) _
end Go.Proofs.Ytppciomdbabepaa
