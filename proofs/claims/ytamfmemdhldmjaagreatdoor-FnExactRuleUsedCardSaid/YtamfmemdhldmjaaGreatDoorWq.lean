/-
  DecideOuts: the program.
-/
import Derived.Test.YtamfmemdhldmjaaGreatDoorWp
namespace Go.Proofs.YtamfmemdhldmjaaGreatDoor
open Go.RowKit Go.Stop Sets

set_option maxRecDepth 100000 in
theorem way1_any (w : World) : Calls Tryz.prog 81 #[.int .i64 1] w fun e w' => e = .returned (.tuple #[.iface 122 (.func (.func 90) #[] #[]), .nilIface]) ∧ w = w' := by
  go_enter Tryz.func81, Tryz.ntmps81
  go_wp2
  try trivial
  go_ret2
  exact ⟨rfl, rfl⟩

set_option maxRecDepth 100000 in
set_option maxHeartbeats 4000000 in
theorem decBy1_any (a1 a2 a3 : Addr) (A : Option Addr) (c : Nat) (ns : List Int) (w : World) (h : EndsIs w a1 a2 a3) (hI : IntsAt w w.heap.size A c ns) :
    Calls Tryz.prog 69 #[.int .i64 1, .slice A ns.length c] w (DecN (doV 1 ns) a1 a2 a3 w) := by
  have mD : ∀ (n : Nat) (v : Value) (w : World), (Go.method (n + 1) 122 v "loop.example/decisiontables/impl.decide").run Tryz.prog w = .ok (129, v) w := fun n v w => by kernel_rfl
  have hnn := fun (w : World) => run_neq_nil_nil_at (P := Tryz.prog) w 97 (by kernel_rfl)
  have c1 := h.cell1 w (Below.refl _ _)
  have c3 := h.cell3 w (Below.refl _ _)
  have H := Lib.hid h
  have HI := Lib.hid hI
  obtain ⟨_, _, _, hrow⟩ := hI
  clear h
  by_cases h12 : 12 < ns.length
  · have h12' : (12 : Int) < (ns.length : Int) := by omega
    have HV := Lib.hid (do_bad (p := 1) h12)
    clear h12
    go_enter Tryz.func69, Tryz.ntmps69
    go_wp2_with (go_at_call 81; refine (way1_any _).mono ?_; rintro e w' ⟨rfl, rfl⟩)
    go_quiet (fail)
    go_wp2
    go_ret2
    exact decN_no HV.out (.inr ⟨_, .inr (.inr ⟨rfl, rfl⟩)⟩) (below_drewN (Below.refl _ _) _)
  · have h12' : decide ((12 : Int) < (ns.length : Int)) = false := decide_eq_false (by omega)
    have H12 := Lib.hid (show ns.length ≤ 12 by omega)
    clear h12
    go_enter Tryz.func69, Tryz.ntmps69
    go_wp2_with (go_at_call 81; refine (way1_any _).mono ?_; rintro e w' ⟨rfl, rfl⟩)
    go_loop [26] (fun i => ∃ k : Nat, k ≤ ns.length ∧ i = .int .i64 k ∧ Hid (∀ j, j < k → okO ns j = true)) (fun i => ns.length - (intOf i).toNat)
    case atStart => exact ⟨0, Nat.zero_le _, rfl, Lib.hid fun j hj => absurd hj (by omega)⟩
    case round =>
      obtain ⟨k, hk, rfl, hall⟩ := hrel
      by_cases hlt : k < ns.length
      · rcases hrow with hz | ⟨b, off, rfl, hB, hrow⟩
        · omega
        · have hkl : (k : Int) < (ns.length : Int) := by omega
          have u1 := hrow k hlt
          rw [Nat.mul_one] at u1
          obtain ⟨x, hx⟩ : ∃ x, ns.getD k 0 = x := ⟨_, rfl⟩
          rw [hx] at u1
          obtain ⟨t, ht⟩ : ∃ t, okO ns k = t := ⟨_, rfl⟩
          have HT := Lib.hid ht
          have HX := Lib.hid (show (decide (0 ≤ x) && decide (x ≤ 99)) = t by rw [← ht]; unfold okO; rw [hx])
          clear hx hrow ht
          cases t
          · have HV := Lib.hid (do_no (p := 1) hlt HT.out)
            go_wp2_with (go_at_call 66; refine (outOk_any x _).mono ?_; rw [HX.out]; rintro e w' ⟨rfl, rfl⟩)
            go_quiet (fail)
            go_wp2
            go_ret2
            exact decN_no HV.out (.inr ⟨_, .inr (.inr ⟨rfl, rfl⟩)⟩) (below_drewN (Below.refl _ _) _)
          · go_wp2_with (go_at_call 66; refine (outOk_any x _).mono ?_; rw [HX.out]; rintro e w' ⟨rfl, rfl⟩)
            go_round
            case rel =>
              refine ⟨k + 1, hlt, by go_num, Lib.hid fun j hj => ?_⟩
              by_cases e : j = k
              · rw [e]; exact HT.out
              · exact hall.out j (by omega)
            case measure => simp [intOf]; omega
      · obtain rfl : k = ns.length := by omega
        have HD := Lib.hid (do_yes (p := 1) (by omega) (by omega) H12.out hall.out)
        clear hall hrow

        by_cases hz : ns.length = 0
        · have hz0 : ((ns.length : Int) == 0) = true := beq_iff_eq.2 (by omega)
          have HV := Lib.hid (show doV 1 ns = (1, []) by rw [HD.out.2]; unfold dcV; rw [if_pos hz, if_neg (by omega)])
          go_wp2
          go_quiet (fail)
          go_wp2
          go_ret2
          exact decN_no HV.out (.inr ⟨_, .inl ⟨rfl, rfl⟩⟩) (below_drewN (Below.refl _ _) _)
        · have hz0 : ((ns.length : Int) == 0) = false := beq_eq_false_iff_ne.2 (by omega)
          have HPO := Lib.hid (show 0 < ns.length by omega)
          go_wp2_with (go_at_call 129; refine (dec1_any a1 a2 a3 _ _ ns _ H.out HI.out HD.out.1 HPO.out).mono ?_; rintro e w1 ⟨A2, c2, v, rfl, hO, hE, b1⟩)
          go_ret2
          rw [HD.out.2]
          exact ⟨A2, c2, v, rfl, hO, hE, b1⟩

set_option maxRecDepth 100000 in
theorem way2_any (w : World) : Calls Tryz.prog 81 #[.int .i64 2] w fun e w' => e = .returned (.tuple #[.iface 122 (.func (.func 91) #[] #[]), .nilIface]) ∧ w = w' := by
  go_enter Tryz.func81, Tryz.ntmps81
  go_wp2
  try trivial
  go_ret2
  exact ⟨rfl, rfl⟩

set_option maxRecDepth 100000 in
set_option maxHeartbeats 4000000 in
theorem decBy2_any (a1 a2 a3 : Addr) (A : Option Addr) (c : Nat) (ns : List Int) (w : World) (h : EndsIs w a1 a2 a3) (hI : IntsAt w w.heap.size A c ns) :
    Calls Tryz.prog 69 #[.int .i64 2, .slice A ns.length c] w (DecN (doV 2 ns) a1 a2 a3 w) := by
  have mD : ∀ (n : Nat) (v : Value) (w : World), (Go.method (n + 1) 122 v "loop.example/decisiontables/impl.decide").run Tryz.prog w = .ok (129, v) w := fun n v w => by kernel_rfl
  have hnn := fun (w : World) => run_neq_nil_nil_at (P := Tryz.prog) w 97 (by kernel_rfl)
  have c1 := h.cell1 w (Below.refl _ _)
  have c3 := h.cell3 w (Below.refl _ _)
  have H := Lib.hid h
  have HI := Lib.hid hI
  obtain ⟨_, _, _, hrow⟩ := hI
  clear h
  by_cases h12 : 12 < ns.length
  · have h12' : (12 : Int) < (ns.length : Int) := by omega
    have HV := Lib.hid (do_bad (p := 2) h12)
    clear h12
    go_enter Tryz.func69, Tryz.ntmps69
    go_wp2_with (go_at_call 81; refine (way2_any _).mono ?_; rintro e w' ⟨rfl, rfl⟩)
    go_quiet (fail)
    go_wp2
    go_ret2
    exact decN_no HV.out (.inr ⟨_, .inr (.inr ⟨rfl, rfl⟩)⟩) (below_drewN (Below.refl _ _) _)
  · have h12' : decide ((12 : Int) < (ns.length : Int)) = false := decide_eq_false (by omega)
    have H12 := Lib.hid (show ns.length ≤ 12 by omega)
    clear h12
    go_enter Tryz.func69, Tryz.ntmps69
    go_wp2_with (go_at_call 81; refine (way2_any _).mono ?_; rintro e w' ⟨rfl, rfl⟩)
    go_loop [26] (fun i => ∃ k : Nat, k ≤ ns.length ∧ i = .int .i64 k ∧ Hid (∀ j, j < k → okO ns j = true)) (fun i => ns.length - (intOf i).toNat)
    case atStart => exact ⟨0, Nat.zero_le _, rfl, Lib.hid fun j hj => absurd hj (by omega)⟩
    case round =>
      obtain ⟨k, hk, rfl, hall⟩ := hrel
      by_cases hlt : k < ns.length
      · rcases hrow with hz | ⟨b, off, rfl, hB, hrow⟩
        · omega
        · have hkl : (k : Int) < (ns.length : Int) := by omega
          have u1 := hrow k hlt
          rw [Nat.mul_one] at u1
          obtain ⟨x, hx⟩ : ∃ x, ns.getD k 0 = x := ⟨_, rfl⟩
          rw [hx] at u1
          obtain ⟨t, ht⟩ : ∃ t, okO ns k = t := ⟨_, rfl⟩
          have HT := Lib.hid ht
          have HX := Lib.hid (show (decide (0 ≤ x) && decide (x ≤ 99)) = t by rw [← ht]; unfold okO; rw [hx])
          clear hx hrow ht
          cases t
          · have HV := Lib.hid (do_no (p := 2) hlt HT.out)
            go_wp2_with (go_at_call 66; refine (outOk_any x _).mono ?_; rw [HX.out]; rintro e w' ⟨rfl, rfl⟩)
            go_quiet (fail)
            go_wp2
            go_ret2
            exact decN_no HV.out (.inr ⟨_, .inr (.inr ⟨rfl, rfl⟩)⟩) (below_drewN (Below.refl _ _) _)
          · go_wp2_with (go_at_call 66; refine (outOk_any x _).mono ?_; rw [HX.out]; rintro e w' ⟨rfl, rfl⟩)
            go_round
            case rel =>
              refine ⟨k + 1, hlt, by go_num, Lib.hid fun j hj => ?_⟩
              by_cases e : j = k
              · rw [e]; exact HT.out
              · exact hall.out j (by omega)
            case measure => simp [intOf]; omega
      · obtain rfl : k = ns.length := by omega
        have HD := Lib.hid (do_yes (p := 2) (by omega) (by omega) H12.out hall.out)
        clear hall hrow

        by_cases hz : ns.length = 0
        · have hz0 : ((ns.length : Int) == 0) = true := beq_iff_eq.2 (by omega)
          have HV := Lib.hid (show doV 2 ns = (1, []) by rw [HD.out.2]; unfold dcV; rw [if_pos hz, if_neg (by omega)])
          go_wp2
          go_quiet (fail)
          go_wp2
          go_ret2
          exact decN_no HV.out (.inr ⟨_, .inl ⟨rfl, rfl⟩⟩) (below_drewN (Below.refl _ _) _)
        · have hz0 : ((ns.length : Int) == 0) = false := beq_eq_false_iff_ne.2 (by omega)
          have HPO := Lib.hid (show 0 < ns.length by omega)
          go_wp2_with (go_at_call 129; refine (decTwo_any a1 a2 a3 _ _ ns _ H.out HI.out HD.out.1 HPO.out).mono ?_; rintro e w1 ⟨A2, c2, v, rfl, hO, hE, b1⟩)
          go_ret2
          rw [HD.out.2]
          exact ⟨A2, c2, v, rfl, hO, hE, b1⟩

set_option maxRecDepth 100000 in
theorem way3_any (w : World) : Calls Tryz.prog 81 #[.int .i64 3] w fun e w' => e = .returned (.tuple #[.iface 124 (.func (.func 93) #[] #[]), .nilIface]) ∧ w = w' := by
  go_enter Tryz.func81, Tryz.ntmps81
  go_wp2
  try trivial
  go_ret2
  exact ⟨rfl, rfl⟩

set_option maxRecDepth 100000 in
set_option maxHeartbeats 4000000 in
theorem decBy3_any (a1 a2 a3 : Addr) (A : Option Addr) (c : Nat) (ns : List Int) (w : World) (h : EndsIs w a1 a2 a3) (hI : IntsAt w w.heap.size A c ns) :
    Calls Tryz.prog 69 #[.int .i64 3, .slice A ns.length c] w (DecN (doV 3 ns) a1 a2 a3 w) := by
  have mD : ∀ (n : Nat) (v : Value) (w : World), (Go.method (n + 1) 124 v "loop.example/decisiontables/impl.decide").run Tryz.prog w = .ok (130, v) w := fun n v w => by kernel_rfl
  have hnn := fun (w : World) => run_neq_nil_nil_at (P := Tryz.prog) w 97 (by kernel_rfl)
  have c1 := h.cell1 w (Below.refl _ _)
  have c3 := h.cell3 w (Below.refl _ _)
  have H := Lib.hid h
  have HI := Lib.hid hI
  obtain ⟨_, _, _, hrow⟩ := hI
  clear h
  by_cases h12 : 12 < ns.length
  · have h12' : (12 : Int) < (ns.length : Int) := by omega
    have HV := Lib.hid (do_bad (p := 3) h12)
    clear h12
    go_enter Tryz.func69, Tryz.ntmps69
    go_wp2_with (go_at_call 81; refine (way3_any _).mono ?_; rintro e w' ⟨rfl, rfl⟩)
    go_quiet (fail)
    go_wp2
    go_ret2
    exact decN_no HV.out (.inr ⟨_, .inr (.inr ⟨rfl, rfl⟩)⟩) (below_drewN (Below.refl _ _) _)
  · have h12' : decide ((12 : Int) < (ns.length : Int)) = false := decide_eq_false (by omega)
    have H12 := Lib.hid (show ns.length ≤ 12 by omega)
    clear h12
    go_enter Tryz.func69, Tryz.ntmps69
    go_wp2_with (go_at_call 81; refine (way3_any _).mono ?_; rintro e w' ⟨rfl, rfl⟩)
    go_loop [26] (fun i => ∃ k : Nat, k ≤ ns.length ∧ i = .int .i64 k ∧ Hid (∀ j, j < k → okO ns j = true)) (fun i => ns.length - (intOf i).toNat)
    case atStart => exact ⟨0, Nat.zero_le _, rfl, Lib.hid fun j hj => absurd hj (by omega)⟩
    case round =>
      obtain ⟨k, hk, rfl, hall⟩ := hrel
      by_cases hlt : k < ns.length
      · rcases hrow with hz | ⟨b, off, rfl, hB, hrow⟩
        · omega
        · have hkl : (k : Int) < (ns.length : Int) := by omega
          have u1 := hrow k hlt
          rw [Nat.mul_one] at u1
          obtain ⟨x, hx⟩ : ∃ x, ns.getD k 0 = x := ⟨_, rfl⟩
          rw [hx] at u1
          obtain ⟨t, ht⟩ : ∃ t, okO ns k = t := ⟨_, rfl⟩
          have HT := Lib.hid ht
          have HX := Lib.hid (show (decide (0 ≤ x) && decide (x ≤ 99)) = t by rw [← ht]; unfold okO; rw [hx])
          clear hx hrow ht
          cases t
          · have HV := Lib.hid (do_no (p := 3) hlt HT.out)
            go_wp2_with (go_at_call 66; refine (outOk_any x _).mono ?_; rw [HX.out]; rintro e w' ⟨rfl, rfl⟩)
            go_quiet (fail)
            go_wp2
            go_ret2
            exact decN_no HV.out (.inr ⟨_, .inr (.inr ⟨rfl, rfl⟩)⟩) (below_drewN (Below.refl _ _) _)
          · go_wp2_with (go_at_call 66; refine (outOk_any x _).mono ?_; rw [HX.out]; rintro e w' ⟨rfl, rfl⟩)
            go_round
            case rel =>
              refine ⟨k + 1, hlt, by go_num, Lib.hid fun j hj => ?_⟩
              by_cases e : j = k
              · rw [e]; exact HT.out
              · exact hall.out j (by omega)
            case measure => simp [intOf]; omega
      · obtain rfl : k = ns.length := by omega
        have HD := Lib.hid (do_yes (p := 3) (by omega) (by omega) H12.out hall.out)
        clear hall hrow

        by_cases hz : ns.length = 0
        · have hz0 : ((ns.length : Int) == 0) = true := beq_iff_eq.2 (by omega)
          have HV := Lib.hid (show doV 3 ns = (1, []) by rw [HD.out.2]; unfold dcV; rw [if_pos hz, if_neg (by omega)])
          go_wp2
          go_quiet (fail)
          go_wp2
          go_ret2
          exact decN_no HV.out (.inr ⟨_, .inl ⟨rfl, rfl⟩⟩) (below_drewN (Below.refl _ _) _)
        · have hz0 : ((ns.length : Int) == 0) = false := beq_eq_false_iff_ne.2 (by omega)
          have HPO := Lib.hid (show 0 < ns.length by omega)
          go_wp2_with (go_at_call 130; refine (dec3_any a1 a2 a3 _ _ ns _ H.out HI.out HD.out.1 HPO.out).mono ?_; rintro e w1 ⟨A2, c2, v, rfl, hO, hE, b1⟩)
          go_ret2
          rw [HD.out.2]
          exact ⟨A2, c2, v, rfl, hO, hE, b1⟩
end Go.Proofs.YtamfmemdhldmjaaGreatDoor
