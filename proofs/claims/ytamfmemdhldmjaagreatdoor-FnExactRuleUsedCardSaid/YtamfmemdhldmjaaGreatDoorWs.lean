/-
  DecideOuts: the program.
-/
import Derived.Test.YtamfmemdhldmjaaGreatDoorWp
namespace Go.Proofs.YtamfmemdhldmjaaGreatDoor
open Go.RowKit Go.Stop Sets

set_option maxRecDepth 100000 in
theorem way7_any (w : World) : Calls Tryz.prog 81 #[.int .i64 7] w fun e w' => e = .returned (.tuple #[.iface 124 (.func (.func 95) #[] #[]), .nilIface]) ∧ w = w' := by
  go_enter Tryz.func81, Tryz.ntmps81
  go_wp2
  try trivial
  go_ret2
  exact ⟨rfl, rfl⟩

set_option maxRecDepth 100000 in
set_option maxHeartbeats 4000000 in
theorem decBy7_any (a1 a2 a3 : Addr) (A : Option Addr) (c : Nat) (ns : List Int) (w : World) (h : EndsIs w a1 a2 a3) (hI : IntsAt w w.heap.size A c ns) :
    Calls Tryz.prog 69 #[.int .i64 7, .slice A ns.length c] w (DecN (doV 7 ns) a1 a2 a3 w) := by
  have mD : ∀ (n : Nat) (v : Value) (w : World), (Go.method (n + 1) 124 v "loop.example/decisiontables/impl.decide").run Tryz.prog w = .ok (130, v) w := fun n v w => by kernel_rfl
  have hnn := fun (w : World) => run_neq_nil_nil_at (P := Tryz.prog) w 97 (by kernel_rfl)
  have c1 := h.cell1 w (Below.refl _ _)
  have c3 := h.cell3 w (Below.refl _ _)
  have H := Lib.hid h
  have HI := Lib.hid hI
  obtain ⟨_, _, _, hrow⟩ := hI
  clear h
  by_cases h12 : 12 < ns.length
  · have h12' : (12 : Int) < (ns.length : Int) := by omega
    have HV := Lib.hid (do_bad (p := 7) h12)
    clear h12
    go_enter Tryz.func69, Tryz.ntmps69
    go_wp2_with (go_at_call 81; refine (way7_any _).mono ?_; rintro e w' ⟨rfl, rfl⟩)
    go_quiet (fail)
    go_wp2
    go_ret2
    exact decN_no HV.out (.inr ⟨_, .inr (.inr ⟨rfl, rfl⟩)⟩) (below_drewN (Below.refl _ _) _)
  · have h12' : decide ((12 : Int) < (ns.length : Int)) = false := decide_eq_false (by omega)
    have H12 := Lib.hid (show ns.length ≤ 12 by omega)
    clear h12
    go_enter Tryz.func69, Tryz.ntmps69
    go_wp2_with (go_at_call 81; refine (way7_any _).mono ?_; rintro e w' ⟨rfl, rfl⟩)
    go_loop [26] (fun i => ∃ k : Nat, k ≤ ns.length ∧ i = .int .i64 k ∧ Hid (∀ j, j < k → okO ns j = true)) (fun i => ns.length - (intOf i).toNat)
    case atStart => exact ⟨0, Nat.zero_le _, rfl, Lib.hid fun j hj => absurd hj (by omega)⟩
    case round =>
      obtain ⟨k, hk, rfl, hall⟩ := hrel
      by_cases hlt : k < ns.length
      · rcases hrow with hz | ⟨b, off, rfl, hB, hrow⟩
        · omega
        · have hkl : (k : Int) < (ns.length : Int) := by omega
          have u1 := hrow k hlt
          rw [Nat.mul_one] at u1
          obtain ⟨x, hx⟩ : ∃ x, ns.getD k 0 = x := ⟨_, rfl⟩
          rw [hx] at u1
          obtain ⟨t, ht⟩ : ∃ t, okO ns k = t := ⟨_, rfl⟩
          have HT := Lib.hid ht
          have HX := Lib.hid (show (decide (0 ≤ x) && decide (x ≤ 99)) = t by rw [← ht]; unfold okO; rw [hx])
          clear hx hrow ht
          cases t
          · have HV := Lib.hid (do_no (p := 7) hlt HT.out)
            go_wp2_with (go_at_call 66; refine (outOk_any x _).mono ?_; rw [HX.out]; rintro e w' ⟨rfl, rfl⟩)
            go_quiet (fail)
            go_wp2
            go_ret2
            exact decN_no HV.out (.inr ⟨_, .inr (.inr ⟨rfl, rfl⟩)⟩) (below_drewN (Below.refl _ _) _)
          · go_wp2_with (go_at_call 66; refine (outOk_any x _).mono ?_; rw [HX.out]; rintro e w' ⟨rfl, rfl⟩)
            go_round
            case rel =>
              refine ⟨k + 1, hlt, by go_num, Lib.hid fun j hj => ?_⟩
              by_cases e : j = k
              · rw [e]; exact HT.out
              · exact hall.out j (by omega)
            case measure => simp [intOf]; omega
      · obtain rfl : k = ns.length := by omega
        have HD := Lib.hid (do_yes (p := 7) (by omega) (by omega) H12.out hall.out)
        clear hall hrow

        by_cases hz : ns.length = 0
        · have hz0 : ((ns.length : Int) == 0) = true := beq_iff_eq.2 (by omega)
          have HV := Lib.hid (show doV 7 ns = (1, []) by rw [HD.out.2]; unfold dcV; rw [if_pos hz, if_neg (by omega)])
          go_wp2
          go_quiet (fail)
          go_wp2
          go_ret2
          exact decN_no HV.out (.inr ⟨_, .inl ⟨rfl, rfl⟩⟩) (below_drewN (Below.refl _ _) _)
        · have hz0 : ((ns.length : Int) == 0) = false := beq_eq_false_iff_ne.2 (by omega)
          have HPO := Lib.hid (show 0 < ns.length by omega)
          go_wp2_with (go_at_call 130; refine (dec7_any a1 a2 a3 _ _ ns _ H.out HI.out HD.out.1 HPO.out).mono ?_; rintro e w1 ⟨A2, c2, v, rfl, hO, hE, b1⟩)
          go_ret2
          rw [HD.out.2]
          exact ⟨A2, c2, v, rfl, hO, hE, b1⟩

set_option maxRecDepth 100000 in
theorem way8_any (w : World) : Calls Tryz.prog 81 #[.int .i64 8] w fun e w' => e = .returned (.tuple #[.iface 124 (.func (.func 94) #[] #[]), .nilIface]) ∧ w = w' := by
  go_enter Tryz.func81, Tryz.ntmps81
  go_wp2
  try trivial
  go_ret2
  exact ⟨rfl, rfl⟩

set_option maxRecDepth 100000 in
set_option maxHeartbeats 4000000 in
theorem decBy8_any (a1 a2 a3 : Addr) (A : Option Addr) (c : Nat) (ns : List Int) (w : World) (h : EndsIs w a1 a2 a3) (hI : IntsAt w w.heap.size A c ns) :
    Calls Tryz.prog 69 #[.int .i64 8, .slice A ns.length c] w (DecN (doV 8 ns) a1 a2 a3 w) := by
  have mD : ∀ (n : Nat) (v : Value) (w : World), (Go.method (n + 1) 124 v "loop.example/decisiontables/impl.decide").run Tryz.prog w = .ok (130, v) w := fun n v w => by kernel_rfl
  have hnn := fun (w : World) => run_neq_nil_nil_at (P := Tryz.prog) w 97 (by kernel_rfl)
  have c1 := h.cell1 w (Below.refl _ _)
  have c3 := h.cell3 w (Below.refl _ _)
  have H := Lib.hid h
  have HI := Lib.hid hI
  obtain ⟨_, _, _, hrow⟩ := hI
  clear h
  by_cases h12 : 12 < ns.length
  · have h12' : (12 : Int) < (ns.length : Int) := by omega
    have HV := Lib.hid (do_bad (p := 8) h12)
    clear h12
    go_enter Tryz.func69, Tryz.ntmps69
    go_wp2_with (go_at_call 81; refine (way8_any _).mono ?_; rintro e w' ⟨rfl, rfl⟩)
    go_quiet (fail)
    go_wp2
    go_ret2
    exact decN_no HV.out (.inr ⟨_, .inr (.inr ⟨rfl, rfl⟩)⟩) (below_drewN (Below.refl _ _) _)
  · have h12' : decide ((12 : Int) < (ns.length : Int)) = false := decide_eq_false (by omega)
    have H12 := Lib.hid (show ns.length ≤ 12 by omega)
    clear h12
    go_enter Tryz.func69, Tryz.ntmps69
    go_wp2_with (go_at_call 81; refine (way8_any _).mono ?_; rintro e w' ⟨rfl, rfl⟩)
    go_loop [26] (fun i => ∃ k : Nat, k ≤ ns.length ∧ i = .int .i64 k ∧ Hid (∀ j, j < k → okO ns j = true)) (fun i => ns.length - (intOf i).toNat)
    case atStart => exact ⟨0, Nat.zero_le _, rfl, Lib.hid fun j hj => absurd hj (by omega)⟩
    case round =>
      obtain ⟨k, hk, rfl, hall⟩ := hrel
      by_cases hlt : k < ns.length
      · rcases hrow with hz | ⟨b, off, rfl, hB, hrow⟩
        · omega
        · have hkl : (k : Int) < (ns.length : Int) := by omega
          have u1 := hrow k hlt
          rw [Nat.mul_one] at u1
          obtain ⟨x, hx⟩ : ∃ x, ns.getD k 0 = x := ⟨_, rfl⟩
          rw [hx] at u1
          obtain ⟨t, ht⟩ : ∃ t, okO ns k = t := ⟨_, rfl⟩
          have HT := Lib.hid ht
          have HX := Lib.hid (show (decide (0 ≤ x) && decide (x ≤ 99)) = t by rw [← ht]; unfold okO; rw [hx])
          clear hx hrow ht
          cases t
          · have HV := Lib.hid (do_no (p := 8) hlt HT.out)
            go_wp2_with (go_at_call 66; refine (outOk_any x _).mono ?_; rw [HX.out]; rintro e w' ⟨rfl, rfl⟩)
            go_quiet (fail)
            go_wp2
            go_ret2
            exact decN_no HV.out (.inr ⟨_, .inr (.inr ⟨rfl, rfl⟩)⟩) (below_drewN (Below.refl _ _) _)
          · go_wp2_with (go_at_call 66; refine (outOk_any x _).mono ?_; rw [HX.out]; rintro e w' ⟨rfl, rfl⟩)
            go_round
            case rel =>
              refine ⟨k + 1, hlt, by go_num, Lib.hid fun j hj => ?_⟩
              by_cases e : j = k
              · rw [e]; exact HT.out
              · exact hall.out j (by omega)
            case measure => simp [intOf]; omega
      · obtain rfl : k = ns.length := by omega
        have HD := Lib.hid (do_yes (p := 8) (by omega) (by omega) H12.out hall.out)
        clear hall hrow

        by_cases hz : ns.length = 0
        · have hz0 : ((ns.length : Int) == 0) = true := beq_iff_eq.2 (by omega)
          have HV := Lib.hid (show doV 8 ns = (1, []) by rw [HD.out.2]; unfold dcV; rw [if_pos hz, if_neg (by omega)])
          go_wp2
          go_quiet (fail)
          go_wp2
          go_ret2
          exact decN_no HV.out (.inr ⟨_, .inl ⟨rfl, rfl⟩⟩) (below_drewN (Below.refl _ _) _)
        · have hz0 : ((ns.length : Int) == 0) = false := beq_eq_false_iff_ne.2 (by omega)
          have HPO := Lib.hid (show 0 < ns.length by omega)
          go_wp2_with (go_at_call 130; refine (dec8_any a1 a2 a3 _ _ ns _ H.out HI.out HD.out.1 HPO.out).mono ?_; rintro e w1 ⟨A2, c2, v, rfl, hO, hE, b1⟩)
          go_ret2
          rw [HD.out.2]
          exact ⟨A2, c2, v, rfl, hO, hE, b1⟩

set_option maxRecDepth 100000 in
theorem way9_any (w : World) : Calls Tryz.prog 81 #[.int .i64 9] w fun e w' => e = .returned (.tuple #[.iface 124 (.func (.func 93) #[] #[]), .nilIface]) ∧ w = w' := by
  go_enter Tryz.func81, Tryz.ntmps81
  go_wp2
  try trivial
  go_ret2
  exact ⟨rfl, rfl⟩

set_option maxRecDepth 100000 in
set_option maxHeartbeats 4000000 in
theorem decBy9_any (a1 a2 a3 : Addr) (A : Option Addr) (c : Nat) (ns : List Int) (w : World) (h : EndsIs w a1 a2 a3) (hI : IntsAt w w.heap.size A c ns) :
    Calls Tryz.prog 69 #[.int .i64 9, .slice A ns.length c] w (DecN (doV 9 ns) a1 a2 a3 w) := by
  have mD : ∀ (n : Nat) (v : Value) (w : World), (Go.method (n + 1) 124 v "loop.example/decisiontables/impl.decide").run Tryz.prog w = .ok (130, v) w := fun n v w => by kernel_rfl
  have hnn := fun (w : World) => run_neq_nil_nil_at (P := Tryz.prog) w 97 (by kernel_rfl)
  have c1 := h.cell1 w (Below.refl _ _)
  have c3 := h.cell3 w (Below.refl _ _)
  have H := Lib.hid h
  have HI := Lib.hid hI
  obtain ⟨_, _, _, hrow⟩ := hI
  clear h
  by_cases h12 : 12 < ns.length
  · have h12' : (12 : Int) < (ns.length : Int) := by omega
    have HV := Lib.hid (do_bad (p := 9) h12)
    clear h12
    go_enter Tryz.func69, Tryz.ntmps69
    go_wp2_with (go_at_call 81; refine (way9_any _).mono ?_; rintro e w' ⟨rfl, rfl⟩)
    go_quiet (fail)
    go_wp2
    go_ret2
    exact decN_no HV.out (.inr ⟨_, .inr (.inr ⟨rfl, rfl⟩)⟩) (below_drewN (Below.refl _ _) _)
  · have h12' : decide ((12 : Int) < (ns.length : Int)) = false := decide_eq_false (by omega)
    have H12 := Lib.hid (show ns.length ≤ 12 by omega)
    clear h12
    go_enter Tryz.func69, Tryz.ntmps69
    go_wp2_with (go_at_call 81; refine (way9_any _).mono ?_; rintro e w' ⟨rfl, rfl⟩)
    go_loop [26] (fun i => ∃ k : Nat, k ≤ ns.length ∧ i = .int .i64 k ∧ Hid (∀ j, j < k → okO ns j = true)) (fun i => ns.length - (intOf i).toNat)
    case atStart => exact ⟨0, Nat.zero_le _, rfl, Lib.hid fun j hj => absurd hj (by omega)⟩
    case round =>
      obtain ⟨k, hk, rfl, hall⟩ := hrel
      by_cases hlt : k < ns.length
      · rcases hrow with hz | ⟨b, off, rfl, hB, hrow⟩
        · omega
        · have hkl : (k : Int) < (ns.length : Int) := by omega
          have u1 := hrow k hlt
          rw [Nat.mul_one] at u1
          obtain ⟨x, hx⟩ : ∃ x, ns.getD k 0 = x := ⟨_, rfl⟩
          rw [hx] at u1
          obtain ⟨t, ht⟩ : ∃ t, okO ns k = t := ⟨_, rfl⟩
          have HT := Lib.hid ht
          have HX := Lib.hid (show (decide (0 ≤ x) && decide (x ≤ 99)) = t by rw [← ht]; unfold okO; rw [hx])
          clear hx hrow ht
          cases t
          · have HV := Lib.hid (do_no (p := 9) hlt HT.out)
            go_wp2_with (go_at_call 66; refine (outOk_any x _).mono ?_; rw [HX.out]; rintro e w' ⟨rfl, rfl⟩)
            go_quiet (fail)
            go_wp2
            go_ret2
            exact decN_no HV.out (.inr ⟨_, .inr (.inr ⟨rfl, rfl⟩)⟩) (below_drewN (Below.refl _ _) _)
          · go_wp2_with (go_at_call 66; refine (outOk_any x _).mono ?_; rw [HX.out]; rintro e w' ⟨rfl, rfl⟩)
            go_round
            case rel =>
              refine ⟨k + 1, hlt, by go_num, Lib.hid fun j hj => ?_⟩
              by_cases e : j = k
              · rw [e]; exact HT.out
              · exact hall.out j (by omega)
            case measure => simp [intOf]; omega
      · obtain rfl : k = ns.length := by omega
        have HD := Lib.hid (do_yes (p := 9) (by omega) (by omega) H12.out hall.out)
        clear hall hrow

        by_cases hz : ns.length = 0
        · have hz0 : ((ns.length : Int) == 0) = true := beq_iff_eq.2 (by omega)
          have HV := Lib.hid (show doV 9 ns = (1, []) by rw [HD.out.2]; unfold dcV; rw [if_pos hz, if_neg (by omega)])
          go_wp2
          go_quiet (fail)
          go_wp2
          go_ret2
          exact decN_no HV.out (.inr ⟨_, .inl ⟨rfl, rfl⟩⟩) (below_drewN (Below.refl _ _) _)
        · have hz0 : ((ns.length : Int) == 0) = false := beq_eq_false_iff_ne.2 (by omega)
          have HPO := Lib.hid (show 0 < ns.length by omega)
          go_wp2_with (go_at_call 130; refine (dec9_any a1 a2 a3 _ _ ns _ H.out HI.out HD.out.1 HPO.out).mono ?_; rintro e w1 ⟨A2, c2, v, rfl, hO, hE, b1⟩)
          go_ret2
          rw [HD.out.2]
          exact ⟨A2, c2, v, rfl, hO, hE, b1⟩

set_option maxRecDepth 100000 in
theorem way10_any (w : World) : Calls Tryz.prog 81 #[.int .i64 10] w fun e w' => e = .returned (.tuple #[.iface 124 (.func (.func 96) #[] #[]), .nilIface]) ∧ w = w' := by
  go_enter Tryz.func81, Tryz.ntmps81
  go_wp2
  try trivial
  go_ret2
  exact ⟨rfl, rfl⟩

set_option maxRecDepth 100000 in
set_option maxHeartbeats 4000000 in
theorem decBy10_any (a1 a2 a3 : Addr) (A : Option Addr) (c : Nat) (ns : List Int) (w : World) (h : EndsIs w a1 a2 a3) (hI : IntsAt w w.heap.size A c ns) :
    Calls Tryz.prog 69 #[.int .i64 10, .slice A ns.length c] w (DecN (doV 10 ns) a1 a2 a3 w) := by
  have mD : ∀ (n : Nat) (v : Value) (w : World), (Go.method (n + 1) 124 v "loop.example/decisiontables/impl.decide").run Tryz.prog w = .ok (130, v) w := fun n v w => by kernel_rfl
  have hnn := fun (w : World) => run_neq_nil_nil_at (P := Tryz.prog) w 97 (by kernel_rfl)
  have c1 := h.cell1 w (Below.refl _ _)
  have c3 := h.cell3 w (Below.refl _ _)
  have H := Lib.hid h
  have HI := Lib.hid hI
  obtain ⟨_, _, _, hrow⟩ := hI
  clear h
  by_cases h12 : 12 < ns.length
  · have h12' : (12 : Int) < (ns.length : Int) := by omega
    have HV := Lib.hid (do_bad (p := 10) h12)
    clear h12
    go_enter Tryz.func69, Tryz.ntmps69
    go_wp2_with (go_at_call 81; refine (way10_any _).mono ?_; rintro e w' ⟨rfl, rfl⟩)
    go_quiet (fail)
    go_wp2
    go_ret2
    exact decN_no HV.out (.inr ⟨_, .inr (.inr ⟨rfl, rfl⟩)⟩) (below_drewN (Below.refl _ _) _)
  · have h12' : decide ((12 : Int) < (ns.length : Int)) = false := decide_eq_false (by omega)
    have H12 := Lib.hid (show ns.length ≤ 12 by omega)
    clear h12
    go_enter Tryz.func69, Tryz.ntmps69
    go_wp2_with (go_at_call 81; refine (way10_any _).mono ?_; rintro e w' ⟨rfl, rfl⟩)
    go_loop [26] (fun i => ∃ k : Nat, k ≤ ns.length ∧ i = .int .i64 k ∧ Hid (∀ j, j < k → okO ns j = true)) (fun i => ns.length - (intOf i).toNat)
    case atStart => exact ⟨0, Nat.zero_le _, rfl, Lib.hid fun j hj => absurd hj (by omega)⟩
    case round =>
      obtain ⟨k, hk, rfl, hall⟩ := hrel
      by_cases hlt : k < ns.length
      · rcases hrow with hz | ⟨b, off, rfl, hB, hrow⟩
        · omega
        · have hkl : (k : Int) < (ns.length : Int) := by omega
          have u1 := hrow k hlt
          rw [Nat.mul_one] at u1
          obtain ⟨x, hx⟩ : ∃ x, ns.getD k 0 = x := ⟨_, rfl⟩
          rw [hx] at u1
          obtain ⟨t, ht⟩ : ∃ t, okO ns k = t := ⟨_, rfl⟩
          have HT := Lib.hid ht
          have HX := Lib.hid (show (decide (0 ≤ x) && decide (x ≤ 99)) = t by rw [← ht]; unfold okO; rw [hx])
          clear hx hrow ht
          cases t
          · have HV := Lib.hid (do_no (p := 10) hlt HT.out)
            go_wp2_with (go_at_call 66; refine (outOk_any x _).mono ?_; rw [HX.out]; rintro e w' ⟨rfl, rfl⟩)
            go_quiet (fail)
            go_wp2
            go_ret2
            exact decN_no HV.out (.inr ⟨_, .inr (.inr ⟨rfl, rfl⟩)⟩) (below_drewN (Below.refl _ _) _)
          · go_wp2_with (go_at_call 66; refine (outOk_any x _).mono ?_; rw [HX.out]; rintro e w' ⟨rfl, rfl⟩)
            go_round
            case rel =>
              refine ⟨k + 1, hlt, by go_num, Lib.hid fun j hj => ?_⟩
              by_cases e : j = k
              · rw [e]; exact HT.out
              · exact hall.out j (by omega)
            case measure => simp [intOf]; omega
      · obtain rfl : k = ns.length := by omega
        have HD := Lib.hid (do_yes (p := 10) (by omega) (by omega) H12.out hall.out)
        clear hall hrow

        obtain ⟨bz, hz0⟩ : ∃ b, ((ns.length : Int) == 0) = b := ⟨_, rfl⟩
        cases bz
        · go_wp2_with (go_at_call 130; refine (dec10_any a1 a2 a3 _ _ ns _ H.out HI.out HD.out.1).mono ?_; rintro e w1 ⟨A2, c2, v, rfl, hO, hE, b1⟩)
          go_ret2
          rw [HD.out.2]
          exact ⟨A2, c2, v, rfl, hO, hE, b1⟩
        · go_wp2_with (go_at_call 130; refine (dec10_any a1 a2 a3 _ _ ns _ H.out HI.out HD.out.1).mono ?_; rintro e w1 ⟨A2, c2, v, rfl, hO, hE, b1⟩)
          go_ret2
          rw [HD.out.2]
          exact ⟨A2, c2, v, rfl, hO, hE, b1⟩
end Go.Proofs.YtamfmemdhldmjaaGreatDoor
