/-
  What outputs decide: the model's parts.
-/
import Derived.Test.YtiaoenkgapfgaaaDoorWa
namespace Go.Proofs.YtiaoenkgapfgaaaDoor
open Go.RowKit Sets

set_option maxRecDepth 100000 in
set_option maxHeartbeats 2000000 in
theorem specSame4_any (A : Option Addr) (c : Nat) (ns : List Int) (w : World) (h : IntsAt w w.heap.size A c ns) (hp : 0 < ns.length) :
    Calls Tryd.prog 43 #[.slice A ns.length c] w fun e w' => e = .returned (.bool (smB ns)) ∧ Below w.heap.size w w' := by
  obtain ⟨_, hlc, hc, hrow⟩ := h
  rcases hrow with hz | ⟨b, off, rfl, hB, hrow⟩
  · omega
  have HP := Lib.hid hp
  have u0 := hrow 0 hp
  rw [Nat.zero_mul, Nat.add_zero] at u0
  have HROW := Lib.hid hrow
  clear hrow hp
  go_enter Tryd.func43, Tryd.ntmps43
  go_wp2
  go_loopw [3] (fun i wr => ∃ k : Nat, 1 ≤ k ∧ k ≤ ns.length ∧ i = .int .i64 k ∧ Hid (∀ j, j < k → (ns.getD j 0 == ns.getD 0 0) = true) ∧ Below w.heap.size w wr) (fun i _ => ns.length - (intOf i).toNat)
  case atStart => exact ⟨1, Nat.le_refl _, HP.out, rfl, Lib.hid (fun i hi => by rw [show i = 0 by omega]; simp), Below.refl _ _⟩
  case round =>
    obtain ⟨k, hk1, hk, rfl, hall, hb⟩ := hrel
    by_cases hlt : k < ns.length
    · have hkl : (k : Int) < (ns.length : Int) := by omega
      have h0l : (0 : Int) < (ns.length : Int) := by omega
      have u1 := HROW.out k hlt
      rw [Nat.mul_one] at u1
      have d0 := (hb.cell (p := ⟨b, off, none⟩) hB).trans u0
      have d1 := (hb.cell (p := ⟨b, off + k, none⟩) hB).trans u1
      obtain ⟨x, hx⟩ : ∃ x, ns.getD k 0 = x := ⟨_, rfl⟩
      obtain ⟨y, hy⟩ : ∃ y, ns.getD 0 0 = y := ⟨_, rfl⟩
      rw [hx] at d1
      rw [hy] at d0
      have HX := Lib.hid (And.intro hx hy)
      have HB := Lib.hid hb
      have HA := Lib.hid hall
      clear u1 hx hy hb hall
      by_cases hxy : x = y
      · subst hxy
        have hxx : (x != x) = false := by simp
        go_wp2
        go_quiet (fail)
        go_wp2
        go_roundw
        case rel =>
          refine ⟨k + 1, by omega, hlt, by go_num, Lib.hid (fun i hi => ?_), below_drewN HB.out _⟩
          by_cases e : i = k
          · rw [e, HX.out.1, HX.out.2]; simp
          · exact HA.out i (by omega)
        case measure => simp [intOf]; omega
      · have hxx : (x != y) = true := by simp [hxy]
        have HF := Lib.hid (show smB ns = false from all_no hlt (by rw [HX.out.1, HX.out.2]; simp [hxy]))
        clear hxy
        go_wp2
        go_quiet (fail)
        go_wp2
        go_ret
        exact ⟨by rw [HF.out]; rfl, below_drewN HB.out _⟩
    · obtain rfl : k = ns.length := by omega
      have HA := Lib.hid (show smB ns = true from all_yes hall.out)
      clear hall
      go_wp2
      go_ret
      exact ⟨by rw [HA.out]; rfl, hb⟩


set_option maxRecDepth 100000 in
set_option maxHeartbeats 2000000 in
theorem specNumSum_any (A : Option Addr) (c : Nat) (ns : List Int) (w : World) (h : IntsAt w w.heap.size A c ns) (hp : 0 < ns.length) (hout : outB ns = true) :
    Calls Tryd.prog 45 #[.int .i64 7, .slice A ns.length c] w fun e w' => e = .returned (.int .i64 (numV 7 ns)) ∧ w = w' := by
  obtain ⟨_, hlc, hc, hrow⟩ := h
  rcases hrow with hz | ⟨b, off, rfl, hB, hrow⟩
  · omega
  have HP := Lib.hid hp
  have HO := Lib.hid (outB_at hout)
  have u0 := hrow 0 hp
  rw [Nat.zero_mul, Nat.add_zero] at u0
  have h0l : (0 : Int) < (ns.length : Int) := by omega
  obtain ⟨y, hy⟩ : ∃ y, ns.getD 0 0 = y := ⟨_, rfl⟩
  rw [hy] at u0
  have HY := Lib.hid hy
  have HROW := Lib.hid hrow
  have HV := Lib.hid (show numV 7 ns = smK ns ns.length by unfold numV; simp)
  clear hrow hp hout hy
  go_enter Tryd.func45, Tryd.ntmps45
  go_wp2
  clear u0
  go_loop [5, 6] (fun n i => ∃ k : Nat, 1 ≤ k ∧ k ≤ ns.length ∧ i = .int .i64 k ∧ n = .int .i64 (smK ns k)) (fun _ i => ns.length - (intOf i).toNat)
  case atStart => exact ⟨1, Nat.le_refl _, HP.out, rfl, by rw [← HY.out]; show _ = Value.int .i64 (0 + ns.getD 0 0); rw [Int.zero_add]⟩
  case round =>
    obtain ⟨k, hk1, hk, rfl, rfl⟩ := hrel
    by_cases hlt : k < ns.length
    · have hkl : (k : Int) < (ns.length : Int) := by omega
      have u1 := HROW.out k hlt
      rw [Nat.mul_one] at u1
      obtain ⟨m, hm⟩ : ∃ m, k = m + 1 := ⟨k - 1, by omega⟩

      have hbd := smK_bound HO.out.2 k hk
      have hx := HO.out.2 k hlt
      have hle := HO.out.1
      obtain ⟨x, hxe⟩ : ∃ x, ns.getD k 0 = x := ⟨_, rfl⟩
      obtain ⟨s, hs⟩ : ∃ s, smK ns k = s := ⟨_, rfl⟩
      have HST := Lib.hid (show smK ns (k + 1) = s + x by rw [← hs, ← hxe]; rfl)
      rw [hxe] at u1 hx
      rw [hs] at hbd ⊢
      have ew : IntKind.i64.wrap (s + x) = s + x := IntWalk.i64_in _ (by omega)
      clear hxe hs hm hbd hx hle
      go_wp2
      go_round
      case rel => exact ⟨k + 1, by omega, hlt, by go_num, by rw [HST.out]⟩
      case measure => simp [intOf]; omega
    · obtain rfl : k = ns.length := by omega
      go_wp2
      go_ret
      exact ⟨by rw [HV.out]; rfl, rfl⟩

set_option maxRecDepth 100000 in
set_option maxHeartbeats 2000000 in
theorem specNumMin_any (A : Option Addr) (c : Nat) (ns : List Int) (w : World) (h : IntsAt w w.heap.size A c ns) (hp : 0 < ns.length) (hout : outB ns = true) :
    Calls Tryd.prog 45 #[.int .i64 8, .slice A ns.length c] w fun e w' => e = .returned (.int .i64 (numV 8 ns)) ∧ w = w' := by
  obtain ⟨_, hlc, hc, hrow⟩ := h
  rcases hrow with hz | ⟨b, off, rfl, hB, hrow⟩
  · omega
  have HP := Lib.hid hp
  have HO := Lib.hid (outB_at hout)
  have u0 := hrow 0 hp
  rw [Nat.zero_mul, Nat.add_zero] at u0
  have h0l : (0 : Int) < (ns.length : Int) := by omega
  obtain ⟨y, hy⟩ : ∃ y, ns.getD 0 0 = y := ⟨_, rfl⟩
  rw [hy] at u0
  have HY := Lib.hid hy
  have HROW := Lib.hid hrow
  have HV := Lib.hid (show numV 8 ns = mnK ns (ns.length - 1) by unfold numV; simp)
  clear hrow hp hout hy
  go_enter Tryd.func45, Tryd.ntmps45
  go_wp2
  clear u0
  go_loop [5, 6] (fun n i => ∃ k : Nat, 1 ≤ k ∧ k ≤ ns.length ∧ i = .int .i64 k ∧ n = .int .i64 (mnK ns (k - 1))) (fun _ i => ns.length - (intOf i).toNat)
  case atStart => exact ⟨1, Nat.le_refl _, HP.out, rfl, by rw [← HY.out]; rfl⟩
  case round =>
    obtain ⟨k, hk1, hk, rfl, rfl⟩ := hrel
    by_cases hlt : k < ns.length
    · have hkl : (k : Int) < (ns.length : Int) := by omega
      have u1 := HROW.out k hlt
      rw [Nat.mul_one] at u1
      obtain ⟨m, hm⟩ : ∃ m, k = m + 1 := ⟨k - 1, by omega⟩

      subst hm
      obtain ⟨x, hxe⟩ : ∃ x, ns.getD (m + 1) 0 = x := ⟨_, rfl⟩
      obtain ⟨s, hs⟩ : ∃ s, mnK ns m = s := ⟨_, rfl⟩
      have HST := Lib.hid (show mnK ns (m + 1) = if x < s then x else s by rw [← hs, ← hxe]; rfl)
      rw [hxe] at u1
      rw [show m + 1 - 1 = m by omega, hs]
      clear hxe hs
      by_cases hc : x < s
      · have HS2 := Lib.hid (show mnK ns (m + 1) = x by rw [HST.out, if_pos hc])
        go_wp2
        try trivial
        go_round
        case rel => exact ⟨m + 1 + 1, by omega, hlt, by go_num, by rw [show m + 1 + 1 - 1 = m + 1 by omega, HS2.out]⟩
        case measure => simp [intOf]; omega
      · have HS2 := Lib.hid (show mnK ns (m + 1) = s by rw [HST.out, if_neg hc])
        have hc' : decide (x < s) = false := decide_eq_false hc
        go_wp2
        try trivial
        go_round
        case rel => exact ⟨m + 1 + 1, by omega, hlt, by go_num, by rw [show m + 1 + 1 - 1 = m + 1 by omega, HS2.out]⟩
        case measure => simp [intOf]; omega
    · obtain rfl : k = ns.length := by omega
      go_wp2
      go_ret
      exact ⟨by rw [HV.out]; rfl, rfl⟩

set_option maxRecDepth 100000 in
set_option maxHeartbeats 2000000 in
theorem specNumMax_any (A : Option Addr) (c : Nat) (ns : List Int) (w : World) (h : IntsAt w w.heap.size A c ns) (hp : 0 < ns.length) (hout : outB ns = true) :
    Calls Tryd.prog 45 #[.int .i64 9, .slice A ns.length c] w fun e w' => e = .returned (.int .i64 (numV 9 ns)) ∧ w = w' := by
  obtain ⟨_, hlc, hc, hrow⟩ := h
  rcases hrow with hz | ⟨b, off, rfl, hB, hrow⟩
  · omega
  have HP := Lib.hid hp
  have HO := Lib.hid (outB_at hout)
  have u0 := hrow 0 hp
  rw [Nat.zero_mul, Nat.add_zero] at u0
  have h0l : (0 : Int) < (ns.length : Int) := by omega
  obtain ⟨y, hy⟩ : ∃ y, ns.getD 0 0 = y := ⟨_, rfl⟩
  rw [hy] at u0
  have HY := Lib.hid hy
  have HROW := Lib.hid hrow
  have HV := Lib.hid (show numV 9 ns = mxK ns (ns.length - 1) by unfold numV; simp)
  clear hrow hp hout hy
  go_enter Tryd.func45, Tryd.ntmps45
  go_wp2
  clear u0
  go_loop [5, 6] (fun n i => ∃ k : Nat, 1 ≤ k ∧ k ≤ ns.length ∧ i = .int .i64 k ∧ n = .int .i64 (mxK ns (k - 1))) (fun _ i => ns.length - (intOf i).toNat)
  case atStart => exact ⟨1, Nat.le_refl _, HP.out, rfl, by rw [← HY.out]; rfl⟩
  case round =>
    obtain ⟨k, hk1, hk, rfl, rfl⟩ := hrel
    by_cases hlt : k < ns.length
    · have hkl : (k : Int) < (ns.length : Int) := by omega
      have u1 := HROW.out k hlt
      rw [Nat.mul_one] at u1
      obtain ⟨m, hm⟩ : ∃ m, k = m + 1 := ⟨k - 1, by omega⟩

      subst hm
      obtain ⟨x, hxe⟩ : ∃ x, ns.getD (m + 1) 0 = x := ⟨_, rfl⟩
      obtain ⟨s, hs⟩ : ∃ s, mxK ns m = s := ⟨_, rfl⟩
      have HST := Lib.hid (show mxK ns (m + 1) = if s < x then x else s by rw [← hs, ← hxe]; rfl)
      rw [hxe] at u1
      rw [show m + 1 - 1 = m by omega, hs]
      clear hxe hs
      by_cases hc : s < x
      · have HS2 := Lib.hid (show mxK ns (m + 1) = x by rw [HST.out, if_pos hc])
        go_wp2
        try trivial
        go_round
        case rel => exact ⟨m + 1 + 1, by omega, hlt, by go_num, by rw [show m + 1 + 1 - 1 = m + 1 by omega, HS2.out]⟩
        case measure => simp [intOf]; omega
      · have HS2 := Lib.hid (show mxK ns (m + 1) = s by rw [HST.out, if_neg hc])
        have hc' : decide (s < x) = false := decide_eq_false hc
        go_wp2
        try trivial
        go_round
        case rel => exact ⟨m + 1 + 1, by omega, hlt, by go_num, by rw [show m + 1 + 1 - 1 = m + 1 by omega, HS2.out]⟩
        case measure => simp [intOf]; omega
    · obtain rfl : k = ns.length := by omega
      go_wp2
      go_ret
      exact ⟨by rw [HV.out]; rfl, rfl⟩

set_option maxRecDepth 100000 in
set_option maxHeartbeats 2000000 in
theorem specNumTop_any (A : Option Addr) (c : Nat) (ns : List Int) (w : World) (h : IntsAt w w.heap.size A c ns) (hp : 0 < ns.length) (hout : outB ns = true) :
    Calls Tryd.prog 45 #[.int .i64 3, .slice A ns.length c] w fun e w' => e = .returned (.int .i64 (numV 3 ns)) ∧ w = w' := by
  obtain ⟨_, hlc, hc, hrow⟩ := h
  rcases hrow with hz | ⟨b, off, rfl, hB, hrow⟩
  · omega
  have HP := Lib.hid hp
  have HO := Lib.hid (outB_at hout)
  have u0 := hrow 0 hp
  rw [Nat.zero_mul, Nat.add_zero] at u0
  have h0l : (0 : Int) < (ns.length : Int) := by omega
  obtain ⟨y, hy⟩ : ∃ y, ns.getD 0 0 = y := ⟨_, rfl⟩
  rw [hy] at u0
  have HY := Lib.hid hy
  have HROW := Lib.hid hrow
  have HV := Lib.hid (show numV 3 ns = mxK ns (ns.length - 1) by unfold numV; simp)
  clear hrow hp hout hy
  go_enter Tryd.func45, Tryd.ntmps45
  go_wp2
  clear u0
  go_loop [5, 6] (fun n i => ∃ k : Nat, 1 ≤ k ∧ k ≤ ns.length ∧ i = .int .i64 k ∧ n = .int .i64 (mxK ns (k - 1))) (fun _ i => ns.length - (intOf i).toNat)
  case atStart => exact ⟨1, Nat.le_refl _, HP.out, rfl, by rw [← HY.out]; rfl⟩
  case round =>
    obtain ⟨k, hk1, hk, rfl, rfl⟩ := hrel
    by_cases hlt : k < ns.length
    · have hkl : (k : Int) < (ns.length : Int) := by omega
      have u1 := HROW.out k hlt
      rw [Nat.mul_one] at u1
      obtain ⟨m, hm⟩ : ∃ m, k = m + 1 := ⟨k - 1, by omega⟩

      subst hm
      obtain ⟨x, hxe⟩ : ∃ x, ns.getD (m + 1) 0 = x := ⟨_, rfl⟩
      obtain ⟨s, hs⟩ : ∃ s, mxK ns m = s := ⟨_, rfl⟩
      have HST := Lib.hid (show mxK ns (m + 1) = if s < x then x else s by rw [← hs, ← hxe]; rfl)
      rw [hxe] at u1
      rw [show m + 1 - 1 = m by omega, hs]
      clear hxe hs
      by_cases hc : s < x
      · have HS2 := Lib.hid (show mxK ns (m + 1) = x by rw [HST.out, if_pos hc])
        go_wp2
        try trivial
        go_round
        case rel => exact ⟨m + 1 + 1, by omega, hlt, by go_num, by rw [show m + 1 + 1 - 1 = m + 1 by omega, HS2.out]⟩
        case measure => simp [intOf]; omega
      · have HS2 := Lib.hid (show mxK ns (m + 1) = s by rw [HST.out, if_neg hc])
        have hc' : decide (s < x) = false := decide_eq_false hc
        go_wp2
        try trivial
        go_round
        case rel => exact ⟨m + 1 + 1, by omega, hlt, by go_num, by rw [show m + 1 + 1 - 1 = m + 1 by omega, HS2.out]⟩
        case measure => simp [intOf]; omega
    · obtain rfl : k = ns.length := by omega
      go_wp2
      go_ret
      exact ⟨by rw [HV.out]; rfl, rfl⟩

set_option maxRecDepth 100000 in
set_option maxHeartbeats 2000000 in
theorem specNumCnt_any (A : Option Addr) (c : Nat) (ns : List Int) (w : World) (h : IntsAt w w.heap.size A c ns) (hp : 0 < ns.length) (hout : outB ns = true) :
    Calls Tryd.prog 45 #[.int .i64 10, .slice A ns.length c] w fun e w' => e = .returned (.int .i64 (numV 10 ns)) ∧ w = w' := by
  obtain ⟨_, hlc, hc, hrow⟩ := h
  rcases hrow with hz | ⟨b, off, rfl, hB, hrow⟩
  · omega
  have HP := Lib.hid hp
  have HO := Lib.hid (outB_at hout)
  have u0 := hrow 0 hp
  rw [Nat.zero_mul, Nat.add_zero] at u0
  have h0l : (0 : Int) < (ns.length : Int) := by omega
  obtain ⟨y, hy⟩ : ∃ y, ns.getD 0 0 = y := ⟨_, rfl⟩
  rw [hy] at u0
  have HY := Lib.hid hy
  have HROW := Lib.hid hrow
  have HV := Lib.hid (show numV 10 ns = (ns.length : Int) by unfold numV; simp)
  clear hrow hp hout hy
  go_enter Tryd.func45, Tryd.ntmps45
  go_wp2
  clear u0
  go_loop [5, 6] (fun n i => ∃ k : Nat, 1 ≤ k ∧ k ≤ ns.length ∧ i = .int .i64 k ∧ n = .int .i64 (y)) (fun _ i => ns.length - (intOf i).toNat)
  case atStart => exact ⟨1, Nat.le_refl _, HP.out, rfl, by rfl⟩
  case round =>
    obtain ⟨k, hk1, hk, rfl, rfl⟩ := hrel
    by_cases hlt : k < ns.length
    · have hkl : (k : Int) < (ns.length : Int) := by omega
      have u1 := HROW.out k hlt
      rw [Nat.mul_one] at u1
      obtain ⟨m, hm⟩ : ∃ m, k = m + 1 := ⟨k - 1, by omega⟩

      go_wp2
      try trivial
      go_round
      case rel => exact ⟨k + 1, by omega, hlt, by go_num, rfl⟩
      case measure => simp [intOf]; omega
    · obtain rfl : k = ns.length := by omega
      go_wp2
      go_ret
      exact ⟨by rw [HV.out]; rfl, rfl⟩

set_option maxRecDepth 100000 in
set_option maxHeartbeats 2000000 in
theorem specNumFst_any (A : Option Addr) (c : Nat) (ns : List Int) (w : World) (h : IntsAt w w.heap.size A c ns) (hp : 0 < ns.length) (hout : outB ns = true) :
    Calls Tryd.prog 45 #[.int .i64 4, .slice A ns.length c] w fun e w' => e = .returned (.int .i64 (numV 4 ns)) ∧ w = w' := by
  obtain ⟨_, hlc, hc, hrow⟩ := h
  rcases hrow with hz | ⟨b, off, rfl, hB, hrow⟩
  · omega
  have HP := Lib.hid hp
  have HO := Lib.hid (outB_at hout)
  have u0 := hrow 0 hp
  rw [Nat.zero_mul, Nat.add_zero] at u0
  have h0l : (0 : Int) < (ns.length : Int) := by omega
  obtain ⟨y, hy⟩ : ∃ y, ns.getD 0 0 = y := ⟨_, rfl⟩
  rw [hy] at u0
  have HY := Lib.hid hy
  have HROW := Lib.hid hrow
  have HV := Lib.hid (show numV 4 ns = y by unfold numV; simpa using hy)
  clear hrow hp hout hy
  go_enter Tryd.func45, Tryd.ntmps45
  go_wp2
  clear u0
  go_loop [5, 6] (fun n i => ∃ k : Nat, 1 ≤ k ∧ k ≤ ns.length ∧ i = .int .i64 k ∧ n = .int .i64 (y)) (fun _ i => ns.length - (intOf i).toNat)
  case atStart => exact ⟨1, Nat.le_refl _, HP.out, rfl, by rfl⟩
  case round =>
    obtain ⟨k, hk1, hk, rfl, rfl⟩ := hrel
    by_cases hlt : k < ns.length
    · have hkl : (k : Int) < (ns.length : Int) := by omega
      have u1 := HROW.out k hlt
      rw [Nat.mul_one] at u1
      obtain ⟨m, hm⟩ : ∃ m, k = m + 1 := ⟨k - 1, by omega⟩

      go_wp2
      try trivial
      go_round
      case rel => exact ⟨k + 1, by omega, hlt, by go_num, rfl⟩
      case measure => simp [intOf]; omega
    · obtain rfl : k = ns.length := by omega
      go_wp2
      go_ret
      exact ⟨by rw [HV.out]; rfl, rfl⟩

set_option maxRecDepth 100000 in
set_option maxHeartbeats 2000000 in
theorem specNumOne_any (A : Option Addr) (c : Nat) (ns : List Int) (w : World) (h : IntsAt w w.heap.size A c ns) (hp : 0 < ns.length) (hout : outB ns = true) :
    Calls Tryd.prog 45 #[.int .i64 1, .slice A ns.length c] w fun e w' => e = .returned (.int .i64 (numV 1 ns)) ∧ w = w' := by
  obtain ⟨_, hlc, hc, hrow⟩ := h
  rcases hrow with hz | ⟨b, off, rfl, hB, hrow⟩
  · omega
  have HP := Lib.hid hp
  have HO := Lib.hid (outB_at hout)
  have u0 := hrow 0 hp
  rw [Nat.zero_mul, Nat.add_zero] at u0
  have h0l : (0 : Int) < (ns.length : Int) := by omega
  obtain ⟨y, hy⟩ : ∃ y, ns.getD 0 0 = y := ⟨_, rfl⟩
  rw [hy] at u0
  have HY := Lib.hid hy
  have HROW := Lib.hid hrow
  have HV := Lib.hid (show numV 1 ns = y by unfold numV; simpa using hy)
  clear hrow hp hout hy
  go_enter Tryd.func45, Tryd.ntmps45
  go_wp2
  clear u0
  go_loop [5, 6] (fun n i => ∃ k : Nat, 1 ≤ k ∧ k ≤ ns.length ∧ i = .int .i64 k ∧ n = .int .i64 (y)) (fun _ i => ns.length - (intOf i).toNat)
  case atStart => exact ⟨1, Nat.le_refl _, HP.out, rfl, by rfl⟩
  case round =>
    obtain ⟨k, hk1, hk, rfl, rfl⟩ := hrel
    by_cases hlt : k < ns.length
    · have hkl : (k : Int) < (ns.length : Int) := by omega
      have u1 := HROW.out k hlt
      rw [Nat.mul_one] at u1
      obtain ⟨m, hm⟩ : ∃ m, k = m + 1 := ⟨k - 1, by omega⟩

      go_wp2
      try trivial
      go_round
      case rel => exact ⟨k + 1, by omega, hlt, by go_num, rfl⟩
      case measure => simp [intOf]; omega
    · obtain rfl : k = ns.length := by omega
      go_wp2
      go_ret
      exact ⟨by rw [HV.out]; rfl, rfl⟩

set_option maxRecDepth 100000 in
set_option maxHeartbeats 2000000 in
theorem specNumTwo_any (A : Option Addr) (c : Nat) (ns : List Int) (w : World) (h : IntsAt w w.heap.size A c ns) (hp : 0 < ns.length) (hout : outB ns = true) :
    Calls Tryd.prog 45 #[.int .i64 2, .slice A ns.length c] w fun e w' => e = .returned (.int .i64 (numV 2 ns)) ∧ w = w' := by
  obtain ⟨_, hlc, hc, hrow⟩ := h
  rcases hrow with hz | ⟨b, off, rfl, hB, hrow⟩
  · omega
  have HP := Lib.hid hp
  have HO := Lib.hid (outB_at hout)
  have u0 := hrow 0 hp
  rw [Nat.zero_mul, Nat.add_zero] at u0
  have h0l : (0 : Int) < (ns.length : Int) := by omega
  obtain ⟨y, hy⟩ : ∃ y, ns.getD 0 0 = y := ⟨_, rfl⟩
  rw [hy] at u0
  have HY := Lib.hid hy
  have HROW := Lib.hid hrow
  have HV := Lib.hid (show numV 2 ns = y by unfold numV; simpa using hy)
  clear hrow hp hout hy
  go_enter Tryd.func45, Tryd.ntmps45
  go_wp2
  clear u0
  go_loop [5, 6] (fun n i => ∃ k : Nat, 1 ≤ k ∧ k ≤ ns.length ∧ i = .int .i64 k ∧ n = .int .i64 (y)) (fun _ i => ns.length - (intOf i).toNat)
  case atStart => exact ⟨1, Nat.le_refl _, HP.out, rfl, by rfl⟩
  case round =>
    obtain ⟨k, hk1, hk, rfl, rfl⟩ := hrel
    by_cases hlt : k < ns.length
    · have hkl : (k : Int) < (ns.length : Int) := by omega
      have u1 := HROW.out k hlt
      rw [Nat.mul_one] at u1
      obtain ⟨m, hm⟩ : ∃ m, k = m + 1 := ⟨k - 1, by omega⟩

      go_wp2
      try trivial
      go_round
      case rel => exact ⟨k + 1, by omega, hlt, by go_num, rfl⟩
      case measure => simp [intOf]; omega
    · obtain rfl : k = ns.length := by omega
      go_wp2
      go_ret
      exact ⟨by rw [HV.out]; rfl, rfl⟩
end Go.Proofs.YtiaoenkgapfgaaaDoor
