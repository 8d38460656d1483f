/-
  Outputs that decide: the program's parts.
-/
import Derived.Test.YtamfmemdhldmjaaGreatDoorWaM
import Derived.Lib.SliceRun
namespace Go.Proofs.YtamfmemdhldmjaaGreatDoor
open Go.RowKit Sets


set_option maxRecDepth 100000 in
set_option maxHeartbeats 2000000 in
theorem implMax_any (A : Option Addr) (c : Nat) (ns : List Int) (w : World) (h : IntsAt w w.heap.size A c ns) (hp : 0 < ns.length) :
    Calls Tryz.prog 93 #[.slice A ns.length c] w fun e w' => e = .returned (.int .i64 (mxK ns (ns.length - 1))) ∧ w = w' := by
  obtain ⟨_, hlc, hc, hrow⟩ := h
  rcases hrow with hz | ⟨b, off, rfl, hB, hrow⟩
  · omega
  have HP := Lib.hid hp
  have u0 := hrow 0 hp
  rw [Nat.zero_mul, Nat.add_zero] at u0
  have h0l : (0 : Int) < (ns.length : Int) := by omega
  have h1l : decide ((ns.length : Int) < 1) = false := decide_eq_false (by omega)
  obtain ⟨y, hy⟩ : ∃ y, ns.getD 0 0 = y := ⟨_, rfl⟩
  rw [hy] at u0
  have HY := Lib.hid hy
  have HROW := Lib.hid hrow
  clear hrow hp hy
  go_enter Tryz.func93, Tryz.ntmps93
  go_wp2
  clear u0
  go_loop [3, 4] (fun n i => ∃ k : Nat, 1 ≤ k ∧ k ≤ ns.length ∧ i = .int .i64 k ∧ n = .int .i64 (mxK ns (k - 1))) (fun _ i => ns.length - (intOf i).toNat)
  case atStart => exact ⟨1, Nat.le_refl _, HP.out, rfl, by rw [← HY.out]; rfl⟩
  case round =>
    obtain ⟨k, hk1, hk, rfl, rfl⟩ := hrel
    by_cases hlt : k < ns.length
    · have hkl : (k : Int) < (ns.length : Int) := by omega
      have u1 := HROW.out k hlt
      rw [Nat.mul_one] at u1
      obtain ⟨m, rfl⟩ : ∃ m, k = m + 1 := ⟨k - 1, by omega⟩
      obtain ⟨x, hxe⟩ : ∃ x, ns.getD (m + 1) 0 = x := ⟨_, rfl⟩
      obtain ⟨s, hs⟩ : ∃ s, mxK ns m = s := ⟨_, rfl⟩
      have HST := Lib.hid (show mxK ns (m + 1) = if s < x then x else s by rw [← hs, ← hxe]; rfl)
      rw [hxe] at u1
      rw [show m + 1 - 1 = m by omega, hs]
      clear hxe hs
      go_wp2
      all_goals try trivial
      all_goals
        go_round
        case rel => exact ⟨m + 1 + 1, by omega, hlt, by go_num, by rw [show m + 1 + 1 - 1 = m + 1 by omega, HST.out]⟩
        case measure => simp [intOf]; omega
    · obtain rfl : k = ns.length := by omega
      go_wp2
      go_ret
      exact ⟨rfl, rfl⟩

set_option maxRecDepth 100000 in
set_option maxHeartbeats 2000000 in
theorem implMin_any (A : Option Addr) (c : Nat) (ns : List Int) (w : World) (h : IntsAt w w.heap.size A c ns) (hp : 0 < ns.length) :
    Calls Tryz.prog 94 #[.slice A ns.length c] w fun e w' => e = .returned (.int .i64 (mnK ns (ns.length - 1))) ∧ w = w' := by
  obtain ⟨_, hlc, hc, hrow⟩ := h
  rcases hrow with hz | ⟨b, off, rfl, hB, hrow⟩
  · omega
  have HP := Lib.hid hp
  have u0 := hrow 0 hp
  rw [Nat.zero_mul, Nat.add_zero] at u0
  have h0l : (0 : Int) < (ns.length : Int) := by omega
  have h1l : decide ((ns.length : Int) < 1) = false := decide_eq_false (by omega)
  obtain ⟨y, hy⟩ : ∃ y, ns.getD 0 0 = y := ⟨_, rfl⟩
  rw [hy] at u0
  have HY := Lib.hid hy
  have HROW := Lib.hid hrow
  clear hrow hp hy
  go_enter Tryz.func94, Tryz.ntmps94
  go_wp2
  clear u0
  go_loop [3, 4] (fun n i => ∃ k : Nat, 1 ≤ k ∧ k ≤ ns.length ∧ i = .int .i64 k ∧ n = .int .i64 (mnK ns (k - 1))) (fun _ i => ns.length - (intOf i).toNat)
  case atStart => exact ⟨1, Nat.le_refl _, HP.out, rfl, by rw [← HY.out]; rfl⟩
  case round =>
    obtain ⟨k, hk1, hk, rfl, rfl⟩ := hrel
    by_cases hlt : k < ns.length
    · have hkl : (k : Int) < (ns.length : Int) := by omega
      have u1 := HROW.out k hlt
      rw [Nat.mul_one] at u1
      obtain ⟨m, rfl⟩ : ∃ m, k = m + 1 := ⟨k - 1, by omega⟩
      obtain ⟨x, hxe⟩ : ∃ x, ns.getD (m + 1) 0 = x := ⟨_, rfl⟩
      obtain ⟨s, hs⟩ : ∃ s, mnK ns m = s := ⟨_, rfl⟩
      have HST := Lib.hid (show mnK ns (m + 1) = if x < s then x else s by rw [← hs, ← hxe]; rfl)
      rw [hxe] at u1
      rw [show m + 1 - 1 = m by omega, hs]
      clear hxe hs
      go_wp2
      all_goals try trivial
      all_goals
        go_round
        case rel => exact ⟨m + 1 + 1, by omega, hlt, by go_num, by rw [show m + 1 + 1 - 1 = m + 1 by omega, HST.out]⟩
        case measure => simp [intOf]; omega
    · obtain rfl : k = ns.length := by omega
      go_wp2
      go_ret
      exact ⟨rfl, rfl⟩

set_option maxRecDepth 100000 in
set_option maxHeartbeats 2000000 in
theorem implSum_any (A : Option Addr) (c : Nat) (ns : List Int) (w : World) (h : IntsAt w w.heap.size A c ns) (hout : outB ns = true) :
    Calls Tryz.prog 95 #[.slice A ns.length c] w fun e w' => e = .returned (.int .i64 (smK ns ns.length)) ∧ w = w' := by
  obtain ⟨_, hlc, hc, hrow⟩ := h
  have HO := Lib.hid (outB_at hout)
  clear hout
  go_enter Tryz.func95, Tryz.ntmps95
  go_wp2
  go_loop [3, 8] (fun n i => ∃ k : Nat, k ≤ ns.length ∧ i = .int .i64 k ∧ n = .int .i64 (smK ns k)) (fun _ i => ns.length - (intOf i).toNat)
  case atStart => exact ⟨0, Nat.zero_le _, rfl, rfl⟩
  case round =>
    obtain ⟨k, hk, rfl, rfl⟩ := hrel
    by_cases hlt : k < ns.length
    · rcases hrow with hz | ⟨b, off, rfl, hB, hrow⟩
      · omega
      have hkl : (k : Int) < (ns.length : Int) := by omega
      have u1 := hrow k hlt
      rw [Nat.mul_one] at u1
      have hbd := smK_bound HO.out.2 k hk
      have hx := HO.out.2 k hlt
      have hle := HO.out.1
      obtain ⟨x, hxe⟩ : ∃ x, ns.getD k 0 = x := ⟨_, rfl⟩
      obtain ⟨s, hs⟩ : ∃ s, smK ns k = s := ⟨_, rfl⟩
      have HST := Lib.hid (show smK ns (k + 1) = s + x by rw [← hs, ← hxe]; rfl)
      rw [hxe] at u1 hx
      rw [hs] at hbd ⊢
      have ew : IntKind.i64.wrap (s + x) = s + x := IntWalk.i64_in _ (by omega)
      have HW := Lib.hid hrow
      clear hxe hs hbd hx hle hrow
      go_wp2
      go_round
      case rel => exact ⟨k + 1, hlt, by go_num, by rw [HST.out]⟩
      case measure => simp [intOf]; omega
    · obtain rfl : k = ns.length := by omega
      go_wp2
      go_ret
      exact ⟨rfl, rfl⟩
set_option maxRecDepth 100000 in
theorem implCnt_any (A : Option Addr) (n c : Nat) (w : World) :
    Calls Tryz.prog 96 #[.slice A n c] w fun e w' => e = .returned (.int .i64 n) ∧ w = w' := by
  go_enter Tryz.func96, Tryz.ntmps96
  go_wp2
  go_ret
  exact ⟨rfl, rfl⟩
set_option maxRecDepth 100000 in
theorem implFst_any (A : Option Addr) (c : Nat) (ns : List Int) (w : World) (h : IntsAt w w.heap.size A c ns) (hp : 0 < ns.length) :
    Calls Tryz.prog 92 #[.slice A ns.length c] w fun e w' => e = .returned (.int .i64 (ns.getD 0 0)) ∧ w = w' := by
  obtain ⟨_, hlc, hc, hrow⟩ := h
  rcases hrow with hz | ⟨b, off, rfl, hB, hrow⟩
  · omega
  have u0 := hrow 0 hp
  rw [Nat.zero_mul, Nat.add_zero] at u0
  have h0l : (0 : Int) < (ns.length : Int) := by omega
  obtain ⟨y, hy⟩ : ∃ y, ns.getD 0 0 = y := ⟨_, rfl⟩
  rw [hy] at u0 ⊢
  clear hrow hp hy
  go_enter Tryz.func92, Tryz.ntmps92
  go_wp2
  go_ret
  exact ⟨rfl, rfl⟩
set_option maxRecDepth 100000 in
set_option maxHeartbeats 2000000 in
theorem implClone_any (A : Option Addr) (c : Nat) (ns : List Int) (w : World) (h : IntsAt w w.heap.size A c ns) (hp : 0 < ns.length) (hn : ns.length ≤ 12) :
    Calls Tryz.prog 97 #[.slice A ns.length c] w fun e w' => ∃ A' c', e = .returned (.slice A' ns.length c') ∧ OwnN w' w.heap.size A' c' ns ∧ Below w.heap.size w w' := by
  obtain ⟨i0, hi0, hz0, hz1, hz2⟩ := infoI
  have qT : ∀ (w : World) (a : Option Addr) (n c n' c' : Nat), (binOp .eql 26 (.slice a n c) (.slice none n' c')).run Tryz.prog w = .ok (.bool a.isNone) w := fun w a n c n' c' => Lib.run_eql_slice_nil w _ _ a n c n' c' Tryz.underlying26
  obtain ⟨hfit, hlc, hc, hrow⟩ := h
  rcases hrow with hz | ⟨b, off, rfl, hB, hrow⟩
  · omega
  have hE := ownI_empty w
  have hb0 : Below w.heap.size w (w.alloc (.cells #[] 3)) := (Below.refl _ _).alloc (Nat.le_refl _) _
  have HNEW := Lib.hid (ints_cells (w := w.alloc (.cells #[] 3)) (b := b) (o := off) (ns := ns) fun i hi => (hb0.cell (p := ⟨b, off + i * 1, none⟩) hB).trans (hrow i hi))
  have HF := Lib.hid hfit
  have hl : (intCells ns).length = ns.length * 1 := by simp [intCells]
  clear hfit hp hrow hlc hc
  go_enter Tryz.func97, Tryz.ntmps97
  go_wp2_with (at_builtin; refine wpList_append_own _ rfl (.tmp 5) (.tmp 6) 26 rfl w.heap.size 3 i0 _ 1 8 Tryz.underlying26 hi0 hz0 hz1 hz2 rfl (by decide) _ ([] : List Int).length (intCells []) rfl hE ⟨b, off, none⟩ ns.length c (intCells ns) rfl hl HNEW.out (intCells_one ns) ?hc3 ?hc4 ?hc5 ?_; rotate_right; intro v' w1 hown2 hgrow _; obtain ⟨A2, c2, rfl, hO⟩ := (show OwnI w1 w.heap.size v' ns by unfold OwnI; simpa [intCells] using hown2).form HF.out)
  case hc3 => unfold maxLen; simp; omega
  case hc4 => simp; omega
  case hc5 => simp
  have hb1 := Below.grown (row := (Value.slice (some ⟨w.heap.size, 0, none⟩) 0 0).ownBlock) hb0 hgrow (by simp) (fun k hk => (hE.lt k hk).1)
  go_ret
  exact ⟨A2, c2, rfl, hO, hb1⟩
end Go.Proofs.YtamfmemdhldmjaaGreatDoor
