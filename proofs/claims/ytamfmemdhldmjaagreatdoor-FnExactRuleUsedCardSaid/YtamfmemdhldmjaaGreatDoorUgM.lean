/-
  The count of a table's size.
-/
import Derived.Test.YtamfmemdhldmjaaGreatDoorUaM
import Derived.Test.YtamfmemdhldmjaaGreatDoorRdM
namespace Go.Proofs.YtamfmemdhldmjaaGreatDoor
open Go.RowKit Sets

set_option maxRecDepth 100000 in
theorem szColumnS_any (A : Option Addr) (n c : Nat) (left : Int) (w : World) (hn : n ≤ 9223372036854775807) (h1 : -1 ≤ left) (h2 : left ≤ 1048576) :
    Calls Tryz.prog 19 #[.slice A n c, .int .i64 left] w fun e w' => e = .returned (.int .i64 (if left < n then -1 else left - n)) ∧ w = w' := by
  go_enter Tryz.func19, Tryz.ntmps19
  by_cases hlt : left < n
  · rw [if_pos hlt]
    have h3 : left - (n : Int) < 0 := by omega
    go_wp2
    go_ret
    exact ⟨rfl, rfl⟩
  · rw [if_neg hlt]
    have h3 : 0 ≤ left - (n : Int) := by omega
    go_wp2
    go_ret
    exact ⟨rfl, rfl⟩

set_option maxRecDepth 100000 in
set_option maxHeartbeats 1000000 in
theorem szSpanSS_any (A : Option Addr) (c : Nat) (xss : List (List Sp)) (left : Int) (w : World) (h : SetsAt w w.heap.size A c xss) (h1 : -1 ≤ left) (h2 : left ≤ 1048576) :
    Calls Tryz.prog 57 #[.slice A xss.length c, .int .i64 left] w fun e w' => ∃ r : Int, e = .returned (.int .i64 r) ∧ -1 ≤ r ∧ r ≤ max left (-1) ∧ (0 ≤ r → xss.length ≤ 1048576 ∧ ∀ i, i < xss.length → (xss.getD i []).length ≤ 1048576) ∧ w = w' := by
  have H := Lib.hid h
  obtain ⟨hlc, hc, hrow⟩ := h
  go_enter Tryz.func57, Tryz.ntmps57
  by_cases hlt : left < xss.length
  · have h3 : left - (xss.length : Int) < 0 := by omega
    go_wp2
    go_ret
    exact ⟨-1, rfl, by omega, by omega, fun h => absurd h (by omega), rfl⟩
  · have h3 : 0 ≤ left - (xss.length : Int) := by omega
    go_wp2
    go_loopw [1, 5] (fun l i wr => ∃ (k : Nat) (r : Int), k ≤ xss.length ∧ i = .int .i64 k ∧ l = .int .i64 r ∧ 0 ≤ r ∧ r ≤ left ∧ Hid (∀ i, i < k → (xss.getD i []).length ≤ 1048576) ∧ w = wr) (fun _ i _ => xss.length - (intOf i).toNat)
    case atStart => exact ⟨0, _, Nat.zero_le _, rfl, rfl, h3, by omega, Lib.hid (fun i hi => absurd hi (by omega)), rfl⟩
    case round =>
      obtain ⟨k, r, hk, rfl, rfl, hr0, hr1, hall, rfl⟩ := hrel
      by_cases hklt : k < xss.length
      · rcases hrow with hz | ⟨b, off, rfl, hB, hrow⟩
        · omega
        · have hkl : (k : Int) < (xss.length : Int) := by omega
          obtain ⟨A', c', q1, q2⟩ := hrow k hklt
          rw [Nat.mul_one] at q1
          have hl2 : (xss.getD k []).length ≤ 9223372036854775807 := by have := q2.1; have := q2.2.1; omega
          have HL2 := Lib.hid hl2
          generalize hm : (xss.getD k []).length = m at q1 HL2
          have HM := Lib.hid hm
          clear hm q2 hl2 hrow
          by_cases hc2 : r < m
          · go_wp2_with (go_at_call 74; refine (szSpanS_any _ _ _ _ _ HL2.out (by omega) (by omega)).mono ?_; rintro e w' ⟨rfl, rfl⟩; rw [if_pos hc2])
            go_ret
            exact ⟨-1, rfl, by omega, by omega, fun h => absurd h (by omega), rfl⟩
          · have h4 : 0 ≤ r - (m : Int) := by omega
            go_wp2_with (go_at_call 74; refine (szSpanS_any _ _ _ _ _ HL2.out (by omega) (by omega)).mono ?_; rintro e w' ⟨rfl, rfl⟩; rw [if_neg hc2])
            go_roundw
            case rel =>
              refine ⟨k + 1, r - m, hklt, by go_num, rfl, h4, by omega, Lib.hid (fun i hi => ?_), by trivial⟩
              by_cases e : i = k
              · subst e; rw [HM.out]; omega
              · exact hall.out i (by omega)
            case measure => simp [intOf]; omega
      · obtain rfl : k = xss.length := by omega
        go_wp2
        go_ret
        exact ⟨r, rfl, by omega, by omega, fun _ => ⟨by omega, hall.out⟩, rfl⟩
set_option maxRecDepth 100000 in
theorem szRule_any (A : Option Addr) (c : Nat) (xss : List (List Sp)) (x : Int) (left : Int) (w : World) (h : SetsAt w w.heap.size A c xss) (h1 : -1 ≤ left) (h2 : left ≤ 1048576) :
    Calls Tryz.prog 35 #[.agg #[.slice A xss.length c, .int .i64 x], .int .i64 left] w fun e w' => ∃ r : Int, e = .returned (.int .i64 r) ∧ -1 ≤ r ∧ r ≤ max left (-1) ∧ (0 ≤ r → xss.length ≤ 1048576 ∧ ∀ i, i < xss.length → (xss.getD i []).length ≤ 1048576) ∧ Below w.heap.size w w' := by
  have H := Lib.hid h
  clear h
  go_enter Tryz.func35, Tryz.ntmps35
  go_wp2_with fail
  have hb : Below w.heap.size w (w.alloc (.cells #[.slice A xss.length c, .int .i64 x] 60)) := (Below.refl _ _).alloc (Nat.le_refl _) _
  generalize w.alloc (.cells #[.slice A xss.length c, .int .i64 x] 60) = W at hb ⊢
  refine (szSpanSS_any A c xss left _ ((H.out.below hb).mono hb.size) h1 h2).mono ?_
  rintro e w' ⟨r, rfl, r1, r2, r3, rfl⟩
  have R3 := Lib.hid r3
  clear r3
  by_cases hr : r < 0
  · go_wp2
    go_ret
    exact ⟨-1, rfl, by omega, by omega, fun h => absurd h (by omega), hb⟩
  · have hr' : 0 ≤ r := by omega
    go_wp2
    go_ret
    exact ⟨r, rfl, r1, r2, R3.out, hb⟩
/-- the bounds of the first k rules -/
def RlSmall (rs : List Rl) (k : Nat) : Prop := ∀ i, i < k → (rs.getD i ([], 0)).1.length ≤ 1048576 ∧ ∀ j, j < (rs.getD i ([], 0)).1.length → ((rs.getD i ([], 0)).1.getD j []).length ≤ 1048576
set_option maxRecDepth 100000 in
set_option maxHeartbeats 1000000 in
theorem szRuleS_any (A : Option Addr) (c : Nat) (rs : List Rl) (left : Int) (w : World) (h : RulesAt w w.heap.size A c rs) (h1 : -1 ≤ left) (h2 : left ≤ 1048576) :
    Calls Tryz.prog 20 #[.slice A rs.length c, .int .i64 left] w fun e w' => ∃ r : Int, e = .returned (.int .i64 r) ∧ -1 ≤ r ∧ r ≤ max left (-1) ∧ (0 ≤ r → rs.length ≤ 1048576 ∧ RlSmall rs rs.length) ∧ Below w.heap.size w w' := by
  have H := Lib.hid h
  obtain ⟨hlc, hc, hrow⟩ := h
  go_enter Tryz.func20, Tryz.ntmps20
  by_cases hlt : left < rs.length
  · have h3 : left - (rs.length : Int) < 0 := by omega
    go_wp2
    go_ret
    exact ⟨-1, rfl, by omega, by omega, fun h => absurd h (by omega), Below.refl _ _⟩
  · have h3 : 0 ≤ left - (rs.length : Int) := by omega
    go_wp2
    go_loopw [1, 5] (fun l i wr => ∃ (k : Nat) (r : Int), k ≤ rs.length ∧ i = .int .i64 k ∧ l = .int .i64 r ∧ 0 ≤ r ∧ r ≤ left ∧ RlSmall rs k ∧ Below w.heap.size w wr) (fun _ i _ => rs.length - (intOf i).toNat)
    case atStart => exact ⟨0, _, Nat.zero_le _, rfl, rfl, h3, by omega, (fun i hi => absurd hi (by omega)), Below.refl _ _⟩
    case round =>
      obtain ⟨k, r, hk, rfl, rfl, hr0, hr1, hall, hb⟩ := hrel
      by_cases hklt : k < rs.length
      · rcases hrow with hz | ⟨b, off, rfl, hB, hrow⟩
        · omega
        · have hkl : (k : Int) < (rs.length : Int) := by omega
          obtain ⟨⟨A', c', q1, q2⟩, q3⟩ := hrow k hklt
          have d1 := (hb.cell (p := ⟨b, off + k * 2, none⟩) hB).trans q1
          have d2 := (hb.cell (p := ⟨b, off + k * 2 + 1, none⟩) hB).trans q3
          have HR := Lib.hid ((q2.below hb).mono hb.size)
          have HBB := Lib.hid hb
          obtain ⟨xss, x, hxs⟩ : ∃ xss x, rs.getD k ([], 0) = (xss, x) := ⟨_, _, rfl⟩
          rw [hxs] at d1 d2 HR
          have HXS := Lib.hid hxs
          simp only [] at d1 d2
          have HALL := Lib.hid hall
          clear hxs q1 q2 q3 hrow hall
          go_wp2_with fail
          refine (szRule_any A' c' xss x r _ HR.out (by omega) (by omega)).mono ?_
          rintro e w1 ⟨r', rfl, r1, r2, r3, hb1⟩
          have R3 := Lib.hid r3
          have R2 := Lib.hid r2
          have HB1 := Lib.hid (HBB.out.trans (hb1.mono HBB.out.size))
          clear r3 r2
          by_cases hc2 : r' < 0
          · go_wp2
            go_ret
            exact ⟨-1, rfl, by omega, by omega, fun h => absurd h (by omega), HB1.out⟩
          · have h4 : 0 ≤ r' := by omega
            go_wp2
            go_roundw
            case rel =>
              refine ⟨k + 1, r', hklt, by go_num, rfl, h4, by have := R2.out; omega, (fun i hi => ?_), HB1.out⟩
              by_cases e : i = k
              · subst e; rw [HXS.out]; exact R3.out h4
              · exact HALL.out i (by omega)
            case measure => simp [intOf]; omega
      · obtain rfl : k = rs.length := by omega
        go_wp2
        go_ret
        exact ⟨r, rfl, by omega, by omega, fun _ => ⟨by omega, hall⟩, hb⟩
set_option maxRecDepth 100000 in
set_option maxHeartbeats 1000000 in
theorem szTable_any (v : Value) (t : Tb) (left : Int) (w : World) (h : TabAt w w.heap.size v t) (h1 : -1 ≤ left) (h2 : left ≤ 1048576) :
    Calls Tryz.prog 5 #[v, .int .i64 left] w fun e w' => ∃ r : Int, e = .returned (.int .i64 r) ∧ -1 ≤ r ∧ r ≤ max left (-1) ∧ (0 ≤ r → TbSmall t) ∧ Below w.heap.size w w' := by
  obtain ⟨A1, c1, A2, c2, rfl, hC, hR⟩ := h
  have HN := Lib.hid (show t.cols.length ≤ 9223372036854775807 by have := hC.1; have := hC.2.1; omega)
  have HR := Lib.hid hR
  clear hC hR
  obtain ⟨cs, x, rs⟩ := t
  simp only [] at HN HR ⊢
  go_enter Tryz.func5, Tryz.ntmps5
  have hb : Below w.heap.size w (w.alloc (.cells #[.slice A1 cs.length c1, .int .i64 x, .slice A2 rs.length c2] 25)) := (Below.refl _ _).alloc (Nat.le_refl _) _
  have HB := Lib.hid hb
  clear hb
  by_cases hlt : left < cs.length
  · go_wp2_with (go_at_call 19; refine (szColumnS_any _ _ _ _ _ HN.out (by omega) (by omega)).mono ?_; rintro e w' ⟨rfl, rfl⟩; rw [if_pos hlt])
    go_ret
    exact ⟨-1, rfl, by omega, by omega, fun h => absurd h (by omega), HB.out⟩
  · have h3 : 0 ≤ left - (cs.length : Int) := by omega
    go_wp2_with (go_at_call 19; refine (szColumnS_any _ _ _ _ _ HN.out (by omega) (by omega)).mono ?_; rintro e w' ⟨rfl, rfl⟩; rw [if_neg hlt])
    refine (szRuleS_any A2 c2 rs _ _ ((HR.out.below HB.out).mono HB.out.size) (by omega) (by omega)).mono ?_
    rintro e w1 ⟨r, rfl, r1, r2, r3, hb1⟩
    have R3 := Lib.hid r3
    have R2 := Lib.hid r2
    have HB1 := Lib.hid (HB.out.trans (hb1.mono HB.out.size))
    clear r3 r2
    by_cases hc2 : r < 0
    · go_wp2
      go_ret
      exact ⟨-1, rfl, by omega, by omega, fun h => absurd h (by omega), HB1.out⟩
    · have h4 : 0 ≤ r := by omega
      go_wp2
      go_ret
      exact ⟨r, rfl, by omega, by have := R2.out; omega, fun _ => ⟨by show cs.length ≤ _; omega, (R3.out h4).1, (R3.out h4).2⟩, HB1.out⟩
end Go.Proofs.YtamfmemdhldmjaaGreatDoor

namespace Go.Proofs.YtamfmemdhldmjaaGreatDoor
open Go.RowKit Sets

theorem two_blocks (w : World) (c1 c2 : Array Value) (t1 t2 : TypeId) (W : World) (hW : W = (w.alloc (.cells c1 t1)).alloc (.cells c2 t2)) :
    (∀ o, W.cell? ⟨w.heap.size, o, none⟩ = c1[o]?) ∧ (∀ o, W.cell? ⟨w.heap.size + 1, o, none⟩ = c2[o]?) ∧ Below w.heap.size w W ∧ W.heap.size = w.heap.size + 2 := by
  subst hW
  have b1 : Below (w.heap.size + 1) (w.alloc (.cells c1 t1)) ((w.alloc (.cells c1 t1)).alloc (.cells c2 t2)) := (Below.refl _ _).alloc (by simp) _
  have z1 : (w.alloc (.cells c1 t1)).heap.size = w.heap.size + 1 := by simp
  refine ⟨fun o => ?_, fun o => ?_, ?_, by simp⟩
  · rw [b1.cell (p := ⟨w.heap.size, o, none⟩) (by simp), World.cell?_alloc_new]
  · rw [← z1, World.cell?_alloc_new]
  · exact ((Below.refl _ _).alloc (Nat.le_refl _) _).alloc (by simp) _
set_option maxRecDepth 100000 in
theorem eqColT_same (L : Bool) (a b : Int) (w : World) :
    Calls Tryz.prog 48 #[.agg #[.bool L, .int .i64 a, .int .i64 b], .agg #[.bool L, .int .i64 a, .int .i64 b]] w fun e w' => e = .returned (.bool true) ∧ Below w.heap.size w w' := by
  obtain ⟨W, hW⟩ : ∃ W, W = (w.alloc (.cells #[.bool L, .int .i64 a, .int .i64 b] 65)).alloc (.cells #[.bool L, .int .i64 a, .int .i64 b] 65) := ⟨_, rfl⟩
  obtain ⟨x1, x2, bW, zW⟩ := two_blocks w _ _ _ _ W hW
  have p0 := x1 0
  have p1 := x1 1
  have p2 := x1 2
  have q0 := x2 0
  have q1 := x2 1
  have q2 := x2 2
  simp at p0 p1 p2 q0 q1 q2
  clear x1 x2 zW
  have BW := Lib.hid bW
  clear bW
  have h1 : (L != L) = false := by simp
  have h2 : (a != a) = false := by simp
  have h3 : (b != b) = false := by simp
  subst hW
  go_enter Tryz.func48, Tryz.ntmps48
  go_wp2
  go_ret
  exact ⟨rfl, BW.out⟩

set_option maxRecDepth 100000 in
set_option maxHeartbeats 1000000 in
theorem eqColumnS_same (A1 A2 : Option Addr) (c1 c2 : Nat) (cs : List Co) (w : World) (h1 : ColsAt w w.heap.size A1 c1 cs) (h2 : ColsAt w w.heap.size A2 c2 cs) :
    Calls Tryz.prog 27 #[.slice A1 cs.length c1, .slice A2 cs.length c2] w fun e w' => e = .returned (.bool true) ∧ Below w.heap.size w w' := by
  obtain ⟨hlc, hc, hrow⟩ := h1
  obtain ⟨hlc2, hcc2, hrow2⟩ := h2
  have hne : ((cs.length : Int) != (cs.length : Int)) = false := by simp
  go_enter Tryz.func27, Tryz.ntmps27
  go_wp2
  go_loopw [5] (fun i wr => ∃ k : Nat, k ≤ cs.length ∧ i = .int .i64 k ∧ Below w.heap.size w wr) (fun i _ => cs.length - (intOf i).toNat)
  case atStart => exact ⟨0, Nat.zero_le _, rfl, Below.refl _ _⟩
  case round =>
    obtain ⟨k, hk, rfl, hb⟩ := hrel
    by_cases hlt : k < cs.length
    · rcases hrow with hz | ⟨b, off, rfl, hB, hrow⟩
      · omega
      · rcases hrow2 with hz | ⟨b2, off2, rfl, hB2, hrow2⟩
        · omega
        · have hkl : (k : Int) < (cs.length : Int) := by omega
          obtain ⟨u1, u2, u3⟩ := hrow k hlt
          obtain ⟨v1, v2, v3⟩ := hrow2 k hlt
          have d1 := (hb.cell (p := ⟨b, off + k * 3, none⟩) hB).trans u1
          have d2 := (hb.cell (p := ⟨b, off + k * 3 + 1, none⟩) hB).trans u2
          have d3 := (hb.cell (p := ⟨b, off + k * 3 + 2, none⟩) hB).trans u3
          have e1 := (hb.cell (p := ⟨b2, off2 + k * 3, none⟩) hB2).trans v1
          have e2 := (hb.cell (p := ⟨b2, off2 + k * 3 + 1, none⟩) hB2).trans v2
          have e3 := (hb.cell (p := ⟨b2, off2 + k * 3 + 2, none⟩) hB2).trans v3
          obtain ⟨⟨L, x, y⟩, hv⟩ : ∃ v, cs.getD k (false, 0, 0) = v := ⟨_, rfl⟩
          rw [hv] at d1 d2 d3 e1 e2 e3
          simp only [] at d1 d2 d3 e1 e2 e3
          clear u1 u2 u3 v1 v2 v3 hv hrow hrow2
          go_wp2
          go_still_tail 8, (by kernel_rfl)
          change wpList _ _ _ _ _ wr.drew
          have hb2 : Below w.heap.size w wr.drew := hb.drew
          generalize wr.drew = w2 at hb2 ⊢
          go_wp2_with (go_at_call 48; refine (eqColT_same _ _ _ _).mono ?_; rintro e w' ⟨rfl, hb3⟩)
          have hb4 := hb2.trans (hb3.mono hb2.size)
          go_roundw
          case rel => exact ⟨k + 1, hlt, by go_num, hb4⟩
          case measure => simp [intOf]; omega
    · obtain rfl : k = cs.length := by omega
      go_wp2
      go_ret
      exact ⟨rfl, hb⟩

set_option maxRecDepth 100000 in
set_option maxHeartbeats 1000000 in
theorem eqSpanSS_same (A1 A2 : Option Addr) (c1 c2 : Nat) (xss : List (List Sp)) (w : World) (h1 : SetsAt w w.heap.size A1 c1 xss) (h2 : SetsAt w w.heap.size A2 c2 xss) :
    Calls Tryz.prog 71 #[.slice A1 xss.length c1, .slice A2 xss.length c2] w fun e w' => e = .returned (.bool true) ∧ Below w.heap.size w w' := by
  obtain ⟨hlc, hc, hrow⟩ := h1
  obtain ⟨hlc2, hcc2, hrow2⟩ := h2
  have hne : ((xss.length : Int) != (xss.length : Int)) = false := by simp
  go_enter Tryz.func71, Tryz.ntmps71
  go_wp2
  go_loopw [5] (fun i wr => ∃ k : Nat, k ≤ xss.length ∧ i = .int .i64 k ∧ Below w.heap.size w wr) (fun i _ => xss.length - (intOf i).toNat)
  case atStart => exact ⟨0, Nat.zero_le _, rfl, Below.refl _ _⟩
  case round =>
    obtain ⟨k, hk, rfl, hb⟩ := hrel
    by_cases hlt : k < xss.length
    · rcases hrow with hz | ⟨b, off, rfl, hB, hrow⟩
      · omega
      · rcases hrow2 with hz | ⟨b2, off2, rfl, hB2, hrow2⟩
        · omega
        · have hkl : (k : Int) < (xss.length : Int) := by omega
          obtain ⟨A', c', u1, u2⟩ := hrow k hlt
          obtain ⟨A'', c'', v1, v2⟩ := hrow2 k hlt
          rw [Nat.mul_one] at u1 v1
          have d1 := (hb.cell (p := ⟨b, off + k, none⟩) hB).trans u1
          have e1 := (hb.cell (p := ⟨b2, off2 + k, none⟩) hB2).trans v1
          have U2 := Lib.hid (((u2.below hb).mono hb.size).below (Below.refl wr.heap.size wr).drew)
          have V2 := Lib.hid (((v2.below hb).mono hb.size).below (Below.refl wr.heap.size wr).drew)
          generalize xss.getD k [] = xs at d1 e1 U2 V2
          clear u1 u2 v1 v2 hrow hrow2
          go_wp2
          go_still_tail 8, (by kernel_rfl)
          change wpList _ _ _ _ _ wr.drew
          have hb2 : Below w.heap.size w wr.drew := hb.drew
          have hz2 : wr.drew.heap.size = wr.heap.size := rfl
          rw [← hz2] at U2 V2
          generalize wr.drew = w2 at hb2 U2 V2 ⊢
          go_wp2_with (go_at_call 84; refine (eqSpanS_any _ _ _ _ xs xs _ U2.out V2.out).mono ?_; rintro e w' ⟨rfl, hb3⟩; rw [(same_iff xs xs).2 rfl])
          have hb4 := hb2.trans (hb3.mono hb2.size)
          go_roundw
          case rel => exact ⟨k + 1, hlt, by go_num, hb4⟩
          case measure => simp [intOf]; omega
    · obtain rfl : k = xss.length := by omega
      go_wp2
      go_ret
      exact ⟨rfl, hb⟩
set_option maxRecDepth 100000 in
theorem eqRule_same (A1 A2 : Option Addr) (c1 c2 : Nat) (xss : List (List Sp)) (x : Int) (w : World) (h1 : SetsAt w w.heap.size A1 c1 xss) (h2 : SetsAt w w.heap.size A2 c2 xss) :
    Calls Tryz.prog 49 #[.agg #[.slice A1 xss.length c1, .int .i64 x], .agg #[.slice A2 xss.length c2, .int .i64 x]] w fun e w' => e = .returned (.bool true) ∧ Below w.heap.size w w' := by
  obtain ⟨W, hW⟩ : ∃ W, W = (w.alloc (.cells #[.slice A1 xss.length c1, .int .i64 x] 70)).alloc (.cells #[.slice A2 xss.length c2, .int .i64 x] 70) := ⟨_, rfl⟩
  obtain ⟨x1, x2, bW, zW⟩ := two_blocks w _ _ _ _ W hW
  have p1 := x1 1
  have q1 := x2 1
  simp at p1 q1
  clear x1 x2
  have BW := Lib.hid bW
  have ZW := Lib.hid zW
  have H1 := Lib.hid h1
  have H2 := Lib.hid h2
  clear bW zW h1 h2
  have hxx : (x != x) = false := by simp
  go_enter Tryz.func49, Tryz.ntmps49
  go_wp2_with fail
  rw [← hW]
  clear hW
  refine (eqSpanSS_same A1 A2 c1 c2 xss _ ((H1.out.below BW.out).mono BW.out.size) ((H2.out.below BW.out).mono BW.out.size)).mono ?_
  rintro e w1 ⟨rfl, b1⟩
  have d1 := (b1.cell (p := ⟨w.heap.size, 1, none⟩) (by have := ZW.out; simp only; omega)).trans p1
  have e1 := (b1.cell (p := ⟨w.heap.size + 1, 1, none⟩) (by have := ZW.out; simp only; omega)).trans q1
  have B1 := Lib.hid (BW.out.trans (b1.mono BW.out.size))
  clear b1 p1 q1
  go_wp2
  go_ret
  exact ⟨rfl, B1.out⟩

set_option maxRecDepth 100000 in
set_option maxHeartbeats 1000000 in
theorem eqRuleS_same (A1 A2 : Option Addr) (c1 c2 : Nat) (rs : List Rl) (w : World) (h1 : RulesAt w w.heap.size A1 c1 rs) (h2 : RulesAt w w.heap.size A2 c2 rs) :
    Calls Tryz.prog 28 #[.slice A1 rs.length c1, .slice A2 rs.length c2] w fun e w' => e = .returned (.bool true) ∧ Below w.heap.size w w' := by
  obtain ⟨hlc, hc, hrow⟩ := h1
  obtain ⟨hlc2, hcc2, hrow2⟩ := h2
  have hne : ((rs.length : Int) != (rs.length : Int)) = false := by simp
  go_enter Tryz.func28, Tryz.ntmps28
  go_wp2
  go_loopw [5] (fun i wr => ∃ k : Nat, k ≤ rs.length ∧ i = .int .i64 k ∧ Below w.heap.size w wr) (fun i _ => rs.length - (intOf i).toNat)
  case atStart => exact ⟨0, Nat.zero_le _, rfl, Below.refl _ _⟩
  case round =>
    obtain ⟨k, hk, rfl, hb⟩ := hrel
    by_cases hlt : k < rs.length
    · rcases hrow with hz | ⟨b, off, rfl, hB, hrow⟩
      · omega
      · rcases hrow2 with hz | ⟨b2, off2, rfl, hB2, hrow2⟩
        · omega
        · have hkl : (k : Int) < (rs.length : Int) := by omega
          obtain ⟨⟨A', c', u1, u2⟩, u3⟩ := hrow k hlt
          obtain ⟨⟨A'', c'', v1, v2⟩, v3⟩ := hrow2 k hlt
          have d1 := (hb.cell (p := ⟨b, off + k * 2, none⟩) hB).trans u1
          have d2 := (hb.cell (p := ⟨b, off + k * 2 + 1, none⟩) hB).trans u3
          have e1 := (hb.cell (p := ⟨b2, off2 + k * 2, none⟩) hB2).trans v1
          have e2 := (hb.cell (p := ⟨b2, off2 + k * 2 + 1, none⟩) hB2).trans v3
          have U2 := Lib.hid (((u2.below hb).mono hb.size).below (Below.refl wr.heap.size wr).drew)
          have V2 := Lib.hid (((v2.below hb).mono hb.size).below (Below.refl wr.heap.size wr).drew)
          obtain ⟨xss, x, hxs⟩ : ∃ xss x, rs.getD k ([], 0) = (xss, x) := ⟨_, _, rfl⟩
          rw [hxs] at d1 d2 e1 e2 U2 V2
          simp only [] at d1 d2 e1 e2
          clear u1 u2 u3 v1 v2 v3 hrow hrow2 hxs
          go_wp2
          go_still_tail 8, (by kernel_rfl)
          change wpList _ _ _ _ _ wr.drew
          have hb2 : Below w.heap.size w wr.drew := hb.drew
          have hz2 : wr.drew.heap.size = wr.heap.size := rfl
          rw [← hz2] at U2 V2
          generalize wr.drew = w2 at hb2 U2 V2 ⊢
          clear hz2
          go_wp2_with (go_at_call 49; refine (eqRule_same _ _ _ _ xss x _ U2.out V2.out).mono ?_; rintro e w' ⟨rfl, hb3⟩)
          have hb4 := hb2.trans (hb3.mono hb2.size)
          go_roundw
          case rel => exact ⟨k + 1, hlt, by go_num, hb4⟩
          case measure => simp [intOf]; omega
    · obtain rfl : k = rs.length := by omega
      go_wp2
      go_ret
      exact ⟨rfl, hb⟩

set_option maxRecDepth 100000 in
set_option maxHeartbeats 1000000 in
theorem eqTable_same (v1 v2 : Value) (t : Tb) (w : World) (h1 : TabAt w w.heap.size v1 t) (h2 : TabAt w w.heap.size v2 t) :
    Calls Tryz.prog 11 #[v1, v2] w fun e w' => e = .returned (.bool true) ∧ Below w.heap.size w w' := by
  obtain ⟨A1, c1, A2, c2, rfl, hC, hR⟩ := h1
  obtain ⟨B1, e1, B2, e2, rfl, hC2, hR2⟩ := h2
  obtain ⟨cs, x, rs⟩ := t
  simp only [] at hC hR hC2 hR2 ⊢
  obtain ⟨W, hW⟩ : ∃ W, W = (w.alloc (.cells #[.slice A1 cs.length c1, .int .i64 x, .slice A2 rs.length c2] 34)).alloc (.cells #[.slice B1 cs.length e1, .int .i64 x, .slice B2 rs.length e2] 34) := ⟨_, rfl⟩
  obtain ⟨x1, x2, bW, zW⟩ := two_blocks w _ _ _ _ W hW
  have p1 := x1 1
  have q1 := x2 1
  have p2 := x1 2
  have q2 := x2 2
  simp at p1 q1 p2 q2
  clear x1 x2
  have BW := Lib.hid bW
  have ZW := Lib.hid zW
  have HC := Lib.hid hC
  have HR := Lib.hid hR
  have HC2 := Lib.hid hC2
  have HR2 := Lib.hid hR2
  clear bW zW hC hR hC2 hR2
  have hxx : (x != x) = false := by simp
  go_enter Tryz.func11, Tryz.ntmps11
  go_wp2_with fail
  rw [← hW]
  clear hW
  refine (eqColumnS_same A1 B1 c1 e1 cs _ ((HC.out.below BW.out).mono BW.out.size) ((HC2.out.below BW.out).mono BW.out.size)).mono ?_
  rintro e w1 ⟨rfl, b1⟩
  have d1 := (b1.cell (p := ⟨w.heap.size, 1, none⟩) (by have := ZW.out; simp only; omega)).trans p1
  have d2 := (b1.cell (p := ⟨w.heap.size, 2, none⟩) (by have := ZW.out; simp only; omega)).trans p2
  have f1 := (b1.cell (p := ⟨w.heap.size + 1, 1, none⟩) (by have := ZW.out; simp only; omega)).trans q1
  have f2 := (b1.cell (p := ⟨w.heap.size + 1, 2, none⟩) (by have := ZW.out; simp only; omega)).trans q2
  have BB := Lib.hid (BW.out.trans (b1.mono BW.out.size))
  clear b1 p1 q1 p2 q2
  go_wp2_with fail
  refine (eqRuleS_same A2 B2 c2 e2 rs _ ((HR.out.below BB.out).mono BB.out.size) ((HR2.out.below BB.out).mono BB.out.size)).mono ?_
  rintro e w2 ⟨rfl, b2⟩
  have B3 := Lib.hid (BB.out.trans (b2.mono BB.out.size))
  clear b2
  go_wp2
  go_ret
  exact ⟨rfl, B3.out⟩
end Go.Proofs.YtamfmemdhldmjaaGreatDoor
