/-
  The count of a table's size.
-/
import Derived.Test.YtppciomdbabepaaUf
namespace Go.Proofs.Ytppciomdbabepaa
open Go.RowKit Sets

set_option maxRecDepth 100000 in
theorem szColumnS_any (A : Option Addr) (n c : Nat) (left : Int) (w : World) (hn : n ≤ 9223372036854775807) (h1 : -1 ≤ left) (h2 : left ≤ 1048576) :
    Calls Try.prog 39 #[.slice A n c, .int .i64 left] w fun e w' => e = .returned (.int .i64 (if left < n then -1 else left - n)) ∧ w = w' := by
  go_enter Try.func39, Try.ntmps39
  by_cases hlt : left < n
  · rw [if_pos hlt]
    have h3 : left - (n : Int) < 0 := by omega
    go_wp2
    go_ret
    exact ⟨rfl, rfl⟩
  · rw [if_neg hlt]
    have h3 : 0 ≤ left - (n : Int) := by omega
    go_wp2
    go_ret
    exact ⟨rfl, rfl⟩

set_option maxRecDepth 100000 in
set_option maxHeartbeats 1000000 in
theorem szSpanSS_any (A : Option Addr) (c : Nat) (xss : List (List Sp)) (left : Int) (w : World) (h : SetsAt w w.heap.size A c xss) (h1 : -1 ≤ left) (h2 : left ≤ 1048576) :
    Calls Try.prog 93 #[.slice A xss.length c, .int .i64 left] w fun e w' => ∃ r : Int, e = .returned (.int .i64 r) ∧ -1 ≤ r ∧ r ≤ max left (-1) ∧ (0 ≤ r → xss.length ≤ 1048576 ∧ ∀ i, i < xss.length → (xss.getD i []).length ≤ 1048576) ∧ w = w' := by
  have H := Lib.hid h
  obtain ⟨hlc, hc, hrow⟩ := h
  go_enter Try.func93, Try.ntmps93
  by_cases hlt : left < xss.length
  · have h3 : left - (xss.length : Int) < 0 := by omega
    go_wp2
    go_ret
    exact ⟨-1, rfl, by omega, by omega, fun h => absurd h (by omega), rfl⟩
  · have h3 : 0 ≤ left - (xss.length : Int) := by omega
    go_wp2
    go_loopw [1, 5] (fun l i wr => ∃ (k : Nat) (r : Int), k ≤ xss.length ∧ i = .int .i64 k ∧ l = .int .i64 r ∧ 0 ≤ r ∧ r ≤ left ∧ Hid (∀ i, i < k → (xss.getD i []).length ≤ 1048576) ∧ w = wr) (fun _ i _ => xss.length - (intOf i).toNat)
    case atStart => exact ⟨0, _, Nat.zero_le _, rfl, rfl, h3, by omega, Lib.hid (fun i hi => absurd hi (by omega)), rfl⟩
    case round =>
      obtain ⟨k, r, hk, rfl, rfl, hr0, hr1, hall, rfl⟩ := hrel
      by_cases hklt : k < xss.length
      · rcases hrow with hz | ⟨b, off, rfl, hB, hrow⟩
        · omega
        · have hkl : (k : Int) < (xss.length : Int) := by omega
          obtain ⟨A', c', q1, q2⟩ := hrow k hklt
          rw [Nat.mul_one] at q1
          have hl2 : (xss.getD k []).length ≤ 9223372036854775807 := by have := q2.1; have := q2.2.1; omega
          have HL2 := Lib.hid hl2
          generalize hm : (xss.getD k []).length = m at q1 HL2
          have HM := Lib.hid hm
          clear hm q2 hl2 hrow
          by_cases hc2 : r < m
          · go_wp2_with (go_at_call 105; refine (szSpanS_any _ _ _ _ _ HL2.out (by omega) (by omega)).mono ?_; rintro e w' ⟨rfl, rfl⟩; rw [if_pos hc2])
            go_ret
            exact ⟨-1, rfl, by omega, by omega, fun h => absurd h (by omega), rfl⟩
          · have h4 : 0 ≤ r - (m : Int) := by omega
            go_wp2_with (go_at_call 105; refine (szSpanS_any _ _ _ _ _ HL2.out (by omega) (by omega)).mono ?_; rintro e w' ⟨rfl, rfl⟩; rw [if_neg hc2])
            go_roundw
            case rel =>
              refine ⟨k + 1, r - m, hklt, by go_num, rfl, h4, by omega, Lib.hid (fun i hi => ?_), by trivial⟩
              by_cases e : i = k
              · subst e; rw [HM.out]; omega
              · exact hall.out i (by omega)
            case measure => simp [intOf]; omega
      · obtain rfl : k = xss.length := by omega
        go_wp2
        go_ret
        exact ⟨r, rfl, by omega, by omega, fun _ => ⟨by omega, hall.out⟩, rfl⟩
set_option maxRecDepth 100000 in
theorem szRule_any (A : Option Addr) (c : Nat) (xss : List (List Sp)) (x : Int) (left : Int) (w : World) (h : SetsAt w w.heap.size A c xss) (h1 : -1 ≤ left) (h2 : left ≤ 1048576) :
    Calls Try.prog 72 #[.agg #[.slice A xss.length c, .int .i64 x], .int .i64 left] w fun e w' => ∃ r : Int, e = .returned (.int .i64 r) ∧ -1 ≤ r ∧ r ≤ max left (-1) ∧ (0 ≤ r → xss.length ≤ 1048576 ∧ ∀ i, i < xss.length → (xss.getD i []).length ≤ 1048576) ∧ Below w.heap.size w w' := by
  have H := Lib.hid h
  clear h
  go_enter Try.func72, Try.ntmps72
  go_wp2_with fail
  have hb : Below w.heap.size w (w.alloc (.cells #[.slice A xss.length c, .int .i64 x] 91)) := (Below.refl _ _).alloc (Nat.le_refl _) _
  generalize w.alloc (.cells #[.slice A xss.length c, .int .i64 x] 91) = W at hb ⊢
  refine (szSpanSS_any A c xss left _ ((H.out.below hb).mono hb.size) h1 h2).mono ?_
  rintro e w' ⟨r, rfl, r1, r2, r3, rfl⟩
  have R3 := Lib.hid r3
  clear r3
  by_cases hr : r < 0
  · go_wp2
    go_ret
    exact ⟨-1, rfl, by omega, by omega, fun h => absurd h (by omega), hb⟩
  · have hr' : 0 ≤ r := by omega
    go_wp2
    go_ret
    exact ⟨r, rfl, r1, r2, R3.out, hb⟩
/-- the bounds of the first k rules -/
def RlSmall (rs : List Rl) (k : Nat) : Prop := ∀ i, i < k → (rs.getD i ([], 0)).1.length ≤ 1048576 ∧ ∀ j, j < (rs.getD i ([], 0)).1.length → ((rs.getD i ([], 0)).1.getD j []).length ≤ 1048576
set_option maxRecDepth 100000 in
set_option maxHeartbeats 1000000 in
theorem szRuleS_any (A : Option Addr) (c : Nat) (rs : List Rl) (left : Int) (w : World) (h : RulesAt w w.heap.size A c rs) (h1 : -1 ≤ left) (h2 : left ≤ 1048576) :
    Calls Try.prog 40 #[.slice A rs.length c, .int .i64 left] w fun e w' => ∃ r : Int, e = .returned (.int .i64 r) ∧ -1 ≤ r ∧ r ≤ max left (-1) ∧ (0 ≤ r → rs.length ≤ 1048576 ∧ RlSmall rs rs.length) ∧ Below w.heap.size w w' := by
  have H := Lib.hid h
  obtain ⟨hlc, hc, hrow⟩ := h
  go_enter Try.func40, Try.ntmps40
  by_cases hlt : left < rs.length
  · have h3 : left - (rs.length : Int) < 0 := by omega
    go_wp2
    go_ret
    exact ⟨-1, rfl, by omega, by omega, fun h => absurd h (by omega), Below.refl _ _⟩
  · have h3 : 0 ≤ left - (rs.length : Int) := by omega
    go_wp2
    go_loopw [1, 5] (fun l i wr => ∃ (k : Nat) (r : Int), k ≤ rs.length ∧ i = .int .i64 k ∧ l = .int .i64 r ∧ 0 ≤ r ∧ r ≤ left ∧ RlSmall rs k ∧ Below w.heap.size w wr) (fun _ i _ => rs.length - (intOf i).toNat)
    case atStart => exact ⟨0, _, Nat.zero_le _, rfl, rfl, h3, by omega, (fun i hi => absurd hi (by omega)), Below.refl _ _⟩
    case round =>
      obtain ⟨k, r, hk, rfl, rfl, hr0, hr1, hall, hb⟩ := hrel
      by_cases hklt : k < rs.length
      · rcases hrow with hz | ⟨b, off, rfl, hB, hrow⟩
        · omega
        · have hkl : (k : Int) < (rs.length : Int) := by omega
          obtain ⟨⟨A', c', q1, q2⟩, q3⟩ := hrow k hklt
          have d1 := (hb.cell (p := ⟨b, off + k * 2, none⟩) hB).trans q1
          have d2 := (hb.cell (p := ⟨b, off + k * 2 + 1, none⟩) hB).trans q3
          have HR := Lib.hid ((q2.below hb).mono hb.size)
          have HBB := Lib.hid hb
          obtain ⟨xss, x, hxs⟩ : ∃ xss x, rs.getD k ([], 0) = (xss, x) := ⟨_, _, rfl⟩
          rw [hxs] at d1 d2 HR
          have HXS := Lib.hid hxs
          simp only [] at d1 d2
          have HALL := Lib.hid hall
          clear hxs q1 q2 q3 hrow hall
          go_wp2_with fail
          refine (szRule_any A' c' xss x r _ HR.out (by omega) (by omega)).mono ?_
          rintro e w1 ⟨r', rfl, r1, r2, r3, hb1⟩
          have R3 := Lib.hid r3
          have R2 := Lib.hid r2
          have HB1 := Lib.hid (HBB.out.trans (hb1.mono HBB.out.size))
          clear r3 r2
          by_cases hc2 : r' < 0
          · go_wp2
            go_ret
            exact ⟨-1, rfl, by omega, by omega, fun h => absurd h (by omega), HB1.out⟩
          · have h4 : 0 ≤ r' := by omega
            go_wp2
            go_roundw
            case rel =>
              refine ⟨k + 1, r', hklt, by go_num, rfl, h4, by have := R2.out; omega, (fun i hi => ?_), HB1.out⟩
              by_cases e : i = k
              · subst e; rw [HXS.out]; exact R3.out h4
              · exact HALL.out i (by omega)
            case measure => simp [intOf]; omega
      · obtain rfl : k = rs.length := by omega
        go_wp2
        go_ret
        exact ⟨r, rfl, by omega, by omega, fun _ => ⟨by omega, hall⟩, hb⟩
set_option maxRecDepth 100000 in
set_option maxHeartbeats 1000000 in
theorem szTable_any (v : Value) (t : Tb) (left : Int) (w : World) (h : TabAt w w.heap.size v t) (h1 : -1 ≤ left) (h2 : left ≤ 1048576) :
    Calls Try.prog 11 #[v, .int .i64 left] w fun e w' => ∃ r : Int, e = .returned (.int .i64 r) ∧ -1 ≤ r ∧ r ≤ max left (-1) ∧ (0 ≤ r → TbSmall t) ∧ Below w.heap.size w w' := by
  obtain ⟨A1, c1, A2, c2, rfl, hC, hR⟩ := h
  have HN := Lib.hid (show t.cols.length ≤ 9223372036854775807 by have := hC.1; have := hC.2.1; omega)
  have HR := Lib.hid hR
  clear hC hR
  obtain ⟨cs, x, rs⟩ := t
  simp only [] at HN HR ⊢
  go_enter Try.func11, Try.ntmps11
  have hb : Below w.heap.size w (w.alloc (.cells #[.slice A1 cs.length c1, .int .i64 x, .slice A2 rs.length c2] 25)) := (Below.refl _ _).alloc (Nat.le_refl _) _
  have HB := Lib.hid hb
  clear hb
  by_cases hlt : left < cs.length
  · go_wp2_with (go_at_call 39; refine (szColumnS_any _ _ _ _ _ HN.out (by omega) (by omega)).mono ?_; rintro e w' ⟨rfl, rfl⟩; rw [if_pos hlt])
    go_ret
    exact ⟨-1, rfl, by omega, by omega, fun h => absurd h (by omega), HB.out⟩
  · have h3 : 0 ≤ left - (cs.length : Int) := by omega
    go_wp2_with (go_at_call 39; refine (szColumnS_any _ _ _ _ _ HN.out (by omega) (by omega)).mono ?_; rintro e w' ⟨rfl, rfl⟩; rw [if_neg hlt])
    refine (szRuleS_any A2 c2 rs _ _ ((HR.out.below HB.out).mono HB.out.size) (by omega) (by omega)).mono ?_
    rintro e w1 ⟨r, rfl, r1, r2, r3, hb1⟩
    have R3 := Lib.hid r3
    have R2 := Lib.hid r2
    have HB1 := Lib.hid (HB.out.trans (hb1.mono HB.out.size))
    clear r3 r2
    by_cases hc2 : r < 0
    · go_wp2
      go_ret
      exact ⟨-1, rfl, by omega, by omega, fun h => absurd h (by omega), HB1.out⟩
    · have h4 : 0 ≤ r := by omega
      go_wp2
      go_ret
      exact ⟨r, rfl, by omega, by have := R2.out; omega, fun _ => ⟨by show cs.length ≤ _; omega, (R3.out h4).1, (R3.out h4).2⟩, HB1.out⟩
end Go.Proofs.Ytppciomdbabepaa
