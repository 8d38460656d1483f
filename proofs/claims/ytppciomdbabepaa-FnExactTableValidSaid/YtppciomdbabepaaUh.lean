/-
  Tables compared by the laws: two that read as the same table are equal.
-/
import Derived.Test.YtppciomdbabepaaUg
import Derived.Test.YtppciomdbabepaaRd4
namespace Go.Proofs.Ytppciomdbabepaa
open Go.RowKit Sets

theorem two_blocks (w : World) (c1 c2 : Array Value) (t1 t2 : TypeId) (W : World) (hW : W = (w.alloc (.cells c1 t1)).alloc (.cells c2 t2)) :
    (∀ o, W.cell? ⟨w.heap.size, o, none⟩ = c1[o]?) ∧ (∀ o, W.cell? ⟨w.heap.size + 1, o, none⟩ = c2[o]?) ∧ Below w.heap.size w W ∧ W.heap.size = w.heap.size + 2 := by
  subst hW
  have b1 : Below (w.heap.size + 1) (w.alloc (.cells c1 t1)) ((w.alloc (.cells c1 t1)).alloc (.cells c2 t2)) := (Below.refl _ _).alloc (by simp) _
  have z1 : (w.alloc (.cells c1 t1)).heap.size = w.heap.size + 1 := by simp
  refine ⟨fun o => ?_, fun o => ?_, ?_, by simp⟩
  · rw [b1.cell (p := ⟨w.heap.size, o, none⟩) (by simp), World.cell?_alloc_new]
  · rw [← z1, World.cell?_alloc_new]
  · exact ((Below.refl _ _).alloc (Nat.le_refl _) _).alloc (by simp) _
set_option maxRecDepth 100000 in
theorem eqColT_same (L : Bool) (a b : Int) (w : World) :
    Calls Try.prog 81 #[.agg #[.bool L, .int .i64 a, .int .i64 b], .agg #[.bool L, .int .i64 a, .int .i64 b]] w fun e w' => e = .returned (.bool true) ∧ Below w.heap.size w w' := by
  obtain ⟨W, hW⟩ : ∃ W, W = (w.alloc (.cells #[.bool L, .int .i64 a, .int .i64 b] 61)).alloc (.cells #[.bool L, .int .i64 a, .int .i64 b] 61) := ⟨_, rfl⟩
  obtain ⟨x1, x2, bW, zW⟩ := two_blocks w _ _ _ _ W hW
  have p0 := x1 0
  have p1 := x1 1
  have p2 := x1 2
  have q0 := x2 0
  have q1 := x2 1
  have q2 := x2 2
  simp at p0 p1 p2 q0 q1 q2
  clear x1 x2 zW
  have BW := Lib.hid bW
  clear bW
  have h1 : (L != L) = false := by simp
  have h2 : (a != a) = false := by simp
  have h3 : (b != b) = false := by simp
  subst hW
  go_enter Try.func81, Try.ntmps81
  go_wp2
  go_ret
  exact ⟨rfl, BW.out⟩

set_option maxRecDepth 100000 in
set_option maxHeartbeats 1000000 in
theorem eqColumnS_same (A1 A2 : Option Addr) (c1 c2 : Nat) (cs : List Co) (w : World) (h1 : ColsAt w w.heap.size A1 c1 cs) (h2 : ColsAt w w.heap.size A2 c2 cs) :
    Calls Try.prog 50 #[.slice A1 cs.length c1, .slice A2 cs.length c2] w fun e w' => e = .returned (.bool true) ∧ Below w.heap.size w w' := by
  obtain ⟨hlc, hc, hrow⟩ := h1
  obtain ⟨hlc2, hcc2, hrow2⟩ := h2
  have hne : ((cs.length : Int) != (cs.length : Int)) = false := by simp
  go_enter Try.func50, Try.ntmps50
  go_wp2
  go_loopw [5] (fun i wr => ∃ k : Nat, k ≤ cs.length ∧ i = .int .i64 k ∧ Below w.heap.size w wr) (fun i _ => cs.length - (intOf i).toNat)
  case atStart => exact ⟨0, Nat.zero_le _, rfl, Below.refl _ _⟩
  case round =>
    obtain ⟨k, hk, rfl, hb⟩ := hrel
    by_cases hlt : k < cs.length
    · rcases hrow with hz | ⟨b, off, rfl, hB, hrow⟩
      · omega
      · rcases hrow2 with hz | ⟨b2, off2, rfl, hB2, hrow2⟩
        · omega
        · have hkl : (k : Int) < (cs.length : Int) := by omega
          obtain ⟨u1, u2, u3⟩ := hrow k hlt
          obtain ⟨v1, v2, v3⟩ := hrow2 k hlt
          have d1 := (hb.cell (p := ⟨b, off + k * 3, none⟩) hB).trans u1
          have d2 := (hb.cell (p := ⟨b, off + k * 3 + 1, none⟩) hB).trans u2
          have d3 := (hb.cell (p := ⟨b, off + k * 3 + 2, none⟩) hB).trans u3
          have e1 := (hb.cell (p := ⟨b2, off2 + k * 3, none⟩) hB2).trans v1
          have e2 := (hb.cell (p := ⟨b2, off2 + k * 3 + 1, none⟩) hB2).trans v2
          have e3 := (hb.cell (p := ⟨b2, off2 + k * 3 + 2, none⟩) hB2).trans v3
          obtain ⟨⟨L, x, y⟩, hv⟩ : ∃ v, cs.getD k (false, 0, 0) = v := ⟨_, rfl⟩
          rw [hv] at d1 d2 d3 e1 e2 e3
          simp only [] at d1 d2 d3 e1 e2 e3
          clear u1 u2 u3 v1 v2 v3 hv hrow hrow2
          go_wp2
          go_still_tail 8, (by kernel_rfl)
          change wpList _ _ _ _ _ wr.drew
          have hb2 : Below w.heap.size w wr.drew := hb.drew
          generalize wr.drew = w2 at hb2 ⊢
          go_wp2_with (go_at_call 81; refine (eqColT_same _ _ _ _).mono ?_; rintro e w' ⟨rfl, hb3⟩)
          have hb4 := hb2.trans (hb3.mono hb2.size)
          go_roundw
          case rel => exact ⟨k + 1, hlt, by go_num, hb4⟩
          case measure => simp [intOf]; omega
    · obtain rfl : k = cs.length := by omega
      go_wp2
      go_ret
      exact ⟨rfl, hb⟩

set_option maxRecDepth 100000 in
set_option maxHeartbeats 1000000 in
theorem eqSpanSS_same (A1 A2 : Option Addr) (c1 c2 : Nat) (xss : List (List Sp)) (w : World) (h1 : SetsAt w w.heap.size A1 c1 xss) (h2 : SetsAt w w.heap.size A2 c2 xss) :
    Calls Try.prog 99 #[.slice A1 xss.length c1, .slice A2 xss.length c2] w fun e w' => e = .returned (.bool true) ∧ Below w.heap.size w w' := by
  obtain ⟨hlc, hc, hrow⟩ := h1
  obtain ⟨hlc2, hcc2, hrow2⟩ := h2
  have hne : ((xss.length : Int) != (xss.length : Int)) = false := by simp
  go_enter Try.func99, Try.ntmps99
  go_wp2
  go_loopw [5] (fun i wr => ∃ k : Nat, k ≤ xss.length ∧ i = .int .i64 k ∧ Below w.heap.size w wr) (fun i _ => xss.length - (intOf i).toNat)
  case atStart => exact ⟨0, Nat.zero_le _, rfl, Below.refl _ _⟩
  case round =>
    obtain ⟨k, hk, rfl, hb⟩ := hrel
    by_cases hlt : k < xss.length
    · rcases hrow with hz | ⟨b, off, rfl, hB, hrow⟩
      · omega
      · rcases hrow2 with hz | ⟨b2, off2, rfl, hB2, hrow2⟩
        · omega
        · have hkl : (k : Int) < (xss.length : Int) := by omega
          obtain ⟨A', c', u1, u2⟩ := hrow k hlt
          obtain ⟨A'', c'', v1, v2⟩ := hrow2 k hlt
          rw [Nat.mul_one] at u1 v1
          have d1 := (hb.cell (p := ⟨b, off + k, none⟩) hB).trans u1
          have e1 := (hb.cell (p := ⟨b2, off2 + k, none⟩) hB2).trans v1
          have U2 := Lib.hid (((u2.below hb).mono hb.size).below (Below.refl wr.heap.size wr).drew)
          have V2 := Lib.hid (((v2.below hb).mono hb.size).below (Below.refl wr.heap.size wr).drew)
          generalize xss.getD k [] = xs at d1 e1 U2 V2
          clear u1 u2 v1 v2 hrow hrow2
          go_wp2
          go_still_tail 8, (by kernel_rfl)
          change wpList _ _ _ _ _ wr.drew
          have hb2 : Below w.heap.size w wr.drew := hb.drew
          have hz2 : wr.drew.heap.size = wr.heap.size := rfl
          rw [← hz2] at U2 V2
          generalize wr.drew = w2 at hb2 U2 V2 ⊢
          go_wp2_with (go_at_call 110; refine (eqSpanS_any _ _ _ _ xs xs _ U2.out V2.out).mono ?_; rintro e w' ⟨rfl, hb3⟩; rw [(same_iff xs xs).2 rfl])
          have hb4 := hb2.trans (hb3.mono hb2.size)
          go_roundw
          case rel => exact ⟨k + 1, hlt, by go_num, hb4⟩
          case measure => simp [intOf]; omega
    · obtain rfl : k = xss.length := by omega
      go_wp2
      go_ret
      exact ⟨rfl, hb⟩
set_option maxRecDepth 100000 in
theorem eqRule_same (A1 A2 : Option Addr) (c1 c2 : Nat) (xss : List (List Sp)) (x : Int) (w : World) (h1 : SetsAt w w.heap.size A1 c1 xss) (h2 : SetsAt w w.heap.size A2 c2 xss) :
    Calls Try.prog 82 #[.agg #[.slice A1 xss.length c1, .int .i64 x], .agg #[.slice A2 xss.length c2, .int .i64 x]] w fun e w' => e = .returned (.bool true) ∧ Below w.heap.size w w' := by
  obtain ⟨W, hW⟩ : ∃ W, W = (w.alloc (.cells #[.slice A1 xss.length c1, .int .i64 x] 65)).alloc (.cells #[.slice A2 xss.length c2, .int .i64 x] 65) := ⟨_, rfl⟩
  obtain ⟨x1, x2, bW, zW⟩ := two_blocks w _ _ _ _ W hW
  have p1 := x1 1
  have q1 := x2 1
  simp at p1 q1
  clear x1 x2
  have BW := Lib.hid bW
  have ZW := Lib.hid zW
  have H1 := Lib.hid h1
  have H2 := Lib.hid h2
  clear bW zW h1 h2
  have hxx : (x != x) = false := by simp
  go_enter Try.func82, Try.ntmps82
  go_wp2_with fail
  rw [← hW]
  clear hW
  refine (eqSpanSS_same A1 A2 c1 c2 xss _ ((H1.out.below BW.out).mono BW.out.size) ((H2.out.below BW.out).mono BW.out.size)).mono ?_
  rintro e w1 ⟨rfl, b1⟩
  have d1 := (b1.cell (p := ⟨w.heap.size, 1, none⟩) (by have := ZW.out; simp only; omega)).trans p1
  have e1 := (b1.cell (p := ⟨w.heap.size + 1, 1, none⟩) (by have := ZW.out; simp only; omega)).trans q1
  have B1 := Lib.hid (BW.out.trans (b1.mono BW.out.size))
  clear b1 p1 q1
  go_wp2
  go_ret
  exact ⟨rfl, B1.out⟩

set_option maxRecDepth 100000 in
set_option maxHeartbeats 1000000 in
theorem eqRuleS_same (A1 A2 : Option Addr) (c1 c2 : Nat) (rs : List Rl) (w : World) (h1 : RulesAt w w.heap.size A1 c1 rs) (h2 : RulesAt w w.heap.size A2 c2 rs) :
    Calls Try.prog 51 #[.slice A1 rs.length c1, .slice A2 rs.length c2] w fun e w' => e = .returned (.bool true) ∧ Below w.heap.size w w' := by
  obtain ⟨hlc, hc, hrow⟩ := h1
  obtain ⟨hlc2, hcc2, hrow2⟩ := h2
  have hne : ((rs.length : Int) != (rs.length : Int)) = false := by simp
  go_enter Try.func51, Try.ntmps51
  go_wp2
  go_loopw [5] (fun i wr => ∃ k : Nat, k ≤ rs.length ∧ i = .int .i64 k ∧ Below w.heap.size w wr) (fun i _ => rs.length - (intOf i).toNat)
  case atStart => exact ⟨0, Nat.zero_le _, rfl, Below.refl _ _⟩
  case round =>
    obtain ⟨k, hk, rfl, hb⟩ := hrel
    by_cases hlt : k < rs.length
    · rcases hrow with hz | ⟨b, off, rfl, hB, hrow⟩
      · omega
      · rcases hrow2 with hz | ⟨b2, off2, rfl, hB2, hrow2⟩
        · omega
        · have hkl : (k : Int) < (rs.length : Int) := by omega
          obtain ⟨⟨A', c', u1, u2⟩, u3⟩ := hrow k hlt
          obtain ⟨⟨A'', c'', v1, v2⟩, v3⟩ := hrow2 k hlt
          have d1 := (hb.cell (p := ⟨b, off + k * 2, none⟩) hB).trans u1
          have d2 := (hb.cell (p := ⟨b, off + k * 2 + 1, none⟩) hB).trans u3
          have e1 := (hb.cell (p := ⟨b2, off2 + k * 2, none⟩) hB2).trans v1
          have e2 := (hb.cell (p := ⟨b2, off2 + k * 2 + 1, none⟩) hB2).trans v3
          have U2 := Lib.hid (((u2.below hb).mono hb.size).below (Below.refl wr.heap.size wr).drew)
          have V2 := Lib.hid (((v2.below hb).mono hb.size).below (Below.refl wr.heap.size wr).drew)
          obtain ⟨xss, x, hxs⟩ : ∃ xss x, rs.getD k ([], 0) = (xss, x) := ⟨_, _, rfl⟩
          rw [hxs] at d1 d2 e1 e2 U2 V2
          simp only [] at d1 d2 e1 e2
          clear u1 u2 u3 v1 v2 v3 hrow hrow2 hxs
          go_wp2
          go_still_tail 8, (by kernel_rfl)
          change wpList _ _ _ _ _ wr.drew
          have hb2 : Below w.heap.size w wr.drew := hb.drew
          have hz2 : wr.drew.heap.size = wr.heap.size := rfl
          rw [← hz2] at U2 V2
          generalize wr.drew = w2 at hb2 U2 V2 ⊢
          clear hz2
          go_wp2_with (go_at_call 82; refine (eqRule_same _ _ _ _ xss x _ U2.out V2.out).mono ?_; rintro e w' ⟨rfl, hb3⟩)
          have hb4 := hb2.trans (hb3.mono hb2.size)
          go_roundw
          case rel => exact ⟨k + 1, hlt, by go_num, hb4⟩
          case measure => simp [intOf]; omega
    · obtain rfl : k = rs.length := by omega
      go_wp2
      go_ret
      exact ⟨rfl, hb⟩

set_option maxRecDepth 100000 in
set_option maxHeartbeats 1000000 in
theorem eqTable_same (v1 v2 : Value) (t : Tb) (w : World) (h1 : TabAt w w.heap.size v1 t) (h2 : TabAt w w.heap.size v2 t) :
    Calls Try.prog 15 #[v1, v2] w fun e w' => e = .returned (.bool true) ∧ Below w.heap.size w w' := by
  obtain ⟨A1, c1, A2, c2, rfl, hC, hR⟩ := h1
  obtain ⟨B1, e1, B2, e2, rfl, hC2, hR2⟩ := h2
  obtain ⟨cs, x, rs⟩ := t
  simp only [] at hC hR hC2 hR2 ⊢
  obtain ⟨W, hW⟩ : ∃ W, W = (w.alloc (.cells #[.slice A1 cs.length c1, .int .i64 x, .slice A2 rs.length c2] 31)).alloc (.cells #[.slice B1 cs.length e1, .int .i64 x, .slice B2 rs.length e2] 31) := ⟨_, rfl⟩
  obtain ⟨x1, x2, bW, zW⟩ := two_blocks w _ _ _ _ W hW
  have p1 := x1 1
  have q1 := x2 1
  have p2 := x1 2
  have q2 := x2 2
  simp at p1 q1 p2 q2
  clear x1 x2
  have BW := Lib.hid bW
  have ZW := Lib.hid zW
  have HC := Lib.hid hC
  have HR := Lib.hid hR
  have HC2 := Lib.hid hC2
  have HR2 := Lib.hid hR2
  clear bW zW hC hR hC2 hR2
  have hxx : (x != x) = false := by simp
  go_enter Try.func15, Try.ntmps15
  go_wp2_with fail
  rw [← hW]
  clear hW
  refine (eqColumnS_same A1 B1 c1 e1 cs _ ((HC.out.below BW.out).mono BW.out.size) ((HC2.out.below BW.out).mono BW.out.size)).mono ?_
  rintro e w1 ⟨rfl, b1⟩
  have d1 := (b1.cell (p := ⟨w.heap.size, 1, none⟩) (by have := ZW.out; simp only; omega)).trans p1
  have d2 := (b1.cell (p := ⟨w.heap.size, 2, none⟩) (by have := ZW.out; simp only; omega)).trans p2
  have f1 := (b1.cell (p := ⟨w.heap.size + 1, 1, none⟩) (by have := ZW.out; simp only; omega)).trans q1
  have f2 := (b1.cell (p := ⟨w.heap.size + 1, 2, none⟩) (by have := ZW.out; simp only; omega)).trans q2
  have BB := Lib.hid (BW.out.trans (b1.mono BW.out.size))
  clear b1 p1 q1 p2 q2
  go_wp2_with fail
  refine (eqRuleS_same A2 B2 c2 e2 rs _ ((HR.out.below BB.out).mono BB.out.size) ((HR2.out.below BB.out).mono BB.out.size)).mono ?_
  rintro e w2 ⟨rfl, b2⟩
  have B3 := Lib.hid (BB.out.trans (b2.mono BB.out.size))
  clear b2
  go_wp2
  go_ret
  exact ⟨rfl, B3.out⟩
end Go.Proofs.Ytppciomdbabepaa
