/-
  Results in memory: copies, sizes, equality.
-/
import Derived.Test.YtppciomdbabepaaUaM
import Derived.Test.YtppciomdbabepaaUgM
import Derived.Test.YtppciomdbabepaaUiM
namespace Go.Proofs.Ytppciomdbabepaa
open Go.RowKit Sets

abbrev Rs := Int × List Int
/-- A value that is a result. -/
def ResAt (w : World) (B : Nat) (v : Value) (r : Rs) : Prop := ∃ A c, v = .agg #[.int .i64 r.1, .slice A r.2.length c] ∧ IntsAt w B A c r.2
theorem ResAt.below {w w' : World} {B : Nat} {v : Value} {r : Rs} (h : ResAt w B v r) (hb : Below B w w') : ResAt w' B v r := by
  obtain ⟨A, c, hv, h1⟩ := h
  exact ⟨A, c, hv, h1.below hb⟩
theorem ResAt.mono {w : World} {B B' : Nat} {v : Value} {r : Rs} (h : ResAt w B v r) (hb : B ≤ B') : ResAt w B' v r := by
  obtain ⟨A, c, hv, h1⟩ := h
  exact ⟨A, c, hv, h1.mono hb⟩
theorem ResAt.step {w w' : World} {v : Value} {r : Rs} (h : ResAt w w.heap.size v r) (hb : Below w.heap.size w w') : ResAt w' w'.heap.size v r := (h.below hb).mono hb.size
/-- A block that holds the two cells of a result. -/
def RBox (w : World) (g : Nat) (x : Int) (A : Option Addr) (n c : Nat) : Prop :=
  w.cell? ⟨g, 0, none⟩ = some (.int .i64 x) ∧ w.cell? ⟨g, 1, none⟩ = some (.slice A n c) ∧ g < w.heap.size
theorem RBox.made (w : World) (x : Int) (A : Option Addr) (n c : Nat) (t : TypeId) : RBox (w.alloc (.cells #[.int .i64 x, .slice A n c] t)) w.heap.size x A n c := by
  refine ⟨?_, ?_, by simp⟩ <;> (rw [World.cell?_alloc_new]; rfl)
theorem RBox.step {w w' : World} {g : Nat} {x : Int} {A : Option Addr} {n c : Nat} (h : RBox w g x A n c) (hb : Below w.heap.size w w') : RBox w' g x A n c :=
  ⟨(hb.cell (p := ⟨g, 0, none⟩) h.2.2).trans h.1, (hb.cell (p := ⟨g, 1, none⟩) h.2.2).trans h.2.1, Nat.lt_of_lt_of_le h.2.2 hb.size⟩

def iEq (xs ys : List Int) (k : Nat) : Bool := xs.getD k 0 == ys.getD k 0
def isB (xs ys : List Int) : Bool := decide (xs.length = ys.length) && (List.range xs.length).all (iEq xs ys)
/-- the two results are equal -/
def resB (a b : Rs) : Bool := (a.1 == b.1) && isB a.2 b.2

set_option maxRecDepth 100000 in
theorem szIntS_any (A : Option Addr) (n c : Nat) (left : Int) (w : World) (hn : n ≤ 9223372036854775807) (h1 : -1 ≤ left) (h2 : left ≤ 1048576) :
    Calls Try.prog 66 #[.slice A n c, .int .i64 left] w fun e w' => e = .returned (.int .i64 (if left < n then -1 else left - n)) ∧ w = w' := by
  go_enter Try.func66, Try.ntmps66
  by_cases hlt : left < n
  · rw [if_pos hlt]
    have h3 : left - (n : Int) < 0 := by omega
    go_wp2
    go_ret
    exact ⟨rfl, rfl⟩
  · rw [if_neg hlt]
    have h3 : 0 ≤ left - (n : Int) := by omega
    go_wp2
    go_ret
    exact ⟨rfl, rfl⟩
set_option maxRecDepth 100000 in
theorem szResult_any (v : Value) (r : Rs) (left : Int) (w : World) (h : ResAt w w.heap.size v r) (h1 : -1 ≤ left) (h2 : left ≤ 1048576) :
    Calls Try.prog 31 #[v, .int .i64 left] w fun e w' => ∃ q : Int, e = .returned (.int .i64 q) ∧ -1 ≤ q ∧ q ≤ max left (-1) ∧ (0 ≤ q → r.2.length ≤ 1048576) ∧ Below w.heap.size w w' := by
  obtain ⟨A, c, rfl, hI⟩ := h
  have HN := Lib.hid (show r.2.length ≤ 9223372036854775807 by have := hI.2.1; have := hI.2.2.1; omega)
  clear hI
  obtain ⟨x, ns⟩ := r
  simp only [] at HN ⊢
  have HB : Hid (Below w.heap.size w (w.alloc (.cells #[.int .i64 x, .slice A ns.length c] 48))) := Lib.hid ((Below.refl _ _).alloc (Nat.le_refl _) _)
  go_enter Try.func31, Try.ntmps31
  by_cases hlt : left < ns.length
  · go_wp2_with (go_at_call 66; refine (szIntS_any _ _ _ _ _ HN.out (by omega) (by omega)).mono ?_; rintro e w' ⟨rfl, rfl⟩; rw [if_pos hlt])
    go_ret
    exact ⟨-1, rfl, by omega, by omega, fun h => absurd h (by omega), HB.out⟩
  · have h3 : 0 ≤ left - (ns.length : Int) := by omega
    go_wp2_with (go_at_call 66; refine (szIntS_any _ _ _ _ _ HN.out (by omega) (by omega)).mono ?_; rintro e w' ⟨rfl, rfl⟩; rw [if_neg hlt])
    go_ret
    exact ⟨left - ns.length, rfl, by omega, by omega, fun _ => by omega, HB.out⟩

set_option maxRecDepth 100000 in
set_option maxHeartbeats 1000000 in
theorem toResult_any (v : Value) (r : Rs) (w : World) (h : ResAt w w.heap.size v r) (hn : r.2.length ≤ 1048576) :
    Calls Try.prog 33 #[v] w fun e w' => ∃ v', e = .returned v' ∧ ResAt w' w'.heap.size v' r ∧ Below w.heap.size w w' := by
  obtain ⟨A, c, rfl, hI⟩ := h
  have HI := Lib.hid hI
  clear hI
  obtain ⟨x, ns⟩ := r
  simp only [] at HI hn ⊢
  go_enter Try.func33, Try.ntmps33
  obtain ⟨W, hW⟩ : ∃ W, W = ((w.alloc (.cells #[.int .i64 x, .slice A ns.length c] 48)).alloc (.cells #[.int .i64 0, .slice none 0 0] 51)).alloc (.cells #[.int .i64 x, .slice none 0 0] 51) := ⟨_, rfl⟩
  obtain ⟨x1, x2, x3, f2, f3, bW, zW⟩ := three_blocks w _ _ _ _ _ _ W hW
  go_wp2_with fail
  rw [← hW]
  clear hW
  refine (toIntS_any A c ns _ (HI.out.step bW) hn).mono ?_
  rintro e w1 ⟨rfl, ro, oo, b1⟩
  have r0 := (b1.cell (p := ⟨w.heap.size + 1, 0, none⟩) (by simp only; omega)).trans (x2 0)
  have r1 := (b1.cell (p := ⟨w.heap.size + 1, 1, none⟩) (by simp only; omega)).trans (x2 1)
  have s0 := (b1.cell (p := ⟨w.heap.size + 2, 0, none⟩) (by simp only; omega)).trans (x3 0)
  have s1 := (b1.cell (p := ⟨w.heap.size + 2, 1, none⟩) (by simp only; omega)).trans (x3 1)
  have rf0 := (b1.frozen (p := ⟨w.heap.size + 1, 0, none⟩) (by simp only; omega)).trans (f2 0)
  have rf1 := (b1.frozen (p := ⟨w.heap.size + 1, 1, none⟩) (by simp only; omega)).trans (f2 1)
  have sf1 := (b1.frozen (p := ⟨w.heap.size + 2, 1, none⟩) (by simp only; omega)).trans (f3 1)
  simp at r0 r1 s0 s1
  have B1 := Lib.hid (bW.trans (b1.mono bW.size))
  have ZW := Lib.hid (And.intro zW oo.2.2)
  have RO := Lib.hid ro
  have HF := Lib.hid HI.out.1
  obtain ⟨b', hb'⟩ : ∃ b', b' = W.heap.size := ⟨_, rfl⟩
  have HB' := Lib.hid hb'
  rw [← hb']
  clear x1 x2 x3 f2 f3 bW zW b1 hb' ro oo
  go_wp2
  have zz := ZW.out
  have zb := HB'.out
  have u0 := (World.cell?_setCell_other w1 ⟨w.heap.size + 1 + 1, 1, none⟩ ⟨w.heap.size + 1, 0, none⟩ (.slice (some ⟨b', 0, none⟩) ns.length ns.length) (fun e => by injection e with e _; omega)).trans r0
  have u1 := (World.cell?_setCell_other w1 ⟨w.heap.size + 1 + 1, 1, none⟩ ⟨w.heap.size + 1, 1, none⟩ (.slice (some ⟨b', 0, none⟩) ns.length ns.length) (fun e => by injection e with e _; omega)).trans r1
  obtain ⟨k0, k1⟩ := set_two u0 u1 (.int .i64 x) (.slice (some ⟨b', 0, none⟩) ns.length ns.length)
  have hsz : (((w1.setCell ⟨w.heap.size + 1 + 1, 1, none⟩ (.slice (some ⟨b', 0, none⟩) ns.length ns.length)).setCell ⟨w.heap.size + 1, 0, none⟩ (.int .i64 x)).setCell ⟨w.heap.size + 1, 1, none⟩ (.slice (some ⟨b', 0, none⟩) ns.length ns.length)).heap.size = w1.heap.size := by simp [World.setCell]
  refine bodyPost_ret (v := .agg #[.int .i64 x, .slice (some ⟨b', 0, none⟩) ns.length ns.length]) (by simp [results, Try.results33, go_sem, k0, k1]) rfl ⟨_, rfl, ⟨some ⟨b', 0, none⟩, ns.length, rfl, IntRow.ints (fun i hi => ?_) (by rw [hsz, zb]; omega) HF.out (Nat.le_refl _) (by omega)⟩, two_below (B1.out.setCell (by simp only; omega) _) (by omega) _ _⟩
  rw [two_other (by omega), World.cell?_setCell_other _ _ _ _ (fun e => by injection e with e _; omega), zb]
  exact RO.out i hi

set_option maxRecDepth 100000 in
theorem eqResult_same (v1 v2 : Value) (r : Rs) (w : World) (h1 : ResAt w w.heap.size v1 r) (h2 : ResAt w w.heap.size v2 r) :
    Calls Try.prog 35 #[v1, v2] w fun e w' => e = .returned (.bool true) ∧ Below w.heap.size w w' := by
  obtain ⟨A1, c1, rfl, hI1⟩ := h1
  obtain ⟨A2, c2, rfl, hI2⟩ := h2
  obtain ⟨x, ns⟩ := r
  simp only [] at hI1 hI2 ⊢
  obtain ⟨W, hW⟩ : ∃ W, W = (w.alloc (.cells #[.int .i64 x, .slice A1 ns.length c1] 51)).alloc (.cells #[.int .i64 x, .slice A2 ns.length c2] 51) := ⟨_, rfl⟩
  obtain ⟨x1, x2, bW, zW⟩ := two_blocks w _ _ _ _ W hW
  clear x1 x2 zW
  have BW := Lib.hid bW
  have H1 := Lib.hid hI1
  have H2 := Lib.hid hI2
  clear bW hI1 hI2
  have hxx : (x != x) = false := by simp
  go_enter Try.func35, Try.ntmps35
  go_wp2_with fail
  rw [← hW]
  clear hW
  refine (eqIntS_same A1 A2 c1 c2 ns _ (H1.out.step BW.out) (H2.out.step BW.out)).mono ?_
  rintro e w1 ⟨rfl, b1⟩
  have B1 := Lib.hid (BW.out.trans (b1.mono BW.out.size))
  clear b1
  go_wp2
  go_ret
  exact ⟨rfl, B1.out⟩

set_option maxRecDepth 100000 in
set_option maxHeartbeats 2000000 in
theorem slicesEqualI_any (A1 A2 : Option Addr) (c1 c2 : Nat) (xs ys : List Int) (w : World) (h1 : IntsAt w w.heap.size A1 c1 xs) (h2 : IntsAt w w.heap.size A2 c2 ys) :
    Calls Try.prog 67 #[.slice A1 xs.length c1, .slice A2 ys.length c2] w fun e w' => e = .returned (.bool (isB xs ys)) ∧ Below w.heap.size w w' := by
  obtain ⟨_, _, _, hrow⟩ := h1
  obtain ⟨_, _, _, hrow2⟩ := h2
  by_cases hl : xs.length = ys.length
  · have hne : ((xs.length : Int) != (ys.length : Int)) = false := by simp [hl]
    have HL := Lib.hid hl
    have hv := Lib.hid (show isB xs ys = (List.range xs.length).all (iEq xs ys) by unfold isB; rw [decide_eq_true hl]; rfl)
    clear hl
    go_enter Try.func67, Try.ntmps67
    go_wp2
    clear hne
    go_loopw [13] (fun i wr => ∃ k : Nat, k ≤ xs.length ∧ i = .int .i64 k ∧ Hid (∀ j, j < k → iEq xs ys j = true) ∧ Below w.heap.size w wr) (fun i _ => xs.length - (intOf i).toNat)
    case atStart => exact ⟨0, Nat.zero_le _, rfl, Lib.hid (fun i hi => absurd hi (by omega)), Below.refl _ _⟩
    case round =>
      obtain ⟨k, hk, rfl, hall, hb⟩ := hrel
      by_cases hlt : k < xs.length
      · rcases hrow with hz | ⟨b, off, rfl, hB, hrow⟩
        · omega
        · rcases hrow2 with hz | ⟨b2, off2, rfl, hB2, hrow2⟩
          · have := HL.out; omega
          · have hkl : (k : Int) < (xs.length : Int) := by omega
            have hkl2 : (k : Int) < (ys.length : Int) := by have := HL.out; omega
            have u1 := hrow k hlt
            have v1 := hrow2 k (by have := HL.out; omega)
            rw [Nat.mul_one] at u1 v1
            have d1 := (hb.cell (p := ⟨b, off + k, none⟩) hB).trans u1
            have e1 := (hb.cell (p := ⟨b2, off2 + k, none⟩) hB2).trans v1
            obtain ⟨x, hx⟩ : ∃ x, xs.getD k 0 = x := ⟨_, rfl⟩
            obtain ⟨y, hy⟩ : ∃ y, ys.getD k 0 = y := ⟨_, rfl⟩
            have HT := Lib.hid (show iEq xs ys k = (x == y) by unfold iEq; rw [hx, hy])
            rw [hx] at d1
            rw [hy] at e1
            have HB := Lib.hid hb
            have HA := Lib.hid hall
            clear u1 v1 hx hy hrow hrow2 hb hall
            by_cases hxy : x = y
            · subst hxy
              have hxx : (x != x) = false := by simp
              go_wp2
              go_quiet (fail)
              go_wp2
              go_roundw
              case rel =>
                refine ⟨k + 1, hlt, by go_num, Lib.hid (fun i hi => ?_), below_drewN HB.out _⟩
                by_cases e : i = k
                · rw [e, HT.out]; simp
                · exact HA.out i (by omega)
              case measure => simp [intOf]; omega
            · have hxx : (x != y) = true := by simp [hxy]
              have HF := Lib.hid (show iEq xs ys k = false by rw [HT.out]; simp [hxy])
              clear hxy
              go_wp2
              go_quiet (fail)
              go_wp2
              go_ret
              exact ⟨by rw [hv.out, all_no hlt HF.out]; rfl, below_drewN HB.out _⟩
      · obtain rfl : k = xs.length := by omega
        have HA := Lib.hid (show isB xs ys = true by rw [hv.out]; exact all_yes hall.out)
        clear hall
        go_wp2
        go_ret
        exact ⟨by rw [HA.out]; rfl, hb⟩
  · have hne : ((xs.length : Int) != (ys.length : Int)) = true := by simp; omega
    have hv := Lib.hid (show isB xs ys = false by unfold isB; rw [decide_eq_false hl]; rfl)
    clear hl
    go_enter Try.func67, Try.ntmps67
    go_wp2
    go_ret
    exact ⟨by rw [hv.out]; rfl, Below.refl _ _⟩

set_option maxRecDepth 100000 in
set_option maxHeartbeats 2000000 in
theorem implRS_any (v1 : Value) (r1 : Rs) (v2 : Value) (r2 : Rs) (w : World) (h1 : ResAt w w.heap.size v1 r1) (h2 : ResAt w w.heap.size v2 r2) :
    Calls Try.prog 34 #[v1, v2] w fun e w' => e = .returned (.bool (resB r1 r2)) ∧ Below w.heap.size w w' := by
  obtain ⟨A1, c1, rfl, hI1⟩ := h1
  obtain ⟨A2, c2, rfl, hI2⟩ := h2
  obtain ⟨x, xs⟩ := r1
  obtain ⟨y, ys⟩ := r2
  simp only [] at hI1 hI2 ⊢
  obtain ⟨W, hW⟩ : ∃ W, W = ((w.alloc (.cells #[.int .i64 x, .slice A1 xs.length c1] 51)).alloc (.cells #[.int .i64 y, .slice A2 ys.length c2] 51)) := ⟨_, rfl⟩
  obtain ⟨x1, x2, bW, zW⟩ := two_blocks w _ _ _ _ W hW
  clear x1 x2 zW
  have BW := Lib.hid bW
  have H1 := Lib.hid hI1
  have H2 := Lib.hid hI2
  clear bW hI1 hI2
  by_cases hx : x = y
  · subst hx
    have hxx : (x == x) = true := by simp
    have hv := Lib.hid (show resB (x, xs) (x, ys) = isB xs ys by unfold resB; simp)
    go_enter Try.func34, Try.ntmps34
    go_wp2_with fail
    rw [← hW]
    clear hW hxx
    refine (slicesEqualI_any A1 A2 c1 c2 xs ys W (H1.out.step BW.out) (H2.out.step BW.out)).mono ?_
    rintro e w1 ⟨rfl, b1⟩
    go_wp2
    go_ret
    exact ⟨by rw [hv.out]; rfl, BW.out.trans (b1.mono BW.out.size)⟩
  · have hxx : (x == y) = false := by simp [hx]
    have hv := Lib.hid (show resB (x, xs) (y, ys) = false by unfold resB; simp [hx])
    clear hx
    subst hW
    go_enter Try.func34, Try.ntmps34
    go_wp2
    try trivial
    go_ret
    exact ⟨by rw [hv.out]; rfl, BW.out⟩

set_option maxRecDepth 100000 in
set_option maxHeartbeats 2000000 in
theorem specRS_any (v1 : Value) (r1 : Rs) (v2 : Value) (r2 : Rs) (w : World) (h1 : ResAt w w.heap.size v1 r1) (h2 : ResAt w w.heap.size v2 r2) :
    Calls Try.prog 32 #[v1, v2] w fun e w' => e = .returned (.bool (resB r1 r2)) ∧ Below w.heap.size w w' := by
  obtain ⟨A1, c1, rfl, hI1⟩ := h1
  obtain ⟨A2, c2, rfl, hI2⟩ := h2
  obtain ⟨x, xs⟩ := r1
  obtain ⟨y, ys⟩ := r2
  simp only [] at hI1 hI2 ⊢
  obtain ⟨W, hW⟩ : ∃ W, W = ((w.alloc (.cells #[.int .i64 x, .slice A1 xs.length c1] 51)).alloc (.cells #[.int .i64 y, .slice A2 ys.length c2] 51)) := ⟨_, rfl⟩
  obtain ⟨x1, x2, bW, zW⟩ := two_blocks w _ _ _ _ W hW
  have p0 := x1 1
  have q0 := x2 1
  simp at p0 q0
  clear x1 x2
  have BW := Lib.hid bW
  have ZW := Lib.hid zW
  clear bW zW
  obtain ⟨_, _, _, hrow⟩ := hI1
  obtain ⟨_, _, _, hrow2⟩ := hI2
  by_cases hx : x = y
  · subst hx
    have hxx : (x != x) = false := by simp
    by_cases hl : xs.length = ys.length
    · have hne : ((xs.length : Int) != (ys.length : Int)) = false := by simp [hl]
      have HL := Lib.hid hl
      have hv := Lib.hid (show resB (x, xs) (x, ys) = (List.range xs.length).all (iEq xs ys) by unfold resB isB; rw [decide_eq_true hl]; simp)
      clear hl
      rw [hW] at p0 q0
      go_enter Try.func32, Try.ntmps32
      go_wp2
      rw [← hW] at p0 q0
      rw [← hW]
      clear hne hxx hW
      go_loopw [5] (fun i wr => ∃ k : Nat, k ≤ xs.length ∧ i = .int .i64 k ∧ Hid (∀ j, j < k → iEq xs ys j = true) ∧ Below W.heap.size W wr) (fun i _ => xs.length - (intOf i).toNat)
      case atStart => exact ⟨0, Nat.zero_le _, rfl, Lib.hid (fun i hi => absurd hi (by omega)), Below.refl _ _⟩
      case round =>
        obtain ⟨k, hk, rfl, hall, hb⟩ := hrel
        have hbw := BW.out.trans (hb.mono BW.out.size)
        have d0 := (hb.cell (p := ⟨w.heap.size, 1, none⟩) (by have := ZW.out; simp only; omega)).trans p0
        have e0 := (hb.cell (p := ⟨w.heap.size + 1, 1, none⟩) (by have := ZW.out; simp only; omega)).trans q0
        by_cases hlt : k < xs.length
        · rcases hrow with hz | ⟨b, off, rfl, hB, hrow⟩
          · omega
          · rcases hrow2 with hz | ⟨b2, off2, rfl, hB2, hrow2⟩
            · have := HL.out; omega
            · have hkl : (k : Int) < (xs.length : Int) := by omega
              have hkl2 : (k : Int) < (ys.length : Int) := by have := HL.out; omega
              have u1 := hrow k hlt
              have v1 := hrow2 k (by have := HL.out; omega)
              rw [Nat.mul_one] at u1 v1
              have d1 := (hbw.cell (p := ⟨b, off + k, none⟩) hB).trans u1
              have e1 := (hbw.cell (p := ⟨b2, off2 + k, none⟩) hB2).trans v1
              obtain ⟨m, hm⟩ : ∃ x, xs.getD k 0 = x := ⟨_, rfl⟩
              obtain ⟨n, hn⟩ : ∃ y, ys.getD k 0 = y := ⟨_, rfl⟩
              have HT := Lib.hid (show iEq xs ys k = (m == n) by unfold iEq; rw [hm, hn])
              rw [hm] at d1
              rw [hn] at e1
              have HB := Lib.hid hb
              have HBW := Lib.hid hbw
              have HA := Lib.hid hall
              clear u1 v1 hm hn hrow hrow2 hb hbw hall
              by_cases hxy : m = n
              · subst hxy
                have hxx : (m != m) = false := by simp
                go_wp2
                go_quiet (fail)
                go_wp2
                go_roundw
                case rel =>
                  refine ⟨k + 1, hlt, by go_num, Lib.hid (fun i hi => ?_), below_drewN HB.out _⟩
                  by_cases e : i = k
                  · rw [e, HT.out]; simp
                  · exact HA.out i (by omega)
                case measure => simp [intOf]; omega
              · have hxx : (m != n) = true := by simp [hxy]
                have HF := Lib.hid (show iEq xs ys k = false by rw [HT.out]; simp [hxy])
                clear hxy
                go_wp2
                go_quiet (fail)
                go_wp2
                go_ret
                exact ⟨by rw [hv.out, all_no hlt HF.out]; rfl, below_drewN HBW.out _⟩
        · obtain rfl : k = xs.length := by omega
          have HA := Lib.hid (show resB (x, xs) (x, ys) = true by rw [hv.out]; exact all_yes hall.out)
          clear hall
          go_wp2
          go_ret
          exact ⟨by rw [HA.out]; rfl, hbw⟩
    · have hne : ((xs.length : Int) != (ys.length : Int)) = true := by simp; omega
      have hv := Lib.hid (show resB (x, xs) (x, ys) = false by unfold resB isB; rw [decide_eq_false hl]; simp)
      clear hl
      subst hW
      go_enter Try.func32, Try.ntmps32
      go_wp2
      go_ret
      exact ⟨by rw [hv.out]; rfl, BW.out⟩
  · have hxx : (x != y) = true := by simp [hx]
    have hv := Lib.hid (show resB (x, xs) (y, ys) = false by unfold resB; simp [hx])
    clear hx
    subst hW
    go_enter Try.func32, Try.ntmps32
    go_wp2
    try trivial
    go_ret
    exact ⟨by rw [hv.out]; rfl, BW.out⟩
end Go.Proofs.Ytppciomdbabepaa
