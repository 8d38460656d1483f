/-
  Contracts of the draws of columns.
-/
import Derived.Test.YthkjcljhfjaabaaGreatDoorMu
import Derived.Test.YthkjcljhfjaabaaGreatDoorDs
import Derived.Test.YthkjcljhfjaabaaGreatDoorCz
namespace Go.Proofs.YthkjcljhfjaabaaGreatDoor
open Go.RowKit Sets

/-- What a draw of a column leaves: a column of small ends, the reader some steps on. -/
def ColRes (ok : Bool) (g B : Nat) (A : Option Addr) (n c p K : Nat) (z : Nat → Int) (w : World) (e : Ending) (w' : World) : Prop :=
  ∃ (L : Bool) (a b : Int) (p' : Nat), e = .returned (colV L a b) ∧ (ok = true → colB L a b = true) ∧ -200 ≤ a ∧ a ≤ 200 ∧ -200 ≤ b ∧ b ≤ 200 ∧ p' ≤ p + K ∧ Rdr w' g B A n c p' z ∧ w.grownBy w' (some g)

theorem Rdr.set3 {w : World} {g B : Nat} {A : Option Addr} {n c p : Nat} {z : Nat → Int} (h : Rdr w g B A n c p z) {g2 : Nat} (hg : g < g2) (v0 v1 v2 : Value) :
    Rdr (((w.setCell ⟨g2, 0, none⟩ v0).setCell ⟨g2, 1, none⟩ v1).setCell ⟨g2, 2, none⟩ v2) g B A n c p z := ((h.cellSet hg 0 v0).cellSet hg 1 v1).cellSet hg 2 v2
theorem gr_set3 {w a : World} {g g2 : Nat} (h : a.grownBy w (some g)) (hg2 : a.heap.size ≤ g2) (v0 v1 v2 : Value) :
    a.grownBy (((w.setCell ⟨g2, 0, none⟩ v0).setCell ⟨g2, 1, none⟩ v1).setCell ⟨g2, 2, none⟩ v2) (some g) := gr_cell _ _ _ _ _ _ (gr_cell _ _ _ _ _ _ (gr_cell _ _ _ _ _ _ h hg2) hg2) hg2
theorem gr_kept {w w' : World} {g : Nat} (h : w.grownBy w' (some g)) {b : Nat} (hb : b < w.heap.size) (hg : b ≠ g) (o : Nat) : w'.cell? ⟨b, o, none⟩ = w.cell? ⟨b, o, none⟩ ∧ w'.frozen? ⟨b, o, none⟩ = w.frozen? ⟨b, o, none⟩ := by
  have hbl := h.block b hb (fun e => by injection e with e; omega)
  exact ⟨World.cell?_of_block (a := ⟨b, o, none⟩) hbl, World.frozen?_of_block (w := w) hbl⟩
theorem two_second (w : World) (o1 : Obj) (cs : Array Value) (t : TypeId) (k : Nat) : ((w.alloc o1).alloc (.cells cs t)).cell? ⟨w.heap.size + 1, k, none⟩ = cs[k]? := by
  have e : (w.alloc o1).heap.size = w.heap.size + 1 := by simp
  rw [← e]
  exact World.cell?_alloc_new _ _ _ _
theorem two_first (w : World) (o2 : Obj) (cs : Array Value) (t : TypeId) (k : Nat) : ((w.alloc (.cells cs t)).alloc o2).cell? ⟨w.heap.size, k, none⟩ = cs[k]? ∧ ((w.alloc (.cells cs t)).alloc o2).frozen? ⟨w.heap.size, k, none⟩ = false := by
  have b : Below (w.alloc (.cells cs t)).heap.size (w.alloc (.cells cs t)) ((w.alloc (.cells cs t)).alloc o2) := (Below.refl _ _).alloc (Nat.le_refl _) _
  refine ⟨(b.cell (p := ⟨w.heap.size, k, none⟩) (by simp)).trans (World.cell?_alloc_new _ _ _ _), (b.frozen (p := ⟨w.heap.size, k, none⟩) (by simp)).trans (World.frozen?_alloc_at _ _ _ _ rfl)⟩
theorem two_below (w : World) (o1 o2 : Obj) : Below w.heap.size w ((w.alloc o1).alloc o2) := ((Below.refl _ w).alloc (Nat.le_refl _) _).alloc (by simp) _

set_option maxRecDepth 100000 in
set_option maxHeartbeats 1000000 in
theorem l2col_any (g B : Nat) (A : Option Addr) (n c p : Nat) (z : Nat → Int) (w : World) (h : Rdr w g B A n c p z) (hp : p ≤ 900000) :
    Calls Tryz.prog 43 #[.pointer (some ⟨g, 0, none⟩)] w (ColRes true g B A n c p 1 z w) := by
  have hg := h.lt
  go_enter Tryz.func43, Tryz.ntmps43
  go_wp2_with fail
  generalize hW : World.alloc (World.alloc w _) _ = W1
  have b1 : Below w.heap.size w W1 := by rw [← hW]; exact two_below _ _ _
  have z1 : w.heap.size + 1 < W1.heap.size := by rw [← hW]; simp
  have R1 := h.below b1
  have f0 : W1.cell? ⟨w.heap.size, 0, none⟩ = some (.bool false) ∧ W1.frozen? ⟨w.heap.size, 0, none⟩ = false := by rw [← hW]; exact two_first _ _ _ _ 0
  have f1 : W1.cell? ⟨w.heap.size, 1, none⟩ = some (.int .i64 0) ∧ W1.frozen? ⟨w.heap.size, 1, none⟩ = false := by rw [← hW]; exact two_first _ _ _ _ 1
  have f2 : W1.cell? ⟨w.heap.size, 2, none⟩ = some (.int .i64 0) ∧ W1.frozen? ⟨w.heap.size, 2, none⟩ = false := by rw [← hW]; exact two_first _ _ _ _ 2
  have q0 : W1.cell? ⟨w.heap.size + 1, 0, none⟩ = some (.bool false) := by rw [← hW]; exact two_second _ _ _ _ 0
  have q1 : W1.cell? ⟨w.heap.size + 1, 1, none⟩ = some (.int .i64 (0)) := by rw [← hW]; exact two_second _ _ _ _ 1
  have q2 : W1.cell? ⟨w.heap.size + 1, 2, none⟩ = some (.int .i64 (9)) := by rw [← hW]; exact two_second _ _ _ _ 2
  have q3 : W1.cell? ⟨w.heap.size + 1, 3, none⟩ = some (.bool false) := by rw [← hW]; exact two_second _ _ _ _ 3
  have q4 : W1.cell? ⟨w.heap.size + 1, 4, none⟩ = some (.int .i64 (-5)) := by rw [← hW]; exact two_second _ _ _ _ 4
  have q5 : W1.cell? ⟨w.heap.size + 1, 5, none⟩ = some (.int .i64 (20)) := by rw [← hW]; exact two_second _ _ _ _ 5
  have q6 : W1.cell? ⟨w.heap.size + 1, 6, none⟩ = some (.bool true) := by rw [← hW]; exact two_second _ _ _ _ 6
  have q7 : W1.cell? ⟨w.heap.size + 1, 7, none⟩ = some (.int .i64 (0)) := by rw [← hW]; exact two_second _ _ _ _ 7
  have q8 : W1.cell? ⟨w.heap.size + 1, 8, none⟩ = some (.int .i64 (3)) := by rw [← hW]; exact two_second _ _ _ _ 8
  have q9 : W1.cell? ⟨w.heap.size + 1, 9, none⟩ = some (.bool false) := by rw [← hW]; exact two_second _ _ _ _ 9
  have q10 : W1.cell? ⟨w.heap.size + 1, 10, none⟩ = some (.int .i64 (0)) := by rw [← hW]; exact two_second _ _ _ _ 10
  have q11 : W1.cell? ⟨w.heap.size + 1, 11, none⟩ = some (.int .i64 (99)) := by rw [← hW]; exact two_second _ _ _ _ 11
  have q12 : W1.cell? ⟨w.heap.size + 1, 12, none⟩ = some (.bool true) := by rw [← hW]; exact two_second _ _ _ _ 12
  have q13 : W1.cell? ⟨w.heap.size + 1, 13, none⟩ = some (.int .i64 (0)) := by rw [← hW]; exact two_second _ _ _ _ 13
  have q14 : W1.cell? ⟨w.heap.size + 1, 14, none⟩ = some (.int .i64 (1)) := by rw [← hW]; exact two_second _ _ _ _ 14
  have q15 : W1.cell? ⟨w.heap.size + 1, 15, none⟩ = some (.bool false) := by rw [← hW]; exact two_second _ _ _ _ 15
  have q16 : W1.cell? ⟨w.heap.size + 1, 16, none⟩ = some (.int .i64 (1)) := by rw [← hW]; exact two_second _ _ _ _ 16
  have q17 : W1.cell? ⟨w.heap.size + 1, 17, none⟩ = some (.int .i64 (1)) := by rw [← hW]; exact two_second _ _ _ _ 17
  clear hW
  refine (pick_step g B A n c p z 6 W1 R1 (by omega) (by decide) (by decide)).mono ?_
  rintro e w2 ⟨v, rfl, hv0, hv6, R2, hg2⟩
  have k0 := gr_kept hg2 (b := w.heap.size) (by omega) (by omega) 0
  have k1 := gr_kept hg2 (b := w.heap.size) (by omega) (by omega) 1
  have k2 := gr_kept hg2 (b := w.heap.size) (by omega) (by omega) 2
  rw [f0.1, f0.2] at k0
  rw [f1.1, f1.2] at k1
  rw [f2.1, f2.2] at k2
  obtain ⟨c0, fr0⟩ := k0
  obtain ⟨c1, fr1⟩ := k1
  obtain ⟨c2, fr2⟩ := k2
  have hgw := gr_trans (gr_below g b1) hg2
  have R3 := Lib.hid R2
  have G3 := Lib.hid hgw
  clear R1 R2 hgw b1 f0 f1 f2 h
  obtain rfl | rfl | rfl | rfl | rfl | rfl : v = 0 ∨ v = 1 ∨ v = 2 ∨ v = 3 ∨ v = 4 ∨ v = 5 := by omega
  · have x0 := (gr_kept hg2 (b := w.heap.size + 1) z1 (by omega) 0).1.trans q0
    have x1 := (gr_kept hg2 (b := w.heap.size + 1) z1 (by omega) 1).1.trans q1
    have x2 := (gr_kept hg2 (b := w.heap.size + 1) z1 (by omega) 2).1.trans q2
    clear q0 q1 q2 q3 q4 q5 q6 q7 q8 q9 q10 q11 q12 q13 q14 q15 q16 q17
    go_wp2
    obtain ⟨m0, m1, m2⟩ := set_col c0 c1 c2 false (0) (9)
    exact bodyPost_ret (v := colV false (0) (9)) (by simp [results, Tryz.results43, go_sem, m0, m1, m2]) rfl ⟨_, _, _, _, rfl, fun _ => rfl, by decide, by decide, by decide, by decide, Nat.le_refl _, R3.out.set3 hg _ _ _, gr_set3 G3.out (Nat.le_refl _) _ _ _⟩
  · have x0 := (gr_kept hg2 (b := w.heap.size + 1) z1 (by omega) 3).1.trans q3
    have x1 := (gr_kept hg2 (b := w.heap.size + 1) z1 (by omega) 4).1.trans q4
    have x2 := (gr_kept hg2 (b := w.heap.size + 1) z1 (by omega) 5).1.trans q5
    clear q0 q1 q2 q3 q4 q5 q6 q7 q8 q9 q10 q11 q12 q13 q14 q15 q16 q17
    go_wp2
    obtain ⟨m0, m1, m2⟩ := set_col c0 c1 c2 false (-5) (20)
    exact bodyPost_ret (v := colV false (-5) (20)) (by simp [results, Tryz.results43, go_sem, m0, m1, m2]) rfl ⟨_, _, _, _, rfl, fun _ => rfl, by decide, by decide, by decide, by decide, Nat.le_refl _, R3.out.set3 hg _ _ _, gr_set3 G3.out (Nat.le_refl _) _ _ _⟩
  · have x0 := (gr_kept hg2 (b := w.heap.size + 1) z1 (by omega) 6).1.trans q6
    have x1 := (gr_kept hg2 (b := w.heap.size + 1) z1 (by omega) 7).1.trans q7
    have x2 := (gr_kept hg2 (b := w.heap.size + 1) z1 (by omega) 8).1.trans q8
    clear q0 q1 q2 q3 q4 q5 q6 q7 q8 q9 q10 q11 q12 q13 q14 q15 q16 q17
    go_wp2
    obtain ⟨m0, m1, m2⟩ := set_col c0 c1 c2 true (0) (3)
    exact bodyPost_ret (v := colV true (0) (3)) (by simp [results, Tryz.results43, go_sem, m0, m1, m2]) rfl ⟨_, _, _, _, rfl, fun _ => rfl, by decide, by decide, by decide, by decide, Nat.le_refl _, R3.out.set3 hg _ _ _, gr_set3 G3.out (Nat.le_refl _) _ _ _⟩
  · have x0 := (gr_kept hg2 (b := w.heap.size + 1) z1 (by omega) 9).1.trans q9
    have x1 := (gr_kept hg2 (b := w.heap.size + 1) z1 (by omega) 10).1.trans q10
    have x2 := (gr_kept hg2 (b := w.heap.size + 1) z1 (by omega) 11).1.trans q11
    clear q0 q1 q2 q3 q4 q5 q6 q7 q8 q9 q10 q11 q12 q13 q14 q15 q16 q17
    go_wp2
    obtain ⟨m0, m1, m2⟩ := set_col c0 c1 c2 false (0) (99)
    exact bodyPost_ret (v := colV false (0) (99)) (by simp [results, Tryz.results43, go_sem, m0, m1, m2]) rfl ⟨_, _, _, _, rfl, fun _ => rfl, by decide, by decide, by decide, by decide, Nat.le_refl _, R3.out.set3 hg _ _ _, gr_set3 G3.out (Nat.le_refl _) _ _ _⟩
  · have x0 := (gr_kept hg2 (b := w.heap.size + 1) z1 (by omega) 12).1.trans q12
    have x1 := (gr_kept hg2 (b := w.heap.size + 1) z1 (by omega) 13).1.trans q13
    have x2 := (gr_kept hg2 (b := w.heap.size + 1) z1 (by omega) 14).1.trans q14
    clear q0 q1 q2 q3 q4 q5 q6 q7 q8 q9 q10 q11 q12 q13 q14 q15 q16 q17
    go_wp2
    obtain ⟨m0, m1, m2⟩ := set_col c0 c1 c2 true (0) (1)
    exact bodyPost_ret (v := colV true (0) (1)) (by simp [results, Tryz.results43, go_sem, m0, m1, m2]) rfl ⟨_, _, _, _, rfl, fun _ => rfl, by decide, by decide, by decide, by decide, Nat.le_refl _, R3.out.set3 hg _ _ _, gr_set3 G3.out (Nat.le_refl _) _ _ _⟩
  · have x0 := (gr_kept hg2 (b := w.heap.size + 1) z1 (by omega) 15).1.trans q15
    have x1 := (gr_kept hg2 (b := w.heap.size + 1) z1 (by omega) 16).1.trans q16
    have x2 := (gr_kept hg2 (b := w.heap.size + 1) z1 (by omega) 17).1.trans q17
    clear q0 q1 q2 q3 q4 q5 q6 q7 q8 q9 q10 q11 q12 q13 q14 q15 q16 q17
    go_wp2
    obtain ⟨m0, m1, m2⟩ := set_col c0 c1 c2 false (1) (1)
    exact bodyPost_ret (v := colV false (1) (1)) (by simp [results, Tryz.results43, go_sem, m0, m1, m2]) rfl ⟨_, _, _, _, rfl, fun _ => rfl, by decide, by decide, by decide, by decide, Nat.le_refl _, R3.out.set3 hg _ _ _, gr_set3 G3.out (Nat.le_refl _) _ _ _⟩

set_option maxRecDepth 100000 in
set_option maxHeartbeats 1000000 in
theorem l2wrong_any (g B : Nat) (A : Option Addr) (n c p : Nat) (z : Nat → Int) (L : Bool) (a b : Int) (w : World) (h : Rdr w g B A n c p z) (hp : p ≤ 900000) (a1 : -200 ≤ a) (a2 : a ≤ 200) (b1 : -200 ≤ b) (b2 : b ≤ 200) :
    Calls Tryz.prog 46 #[.pointer (some ⟨g, 0, none⟩), colV L a b] w (ColRes false g B A n c p 2 z w) := by
  have hg := h.lt
  go_enter Tryz.func46, Tryz.ntmps46
  go_wp2_with fail
  generalize hW : World.alloc (World.alloc w _) _ = W1
  have bl1 : Below w.heap.size w W1 := by rw [← hW]; exact two_below _ _ _
  have z1 : w.heap.size + 1 < W1.heap.size := by rw [← hW]; simp
  have R1 := h.below bl1
  have f0 : W1.cell? ⟨w.heap.size, 0, none⟩ = some (.bool L) ∧ W1.frozen? ⟨w.heap.size, 0, none⟩ = false := by rw [← hW]; exact two_first _ _ _ _ 0
  have f1 : W1.cell? ⟨w.heap.size, 1, none⟩ = some (.int .i64 a) ∧ W1.frozen? ⟨w.heap.size, 1, none⟩ = false := by rw [← hW]; exact two_first _ _ _ _ 1
  have f2 : W1.cell? ⟨w.heap.size, 2, none⟩ = some (.int .i64 b) ∧ W1.frozen? ⟨w.heap.size, 2, none⟩ = false := by rw [← hW]; exact two_first _ _ _ _ 2
  have q0 : W1.cell? ⟨w.heap.size + 1, 0, none⟩ = some (.bool false) := by rw [← hW]; exact two_second _ _ _ _ 0
  have q1 : W1.cell? ⟨w.heap.size + 1, 1, none⟩ = some (.int .i64 0) := by rw [← hW]; exact two_second _ _ _ _ 1
  have q2 : W1.cell? ⟨w.heap.size + 1, 2, none⟩ = some (.int .i64 0) := by rw [← hW]; exact two_second _ _ _ _ 2
  have qf : ∀ o, W1.frozen? ⟨w.heap.size + 1, o, none⟩ = false := fun o => by
    rw [← hW]
    have e : (w.alloc (.cells #[.bool L, .int .i64 a, .int .i64 b] 27)).heap.size = w.heap.size + 1 := by simp
    rw [← e]
    exact World.frozen?_alloc_at _ _ _ _ rfl
  clear hW
  refine (pick_step g B A n c p z 16 W1 R1 (by omega) (by decide) (by decide)).mono ?_
  rintro e w2 ⟨v, rfl, hv0, hv6, R2, hg2⟩
  have hgw := gr_trans (gr_below g bl1) hg2
  have z2 : w.heap.size + 1 < w2.heap.size := Nat.lt_of_lt_of_le z1 hg2.size
  have F0 := gr_kept hg2 (b := w.heap.size) (by omega) (by omega) 0
  have F1 := gr_kept hg2 (b := w.heap.size) (by omega) (by omega) 1
  have F2 := gr_kept hg2 (b := w.heap.size) (by omega) (by omega) 2
  rw [f0.1, f0.2] at F0
  rw [f1.1, f1.2] at F1
  rw [f2.1, f2.2] at F2
  have Q := gr_kept hg2 (b := w.heap.size + 1) z1 (by omega)
  have Q0 := (Q 0).1.trans q0
  have Q1 := (Q 1).1.trans q1
  have Q2 := (Q 2).1.trans q2
  have QF := fun o => (Q o).2.trans (qf o)
  obtain ⟨c0, fr0⟩ := F0
  obtain ⟨c1, fr1⟩ := F1
  obtain ⟨c2, fr2⟩ := F2
  have R3 := Lib.hid R2
  have G3 := Lib.hid hgw
  clear R1 R2 hgw bl1 f0 f1 f2 h q0 q1 q2 qf Q hg2
  by_cases h0 : v = 0
  · subst h0
    go_wp2_with fail
    refine (num_step g B A n c (p + 1) z [-100, 1, 50, 99] _ _ _ w2 rfl rfl rfl R3.out (by omega) (by decide) (by decide)).mono ?_
    rintro e w3 ⟨x, rfl, hx, R4, hg3⟩
    have hx1 : -200 ≤ x := by simp at hx; omega
    have hx2 : x ≤ 200 := by simp at hx; omega
    have Fk := gr_kept hg3 (b := w.heap.size) (by omega) (by omega)
    have d0 := (Fk 0).1.trans c0
    have d1 := (Fk 1).1.trans c1
    have d2 := (Fk 2).1.trans c2
    have dr1 := (Fk 1).2.trans fr1
    have Qk := gr_kept hg3 (b := w.heap.size + 1) z2 (by omega)
    have u0 := (Qk 0).1.trans Q0
    have u1 := (Qk 1).1.trans Q1
    have u2 := (Qk 2).1.trans Q2
    have v0 := (Qk 0).2.trans (QF 0)
    have v1 := (Qk 1).2.trans (QF 1)
    have v2 := (Qk 2).2.trans (QF 2)
    have R5 := Lib.hid R4
    have G5 := Lib.hid (gr_trans G3.out hg3)
    have S0 : (w3.setCell ⟨w.heap.size, 1, none⟩ (.int .i64 x)).cell? ⟨w.heap.size + 1, 0, none⟩ = some (.bool false) := by rw [World.cell?_setCell_other _ _ _ _ (by simp)]; exact u0
    have S1 : (w3.setCell ⟨w.heap.size, 1, none⟩ (.int .i64 x)).cell? ⟨w.heap.size + 1, 1, none⟩ = some (.int .i64 0) := by rw [World.cell?_setCell_other _ _ _ _ (by simp)]; exact u1
    have S2 : (w3.setCell ⟨w.heap.size, 1, none⟩ (.int .i64 x)).cell? ⟨w.heap.size + 1, 2, none⟩ = some (.int .i64 0) := by rw [World.cell?_setCell_other _ _ _ _ (by simp)]; exact u2
    clear Fk Qk QF c0 c1 c2 fr0 fr1 fr2 Q0 Q1 Q2 R4 hg3 hx
    go_wp2
    obtain ⟨m0, m1, m2⟩ := set_col S0 S1 S2 L x b
    exact bodyPost_ret (v := colV L x b) (by simp [results, Tryz.results46, go_sem, m0, m1, m2]) rfl ⟨_, _, _, _, rfl, fun h => by (cases h), hx1, hx2, b1, b2, by omega, (R5.out.cellSet hg 1 _).set3 (by omega) _ _ _, gr_set3 (gr_cell _ _ _ _ _ _ G5.out (Nat.le_refl _)) (by omega) _ _ _⟩
  have n0 : (v == 0) = false := beq_eq_false_iff_ne.2 h0
  by_cases h1 : v = 1
  · subst h1
    clear n0
    go_wp2_with fail
    refine (num_step g B A n c (p + 1) z [100, 26, -1, 25] _ _ _ w2 rfl rfl rfl R3.out (by omega) (by decide) (by decide)).mono ?_
    rintro e w3 ⟨x, rfl, hx, R4, hg3⟩
    have hx1 : -200 ≤ x := by simp at hx; omega
    have hx2 : x ≤ 200 := by simp at hx; omega
    have Fk := gr_kept hg3 (b := w.heap.size) (by omega) (by omega)
    have d0 := (Fk 0).1.trans c0
    have d1 := (Fk 1).1.trans c1
    have d2 := (Fk 2).1.trans c2
    have dr1 := (Fk 2).2.trans fr2
    have Qk := gr_kept hg3 (b := w.heap.size + 1) z2 (by omega)
    have u0 := (Qk 0).1.trans Q0
    have u1 := (Qk 1).1.trans Q1
    have u2 := (Qk 2).1.trans Q2
    have v0 := (Qk 0).2.trans (QF 0)
    have v1 := (Qk 1).2.trans (QF 1)
    have v2 := (Qk 2).2.trans (QF 2)
    have R5 := Lib.hid R4
    have G5 := Lib.hid (gr_trans G3.out hg3)
    have S0 : (w3.setCell ⟨w.heap.size, 2, none⟩ (.int .i64 x)).cell? ⟨w.heap.size + 1, 0, none⟩ = some (.bool false) := by rw [World.cell?_setCell_other _ _ _ _ (by simp)]; exact u0
    have S1 : (w3.setCell ⟨w.heap.size, 2, none⟩ (.int .i64 x)).cell? ⟨w.heap.size + 1, 1, none⟩ = some (.int .i64 0) := by rw [World.cell?_setCell_other _ _ _ _ (by simp)]; exact u1
    have S2 : (w3.setCell ⟨w.heap.size, 2, none⟩ (.int .i64 x)).cell? ⟨w.heap.size + 1, 2, none⟩ = some (.int .i64 0) := by rw [World.cell?_setCell_other _ _ _ _ (by simp)]; exact u2
    clear Fk Qk QF c0 c1 c2 fr0 fr1 fr2 Q0 Q1 Q2 R4 hg3 hx
    go_wp2
    obtain ⟨m0, m1, m2⟩ := set_col S0 S1 S2 L a x
    exact bodyPost_ret (v := colV L a x) (by simp [results, Tryz.results46, go_sem, m0, m1, m2]) rfl ⟨_, _, _, _, rfl, fun h => by (cases h), a1, a2, hx1, hx2, by omega, (R5.out.cellSet hg 2 _).set3 (by omega) _ _ _, gr_set3 (gr_cell _ _ _ _ _ _ G5.out (Nat.le_refl _)) (by omega) _ _ _⟩
  have n1 : (v == 1) = false := beq_eq_false_iff_ne.2 h1
  have u0 := QF 0
  have u1 := QF 1
  have u2 := QF 2
  by_cases h2 : v = 2
  · subst h2
    clear n0 n1 QF
    have S0 : (w2.setCell ⟨w.heap.size, 0, none⟩ (.bool (!L))).cell? ⟨w.heap.size + 1, 0, none⟩ = some (.bool false) := by rw [World.cell?_setCell_other _ _ _ _ (by simp)]; exact Q0
    have S1 : (w2.setCell ⟨w.heap.size, 0, none⟩ (.bool (!L))).cell? ⟨w.heap.size + 1, 1, none⟩ = some (.int .i64 0) := by rw [World.cell?_setCell_other _ _ _ _ (by simp)]; exact Q1
    have S2 : (w2.setCell ⟨w.heap.size, 0, none⟩ (.bool (!L))).cell? ⟨w.heap.size + 1, 2, none⟩ = some (.int .i64 0) := by rw [World.cell?_setCell_other _ _ _ _ (by simp)]; exact Q2
    go_wp2
    obtain ⟨m0, m1, m2⟩ := set_col S0 S1 S2 (!L) a b
    exact bodyPost_ret (v := colV (!L) a b) (by simp [results, Tryz.results46, go_sem, m0, m1, m2]) rfl ⟨_, _, _, _, rfl, fun h => by (cases h), a1, a2, b1, b2, by omega, (R3.out.cellSet hg 0 _).set3 (by omega) _ _ _, gr_set3 (gr_cell _ _ _ _ _ _ G3.out (Nat.le_refl _)) (by omega) _ _ _⟩
  have n2 : (v == 2) = false := beq_eq_false_iff_ne.2 h2
  clear QF
  go_wp2
  obtain ⟨m0, m1, m2⟩ := set_col Q0 Q1 Q2 L a b
  exact bodyPost_ret (v := colV L a b) (by simp [results, Tryz.results46, go_sem, m0, m1, m2]) rfl ⟨_, _, _, _, rfl, fun h => by (cases h), a1, a2, b1, b2, by omega, R3.out.set3 (by omega) _ _ _, gr_set3 G3.out (by omega) _ _ _⟩

end Go.Proofs.YthkjcljhfjaabaaGreatDoor
