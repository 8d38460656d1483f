/-
  Contract of the draw of a column and a text of a value.
-/
import Derived.Test.YthkjcljhfjaabaaGreatDoorDfM
import Derived.Deep.RegionHeld3
namespace Go.Proofs.YthkjcljhfjaabaaGreatDoor
open Go.RowKit Go.Sort Sets

/-- A column and a text of a value that a draw hands back. -/
def DrawCV (w : World) (e : Ending) (w' : World) : Prop := ∃ (L : Bool) (a b : Int) (s : ByteArray), e = .returned (.tuple #[colV L a b, .string s]) ∧ -200 ≤ a ∧ a ≤ 200 ∧ -200 ≤ b ∧ b ≤ 200 ∧ s.size ≤ 1000 ∧ Below w.heap.size w w'
theorem of_step2 (g B : Nat) (A : Option Addr) (n c p : Nat) (z : Nat → Int) (l : List ByteArray) (m b : Nat) (o : Obj) (t : TypeId) (w : World) (hm : m = l.length) (hb : b = w.heap.size) (ho : o = txtsObj l t) (h : Rdr w g B A n c p z) (hp : p ≤ 900000) (hl0 : 0 < m) (hl1 : m ≤ 1000) :
    Calls Tryz.prog 61 #[.pointer (some ⟨g, 0, none⟩), .slice (some ⟨b, 0, none⟩) m m] (w.alloc o) fun e w' => ∃ s, e = .returned (.string s) ∧ s ∈ l ∧ Rdr w' g B A n c (p + 1) z ∧ w.grownBy w' (some g) := by
  subst hm hb ho
  have bl : Below w.heap.size w (w.alloc (txtsObj l t)) := (Below.refl _ _).alloc (Nat.le_refl _) _
  exact (of_any g B A n c p z w.heap.size l _ (h.below bl) (by omega) (txts_new w l t) (by simp) hl0 hl1 (by have := h.lt; omega)).mono fun e w' ⟨s, he, hs, hR, hg⟩ => ⟨s, he, hs, hR, gr_trans (gr_below g bl) hg⟩

theorem ne_blk {a b o o' : Nat} (h : a < b) : (⟨b, o, none⟩ : Addr) ≠ ⟨a, o', none⟩ := fun e => by injection e with e1 _; omega

set_option maxRecDepth 100000 in
set_option maxHeartbeats 4000000 in
theorem drawPV_any (A : Option Addr) (n c : Nat) (z : Nat → Int) (w : World) (h : Bytes w A n c z) :
    Calls Tryz.prog 24 #[.slice A n c] w (DrawCV w) := by
  have b0 : Below w.heap.size w (w.alloc (.cells #[.bool false, .int .i64 0, .int .i64 0] 27)) := (Below.refl _ w).alloc (Nat.le_refl _) _
  have k := ColAt.box w false 0 0 27
  have fz : ∀ o, (w.alloc (.cells #[.bool false, .int .i64 0, .int .i64 0] 27)).frozen? ⟨w.heap.size, o, none⟩ = false := fun o => World.frozen?_alloc_at _ _ _ _ rfl
  have h1 := h.step b0
  have z0 : (w.alloc (.cells #[.bool false, .int .i64 0, .int .i64 0] 27)).heap.size = w.heap.size + 1 := by simp
  go_enter Tryz.func24, Tryz.ntmps24
  go_wp2_with fail
  refine (open_any A n c z _ h1).mono ?_
  rintro e w1 ⟨rfl, hR1, b1⟩
  generalize World.alloc w _ = W0 at b0 k fz h1 z0 hR1 b1 ⊢
  rw [z0] at hR1
  have z1 := b1.size
  go_wp2_with fail
  refine (l2col_any _ _ _ _ _ _ z w1 hR1 (by omega)).mono ?_
  rintro e w2 ⟨L2, a2, b2, p2, rfl, _, r1, r2, r3, r4, hp2, hR2, hg2⟩
  have z2 := hg2.size
  go_wp2_with fail
  refine (l2wrong_any _ _ _ _ _ p2 z L2 a2 b2 w2 hR2 (by omega) r1 r2 r3 r4).mono ?_
  rintro e w3 ⟨L, a, b, p3, rfl, _, s1, s2, s3, s4, hp3, hR3, hg3⟩
  have z3 := hg3.size
  have bx : Below w3.heap.size w3 (w3.alloc (.cells #[.bool L, .int .i64 a, .int .i64 b] 27)) := (Below.refl _ _).alloc (Nat.le_refl _) _
  obtain ⟨x0, x1, x2⟩ := ColAt.box w3 L a b 27
  have zx : w3.heap.size < (w3.alloc (.cells #[.bool L, .int .i64 a, .int .i64 b] 27)).heap.size := by simp
  have hR4 := hR3.below bx
  have G4 := gr_trans (gr_trans hg2 hg3) (gr_below (w.heap.size + 1) bx)
  have hne : w3.heap.size ≠ w.heap.size + 1 := by have := hR1.lt; omega
  have hneg : w.heap.size ≠ w.heap.size + 1 := by omega
  go_wp2_with fail
  refine (specCol_b L a b _).mono ?_
  generalize World.alloc w3 _ = W4 at bx x0 x1 x2 zx hR4 G4 ⊢
  rintro e w5 ⟨rfl, b5⟩
  have y0 := (b5.cell (p := ⟨w3.heap.size, 0, none⟩) zx).trans x0
  have y1 := (b5.cell (p := ⟨w3.heap.size, 1, none⟩) zx).trans x1
  have y2 := (b5.cell (p := ⟨w3.heap.size, 2, none⟩) zx).trans x2
  have R5 := Lib.hid (hR4.below b5)
  have G5 := Lib.hid (gr_trans G4 (gr_below (w.heap.size + 1) b5))
  have NE := Lib.hid (And.intro hne hneg)
  have HP : Hid (p3 ≤ 100) := Lib.hid (by omega)
  have Z5 : Hid (w3.heap.size < w5.heap.size ∧ w.heap.size < w5.heap.size ∧ W0.heap.size ≤ w1.heap.size ∧ w.heap.size < w3.heap.size) := Lib.hid (by have := b5.size; omega)
  have B1 := Lib.hid b1
  have B0 := Lib.hid b0
  have KK := Lib.hid k
  have FZ := Lib.hid fz
  have Z0 := Lib.hid z0
  have HAB := Lib.hid (show -200 ≤ a ∧ a ≤ 200 ∧ -200 ≤ b ∧ b ≤ 200 from ⟨s1, s2, s3, s4⟩)
  clear hR1 hR2 hR3 hR4 hg2 hg3 G4 bx zx hne hneg x0 x1 x2 b5 b0 b1 k fz h1 h z0 hp2 hp3 z1 z2 z3
  -- what the result's cell holds, in whatever world
  have RC : ∀ W, w1.grownBy W (some (w.heap.size + 1)) → ColAt W w.heap.size false 0 0 ∧ (∀ o, W.frozen? ⟨w.heap.size, o, none⟩ = false) ∧ Below w.heap.size w W := fun W hW => by
    have bG : Below W0.heap.size W0 W := B1.out.trans (gr_to_below hW Z5.out.2.2.1 (by have := Z0.out; omega))
    exact ⟨KK.out.below bG (by have := Z0.out; omega), fun o => (bG.frozen (p := ⟨w.heap.size, o, none⟩) (by have := Z0.out; simp only; omega)).trans (FZ.out o), B0.out.trans (bG.mono B0.out.size)⟩
  have RCH := Lib.hid RC
  clear RC B1 B0 KK FZ Z0
  cases hc : colB L a b
  · clear hc
    obtain ⟨wq, hwq⟩ : ∃ wq, wq = w5 := ⟨_, rfl⟩
    rw [← hwq] at y0 y1 y2 R5 G5 Z5 ⊢
    clear hwq
    have q0 := y0
    have q1 := y1
    have q2 := y2
    have RQ := R5
    have GQ := G5
    have ZQ := Lib.hid Z5.out.1
    obtain ⟨pq, hpq⟩ : ∃ pq, pq = p3 := ⟨_, rfl⟩
    have HPQ : Hid (pq ≤ 200) := Lib.hid (by have := HP.out; omega)
    rw [← hpq] at RQ
    clear y0 y1 y2 hpq
    have RD := Lib.hid (show Rdr wq.drew (w.heap.size + 1) (w.heap.size + 1) A (min n 2000) c pq z from RQ.out.below (Below.refl _ _).drew)
    have GD := Lib.hid (gr_trans GQ.out (gr_below (w.heap.size + 1) (Below.refl wq.heap.size wq).drew))
    clear R5 G5
    go_upto_region 5 with fail
    go_region_held3 (fun w' => w'.cell? ⟨w3.heap.size, 0, none⟩ = some (.bool L) ∧ w'.cell? ⟨w3.heap.size, 1, none⟩ = some (.int .i64 a) ∧ w'.cell? ⟨w3.heap.size, 2, none⟩ = some (.int .i64 b)) (first | exact ⟨q0, q1, q2⟩ | exact ⟨(((Below.refl wq.heap.size wq.drew).alloc (Nat.le_refl _) _).cell (p := ⟨w3.heap.size, 0, none⟩) ZQ.out).trans q0, (((Below.refl wq.heap.size wq.drew).alloc (Nat.le_refl _) _).cell (p := ⟨w3.heap.size, 1, none⟩) ZQ.out).trans q1, (((Below.refl wq.heap.size wq.drew).alloc (Nat.le_refl _) _).cell (p := ⟨w3.heap.size, 2, none⟩) ZQ.out).trans q2⟩ | exact ⟨by rw [World.cell?_setCell_other _ _ _ _ (ne_blk Z5.out.2.2.2).symm, World.cell?_setCell_other _ _ _ _ (ne_blk Z5.out.2.2.2).symm, World.cell?_setCell_other _ _ _ _ (ne_blk Z5.out.2.2.2).symm]; exact q0, by rw [World.cell?_setCell_other _ _ _ _ (ne_blk Z5.out.2.2.2).symm, World.cell?_setCell_other _ _ _ _ (ne_blk Z5.out.2.2.2).symm, World.cell?_setCell_other _ _ _ _ (ne_blk Z5.out.2.2.2).symm]; exact q1, by rw [World.cell?_setCell_other _ _ _ _ (ne_blk Z5.out.2.2.2).symm, World.cell?_setCell_other _ _ _ _ (ne_blk Z5.out.2.2.2).symm, World.cell?_setCell_other _ _ _ _ (ne_blk Z5.out.2.2.2).symm]; exact q2⟩) (first | (go_at_call 61; refine (of_step2 _ _ _ _ _ pq z [⟨#[48]⟩, ⟨#[49]⟩, ⟨#[65]⟩, ⟨#[66]⟩, ⟨#[45, 53]⟩, ⟨#[50, 48]⟩, ⟨#[48, 51]⟩, ⟨#[45, 48]⟩, ⟨#[]⟩, ⟨#[90]⟩, ⟨#[57]⟩, ⟨#[57, 57]⟩, ⟨#[120]⟩, ⟨#[49, 32]⟩] _ _ _ 9 wq.drew rfl rfl rfl RD.out (by have := HPQ.out; omega) (by decide) (by decide)).mono ?_; rintro e w7 ⟨t, rfl, ht, hR7, hg7⟩; have hg7' := gr_trans GD.out hg7; obtain ⟨⟨m0, m1, m2⟩, mf, BZ⟩ := RCH.out w7 hg7'; have f0 := mf 0; have f1 := mf 1; have f2 := mf 2; have BZH := Lib.hid BZ; have HTM := Lib.hid ht; have q0 : w7.cell? ⟨w3.heap.size, 0, none⟩ = some (.bool L) := (gr_kept hg7 ZQ.out NE.out.1 0).1.trans q0; have q1 : w7.cell? ⟨w3.heap.size, 1, none⟩ = some (.int .i64 a) := (gr_kept hg7 ZQ.out NE.out.1 1).1.trans q1; have q2 : w7.cell? ⟨w3.heap.size, 2, none⟩ = some (.int .i64 b) := (gr_kept hg7 ZQ.out NE.out.1 2).1.trans q2; clear ht hR7 hg7 hg7' mf BZ))
    all_goals
      have htz : t.size ≤ 1000 := by
        have ht := HTM.out
        simp only [List.mem_cons, List.mem_nil_iff, or_false] at ht
        rcases ht with rfl | rfl | rfl | rfl | rfl | rfl | rfl | rfl | rfl | rfl | rfl | rfl | rfl | rfl <;> decide
      have HTZ := Lib.hid htz
      obtain ⟨u0, u1, u2⟩ := set_col m0 m1 m2 L a b
      clear htz q0 q1 q2 m0 m1 m2 f0 f1 f2
      go_wp2
      exact bodyPost_ret (v := .tuple #[colV L a b, .string t]) (by simp [results, Tryz.results24, go_sem, u0, u1, u2]) rfl ⟨L, a, b, t, rfl, HAB.out.1, HAB.out.2.1, HAB.out.2.2.1, HAB.out.2.2.2, HTZ.out, set_below BZH.out (Nat.le_refl _) _ _ _⟩
  · have HC := Lib.hid hc
    have hsm := colB_small hc
    have hab := ((colB_iff _ _ _).1 hc).2.1
    clear hc
    go_wp2_with fail
    refine (pick_step _ _ _ _ _ p3 z 4 _ R5.out (by have := HP.out; omega) (by omega) (by omega)).mono ?_
    rintro e wq ⟨v, rfl, hv0, hv4, hR6, hg6⟩
    have q0 := (gr_kept hg6 Z5.out.1 NE.out.1 0).1.trans y0
    have q1 := (gr_kept hg6 Z5.out.1 NE.out.1 1).1.trans y1
    have q2 := (gr_kept hg6 Z5.out.1 NE.out.1 2).1.trans y2
    have ZQ := Lib.hid (Nat.lt_of_lt_of_le Z5.out.1 hg6.size)
    have GQ := Lib.hid (gr_trans G5.out hg6)
    have RQ' := hR6
    obtain ⟨pq, hpq⟩ : ∃ pq, pq = p3 + 1 := ⟨_, rfl⟩
    rw [← hpq] at RQ'
    have RQ := Lib.hid RQ'
    have HPQ : Hid (pq ≤ 200) := Lib.hid (by have := HP.out; omega)
    clear y0 y1 y2 hR6 hg6 RQ' hpq
    by_cases hv : 0 < v
    · clear hv0 hv4
      have e1 : IntKind.i64.wrap (b - a) = b - a := IntWalk.i64_in _ (by omega)
      have e2 : IntKind.i64.wrap (b - a + 1) = b - a + 1 := IntWalk.i64_in _ (by omega)
      have e0 : ¬ (b - a + 1 = 0) := by omega
      have e0b : ((b - a + 1) == 0) = false := beq_eq_false_iff_ne.2 e0
      have HSM := Lib.hid (And.intro hab hsm)
      clear hab hsm
      have RD := Lib.hid (show Rdr wq.drew (w.heap.size + 1) (w.heap.size + 1) A (min n 2000) c pq z from RQ.out.below (Below.refl _ _).drew)
      have GD := Lib.hid (gr_trans GQ.out (gr_below (w.heap.size + 1) (Below.refl wq.heap.size wq).drew))
      clear R5 G5
      go_upto_region 4 with fail
      go_region_held3 (fun w' => w'.cell? ⟨w3.heap.size, 0, none⟩ = some (.bool L) ∧ w'.cell? ⟨w3.heap.size, 1, none⟩ = some (.int .i64 a) ∧ w'.cell? ⟨w3.heap.size, 2, none⟩ = some (.int .i64 b)) (first | exact ⟨q0, q1, q2⟩ | exact ⟨(((Below.refl wq.heap.size wq.drew).alloc (Nat.le_refl _) _).cell (p := ⟨w3.heap.size, 0, none⟩) ZQ.out).trans q0, (((Below.refl wq.heap.size wq.drew).alloc (Nat.le_refl _) _).cell (p := ⟨w3.heap.size, 1, none⟩) ZQ.out).trans q1, (((Below.refl wq.heap.size wq.drew).alloc (Nat.le_refl _) _).cell (p := ⟨w3.heap.size, 2, none⟩) ZQ.out).trans q2⟩ | exact ⟨by rw [World.cell?_setCell_other _ _ _ _ (ne_blk Z5.out.2.2.2).symm, World.cell?_setCell_other _ _ _ _ (ne_blk Z5.out.2.2.2).symm, World.cell?_setCell_other _ _ _ _ (ne_blk Z5.out.2.2.2).symm]; exact q0, by rw [World.cell?_setCell_other _ _ _ _ (ne_blk Z5.out.2.2.2).symm, World.cell?_setCell_other _ _ _ _ (ne_blk Z5.out.2.2.2).symm, World.cell?_setCell_other _ _ _ _ (ne_blk Z5.out.2.2.2).symm]; exact q1, by rw [World.cell?_setCell_other _ _ _ _ (ne_blk Z5.out.2.2.2).symm, World.cell?_setCell_other _ _ _ _ (ne_blk Z5.out.2.2.2).symm, World.cell?_setCell_other _ _ _ _ (ne_blk Z5.out.2.2.2).symm]; exact q2⟩) (first
        | (go_at_call 63; refine (num_step _ _ _ _ _ pq z [0, 1, 3, 5] _ _ _ wq.drew rfl rfl rfl RD.out (by have := HPQ.out; omega) (by decide) (by decide)).mono ?_; rintro e w7 ⟨t, rfl, ht, hR7, hg7⟩; have ht5 : 0 ≤ t ∧ t ≤ 5 := (by simp at ht; omega); have htm : 0 ≤ t.tmod (b - a + 1) ∧ t.tmod (b - a + 1) < b - a + 1 := ⟨Int.tmod_nonneg _ ht5.1, Int.tmod_lt_of_pos _ (by have := HSM.out; omega)⟩; obtain ⟨r, hr⟩ : ∃ r, t.tmod (b - a + 1) = r := ⟨_, rfl⟩; have hr2 : 0 ≤ r ∧ r < b - a + 1 := (by rw [← hr]; exact htm); have hr3 : IntKind.i64.wrap r = r := IntWalk.i64_in _ (by have := HSM.out; omega); have hr4 : IntKind.i64.wrap (a + r) = a + r := IntWalk.i64_in _ (by have := HSM.out; omega); have HIN := Lib.hid ((inB_iff L a b (a + r)).2 ⟨HC.out, by omega, by omega⟩); have GD := Lib.hid (gr_trans GD.out hg7); have q0 : w7.cell? ⟨w3.heap.size, 0, none⟩ = some (.bool L) := (gr_kept hg7 ZQ.out NE.out.1 0).1.trans q0; have q1 : w7.cell? ⟨w3.heap.size, 1, none⟩ = some (.int .i64 a) := (gr_kept hg7 ZQ.out NE.out.1 1).1.trans q1; have q2 : w7.cell? ⟨w3.heap.size, 2, none⟩ = some (.int .i64 b) := (gr_kept hg7 ZQ.out NE.out.1 2).1.trans q2; have Z7 := Lib.hid (Nat.lt_of_lt_of_le ZQ.out hg7.size); clear ht ht5 htm hR7 hg7 hr2)
        | (go_at_call 59; refine (specText_any L a b (a + r) HIN.out _).mono ?_; rintro e w8 ⟨rfl, b8⟩; have hg8 := gr_trans GD.out (gr_below (w.heap.size + 1) b8); obtain ⟨⟨m0, m1, m2⟩, mf, BZ⟩ := RCH.out w8 hg8; have f0 := mf 0; have f1 := mf 1; have f2 := mf 2; have BZH := Lib.hid BZ; have q0 : w8.cell? ⟨w3.heap.size, 0, none⟩ = some (.bool L) := (b8.cell (p := ⟨w3.heap.size, 0, none⟩) Z7.out).trans q0; have q1 : w8.cell? ⟨w3.heap.size, 1, none⟩ = some (.int .i64 a) := (b8.cell (p := ⟨w3.heap.size, 1, none⟩) Z7.out).trans q1; have q2 : w8.cell? ⟨w3.heap.size, 2, none⟩ = some (.int .i64 b) := (b8.cell (p := ⟨w3.heap.size, 2, none⟩) Z7.out).trans q2; clear hg8 mf BZ b8))
      all_goals
        obtain ⟨u, hue⟩ : ∃ u : ByteArray, u = ⟨(vT L (a + r)).toArray⟩ := ⟨_, rfl⟩
        have HUS : Hid (u.size ≤ 1000) := Lib.hid (by rw [hue, Lib.size_eq]; have := (vT_bytes HIN.out).2.2.1; exact Nat.le_trans this (by decide))
        have hut : strV (vT L (a + r)) = .string u := by rw [hue]
        rw [hut]
        obtain ⟨u0, u1, u2⟩ := set_col m0 m1 m2 L a b
        clear q0 q1 q2 m0 m1 m2 f0 f1 f2 hue hut
        go_wp2
        exact bodyPost_ret (v := .tuple #[colV L a b, .string u]) (by simp [results, Tryz.results24, go_sem, u0, u1, u2]) rfl ⟨L, a, b, u, rfl, HAB.out.1, HAB.out.2.1, HAB.out.2.2.1, HAB.out.2.2.2, HUS.out, set_below BZH.out (Nat.le_refl _) _ _ _⟩
    · have hvd : decide (0 < v) = false := decide_eq_false hv
      clear hv0 hv4 hab hsm
      have RD := Lib.hid (show Rdr wq.drew (w.heap.size + 1) (w.heap.size + 1) A (min n 2000) c pq z from RQ.out.below (Below.refl _ _).drew)
      have GD := Lib.hid (gr_trans GQ.out (gr_below (w.heap.size + 1) (Below.refl wq.heap.size wq).drew))
      clear R5 G5
      go_upto_region 5 with fail
      go_region_held3 (fun w' => w'.cell? ⟨w3.heap.size, 0, none⟩ = some (.bool L) ∧ w'.cell? ⟨w3.heap.size, 1, none⟩ = some (.int .i64 a) ∧ w'.cell? ⟨w3.heap.size, 2, none⟩ = some (.int .i64 b)) (first | exact ⟨q0, q1, q2⟩ | exact ⟨(((Below.refl wq.heap.size wq.drew).alloc (Nat.le_refl _) _).cell (p := ⟨w3.heap.size, 0, none⟩) ZQ.out).trans q0, (((Below.refl wq.heap.size wq.drew).alloc (Nat.le_refl _) _).cell (p := ⟨w3.heap.size, 1, none⟩) ZQ.out).trans q1, (((Below.refl wq.heap.size wq.drew).alloc (Nat.le_refl _) _).cell (p := ⟨w3.heap.size, 2, none⟩) ZQ.out).trans q2⟩ | exact ⟨by rw [World.cell?_setCell_other _ _ _ _ (ne_blk Z5.out.2.2.2).symm, World.cell?_setCell_other _ _ _ _ (ne_blk Z5.out.2.2.2).symm, World.cell?_setCell_other _ _ _ _ (ne_blk Z5.out.2.2.2).symm]; exact q0, by rw [World.cell?_setCell_other _ _ _ _ (ne_blk Z5.out.2.2.2).symm, World.cell?_setCell_other _ _ _ _ (ne_blk Z5.out.2.2.2).symm, World.cell?_setCell_other _ _ _ _ (ne_blk Z5.out.2.2.2).symm]; exact q1, by rw [World.cell?_setCell_other _ _ _ _ (ne_blk Z5.out.2.2.2).symm, World.cell?_setCell_other _ _ _ _ (ne_blk Z5.out.2.2.2).symm, World.cell?_setCell_other _ _ _ _ (ne_blk Z5.out.2.2.2).symm]; exact q2⟩) (first | (go_at_call 61; refine (of_step2 _ _ _ _ _ pq z [⟨#[48]⟩, ⟨#[49]⟩, ⟨#[65]⟩, ⟨#[66]⟩, ⟨#[45, 53]⟩, ⟨#[50, 48]⟩, ⟨#[48, 51]⟩, ⟨#[45, 48]⟩, ⟨#[]⟩, ⟨#[90]⟩, ⟨#[57]⟩, ⟨#[57, 57]⟩, ⟨#[120]⟩, ⟨#[49, 32]⟩] _ _ _ 9 wq.drew rfl rfl rfl RD.out (by have := HPQ.out; omega) (by decide) (by decide)).mono ?_; rintro e w7 ⟨t, rfl, ht, hR7, hg7⟩; have hg7' := gr_trans GD.out hg7; obtain ⟨⟨m0, m1, m2⟩, mf, BZ⟩ := RCH.out w7 hg7'; have f0 := mf 0; have f1 := mf 1; have f2 := mf 2; have BZH := Lib.hid BZ; have HTM := Lib.hid ht; have q0 : w7.cell? ⟨w3.heap.size, 0, none⟩ = some (.bool L) := (gr_kept hg7 ZQ.out NE.out.1 0).1.trans q0; have q1 : w7.cell? ⟨w3.heap.size, 1, none⟩ = some (.int .i64 a) := (gr_kept hg7 ZQ.out NE.out.1 1).1.trans q1; have q2 : w7.cell? ⟨w3.heap.size, 2, none⟩ = some (.int .i64 b) := (gr_kept hg7 ZQ.out NE.out.1 2).1.trans q2; clear ht hR7 hg7 hg7' mf BZ))
      all_goals
        have htz : t.size ≤ 1000 := by
          have ht := HTM.out
          simp only [List.mem_cons, List.mem_nil_iff, or_false] at ht
          rcases ht with rfl | rfl | rfl | rfl | rfl | rfl | rfl | rfl | rfl | rfl | rfl | rfl | rfl | rfl <;> decide
        have HTZ := Lib.hid htz
        obtain ⟨u0, u1, u2⟩ := set_col m0 m1 m2 L a b
        clear htz q0 q1 q2 m0 m1 m2 f0 f1 f2
        go_wp2
        exact bodyPost_ret (v := .tuple #[colV L a b, .string t]) (by simp [results, Tryz.results24, go_sem, u0, u1, u2]) rfl ⟨L, a, b, t, rfl, HAB.out.1, HAB.out.2.1, HAB.out.2.2.1, HAB.out.2.2.2, HTZ.out, set_below BZH.out (Nat.le_refl _) _ _ _⟩
end Go.Proofs.YthkjcljhfjaabaaGreatDoor
