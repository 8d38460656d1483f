/-
  Contract of the draw of a set of a column.
-/
import Derived.Test.YthkjcljhfjaabaaGreatDoorDd
import Derived.Test.YthkjcljhfjaabaaGreatDoorTpM
import Derived.Test.YthkjcljhfjaabaaGreatDoorJo
import Derived.Test.YthkjcljhfjaabaaGreatDoorSz
namespace Go.Proofs.YthkjcljhfjaabaaGreatDoor
open Go.RowKit Sets

theorem meet_one_len : ∀ (a : List Sp) (y : Sp), (meetP a [y]).length ≤ a.length
  | [], y => by simp [meetP]
  | x :: a, y => by
    have := capS_len x y
    rw [meetP, List.length_append]
    split
    · have := meet_one_len a y; simp; omega
    · simp [meetP]; omega
theorem meet_isT {L : Bool} {a b : Int} {xs : List Sp} (hc : colB L a b = true) (hx : validB xs = true) : isT L a b (fromF (fun j => jf true false (flag xs j) (flag (colS L a b) j)) 199) = true := by
  rw [join_meet hx (colS_valid L a b), ← meetV_yes hx (colS_valid L a b)]
  obtain ⟨m1, m2, m3⟩ := meetV_facts hx (colS_valid L a b)
  have hl : (meetV xs (colS L a b)).length ≤ 12 := by
    rw [meetV_yes hx (colS_valid L a b), colS_yes hc]
    have := meet_one_len xs (a, b)
    have := valid_len hx
    omega
  refine (isT_iff _ _ _ _).2 ⟨hc, mk_valid hl m1 m2, fun n hn => ?_⟩
  have := ((m3 n).1 hn).2
  rw [colS_yes hc] at this
  exact (memS_one a b n).1 this

/-- A set of a column that a draw hands back. -/
def SomeRes (L : Bool) (a b : Int) (g B : Nat) (A : Option Addr) (n c p : Nat) (z : Nat → Int) (w : World) (e : Ending) (w' : World) : Prop :=
  ∃ (v : Value) (xs : List Sp) (p' : Nat), e = .returned v ∧ OwnS w' w.heap.size v xs ∧ Fits xs ∧ xs.length ≤ 199 ∧ p' ≤ p + 8 ∧ Rdr w' g B A n c p' z ∧ w.grownBy w' (some g) ∧ (colB L a b = true → isT L a b xs = true)

set_option maxRecDepth 100000 in
set_option maxHeartbeats 4000000 in
theorem some_any (g B : Nat) (A : Option Addr) (n c p : Nat) (z : Nat → Int) (L : Bool) (a b : Int) (w : World) (h : Rdr w g B A n c p z) (hp : p ≤ 900000) (hab : a ≤ b) (ha : -200 ≤ a) (hb : b ≤ 200) :
    Calls Tryz.prog 45 #[.pointer (some ⟨g, 0, none⟩), colV L a b] w (SomeRes L a b g B A n c p z w) := by
  obtain ⟨i0, hi0, hz0, hz1, hz2⟩ := infoSp
  have hg := h.lt
  have b0 : Below w.heap.size w (w.alloc (.cells #[.bool L, .int .i64 a, .int .i64 b] 27)) := (Below.refl _ w).alloc (Nat.le_refl _) _
  have k := ColAt.box w L a b 27
  have zz : w.heap.size < (w.alloc (.cells #[.bool L, .int .i64 a, .int .i64 b] 27)).heap.size := by simp
  have R0 := h.below b0
  have csl : (colS L a b).length ≤ 199 := by have := colS_len L a b; omega
  clear h
  go_enter Tryz.func45, Tryz.ntmps45
  go_wp2_with fail
  generalize World.alloc w _ = W0 at b0 k zz R0 ⊢
  refine (pick_step g B A n c p z 5 W0 R0 (by omega) (by omega) (by omega)).mono ?_
  rintro e w1 ⟨v, rfl, hv0, hv5, hR1, hg1⟩
  obtain ⟨q0, q1, q2⟩ := k
  have x0 := (gr_kept hg1 zz (by omega) 0).1.trans q0
  have x1 := (gr_kept hg1 zz (by omega) 1).1.trans q1
  have x2 := (gr_kept hg1 zz (by omega) 2).1.trans q2
  have z1 : w.heap.size < w1.heap.size := Nat.lt_of_lt_of_le zz hg1.size
  have G1 := gr_trans (gr_below g b0) hg1
  clear q0 q1 q2 R0 hg1 b0 zz
  by_cases hv : v = 0
  · subst hv
    have R1 := Lib.hid hR1
    have GG := Lib.hid G1
    go_wp2_with fail
    refine (specColSet_any L a b _).mono ?_
    rintro e w2 ⟨v2, rfl, own2, fit2, b2⟩
    go_wp2
    go_ret
    exact ⟨_, _, p + 1, rfl, own2.mono (by omega), fit2, csl, by omega, R1.out.below b2, gr_trans GG.out (gr_below g b2), fun h => col_isT h⟩
  · have hvn : (v == 0) = false := beq_eq_false_iff_ne.2 hv
    have hE := hR1.below ((Below.refl _ _).alloc (Nat.le_refl _) (.cells #[] 55))
    go_wp2_with fail
    refine (num_step g B A n c (p + 1) z [1, 2, 1, 3, 0] _ _ _ (w1.alloc (.cells #[] 55)) rfl (by simp) rfl hE (by omega) (by decide) (by decide)).mono ?_
    rintro e w2 ⟨m0, rfl, hm, hR2, hg2⟩
    have hm0 : 0 ≤ m0 := by simp at hm; omega
    have hm3 : m0 ≤ 3 := by simp at hm; omega
    have ge : w1.grownBy w2 (some g) := gr_trans (gr_below g ((Below.refl _ _).alloc (Nat.le_refl _) _)) hg2
    have hgw : w.grownBy w2 (some g) := gr_trans G1 ge
    have hown2 : OwnS w2 w1.heap.size (.slice (some ⟨w1.heap.size, 0, none⟩) 0 0) [] := (own_empty w1).gr hg2 (by have := hR1.lt; omega)
    have x0 := (gr_kept ge z1 (by omega) 0).1.trans x0
    have x1 := (gr_kept ge z1 (by omega) 1).1.trans x1
    have x2 := (gr_kept ge z1 (by omega) 2).1.trans x2
    have s12 := ge.size
    clear hm hg2 hE hR1 G1 ge hv hvn hv0 hv5
    go_wp2
    go_loopw [5, 6] (fun v i wr => ∃ (m p1 : Nat) (acc : List Sp), i = .int .i64 m ∧ acc.length + m ≤ 3 ∧ p1 + 2 * m ≤ p + 8 ∧ OwnS wr w1.heap.size v acc ∧ Fits acc ∧ Rdr wr g B A n c p1 z ∧ w.grownBy wr (some g) ∧ ColAt wr w.heap.size L a b ∧ w1.heap.size ≤ wr.heap.size) (fun _ i _ => (intOf i).toNat)
    case atStart =>
      obtain ⟨m, rfl⟩ := Int.eq_ofNat_of_zero_le hm0
      exact ⟨m, p + 1 + 1, [], rfl, by simp; omega, by omega, hown2, fits_nil, hR2, hgw, ⟨x0, x1, x2⟩, s12⟩
    case round =>
      obtain ⟨m, p1, acc, rfl, hal, hpl, hown, hfa, hR, hgr, ⟨y0, y1, y2⟩, hsz⟩ := hrel
      by_cases hm : 0 < m
      · have hmi : (0 : Int) < (m : Int) := by omega
        have e1 : IntKind.i64.wrap (b - a) = b - a := IntWalk.i64_in _ (by omega)
        have e2 : IntKind.i64.wrap (b - a + 1) = b - a + 1 := IntWalk.i64_in _ (by omega)
        have RR := Lib.hid (show Rdr wr.drew g B A n c p1 z from hR.below (Below.refl _ _).drew)
        have HA := Lib.hid (show a ≤ b ∧ -200 ≤ a ∧ b ≤ 200 ∧ p1 ≤ 1000000 ∧ 1 ≤ b - a + 1 ∧ b - a + 1 ≤ 4611686018427387904 from ⟨hab, ha, hb, by omega, by omega, by omega⟩)
        have hzr : w.heap.size < wr.heap.size := by omega
        have hgn : w.heap.size ≠ g := by omega
        have y0' := y0
        have y1' := y1
        have y2' := y2
        go_upto_region 7 with fail
        go_region_with (go_at_call 60; refine (pick_step g B A n c p1 z _ _ RR.out HA.out.2.2.2.1 HA.out.2.2.2.2.1 HA.out.2.2.2.2.2).mono ?_; rintro e w3 ⟨x, rfl, hx0, hx1, hR3, hg3⟩; have hg3 : wr.grownBy w3 (some g) := gr_trans (gr_below g (Below.refl _ _).drew) hg3; have y0 := (gr_kept hg3 hzr hgn 0).1.trans y0; have y1 := (gr_kept hg3 hzr hgn 1).1.trans y1; have y2 := (gr_kept hg3 hzr hgn 2).1.trans y2; have e3 : IntKind.i64.wrap (a + x) = a + x := IntWalk.i64_in _ (by have := HA.out; omega))
        all_goals
          go_wp2_with fail
          refine (num_step g B A n c (p1 + 1) z [0, 1, 3, 10] _ _ _ w3 rfl rfl rfl hR3 (by omega) (by decide) (by decide)).mono ?_
          rintro e w4 ⟨y, rfl, hy, hR4, hg4⟩
          have hy1 : 0 ≤ y := by simp at hy; omega
          have hy2 : y ≤ 10 := by simp at hy; omega
          clear hy
          have hgl : g < w1.heap.size := by omega
          have hg34 := gr_trans hg3 hg4
          have hown3 : OwnS w4 w1.heap.size u5 acc := hown.gr hg34 hgl
          have hown4 := World.ownsRow.alloc hown3 (.cells #[.int .i64 (a + x), .int .i64 (a + x + y)] 55)
          have hf4 := fits_snoc (a := a + x) (b := a + x + y) hfa (by unfold I64; omega) (by unfold I64; omega)
          have hR5 := Lib.hid (hR4.below ((Below.refl _ _).alloc (Nat.le_refl _) (.cells #[.int .i64 (a + x), .int .i64 (a + x + y)] 55)))
          have e4 : IntKind.i64.wrap (a + x + y) = a + x + y := IntWalk.i64_in _ (by omega)
          have s4 := hg34.size
          have hrow3 : ∀ i, u5.ownBlock = some i → w1.heap.size ≤ i := fun i hi => (hown.lt i hi).1
          have hga : wr.grownBy (w4.alloc (.cells #[.int .i64 (a + x), .int .i64 (a + x + y)] 55)) (some g) := gr_trans hg34 (gr_below g ((Below.refl _ _).alloc (Nat.le_refl _) _))
          go_wp2_with (at_builtin; refine wpList_append_own _ rfl (.tmp 34) (.tmp 42) 24 rfl w1.heap.size 55 i0 _ 2 16 Tryz.underlying24 hi0 hz0 hz1 hz2 rfl (by decide) _ acc.length (cellsOf acc) rfl hown4 ⟨w4.heap.size, 0, none⟩ 1 1 [.int .i64 (a + x), .int .i64 (a + x + y)] rfl rfl (cell_one _ _ _ _ rfl) (by simp [Value.oneCell']) (by unfold maxLen; omega) (by omega) (by simp; omega) ?_; intro v' w5 hown5 hgrow _)
          have hR6 := Rdr.rowed (row := u5.ownBlock) hR5.out hgrow (fun i hi => by have := hrow3 i hi; omega)
          have hg5 : w.grownBy w5 (some g) := gr_row (row := u5.ownBlock) (gr_trans hgr hga) hgrow (fun i hi => by have := hrow3 i hi; omega)
          have hkc : ∀ o, w5.cell? ⟨w.heap.size, o, none⟩ = wr.cell? ⟨w.heap.size, o, none⟩ := fun o => by
            have h1 := (gr_kept hga hzr hgn o).1
            rw [← h1]
            exact World.cell?_of_block (a := ⟨w.heap.size, o, none⟩) (hgrow.block w.heap.size (by simp; omega) (fun e => by have := hrow3 _ e.symm; omega))
          refine ⟨⟨m - 1, p1 + 1 + 1, acc ++ [(a + x, a + x + y)], congrArg (Value.int .i64) (by omega), by rw [List.length_append]; simp; omega, by omega, OwnS.of_append hown5, hf4, hR6, hg5, ⟨(hkc 0).trans y0', (hkc 1).trans y1', (hkc 2).trans y2'⟩, by have := hgrow.size; simp at this; omega⟩, ?_⟩
          simp [intOf]
          omega
      · obtain rfl : m = 0 := by omega
        obtain ⟨A5, c5, hv5, hr5, _⟩ := hown.form hfa
        subst hv5
        have RR := Lib.hid hR
        have GG := Lib.hid hgr
        have hzr : w.heap.size < wr.heap.size := by omega
        clear hown hR hgr
        go_wp2_with fail
        refine (specOf_any _ _ acc _ hr5).mono ?_
        rintro e w6 ⟨v6, rfl, own6, fit6, b6⟩
        obtain ⟨u0, u1, u2⟩ := ColAt.below (g := w.heap.size) ⟨y0, y1, y2⟩ b6 hzr
        have hz6 : w.heap.size < w6.heap.size := Nat.lt_of_lt_of_le hzr b6.size
        have VA := Lib.hid fun h => (setOf_facts (xs := acc) h).1
        cases hok : setOfB acc
        · go_wp2_with fail
          refine (specColSet_any L a b _).mono ?_
          rintro e w7 ⟨v7, rfl, own7, fit7, b7⟩
          have B7 := b6.trans (b7.mono b6.size)
          go_wp2
          go_ret
          exact ⟨_, _, p1, rfl, own7.mono (by omega), fit7, csl, by omega, RR.out.below B7, gr_trans GG.out (gr_below g B7), fun h => col_isT h⟩
        · have VB := Lib.hid (VA.out hok)
          obtain ⟨A6, c6, rfl, hr6, _⟩ := own6.form fit6
          go_wp2_with fail
          refine (specColSet_any L a b _).mono ?_
          rintro e w7 ⟨v7, rfl, own7, fit7, b7⟩
          have B7 := b6.trans (b7.mono b6.size)
          obtain ⟨A7, c7, rfl, hr7, _⟩ := own7.form fit7
          have hr67 := hr6.step b7
          clear own6 own7
          go_wp2_with fail
          refine (join_any _ _ _ _ (setOfV acc) (colS L a b) true false _ hr67 hr7).mono ?_
          rintro e w8 ⟨v8, rfl, own8, fit8, b8⟩
          have B8 := B7.trans (b8.mono B7.size)
          have hz8 := B7.size
          go_wp2
          go_ret
          exact ⟨_, _, p1, rfl, own8.mono (by omega), fit8, fromF_len _ _, by omega, RR.out.below B8, gr_trans GG.out (gr_below g B8), fun h => meet_isT h VB.out⟩
end Go.Proofs.YthkjcljhfjaabaaGreatDoor
