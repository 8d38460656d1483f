/-
  Contracts of the copies and the changed copies of drawn sets.
-/
import Derived.Test.YthkjcljhfjaabaaGreatDoorDw
namespace Go.Proofs.YthkjcljhfjaabaaGreatDoor
open Go.RowKit Sets

theorem news_of {w : World} {b off : Nat} {xs : List Sp} (h : RowAt w b off xs) : ∀ (j : Nat) (u : Value), (cellsOf xs)[j]? = some u → w.cell? ((⟨b, off, none⟩ : Addr).add j) = some u := by
  intro j u hu
  have hadd : (⟨b, off, none⟩ : Addr).add j = ⟨b, off + j, none⟩ := by unfold Addr.add; split <;> simp_all
  rw [hadd]
  have hj : j < xs.length * 2 := by
    rw [← cellsOf_length]
    rcases Nat.lt_or_ge j (cellsOf xs).length with h | h
    · exact h
    · rw [List.getElem?_eq_none h] at hu; cases hu
  have hi : j / 2 < xs.length := by omega
  have hc := cellsOf_at xs (j / 2) hi
  have hr := h (j / 2) hi
  rcases Nat.mod_two_eq_zero_or_one j with e | e
  · have ej : j = j / 2 * 2 := by omega
    rw [ej] at hu
    rw [hc.1] at hu
    rw [ej, hr.1]; exact hu
  · have ej : j = j / 2 * 2 + 1 := by omega
    rw [ej] at hu
    rw [hc.2] at hu
    rw [ej, ← Nat.add_assoc, hr.2]; exact hu
theorem one_cells (xs : List Sp) : ∀ u ∈ cellsOf xs, u.oneCell' = true := by
  induction xs with
  | nil => intro u hu; cases hu
  | cons x xs ih =>
    intro u hu
    simp only [cellsOf, List.mem_cons] at hu
    rcases hu with rfl | rfl | hu
    · rfl
    · rfl
    · exact ih u hu

set_option maxRecDepth 100000 in
theorem copy_any (A : Option Addr) (c : Nat) (xs : List Sp) (w : World) (h : Reads w w.heap.size A c xs) (hl : xs.length ≤ 65536) :
    Calls Tryz.prog 83 #[.slice A xs.length c] w (OwnRes w.heap.size xs w) := by
  obtain ⟨i0, hi0, hz0, hz1, hz2⟩ := infoSp
  have H := Lib.hid h
  obtain ⟨hlc, hc, hfit, hrow⟩ := h
  have hE := own_empty w
  have HF := Lib.hid hfit
  go_enter Tryz.func83, Tryz.ntmps83
  cases A with
  | none =>
    have he : xs = [] := by rcases hrow with h | ⟨_, _, h, _⟩; exact h; cases h
    subst he
    go_wp2
    go_ret
    exact ⟨_, rfl, hE, fits_nil, (Below.refl _ _).alloc (Nat.le_refl _) _⟩
  | some ad =>
    have hnews : ∀ (j : Nat) (u : Value), (cellsOf xs)[j]? = some u → (w.alloc (.cells #[] 55)).cell? (ad.add j) = some u := by
      rcases hrow with rfl | ⟨b, off, hA, hB, hr⟩
      · intro j u hu; simp [cellsOf] at hu
      · injection hA with hA
        subst hA
        exact news_of (hr.below ((Below.refl _ _).alloc (Nat.le_refl _) _) hB)
    have HN := Lib.hid hnews
    clear hnews hrow
    go_wp2_with (at_builtin; refine wpList_append_own _ rfl (.tmp 3) (.tmp 4) 24 rfl w.heap.size 55 i0 _ 2 16 Tryz.underlying24 hi0 hz0 hz1 hz2 rfl (by decide) _ ([] : List Sp).length (cellsOf []) rfl hE ad xs.length c (cellsOf xs) rfl (cellsOf_length xs) HN.out (one_cells xs) ?hc3 ?hc4 ?hc5 ?_; rotate_right; intro v' w1 hown2 hgrow _)
    case hc3 => unfold maxLen; simp; omega
    case hc4 => simp; omega
    case hc5 => simp
    go_ret
    refine ⟨_, rfl, ?_, HF.out, Below.grown (row := (Value.slice (some ⟨w.heap.size, 0, none⟩) 0 0).ownBlock) ((Below.refl _ _).alloc (Nat.le_refl _) _) hgrow (by simp) (fun k hk => (hE.lt k hk).1)⟩
    unfold OwnS
    simpa [cellsOf] using hown2
theorem cellsOf_set_lo (b : Int) : ∀ (xs : List Sp) (i : Nat), i < xs.length → cellsOf (xs.set i (b, hi xs i)) = (cellsOf xs).set (i * 2) (.int .i64 b)
  | [], i, h => by simp at h
  | x :: xs, 0, _ => rfl
  | x :: xs, i + 1, h => by
    have ih := cellsOf_set_lo b xs i (by simpa using h)
    rw [show (i + 1) * 2 = i * 2 + 1 + 1 by omega]
    simp only [List.set_cons_succ, cellsOf, List.cons.injEq, true_and]
    rw [← ih]
    rfl
theorem OwnS.set_lo {w : World} {base g cap : Nat} {xs : List Sp} (h : w.ownsRow base 55 2 (.slice (some ⟨g, 0, none⟩) xs.length cap) xs.length (cellsOf xs)) {i : Nat} (hi : i < xs.length) (b : Int) :
    OwnS (w.setCell ⟨g, i * 2, none⟩ (.int .i64 b)) base (.slice (some ⟨g, 0, none⟩) xs.length cap) (xs.set i (b, YthkjcljhfjaabaaGreatDoor.hi xs i)) := by
  unfold OwnS
  rw [cellsOf_set_lo b xs i hi, List.length_set]
  exact (World.ownsRow.stored h (i * 2) (.int .i64 b)).1
theorem fits_set {xs : List Sp} (h : Fits xs) (i : Nat) {x : Sp} (h1 : I64 x.1) (h2 : I64 x.2) : Fits (xs.set i x) := by
  intro y hy
  rcases List.mem_or_eq_of_mem_set hy with hy | rfl
  · exact h y hy
  · exact ⟨h1, h2⟩
theorem gr_cell (w : World) (g g2 o : Nat) (v : Value) (a : World) (h : a.grownBy w (some g)) (hg2 : a.heap.size ≤ g2) : a.grownBy (w.setCell ⟨g2, o, none⟩ v) (some g) :=
  ⟨h.os, h.tape, h.output, by have := h.size; simpa [World.setCell] using this, fun i hi hne => by
    rw [Below.heap_setCell _ _ _ _ (show i ≠ g2 by omega)]; exact h.block i hi hne⟩
theorem Rdr.cellSet {w : World} {g B : Nat} {A : Option Addr} {n c p : Nat} {z : Nat → Int} (h : Rdr w g B A n c p z) {g2 : Nat} (hg : g < g2) (o : Nat) (v : Value) : Rdr (w.setCell ⟨g2, o, none⟩ v) g B A n c p z where
  blk := by rw [Below.heap_setCell _ _ _ _ (show g ≠ g2 by omega)]; exact h.blk
  hn := h.hn
  hc := h.hc
  hB := h.hB
  byte := h.byte
  row hp := by
    obtain ⟨b, off, e, hb', hrow⟩ := h.row hp
    refine ⟨b, off, e, hb', fun i hi => ?_⟩
    have := h.hB
    rw [World.cell?_setCell_other _ _ _ _ (fun e => by injection e with e _; omega)]
    exact hrow i hi

set_option maxRecDepth 100000 in
set_option maxHeartbeats 2000000 in
theorem mutate_any (g B : Nat) (A : Option Addr) (n c p : Nat) (z : Nat → Int) (As : Option Addr) (cs : Nat) (xs : List Sp) (w : World) (h : Rdr w g B A n c p z) (hp : p ≤ 900000) (hs : Reads w w.heap.size As cs xs) (hl : xs.length ≤ 1000) :
    Calls Tryz.prog 44 #[.pointer (some ⟨g, 0, none⟩), .slice As xs.length cs] w (SpansRes g B A n c p 3 (xs.length + 13) z w) := by
  obtain ⟨i0, hi0, hz0, hz1, hz2⟩ := infoSp
  have hg := h.lt
  have HF := Lib.hid hs.2.2.1
  go_enter Tryz.func44, Tryz.ntmps44
  go_wp2_with fail
  refine (copy_any _ _ xs _ hs (by omega)).mono ?_
  rintro e w1 ⟨v, rfl, hown, _, b1⟩
  have hR1 := h.below b1
  have hg1 := gr_below g b1
  have hsz1 := b1.size
  clear hs
  rcases Nat.eq_zero_or_pos xs.length with hz | hpos
  · have he : xs = [] := List.eq_nil_of_length_eq_zero hz
    subst he
    obtain ⟨A0, c0, hv, _, _⟩ := hown.form fits_nil
    subst hv
    go_wp2
    go_ret
    exact ⟨_, [], p, rfl, hown, fits_nil, by simp, by omega, hR1, hg1⟩
  · obtain ⟨g2, cap2, hv, hb2, hg2, hlc2, hcm2, hrow2, hfr2, hown2⟩ := hown.block hpos
    subst hv
    have hne : ((xs.length : Int) == 0) = false := beq_eq_false_iff_ne.2 (by omega)
    have hgg : g < g2 := by omega
    go_wp2_with fail
    refine (pick_step g B A n c p z _ w1 hR1 (by omega) (by omega) (by omega)).mono ?_
    rintro e w2 ⟨k0, rfl, hk0, hk1, hR2, hgr2⟩
    obtain ⟨k, rfl⟩ := Int.eq_ofNat_of_zero_le hk0
    have hk : k < xs.length := by omega
    go_wp2_with fail
    refine (pick_step g B A n c (p + 1) z _ w2 hR2 (by omega) (by omega) (by omega)).mono ?_
    rintro e w3 ⟨j, rfl, hj0, hj1, hR3, hgr3⟩
    have hg03 := gr_trans hg1 (gr_trans hgr2 hgr3)
    have hsz3 := hg03.size
    have hown3 : OwnS w3 w.heap.size (.slice (some ⟨g2, 0, none⟩) xs.length cap2) xs := (hown.gr hgr2 hg).gr hgr3 hg
    clear hR1 hR2 hgr2 hgr3 hown2 hrow2 hfr2 hg2 hg1
    by_cases j0 : j = 0
    · subst j0
      go_wp2_with fail
      refine (num_step g B A n c (p + 1 + 1) z [-100, 50, 0, 100] _ _ _ w3 rfl rfl rfl hR3 (by omega) (by decide) (by decide)).mono ?_
      rintro e w4 ⟨a, rfl, ha, hR4, hgr4⟩
      have ha1 : I64 a := by unfold I64; simp at ha; omega
      have hown4 := hown3.gr hgr4 hg
      obtain ⟨g3, cap3, hv3, _, hg3, _, _, hrow3, hfr3, hown5⟩ := hown4.block hpos
      injection hv3 with hv3 _ hv4
      injection hv3 with hv3
      injection hv3 with hv3
      subst hv3 hv4
      obtain ⟨d1, d2⟩ := hrow3 k hk
      simp only [Nat.zero_add] at d1 d2
      have f1 := hfr3 (k * 2)
      go_wp2
      go_ret
      exact ⟨_, _, p + 1 + 1 + 1, rfl, OwnS.set_lo hown5 hk a, fits_set HF.out k ha1 (HF.out.hi k), by rw [List.length_set]; omega, by omega, hR4.cellSet hgg _ _, gr_cell _ _ _ _ _ _ (gr_trans hg03 hgr4) hb2⟩
    · have e0 : (j == 0) = false := beq_eq_false_iff_ne.2 j0
      by_cases j1 : j = 1
      · subst j1
        go_wp2_with fail
        refine (num_step g B A n c (p + 1 + 1) z [100, -50, 99, 3] _ _ _ w3 rfl rfl rfl hR3 (by omega) (by decide) (by decide)).mono ?_
        rintro e w4 ⟨a, rfl, ha, hR4, hgr4⟩
        have ha1 : I64 a := by unfold I64; simp at ha; omega
        have hown4 := hown3.gr hgr4 hg
        obtain ⟨g3, cap3, hv3, _, hg3, _, _, hrow3, hfr3, hown5⟩ := hown4.block hpos
        injection hv3 with hv3 _ hv4
        injection hv3 with hv3
        injection hv3 with hv3
        subst hv3 hv4
        obtain ⟨d1, d2⟩ := hrow3 k hk
        simp only [Nat.zero_add] at d1 d2
        have f1 := hfr3 (k * 2 + 1)
        go_wp2
        go_ret
        exact ⟨_, _, p + 1 + 1 + 1, rfl, OwnS.set_hi hown5 hk a, fits_set HF.out k (HF.out.lo k) ha1, by rw [List.length_set]; omega, by omega, hR4.cellSet hgg _ _, gr_cell _ _ _ _ _ _ (gr_trans hg03 hgr4) hb2⟩
      · have e1 : (j == 1) = false := beq_eq_false_iff_ne.2 j1
        by_cases j2 : j = 2
        · subst j2
          obtain ⟨g3, cap3, hv3, _, hg3, _, _, hrow3, hfr3, hown5⟩ := hown3.block hpos
          injection hv3 with hv3 _ hv4
          injection hv3 with hv3
          injection hv3 with hv3
          subst hv3 hv4
          obtain ⟨d1, d2⟩ := hrow3 k hk
          simp only [Nat.zero_add] at d1 d2
          have hown6 := World.ownsRow.alloc hown5 (.cells #[.int .i64 (lo xs k), .int .i64 (hi xs k)] 55)
          have hR6 := hR3.below ((Below.refl _ _).alloc (Nat.le_refl _) (.cells #[.int .i64 (lo xs k), .int .i64 (hi xs k)] 55))
          go_wp2_with (at_builtin; refine wpList_append_own _ rfl (.tmp 40) (.tmp 45) 24 rfl w.heap.size 55 i0 _ 2 16 Tryz.underlying24 hi0 hz0 hz1 hz2 rfl (by decide) _ xs.length (cellsOf xs) rfl hown6 ⟨w3.heap.size, 0, none⟩ 1 1 [.int .i64 (lo xs k), .int .i64 (hi xs k)] rfl rfl ?hc1 ?hc2 ?hc3 ?hc4 ?hc5 ?_; rotate_right; intro v' w5 hown7 hgrow _)
          case hc1 => exact cell_one _ _ _ _ rfl
          case hc2 => simp [Value.oneCell']
          case hc3 => unfold maxLen; omega
          case hc4 => omega
          case hc5 => simp; omega
          go_ret
          exact ⟨_, xs ++ [(lo xs k, hi xs k)], p + 1 + 1, rfl, OwnS.of_append hown7, fits_snoc HF.out (HF.out.lo k) (HF.out.hi k), by rw [List.length_append]; simp, by omega,
            Rdr.rowed (row := (Value.slice (some ⟨g2, 0, none⟩) xs.length cap2).ownBlock) hR6 hgrow (fun i hi => by have := (hown3.lt i hi).1; omega),
            gr_row (row := (Value.slice (some ⟨g2, 0, none⟩) xs.length cap2).ownBlock) (gr_trans hg03 (gr_below g ((Below.refl _ _).alloc (Nat.le_refl _) _))) hgrow (fun i hi => (hown3.lt i hi).1)⟩
        · have e2 : (j == 2) = false := beq_eq_false_iff_ne.2 j2
          by_cases j3 : j = 3
          · subst j3
            go_wp2
            go_loopw [5, 7] (fun v i wr => ∃ (m : Nat) (acc : List Sp), m ≤ 13 ∧ i = .int .i64 m ∧ acc.length = xs.length + m ∧ OwnS wr w.heap.size v acc ∧ Fits acc ∧ Rdr wr g B A n c (p + 1 + 1) z ∧ w.grownBy wr (some g)) (fun _ i _ => 13 - (intOf i).toNat)
            case atStart => exact ⟨0, xs, by omega, rfl, rfl, hown3, HF.out, hR3, hg03⟩
            case round =>
              obtain ⟨m, acc, hm, rfl, hal, hownL, hfa, hRL, hgL⟩ := hrel
              have HL := Lib.hid hal
              have hal2 : acc.length ≤ 1013 := by omega
              clear hal
              by_cases hlt : m < 13
              · have hml : (m : Int) < 13 := by omega
                have hsL := hgL.size
                have hown6 := World.ownsRow.alloc hownL (.cells #[.int .i64 (40 + 3 * (m : Int)), .int .i64 (41 + 3 * (m : Int))] 55)
                have hR6 := hRL.below ((Below.refl _ _).alloc (Nat.le_refl _) (.cells #[.int .i64 (40 + 3 * (m : Int)), .int .i64 (41 + 3 * (m : Int))] 55))
                have hf6 := fits_snoc (a := 40 + 3 * (m : Int)) (b := 41 + 3 * (m : Int)) hfa (by unfold I64; omega) (by unfold I64; omega)
                go_wp2_with (at_builtin; refine wpList_append_own _ rfl (.tmp 53) (.tmp 61) 24 rfl w.heap.size 55 i0 _ 2 16 Tryz.underlying24 hi0 hz0 hz1 hz2 rfl (by decide) _ acc.length (cellsOf acc) rfl hown6 ⟨wr.heap.size, 0, none⟩ 1 1 [.int .i64 (40 + 3 * (m : Int)), .int .i64 (41 + 3 * (m : Int))] rfl rfl ?hc1 ?hc2 ?hc3 ?hc4 ?hc5 ?_; rotate_right; intro v' w5 hown7 hgrow _)
                case hc1 => exact cell_one _ _ _ _ rfl
                case hc2 => simp [Value.oneCell']
                case hc3 => unfold maxLen; omega
                case hc4 => omega
                case hc5 => simp; omega
                go_roundw
                case rel => exact ⟨m + 1, acc ++ [(40 + 3 * (m : Int), 41 + 3 * (m : Int))], by omega, by go_num, by rw [List.length_append, HL.out]; simp; omega, OwnS.of_append hown7, hf6,
                  Rdr.rowed (row := u5.ownBlock) hR6 hgrow (fun i hi => by have := (hownL.lt i hi).1; omega),
                  gr_row (row := u5.ownBlock) (gr_trans hgL (gr_below g ((Below.refl _ _).alloc (Nat.le_refl _) _))) hgrow (fun i hi => (hownL.lt i hi).1)⟩
                case measure => simp [intOf]; omega
              · go_wp2
                go_ret
                exact ⟨_, acc, p + 1 + 1, rfl, hownL, hfa, by rw [HL.out]; omega, by omega, hRL, hgL⟩
          · have e3 : (j == 3) = false := beq_eq_false_iff_ne.2 j3
            go_wp2
            go_ret
            exact ⟨_, xs, p + 1 + 1, rfl, hown3, HF.out, by omega, by omega, hR3, hg03⟩
end Go.Proofs.YthkjcljhfjaabaaGreatDoor
