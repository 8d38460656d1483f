/-
  Draws of outputs.
-/
import Derived.Test.YtiaoenkgapfgaaaDoorWk
import Derived.Test.YtiaoenkgapfgaaaDoorDo
namespace Go.Proofs.YtiaoenkgapfgaaaDoor
open Go.RowKit Sets

theorem OwnI.gr {w w' : World} {base g : Nat} {v : Value} {ns : List Int} (h : OwnI w base v ns) (hg : w.grownBy w' (some g)) (hb : g < base) : OwnI w' base v ns :=
  World.ownsRow.kept h hg (by
    cases hv : v.ownBlock with
    | none => exact .inl rfl
    | some k => right; intro e; injection e with e; have := (h.lt k hv).1; omega)
theorem OwnN.gr {w w' : World} {base g c : Nat} {A : Option Addr} {ns : List Int} (h : OwnN w base A c ns) (hg : w.grownBy w' (some g)) (hb : g < base) : OwnN w' base A c ns := by
  have t : Turned w w' (some ⟨g, 0, none⟩) := ⟨some g, (fun k e => by injection e with e; rw [e]), hg⟩
  exact (t.own (OwnR.of h) (fun k e => by injection e with e; injection e with e1 _; exact .inl (by omega))).1
theorem OwnN.set0 {w : World} {base g c : Nat} {x y : Int} {ns : List Int} (h : OwnN w base (some ⟨g, 0, none⟩) c (y :: ns)) (hx : I64 x) : OwnN (w.setCell ⟨g, 0, none⟩ (.int .i64 x)) base (some ⟨g, 0, none⟩) c (x :: ns) := by
  obtain ⟨h1, h2, h3, h4, h5⟩ := h
  have hsz : (w.setCell ⟨g, 0, none⟩ (.int .i64 x)).heap.size = w.heap.size := by simp [World.setCell]
  refine ⟨h1, h2, fun z hz => ?_, fun g' o s e => by rw [hsz]; exact h4 g' o s e, .inr ?_⟩
  · rcases List.mem_cons.1 hz with rfl | hz
    · exact hx
    · exact h3 z (List.mem_cons_of_mem _ hz)
  · rcases h5 with h5 | ⟨g', e, hr, ho⟩
    · simp at h5
    · injection e with e
      injection e with e1 _
      subst e1
      refine ⟨g, rfl, fun i hi => ?_, ho.set 0 _⟩
      rw [set_at ho (by simp)]
      cases i with
      | zero => simp
      | succ i => rw [if_neg (by omega), hr (i + 1) hi]; rfl

def DrawO (w : World) (e : Ending) (w' : World) : Prop := ∃ (p : Int) (A : Option Addr) (c : Nat) (ms : List Int), e = .returned (.tuple #[.int .i64 p, .slice A ms.length c]) ∧ OwnN w' w.heap.size A c ms ∧ ms.length ≤ 13 ∧ Below w.heap.size w w'

set_option maxRecDepth 100000 in
set_option maxHeartbeats 2000000 in
theorem drawDO_any (A : Option Addr) (n c : Nat) (z : Nat → Int) (w : World) (h : Bytes w A n c z) :
    Calls Tryd.prog 8 #[.slice A n c] w (DrawO w) := by
  obtain ⟨i0, hi0, hz0, hz1, hz2⟩ := infoI
  have H := Lib.hid h
  clear h
  go_enter Tryd.func8, Tryd.ntmps8
  go_wp2_with fail
  refine (open_any A n c z w H.out).mono ?_
  rintro e w2 ⟨rfl, hR2, b2⟩
  have hlt := hR2.lt
  have hs2 := b2.size
  have hE := hR2.below ((Below.refl _ _).alloc (Nat.le_refl _) (.cells #[] 3))
  go_wp2_with fail
  refine (num_step _ _ _ _ _ _ z [2, 1, 3, 0, 5, 13] _ _ _ (w2.alloc (.cells #[] 3)) rfl (by simp) rfl hE (by omega) (by decide) (by decide)).mono ?_
  rintro e w3 ⟨v0, rfl, hv, hR3, hg3⟩
  have hv0 : 0 ≤ v0 := by simp at hv; omega
  have hv5 : v0 ≤ 13 := by simp at hv; omega
  have hgw := gr_trans (gr_below w.heap.size ((Below.refl _ _).alloc (Nat.le_refl _) (.cells #[] 3))) hg3
  have hown1 : OwnI w3 w2.heap.size (.slice (some ⟨w2.heap.size, 0, none⟩) 0 0) [] := (ownI_empty w2).gr hg3 hlt
  have B2 := Lib.hid (And.intro b2 hs2)
  clear hv hg3 hE hR2
  go_wp2
  go_loopw [5, 6] (fun v i wr => ∃ (m p1 : Nat) (acc : List Int), i = .int .i64 m ∧ acc.length + m ≤ 13 ∧ p1 + m ≤ 14 ∧ OwnI wr w2.heap.size v acc ∧ Hid (∀ x ∈ acc, I64 x) ∧ Rdr wr w.heap.size w.heap.size A (min n 2000) c p1 z ∧ w2.grownBy wr (some w.heap.size)) (fun _ i _ => (intOf i).toNat)
  case atStart =>
    obtain ⟨m, rfl⟩ := Int.eq_ofNat_of_zero_le hv0
    exact ⟨m, _, [], rfl, by simp; omega, by omega, hown1, Lib.hid (fun x hx => by cases hx), hR3, hgw⟩
  case round =>
    obtain ⟨m, p1, acc, rfl, hal, hpl, hown, hfa, hR, hgr⟩ := hrel
    by_cases hm : 0 < m
    · have hmi : (0 : Int) < (m : Int) := by omega
      have hgs := hgr.size
      go_wp2_with fail
      refine (num_step _ _ _ _ _ p1 z [3, 3, 1, 99, 0, 7, 3] _ _ _ wr rfl rfl rfl hR (by omega) (by decide) (by decide)).mono ?_
      rintro e w4 ⟨a, rfl, ha, hR4, hg4⟩
      have ha1 : 0 ≤ a := by simp at ha; omega
      have ha2 : a ≤ 99 := by simp at ha; omega
      clear ha
      have hg24 := gr_trans hgr hg4
      have hs4 := hg24.size
      have hown4 := World.ownsRow.alloc (hown.gr hg4 hlt) (.cells #[.int .i64 a] 3)
      have hf4 := Lib.hid (show ∀ x ∈ acc ++ [a], I64 x from fun x hx => by
        rcases List.mem_append.1 hx with h | h
        · exact hfa.out x h
        · rw [List.mem_singleton.1 h]; unfold I64; omega)
      have hR5 := hR4.below ((Below.refl _ _).alloc (Nat.le_refl _) (.cells #[.int .i64 a] 3))
      go_wp2_with (at_builtin; refine wpList_append_own _ rfl (.tmp 17) (.tmp 21) 23 rfl w2.heap.size 3 i0 _ 1 8 Tryd.underlying23 hi0 hz0 hz1 hz2 rfl (by decide) _ acc.length (intCells acc) rfl hown4 ⟨w4.heap.size, 0, none⟩ 1 1 [.int .i64 a] rfl rfl ?hc1 ?hc2 ?hc3 ?hc4 ?hc5 ?_; rotate_right; intro v' w5 hown5 hgrow _)
      case hc1 => exact cell_int _ _ _ rfl
      case hc2 => simp [Value.oneCell']
      case hc3 => unfold maxLen; omega
      case hc4 => omega
      case hc5 => simp; omega
      have hrow3 : ∀ i, u5.ownBlock = some i → w2.heap.size ≤ i := fun i hi => (hown.lt i hi).1
      have hR6 := Rdr.rowed (row := u5.ownBlock) hR5 hgrow (fun i hi => by have := hrow3 i hi; omega)
      have hg5 : w2.grownBy w5 (some w.heap.size) := gr_row (row := u5.ownBlock) (gr_trans hg24 (gr_below w.heap.size ((Below.refl _ _).alloc (Nat.le_refl _) _))) hgrow hrow3
      go_roundw
      case rel => exact ⟨m - 1, p1 + 1, acc ++ [a], congrArg (Value.int .i64) (by omega), by rw [List.length_append]; simp; omega, by omega, OwnI.of_append hown5, hf4, hR6, hg5⟩
      case measure => simp [intOf]; omega
    · obtain rfl : m = 0 := by omega
      obtain ⟨A2, c2, rfl, hO⟩ := hown.form hfa.out
      have hgs := hgr.size
      have HL := Lib.hid (show acc.length ≤ 13 by omega)
      have B0 := Lib.hid (B2.out.1.trans (gr_to_below hgr B2.out.2 (Nat.le_refl _)))
      have OO := Lib.hid hO
      have GR := Lib.hid hgr
      clear hown hO hal hfa hi0 hz0 hz1 hz2 hown1 hR3 hgw hgr
      cases acc with
      | nil =>
        go_wp2_with fail
        refine (num_step _ _ _ _ _ p1 z [1, 2, 3, 4, 5, 6, 7, 8, 9, 10, 0, 11] _ _ _ wr rfl rfl rfl hR (by omega) (by decide) (by decide)).mono ?_
        rintro e w4 ⟨q, rfl, hq, hR4, hg4⟩
        have O4 := Lib.hid ((OO.out.gr hg4 hlt).base B2.out.2)
        have B4 := Lib.hid (B0.out.trans (gr_to_below hg4 (Nat.le_trans B2.out.2 hgs) (Nat.le_refl _)))
        clear hq
        go_wp2
        go_ret2
        exact ⟨q, A2, c2, [], rfl, O4.out, by simp, B4.out⟩
      | cons y ys =>
        have hl0 : (0 : Int) < ((y :: ys).length : Int) := by simp only [List.length_cons]; omega
        obtain ⟨ll, hll⟩ : ∃ l, (y :: ys).length = l := ⟨_, rfl⟩
        have HLL := Lib.hid hll
        rw [hll] at hl0 ⊢
        clear hll
        go_wp2_with fail
        refine (pick_step _ _ _ _ _ p1 z 16 wr hR (by omega) (by omega) (by omega)).mono ?_
        rintro e w4 ⟨d, rfl, hd0, hd1, hR4, hg4⟩
        have O4 := Lib.hid (OO.out.gr hg4 hlt)
        have G4 := Lib.hid (gr_trans GR.out hg4)
        have hs4 := G4.out.size
        by_cases hd : d = 0
        · subst hd
          obtain ⟨_, _, _, hbase, hz | ⟨g2, rfl, hr2, ho2⟩⟩ := O4.out
          · simp at hz
          have hb2 := (hbase g2 0 none rfl).1
          go_wp2_with fail
          refine (num_step _ _ _ _ _ (p1 + 1) z [100, -1] _ _ _ w4 rfl rfl rfl hR4 (by omega) (by decide) (by decide)).mono ?_
          rintro e w5 ⟨a, rfl, ha, hR5, hg5⟩
          have ha1 : I64 a := by simp at ha; unfold I64; omega
          clear ha
          have O5 := Lib.hid (O4.out.gr hg5 hlt)
          obtain ⟨_, _, _, _, hz | ⟨g3, e3, hr3, ho3⟩⟩ := O5.out
          · simp at hz
          injection e3 with e3
          injection e3 with e3 _
          subst e3
          obtain ⟨x0, k0⟩ := ho3.1 0 (by simp)
          have k1 := ho3.2.1 0
          have G5 := Lib.hid (gr_cell (a := w2) (w := w5) (g := w.heap.size) (g2 := g2) (o := 0) (v := .int .i64 a) (gr_trans G4.out hg5) hb2)
          have O6 := Lib.hid (O5.out.set0 ha1)
          have R6 := Lib.hid (hR5.cellSet (g2 := g2) (by omega) 0 (.int .i64 a))
          clear hr2 ho2 hr3 ho3 hbase
          go_wp2_with fail
          refine (num_step _ _ _ _ _ (p1 + 1 + 1) z [1, 2, 3, 4, 5, 6, 7, 8, 9, 10, 0, 11] _ _ _ (w5.setCell ⟨g2, 0, none⟩ (.int .i64 a)) rfl (by simp [World.setCell]) rfl R6.out (by omega) (by decide) (by decide)).mono ?_
          rintro e w7 ⟨q, rfl, hq, hR7, hg7⟩
          have O7 := Lib.hid ((O6.out.gr hg7 hlt).base B2.out.2)
          have B7 := Lib.hid (B2.out.1.trans (gr_to_below (gr_trans G5.out hg7) B2.out.2 (Nat.le_refl _)))
          clear hq
          go_wp2
          go_ret2
          exact ⟨q, _, c2, a :: ys, by rw [← HLL.out]; rfl, O7.out, by have := HL.out; simpa using this, B7.out⟩
        · have hd' : (d == 0) = false := by simp [hd]
          go_wp2_with fail
          refine (num_step _ _ _ _ _ (p1 + 1) z [1, 2, 3, 4, 5, 6, 7, 8, 9, 10, 0, 11] _ _ _ w4 rfl rfl rfl hR4 (by omega) (by decide) (by decide)).mono ?_
          rintro e w5 ⟨q, rfl, hq, hR5, hg5⟩
          have O5 := Lib.hid ((O4.out.gr hg5 hlt).base B2.out.2)
          have B5 := Lib.hid (B2.out.1.trans (gr_to_below (gr_trans G4.out hg5) B2.out.2 (Nat.le_refl _)))
          clear hq
          go_wp2
          go_ret2
          exact ⟨q, A2, c2, y :: ys, by rw [← HLL.out]; rfl, O5.out, HL.out, B5.out⟩
end Go.Proofs.YtiaoenkgapfgaaaDoor
