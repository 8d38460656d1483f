/-
  Copies of tables.
-/
import Derived.Test.YtppciomdbabepaaUe
namespace Go.Proofs.Ytppciomdbabepaa
open Go.RowKit Sets

theorem set_three {w : World} {g : Nat} {v0 v1 v2 : Value} (h0 : w.cell? ⟨g, 0, none⟩ = some v0) (h1 : w.cell? ⟨g, 1, none⟩ = some v1) (h2 : w.cell? ⟨g, 2, none⟩ = some v2) (a b c : Value) :
    (((w.setCell ⟨g, 0, none⟩ a).setCell ⟨g, 1, none⟩ b).setCell ⟨g, 2, none⟩ c).cell? ⟨g, 0, none⟩ = some a ∧ (((w.setCell ⟨g, 0, none⟩ a).setCell ⟨g, 1, none⟩ b).setCell ⟨g, 2, none⟩ c).cell? ⟨g, 1, none⟩ = some b ∧ (((w.setCell ⟨g, 0, none⟩ a).setCell ⟨g, 1, none⟩ b).setCell ⟨g, 2, none⟩ c).cell? ⟨g, 2, none⟩ = some c := by
  obtain ⟨k0, k1⟩ := set_two h0 h1 a b
  refine ⟨?_, ?_, ?_⟩
  · rw [World.cell?_setCell_other _ _ _ _ (by simp)]; exact k0
  · rw [World.cell?_setCell_other _ _ _ _ (by simp)]; exact k1
  · exact World.cell?_setCell_same' _ _ _ (by rw [World.cell?_setCell_other _ _ _ _ (by simp), World.cell?_setCell_other _ _ _ _ (by simp), h2]; rfl)
theorem three_other {w : World} {g k o : Nat} (h : k ≠ g) (a b c : Value) : (((w.setCell ⟨g, 0, none⟩ a).setCell ⟨g, 1, none⟩ b).setCell ⟨g, 2, none⟩ c).cell? ⟨k, o, none⟩ = w.cell? ⟨k, o, none⟩ := by
  rw [World.cell?_setCell_other _ _ _ _ (fun e => by injection e with e _; omega), two_other h]
theorem three_below {B g : Nat} {a w : World} (h : Below B a w) (hg : B ≤ g) (v0 v1 v2 : Value) : Below B a (((w.setCell ⟨g, 0, none⟩ v0).setCell ⟨g, 1, none⟩ v1).setCell ⟨g, 2, none⟩ v2) := (two_below h hg v0 v1).setCell hg v2
theorem three_size (w : World) (g : Nat) (a b c : Value) : (((w.setCell ⟨g, 0, none⟩ a).setCell ⟨g, 1, none⟩ b).setCell ⟨g, 2, none⟩ c).heap.size = w.heap.size := by simp [World.setCell]
theorem two_frozen (w : World) (g : Nat) (a b : Value) (p : Addr) : ((w.setCell ⟨g, 0, none⟩ a).setCell ⟨g, 1, none⟩ b).frozen? p = w.frozen? p := by rw [World.frozen?_setCell, World.frozen?_setCell]
theorem two_third {w : World} {g : Nat} (a b : Value) : ((w.setCell ⟨g, 0, none⟩ a).setCell ⟨g, 1, none⟩ b).cell? ⟨g, 2, none⟩ = w.cell? ⟨g, 2, none⟩ := by
  rw [World.cell?_setCell_other _ _ _ _ (by simp), World.cell?_setCell_other _ _ _ _ (by simp)]
theorem ColsAt.other {w w' : World} {B B' g c : Nat} {cs : List Co} (h : ColsAt w B (some ⟨g, 0, none⟩) c cs) (hB : B ≤ B') (hc : ∀ o, w'.cell? ⟨g, o, none⟩ = w.cell? ⟨g, o, none⟩) : ColsAt w' B' (some ⟨g, 0, none⟩) c cs := by
  obtain ⟨h1, h2, h3⟩ := h
  refine ⟨h1, h2, h3.imp id ?_⟩
  rintro ⟨b, off, hA, hb, hp⟩
  injection hA with hA
  injection hA with e1 e2
  subst e1
  exact ⟨g, off, by rw [e2], Nat.lt_of_lt_of_le hb hB, fun i hi => ⟨(hc _).trans (hp i hi).1, (hc _).trans (hp i hi).2.1, (hc _).trans (hp i hi).2.2⟩⟩
theorem RuleRow.other {w w' : World} {g m : Nat} {rs : List Rl} (h : RuleRow w g rs m) (hs : w.heap.size ≤ w'.heap.size) (hc : ∀ k o, g ≤ k → w'.cell? ⟨k, o, none⟩ = w.cell? ⟨k, o, none⟩) : RuleRow w' g rs m := fun i hi => by
  obtain ⟨⟨b', h1, h2, h3, h4⟩, h5⟩ := h i hi
  exact ⟨⟨b', h1, Nat.lt_of_lt_of_le h2 hs, (hc g _ (Nat.le_refl _)).trans h3, h4.other hs fun k o hk => hc k o (by omega)⟩, (hc g _ (Nat.le_refl _)).trans h5⟩
/-- the bounds that the size check gives -/
def TbSmall (t : Tb) : Prop := t.cols.length ≤ 1048576 ∧ t.rules.length ≤ 1048576 ∧ ∀ i, i < t.rules.length → (t.rules.getD i ([], 0)).1.length ≤ 1048576 ∧ ∀ j, j < (t.rules.getD i ([], 0)).1.length → ((t.rules.getD i ([], 0)).1.getD j []).length ≤ 1048576

set_option maxRecDepth 100000 in
set_option maxHeartbeats 1000000 in
theorem toTable_any (v : Value) (t : Tb) (w : World) (h : TabAt w w.heap.size v t) (ht : TbSmall t) :
    Calls Try.prog 13 #[v] w fun e w' => ∃ v', e = .returned v' ∧ TabAt w' w'.heap.size v' t ∧ Below w.heap.size w w' := by
  obtain ⟨A1, c1, A2, c2, rfl, hC, hR⟩ := h
  have HC := Lib.hid hC
  have HR := Lib.hid hR
  have HT := Lib.hid ht
  clear hC hR ht
  obtain ⟨cs, x, rs⟩ := t
  simp only [] at HC HR HT ⊢
  go_enter Try.func13, Try.ntmps13
  obtain ⟨W, hW⟩ : ∃ W, W = ((w.alloc (.cells #[.slice A1 cs.length c1, .int .i64 x, .slice A2 rs.length c2] 25)).alloc (.cells #[.slice none 0 0, .int .i64 0, .slice none 0 0] 31)).alloc (.cells #[.slice none 0 0, .int .i64 0, .slice none 0 0] 31) := ⟨_, rfl⟩
  obtain ⟨x1, x2, x3, f2, f3, bW, zW⟩ := three_blocks w _ _ _ _ _ _ W hW
  go_wp2_with fail
  rw [← hW]
  clear hW
  refine (toColumnS_any A1 c1 cs _ ((HC.out.below bW).mono bW.size) HT.out.1).mono ?_
  rintro e w1 ⟨rfl, hcs, b1⟩
  have hsz1 := b1.size
  have q1 := (b1.cell (p := ⟨w.heap.size, 1, none⟩) (by simp only; omega)).trans (x1 1)
  have q2 := (b1.cell (p := ⟨w.heap.size, 2, none⟩) (by simp only; omega)).trans (x1 2)
  have r0 := (b1.cell (p := ⟨w.heap.size + 1, 0, none⟩) (by simp only; omega)).trans (x2 0)
  have r1 := (b1.cell (p := ⟨w.heap.size + 1, 1, none⟩) (by simp only; omega)).trans (x2 1)
  have r2 := (b1.cell (p := ⟨w.heap.size + 1, 2, none⟩) (by simp only; omega)).trans (x2 2)
  have s0 := (b1.cell (p := ⟨w.heap.size + 2, 0, none⟩) (by simp only; omega)).trans (x3 0)
  have s1 := (b1.cell (p := ⟨w.heap.size + 2, 1, none⟩) (by simp only; omega)).trans (x3 1)
  have s2 := (b1.cell (p := ⟨w.heap.size + 2, 2, none⟩) (by simp only; omega)).trans (x3 2)
  have rf := fun o => (b1.frozen (p := ⟨w.heap.size + 1, o, none⟩) (by simp only; omega)).trans (f2 o)
  have sf := fun o => (b1.frozen (p := ⟨w.heap.size + 2, o, none⟩) (by simp only; omega)).trans (f3 o)
  have sf0 := sf 0
  have sf1 := sf 1
  simp at q1 q2 r0 r1 r2 s0 s1 s2
  have B1 := Lib.hid (bW.trans (b1.mono bW.size))
  have ZW := Lib.hid (And.intro zW hsz1)
  have HCS := Lib.hid hcs
  have RF := Lib.hid rf
  have SF := Lib.hid sf
  obtain ⟨g1, hg1⟩ : ∃ g1, g1 = W.heap.size := ⟨_, rfl⟩
  have HG1 := Lib.hid hg1
  rw [← hg1] at HCS ⊢
  clear x1 x2 x3 f2 f3 bW zW b1 hsz1 hcs hg1 rf sf
  go_wp2_with fail
  obtain ⟨VC, hVC⟩ : ∃ VC : Value, VC = .slice (some ⟨g1, 0, none⟩) cs.length cs.length := ⟨_, rfl⟩
  rw [← hVC]
  have HVC := Lib.hid hVC
  clear hVC
  obtain ⟨t0, t1⟩ := set_two (w := w1) (g := w.heap.size + 1 + 1) s0 s1 VC (.int .i64 x)
  have t2 := (two_third (w := w1) (g := w.heap.size + 1 + 1) VC (.int .i64 x)).trans s2
  have u0 := (two_other (w := w1) (g := w.heap.size + 1 + 1) (k := w.heap.size + 1) (o := 0) (by omega) VC (.int .i64 x)).trans r0
  have u1 := (two_other (w := w1) (g := w.heap.size + 1 + 1) (k := w.heap.size + 1) (o := 1) (by omega) VC (.int .i64 x)).trans r1
  have u2 := (two_other (w := w1) (g := w.heap.size + 1 + 1) (k := w.heap.size + 1) (o := 2) (by omega) VC (.int .i64 x)).trans r2
  have fr := fun o => (two_frozen w1 (w.heap.size + 1 + 1) VC (.int .i64 x) ⟨w.heap.size + 1, o, none⟩).trans (RF.out o)
  have fs := fun o => (two_frozen w1 (w.heap.size + 1 + 1) VC (.int .i64 x) ⟨w.heap.size + 1 + 1, o, none⟩).trans (SF.out o)
  have B2 := two_below B1.out (show w.heap.size ≤ w.heap.size + 1 + 1 by omega) VC (.int .i64 x)
  have hz2 := two_size w1 (w.heap.size + 1 + 1) VC (.int .i64 x)
  have HC2 := HCS.out.other (Nat.le_of_eq hz2.symm) fun o => two_other (w := w1) (g := w.heap.size + 1 + 1) (o := o) (by have := HG1.out; have := ZW.out; omega) VC (.int .i64 x)
  generalize (w1.setCell ⟨w.heap.size + 1 + 1, 0, none⟩ VC).setCell ⟨w.heap.size + 1 + 1, 1, none⟩ (.int .i64 x) = W2 at t0 t1 t2 u0 u1 u2 fr fs B2 hz2 HC2 ⊢
  clear s0 s1 s2 r0 r1 r2 q1 q2 sf0 sf1
  refine (toRuleS_any A2 c2 rs _ ((HR.out.below B2).mono B2.size) HT.out.2.1 HT.out.2.2).mono ?_
  rintro e w2 ⟨rfl, hlt2, _, hrr, b2⟩
  have hlow : w.heap.size + 1 + 1 < W2.heap.size := by have := ZW.out; omega
  have v0 := (b2.cell (p := ⟨w.heap.size + 1, 0, none⟩) (by simp only; omega)).trans u0
  have v1 := (b2.cell (p := ⟨w.heap.size + 1, 1, none⟩) (by simp only; omega)).trans u1
  have v2 := (b2.cell (p := ⟨w.heap.size + 1, 2, none⟩) (by simp only; omega)).trans u2
  have y0 := (b2.cell (p := ⟨w.heap.size + 1 + 1, 0, none⟩) (by simp only; omega)).trans t0
  have y1 := (b2.cell (p := ⟨w.heap.size + 1 + 1, 1, none⟩) (by simp only; omega)).trans t1
  have y2 := (b2.cell (p := ⟨w.heap.size + 1 + 1, 2, none⟩) (by simp only; omega)).trans t2
  have vf0 := (b2.frozen (p := ⟨w.heap.size + 1, 0, none⟩) (by simp only; omega)).trans (fr 0)
  have vf1 := (b2.frozen (p := ⟨w.heap.size + 1, 1, none⟩) (by simp only; omega)).trans (fr 1)
  have vf2 := (b2.frozen (p := ⟨w.heap.size + 1, 2, none⟩) (by simp only; omega)).trans (fr 2)
  have yf2 := (b2.frozen (p := ⟨w.heap.size + 1 + 1, 2, none⟩) (by simp only; omega)).trans (fs 2)
  have HC3 := Lib.hid ((HC2.below b2).mono b2.size)
  have B3 := Lib.hid (B2.trans (b2.mono B2.size))
  have HRR := Lib.hid hrr
  have ZZ := Lib.hid (And.intro hlow hlt2)
  obtain ⟨g2, hg2⟩ : ∃ g2, g2 = W2.heap.size := ⟨_, rfl⟩
  have HG2 := Lib.hid hg2
  rw [← hg2] at HRR ⊢
  have hvc := HVC.out
  subst hvc
  clear hg2 hlow hlt2 hrr b2 B2 HC2 fr fs t0 t1 t2 u0 u1 u2 hz2
  go_wp2
  have yz0 : ∀ v, (w2.setCell ⟨w.heap.size + 1 + 1, 2, none⟩ v).cell? ⟨w.heap.size + 1, 0, none⟩ = some (.slice none 0 0) := fun v => (World.cell?_setCell_other _ _ _ _ (fun e => by injection e with e _; omega)).trans v0
  have yz1 : ∀ v, (w2.setCell ⟨w.heap.size + 1 + 1, 2, none⟩ v).cell? ⟨w.heap.size + 1, 1, none⟩ = some (.int .i64 0) := fun v => (World.cell?_setCell_other _ _ _ _ (fun e => by injection e with e _; omega)).trans v1
  have yz2 : ∀ v, (w2.setCell ⟨w.heap.size + 1 + 1, 2, none⟩ v).cell? ⟨w.heap.size + 1, 2, none⟩ = some (.slice none 0 0) := fun v => (World.cell?_setCell_other _ _ _ _ (fun e => by injection e with e _; omega)).trans v2
  have hoth : ∀ v k o, w.heap.size + 3 ≤ k → (w2.setCell ⟨w.heap.size + 1 + 1, 2, none⟩ v).cell? ⟨k, o, none⟩ = w2.cell? ⟨k, o, none⟩ := fun v k o hk => World.cell?_setCell_other _ _ _ _ (fun e => by injection e with e _; omega)
  have hszv : ∀ v, (w2.setCell ⟨w.heap.size + 1 + 1, 2, none⟩ v).heap.size = w2.heap.size := fun v => by simp [World.setCell]
  have hbv : ∀ v, Below w.heap.size w (w2.setCell ⟨w.heap.size + 1 + 1, 2, none⟩ v) := fun v => B3.out.setCell (by simp only; omega) v
  obtain ⟨k0, k1, k2⟩ := set_three (yz0 (.slice (some ⟨g2, 0, none⟩) rs.length rs.length)) (yz1 _) (yz2 _) (.slice (some ⟨g1, 0, none⟩) cs.length cs.length) (.int .i64 x) (.slice (some ⟨g2, 0, none⟩) rs.length rs.length)
  have e1 := HG1.out
  have e2 := HG2.out
  have e3 := ZW.out
  have e4 := ZZ.out
  have hle : W2.heap.size ≤ w2.heap.size := by omega
  refine bodyPost_ret (v := .agg #[.slice (some ⟨g1, 0, none⟩) cs.length cs.length, .int .i64 x, .slice (some ⟨g2, 0, none⟩) rs.length rs.length]) (by simp [results, Try.results13, go_sem, k0, k1, k2]) rfl ⟨_, rfl, ⟨_, _, _, _, rfl, ?_, ?_⟩, ?_⟩
  · refine HC3.out.other (by rw [three_size, hszv]; exact Nat.le_refl _) fun o => ?_
    rw [three_other (by omega), hoth _ _ _ (by omega)]
  · rw [three_size, hszv]
    have hq := (HRR.out.other (w' := (((w2.setCell ⟨w.heap.size + 1 + 1, 2, none⟩ (.slice (some ⟨g2, 0, none⟩) rs.length rs.length)).setCell ⟨w.heap.size + 1, 0, none⟩ (.slice (some ⟨g1, 0, none⟩) cs.length cs.length)).setCell ⟨w.heap.size + 1, 1, none⟩ (.int .i64 x)).setCell ⟨w.heap.size + 1, 2, none⟩ (.slice (some ⟨g2, 0, none⟩) rs.length rs.length)) (by rw [three_size, hszv]; exact Nat.le_refl _) fun k o hk => by
      rw [three_other (by omega), hoth _ _ _ (by omega)]).rules (by rw [three_size, hszv]; omega) HR.out HT.out.2.1 HT.out.2.2
    rw [three_size, hszv] at hq
    exact hq
  · exact three_below (hbv _) (by omega) _ _ _
end Go.Proofs.Ytppciomdbabepaa
