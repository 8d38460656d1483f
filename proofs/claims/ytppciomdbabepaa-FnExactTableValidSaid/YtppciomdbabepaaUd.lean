/-
  Copies of rules and tables.
-/
import Derived.Test.YtppciomdbabepaaUc
namespace Go.Proofs.Ytppciomdbabepaa
open Go.RowKit Sets

theorem three_blocks (w : World) (c1 c2 c3 : Array Value) (t1 t2 t3 : TypeId) (W : World) (hW : W = ((w.alloc (.cells c1 t1)).alloc (.cells c2 t2)).alloc (.cells c3 t3)) :
    (∀ o, W.cell? ⟨w.heap.size, o, none⟩ = c1[o]?) ∧ (∀ o, W.cell? ⟨w.heap.size + 1, o, none⟩ = c2[o]?) ∧ (∀ o, W.cell? ⟨w.heap.size + 2, o, none⟩ = c3[o]?) ∧
      (∀ o, W.frozen? ⟨w.heap.size + 1, o, none⟩ = false) ∧ (∀ o, W.frozen? ⟨w.heap.size + 2, o, none⟩ = false) ∧ Below w.heap.size w W ∧ W.heap.size = w.heap.size + 3 := by
  subst hW
  have b1 : Below (w.heap.size + 1) (w.alloc (.cells c1 t1)) (((w.alloc (.cells c1 t1)).alloc (.cells c2 t2)).alloc (.cells c3 t3)) := ((Below.refl _ _).alloc (by simp) _).alloc (by simp) _
  have b2 : Below (w.heap.size + 2) ((w.alloc (.cells c1 t1)).alloc (.cells c2 t2)) (((w.alloc (.cells c1 t1)).alloc (.cells c2 t2)).alloc (.cells c3 t3)) := (Below.refl _ _).alloc (by simp) _
  have z1 : (w.alloc (.cells c1 t1)).heap.size = w.heap.size + 1 := by simp
  have z2 : ((w.alloc (.cells c1 t1)).alloc (.cells c2 t2)).heap.size = w.heap.size + 2 := by simp
  refine ⟨fun o => ?_, fun o => ?_, fun o => ?_, fun o => ?_, fun o => ?_, ?_, by simp⟩
  · rw [b1.cell (p := ⟨w.heap.size, o, none⟩) (by simp), World.cell?_alloc_new]
  · rw [b2.cell (p := ⟨w.heap.size + 1, o, none⟩) (by simp), ← z1, World.cell?_alloc_new]
  · rw [← z2, World.cell?_alloc_new]
  · rw [b2.frozen (p := ⟨w.heap.size + 1, o, none⟩) (by simp)]; exact World.frozen?_alloc_at _ _ _ _ (by rw [z1])
  · exact World.frozen?_alloc_at _ _ _ _ (by rw [z2])
  · exact (((Below.refl _ _).alloc (Nat.le_refl _) _).alloc (by simp) _).alloc (by simp; omega) _
theorem set_two {w : World} {g : Nat} {v0 v1 : Value} (h0 : w.cell? ⟨g, 0, none⟩ = some v0) (h1 : w.cell? ⟨g, 1, none⟩ = some v1) (a b : Value) :
    ((w.setCell ⟨g, 0, none⟩ a).setCell ⟨g, 1, none⟩ b).cell? ⟨g, 0, none⟩ = some a ∧ ((w.setCell ⟨g, 0, none⟩ a).setCell ⟨g, 1, none⟩ b).cell? ⟨g, 1, none⟩ = some b := by
  refine ⟨?_, ?_⟩
  · rw [World.cell?_setCell_other _ _ _ _ (by simp)]
    exact World.cell?_setCell_same' _ _ _ (by rw [h0]; rfl)
  · exact World.cell?_setCell_same' _ _ _ (by rw [World.cell?_setCell_other _ _ _ _ (by simp), h1]; rfl)
theorem two_other {w : World} {g k o : Nat} (h : k ≠ g) (a b : Value) : ((w.setCell ⟨g, 0, none⟩ a).setCell ⟨g, 1, none⟩ b).cell? ⟨k, o, none⟩ = w.cell? ⟨k, o, none⟩ := by
  rw [World.cell?_setCell_other _ _ _ _ (fun e => by injection e with e _; omega), World.cell?_setCell_other _ _ _ _ (fun e => by injection e with e _; omega)]
theorem two_size (w : World) (g : Nat) (a b : Value) : ((w.setCell ⟨g, 0, none⟩ a).setCell ⟨g, 1, none⟩ b).heap.size = w.heap.size := by simp [World.setCell]
theorem two_below {B g : Nat} {a w : World} (h : Below B a w) (hg : B ≤ g) (v0 v1 : Value) : Below B a ((w.setCell ⟨g, 0, none⟩ v0).setCell ⟨g, 1, none⟩ v1) := (h.setCell hg v0).setCell hg v1
/-- what lies behind a block that is written lies as it lay -/
theorem SetRow.other {w w' : World} {b m : Nat} {xss : List (List Sp)} (h : SetRow w b xss m) (hs : w.heap.size ≤ w'.heap.size) (hc : ∀ k o, b ≤ k → w'.cell? ⟨k, o, none⟩ = w.cell? ⟨k, o, none⟩) : SetRow w' b xss m := fun i hi => by
  obtain ⟨b', h1, h2, h3, h4⟩ := h i hi
  exact ⟨b', h1, Nat.lt_of_lt_of_le h2 hs, (hc b i (Nat.le_refl _)).trans h3, h4.keep fun o => hc b' o (by omega)⟩

set_option maxRecDepth 100000 in
set_option maxHeartbeats 1000000 in
theorem toRule_any (A : Option Addr) (c : Nat) (xss : List (List Sp)) (x : Int) (w : World) (h : SetsAt w w.heap.size A c xss) (hn : xss.length ≤ 1048576) (hm : ∀ i, i < xss.length → (xss.getD i []).length ≤ 1048576) :
    Calls Try.prog 75 #[.agg #[.slice A xss.length c, .int .i64 x]] w fun e w' => ∃ b', e = .returned (.agg #[.slice (some ⟨b', 0, none⟩) xss.length xss.length, .int .i64 x]) ∧ w.heap.size ≤ b' ∧ b' < w'.heap.size ∧ SetRow w' b' xss xss.length ∧ Below w.heap.size w w' := by
  have H := Lib.hid h
  have HM := Lib.hid hm
  clear h hm
  go_enter Try.func75, Try.ntmps75
  obtain ⟨W, hW⟩ : ∃ W, W = ((w.alloc (.cells #[.slice A xss.length c, .int .i64 x] 91)).alloc (.cells #[.slice none 0 0, .int .i64 0] 65)).alloc (.cells #[.slice none 0 0, .int .i64 0] 65) := ⟨_, rfl⟩
  obtain ⟨x1, x2, x3, f2, f3, bW, zW⟩ := three_blocks w _ _ _ _ _ _ W hW
  go_wp2_with fail
  rw [← hW]
  clear hW
  refine (toSpanSS_any A c xss _ ((H.out.below bW).mono bW.size) hn HM.out).mono ?_
  rintro e w1 ⟨rfl, hz, _, hsr, b1⟩
  have q1 := (b1.cell (p := ⟨w.heap.size, 1, none⟩) (by simp only; omega)).trans (x1 1)
  have r0 := (b1.cell (p := ⟨w.heap.size + 1, 0, none⟩) (by simp only; omega)).trans (x2 0)
  have r1 := (b1.cell (p := ⟨w.heap.size + 1, 1, none⟩) (by simp only; omega)).trans (x2 1)
  have s0 := (b1.cell (p := ⟨w.heap.size + 2, 0, none⟩) (by simp only; omega)).trans (x3 0)
  have s1 := (b1.cell (p := ⟨w.heap.size + 2, 1, none⟩) (by simp only; omega)).trans (x3 1)
  have rf0 := (b1.frozen (p := ⟨w.heap.size + 1, 0, none⟩) (by simp only; omega)).trans (f2 0)
  have rf1 := (b1.frozen (p := ⟨w.heap.size + 1, 1, none⟩) (by simp only; omega)).trans (f2 1)
  have sf0 := (b1.frozen (p := ⟨w.heap.size + 2, 0, none⟩) (by simp only; omega)).trans (f3 0)
  have sf1 := (b1.frozen (p := ⟨w.heap.size + 2, 1, none⟩) (by simp only; omega)).trans (f3 1)
  simp at q1 r0 r1 s0 s1
  have B1 := Lib.hid (bW.trans (b1.mono bW.size))
  have ZW := Lib.hid (And.intro zW hz)
  have HSR := Lib.hid hsr
  obtain ⟨b', hb'⟩ : ∃ b', b' = W.heap.size := ⟨_, rfl⟩
  have HB' := Lib.hid hb'
  rw [← hb']
  clear x1 x2 x3 f2 f3 bW zW b1 hz hsr hb'
  go_wp2
  have u0 := (two_other (w := w1) (g := w.heap.size + 1 + 1) (k := w.heap.size + 1) (o := 0) (by omega) (.slice (some ⟨b', 0, none⟩) xss.length xss.length) (.int .i64 x)).trans r0
  have u1 := (two_other (w := w1) (g := w.heap.size + 1 + 1) (k := w.heap.size + 1) (o := 1) (by omega) (.slice (some ⟨b', 0, none⟩) xss.length xss.length) (.int .i64 x)).trans r1
  obtain ⟨k0, k1⟩ := set_two u0 u1 (.slice (some ⟨b', 0, none⟩) xss.length xss.length) (.int .i64 x)
  have zb := HB'.out
  have zz := ZW.out
  refine bodyPost_ret (v := .agg #[.slice (some ⟨b', 0, none⟩) xss.length xss.length, .int .i64 x]) (by simp [results, Try.results75, go_sem, k0, k1]) rfl ⟨b', rfl, by omega, ?_, ?_, two_below (two_below B1.out (by omega) _ _) (by omega) _ _⟩
  · rw [two_size, two_size]; omega
  · rw [zb]
    exact HSR.out.other (by rw [two_size, two_size]; exact Nat.le_refl _) fun k o hk => by rw [two_other (by omega), two_other (by omega)]
end Go.Proofs.Ytppciomdbabepaa
