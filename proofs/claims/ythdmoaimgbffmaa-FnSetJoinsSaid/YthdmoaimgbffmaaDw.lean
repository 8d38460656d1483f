/-
  Contracts of the draws of sets: whatever the bytes, a draw hands back slices of the call's own, of few spans.
-/
import Derived.Test.YthdmoaimgbffmaaRr
import Derived.Test.YthdmoaimgbffmaaSo
namespace Go.Proofs.Ythdmoaimgbffmaa
open Go.RowKit Sets

theorem gr_refl (w : World) (g : Nat) : w.grownBy w (some g) := World.grownBy.refl w _
theorem gr_trans {a b c : World} {g : Nat} (h : a.grownBy b (some g)) (k : b.grownBy c (some g)) : a.grownBy c (some g) :=
  ⟨k.os.trans h.os, k.tape.trans h.tape, k.output.trans h.output, Nat.le_trans h.size k.size, fun i hi hne => (k.block i (Nat.lt_of_lt_of_le hi h.size) hne).trans (h.block i hi hne)⟩
theorem gr_below {a b : World} (g : Nat) (h : Below a.heap.size a b) : a.grownBy b (some g) := ⟨h.os, h.tape, h.output, h.size, fun i hi _ => h.block i hi⟩
theorem gr_set (w : World) (g o k : Nat) (v : Value) : w.grownBy ((w.setCell ⟨g, o, none⟩ v).drewN k) (some g) :=
  ⟨rfl, rfl, rfl, by show w.heap.size ≤ (w.setCell ⟨g, o, none⟩ v).heap.size; simp [World.setCell], fun i _ hne => Below.heap_setCell w ⟨g, o, none⟩ v i (fun e => hne (by rw [e]))⟩
/-- What a step of the reader's leaves: Below, where the reader's block is the call's own. -/
theorem gr_to_below {a b : World} {g B : Nat} (h : a.grownBy b (some g)) (hB : B ≤ a.heap.size) (hg : B ≤ g) : Below B a b :=
  (Below.refl _ _).grown h hB fun k e => by injection e with e; omega
theorem OwnS.gr {w w' : World} {base g : Nat} {v : Value} {xs : List Sp} (h : OwnS w base v xs) (hg : w.grownBy w' (some g)) (hb : g < base) : OwnS w' base v xs :=
  World.ownsRow.kept h hg (by
    cases hv : v.ownBlock with
    | none => exact .inl rfl
    | some k => right; intro e; injection e with e; have := (h.lt k hv).1; omega)

theorem gr_row {a b c : World} {g : Nat} {row : Option Nat} (h : a.grownBy b (some g)) (k : b.grownBy c row) (hr : ∀ i, row = some i → a.heap.size ≤ i) : a.grownBy c (some g) :=
  ⟨k.os.trans h.os, k.tape.trans h.tape, k.output.trans h.output, Nat.le_trans h.size k.size, fun i hi hne => (k.block i (Nat.lt_of_lt_of_le hi h.size) (fun e => by have := hr i e.symm; omega)).trans (h.block i hi hne)⟩
theorem Rdr.rowed {w w' : World} {g B : Nat} {A : Option Addr} {n c p : Nat} {z : Nat → Int} {row : Option Nat} (h : Rdr w g B A n c p z) (k : w.grownBy w' row) (hr : ∀ i, row = some i → g < i) : Rdr w' g B A n c p z where
  blk := by rw [k.block g h.lt (fun e => by have := hr g e.symm; omega)]; exact h.blk
  hn := h.hn
  hc := h.hc
  hB := h.hB
  byte := h.byte
  row hp := by
    obtain ⟨b, off, e, hb', hrow⟩ := h.row hp
    refine ⟨b, off, e, hb', fun i hi => ?_⟩
    have := h.hB; have := h.lt
    rw [World.cell?_of_block (a := ⟨b, off + i, none⟩) (k.block b (by omega) (fun e => by have := hr b e.symm; omega))]
    exact hrow i hi

theorem pick_step (g B : Nat) (A : Option Addr) (n c p : Nat) (z : Nat → Int) (m : Int) (w : World) (h : Rdr w g B A n c p z) (hp : p ≤ 1000000) (hm : 1 ≤ m) (hm2 : m ≤ 4611686018427387904) :
    Calls Try.prog 37 #[.pointer (some ⟨g, 0, none⟩), .int .i64 m] w fun e w' => ∃ v : Int, e = .returned (.int .i64 v) ∧ 0 ≤ v ∧ v < m ∧ Rdr w' g B A n c (p + 1) z ∧ w.grownBy w' (some g) :=
  (pick_any g B A n c p z m w h hp (by omega) hm2).mono fun e w' ⟨v, k, he, h0, h1, _, hw⟩ => ⟨v, he, h0, h1 hm, by rw [hw]; exact h.next k, by rw [hw]; exact gr_set _ _ _ _ _⟩

/-- The numbers that a draw lays before it picks one. -/
def numsObj (l : List Int) : Obj := .cells ((l.map (Value.int .i64)).toArray) 3
theorem nums_new (w : World) (l : List Int) : Nums (w.alloc (numsObj l)) w.heap.size l := by
  intro i hi
  unfold numsObj
  rw [World.cell?_alloc_new]
  simp [hi]
theorem num_step (g B : Nat) (A : Option Addr) (n c p : Nat) (z : Nat → Int) (l : List Int) (m b : Nat) (o : Obj) (w : World) (hm : m = l.length) (hb : b = w.heap.size) (ho : o = numsObj l) (h : Rdr w g B A n c p z) (hp : p ≤ 1000000) (hl0 : 0 < m) (hl1 : m ≤ 1000) :
    Calls Try.prog 38 #[.pointer (some ⟨g, 0, none⟩), .slice (some ⟨b, 0, none⟩) m m] (w.alloc o) fun e w' => ∃ v : Int, e = .returned (.int .i64 v) ∧ v ∈ l ∧ Rdr w' g B A n c (p + 1) z ∧ w.grownBy w' (some g) := by
  subst hm hb ho
  exact (num_any g B A n c p z w.heap.size l _ (h.below ((Below.refl _ _).alloc (Nat.le_refl _) _)) hp (nums_new w l) hl0 hl1 (by have := h.lt; omega)).mono fun e w' ⟨v, k, he, hv, hw⟩ =>
    ⟨v, he, hv, by rw [hw]; exact (h.below ((Below.refl _ _).alloc (Nat.le_refl _) _)).next k, by
      rw [hw]; exact gr_trans (gr_below g ((Below.refl _ _).alloc (Nat.le_refl _) _)) (gr_set _ _ _ _ _)⟩

def SpansRes (g B : Nat) (A : Option Addr) (n c p K L : Nat) (z : Nat → Int) (w : World) (e : Ending) (w' : World) : Prop :=
  ∃ (v : Value) (xs : List Sp) (p' : Nat), e = .returned v ∧ OwnS w' w.heap.size v xs ∧ Fits xs ∧ xs.length ≤ L ∧ p' ≤ p + K ∧ Rdr w' g B A n c p' z ∧ w.grownBy w' (some g)

set_option maxRecDepth 100000 in
theorem spans_any (g B : Nat) (A : Option Addr) (n c p : Nat) (z : Nat → Int) (w : World) (h : Rdr w g B A n c p z) (hp : p ≤ 900000) :
    Calls Try.prog 36 #[.pointer (some ⟨g, 0, none⟩)] w (SpansRes g B A n c p 11 5 z w) := by
  obtain ⟨i0, hi0, hz0, hz1, hz2⟩ := infoSp
  have hg := h.lt
  go_enter Try.func36, Try.ntmps36
  have hE := h.below ((Below.refl _ _).alloc (Nat.le_refl _) (.cells #[] 29))
  go_wp2_with fail
  refine (num_step g B A n c p z [2, 1, 3, 0, 5] _ _ _ (w.alloc (.cells #[] 29)) rfl (by simp) rfl hE (by omega) (by decide) (by decide)).mono ?_
  rintro e w1 ⟨v0, rfl, hv, hR1, hg1⟩
  have hv0 : 0 ≤ v0 := by simp at hv; omega
  have hv5 : v0 ≤ 5 := by simp at hv; omega
  have hgw : w.grownBy w1 (some g) := gr_trans (gr_below g ((Below.refl _ _).alloc (Nat.le_refl _) _)) hg1
  have hown1 : OwnS w1 w.heap.size (.slice (some ⟨w.heap.size, 0, none⟩) 0 0) [] := (own_empty w).gr hg1 hg
  clear hv hg1 hE
  go_wp2
  go_loopw [3, 4] (fun v i wr => ∃ (m p1 : Nat) (acc : List Sp), i = .int .i64 m ∧ acc.length + m ≤ 5 ∧ p1 + 2 * m ≤ p + 11 ∧ OwnS wr w.heap.size v acc ∧ Fits acc ∧ Rdr wr g B A n c p1 z ∧ w.grownBy wr (some g)) (fun _ i _ => (intOf i).toNat)
  case atStart =>
    obtain ⟨m, rfl⟩ := Int.eq_ofNat_of_zero_le hv0
    exact ⟨m, p + 1, [], rfl, by simp; omega, by omega, hown1, fits_nil, hR1, hgw⟩
  case round =>
    obtain ⟨m, p1, acc, rfl, hal, hpl, hown, hfa, hR, hgr⟩ := hrel
    by_cases hm : 0 < m
    · have hmi : (0 : Int) < (m : Int) := by omega
      go_wp2_with fail
      refine (num_step g B A n c p1 z [0, 3, -5, 7, 10, 20, -99, 1] _ _ _ wr rfl rfl rfl hR (by omega) (by decide) (by decide)).mono ?_
      rintro e w2 ⟨a, rfl, ha, hR2, hg2⟩
      have ha1 : -99 ≤ a := by simp at ha; omega
      have ha2 : a ≤ 20 := by simp at ha; omega
      clear ha
      go_wp2_with fail
      refine (num_step g B A n c (p1 + 1) z [0, 2, 1, 5, 9, 0] _ _ _ w2 rfl rfl rfl hR2 (by omega) (by decide) (by decide)).mono ?_
      rintro e w3 ⟨b, rfl, hb, hR3, hg3⟩
      have hb1 : 0 ≤ b := by simp at hb; omega
      have hb2 : b ≤ 9 := by simp at hb; omega
      clear hb
      have hg23 := gr_trans hgr (gr_trans hg2 hg3)
      have hs3 := hg23.size
      have hown3 : OwnS w3 w.heap.size u3 acc := (hown.gr hg2 hg).gr hg3 hg
      have hown4 := World.ownsRow.alloc hown3 (.cells #[.int .i64 a, .int .i64 (a + b)] 29)
      have hf4 := fits_snoc (a := a) (b := a + b) hfa (by unfold I64; omega) (by unfold I64; omega)
      have hR4 := hR3.below ((Below.refl _ _).alloc (Nat.le_refl _) (.cells #[.int .i64 a, .int .i64 (a + b)] 29))
      go_wp2_with (at_builtin; refine wpList_append_own _ rfl (.tmp 17) (.tmp 25) 23 rfl w.heap.size 29 i0 _ 2 16 Try.underlying23 hi0 hz0 hz1 hz2 rfl (by decide) _ acc.length (cellsOf acc) rfl hown4 ⟨w3.heap.size, 0, none⟩ 1 1 [.int .i64 a, .int .i64 (a + b)] rfl rfl ?hc1 ?hc2 ?hc3 ?hc4 ?hc5 ?_; rotate_right; intro v' w5 hown5 hgrow _)
      case hc1 => exact cell_one _ _ _ _ rfl
      case hc2 => simp [Value.oneCell']
      case hc3 => unfold maxLen; omega
      case hc4 => omega
      case hc5 => simp; omega
      have hrow3 : ∀ i, u3.ownBlock = some i → w.heap.size ≤ i := fun i hi => (hown.lt i hi).1
      have hR5 := Rdr.rowed (row := u3.ownBlock) hR4 hgrow (fun i hi => by have := hrow3 i hi; omega)
      have hg5 : w.grownBy w5 (some g) := gr_row (row := u3.ownBlock) (gr_trans hg23 (gr_below g ((Below.refl _ _).alloc (Nat.le_refl _) _))) hgrow hrow3
      go_roundw
      case rel => exact ⟨m - 1, p1 + 1 + 1, acc ++ [(a, a + b)], congrArg (Value.int .i64) (by omega), by rw [List.length_append]; simp; omega, by omega, OwnS.of_append hown5, hf4, hR5, hg5⟩
      case measure => simp [intOf]; omega
    · obtain rfl : m = 0 := by omega
      go_wp2
      go_ret
      exact ⟨_, acc, p1, rfl, hown, hfa, by omega, by omega, hR, hgr⟩
end Go.Proofs.Ythdmoaimgbffmaa
