/-
  Contracts of the draws of sets: whatever the bytes, a draw hands back slices of the call's own, of few spans.
-/
import Derived.Test.YtiaoenkgapfgaaaDoorRr
import Derived.Test.YtiaoenkgapfgaaaDoorSo
namespace Go.Proofs.YtiaoenkgapfgaaaDoor
open Go.RowKit Sets

theorem gr_refl (w : World) (g : Nat) : w.grownBy w (some g) := World.grownBy.refl w _
theorem gr_trans {a b c : World} {g : Nat} (h : a.grownBy b (some g)) (k : b.grownBy c (some g)) : a.grownBy c (some g) :=
  ⟨k.os.trans h.os, k.tape.trans h.tape, k.output.trans h.output, Nat.le_trans h.size k.size, fun i hi hne => (k.block i (Nat.lt_of_lt_of_le hi h.size) hne).trans (h.block i hi hne)⟩
theorem gr_below {a b : World} (g : Nat) (h : Below a.heap.size a b) : a.grownBy b (some g) := ⟨h.os, h.tape, h.output, h.size, fun i hi _ => h.block i hi⟩
theorem gr_set (w : World) (g o k : Nat) (v : Value) : w.grownBy ((w.setCell ⟨g, o, none⟩ v).drewN k) (some g) :=
  ⟨rfl, rfl, rfl, by show w.heap.size ≤ (w.setCell ⟨g, o, none⟩ v).heap.size; simp [World.setCell], fun i _ hne => Below.heap_setCell w ⟨g, o, none⟩ v i (fun e => hne (by rw [e]))⟩
/-- What a step of the reader's leaves: Below, where the reader's block is the call's own. -/
theorem gr_to_below {a b : World} {g B : Nat} (h : a.grownBy b (some g)) (hB : B ≤ a.heap.size) (hg : B ≤ g) : Below B a b :=
  (Below.refl _ _).grown h hB fun k e => by injection e with e; omega
theorem OwnS.gr {w w' : World} {base g : Nat} {v : Value} {xs : List Sp} (h : OwnS w base v xs) (hg : w.grownBy w' (some g)) (hb : g < base) : OwnS w' base v xs :=
  World.ownsRow.kept h hg (by
    cases hv : v.ownBlock with
    | none => exact .inl rfl
    | some k => right; intro e; injection e with e; have := (h.lt k hv).1; omega)

theorem gr_row {a b c : World} {g : Nat} {row : Option Nat} (h : a.grownBy b (some g)) (k : b.grownBy c row) (hr : ∀ i, row = some i → a.heap.size ≤ i) : a.grownBy c (some g) :=
  ⟨k.os.trans h.os, k.tape.trans h.tape, k.output.trans h.output, Nat.le_trans h.size k.size, fun i hi hne => (k.block i (Nat.lt_of_lt_of_le hi h.size) (fun e => by have := hr i e.symm; omega)).trans (h.block i hi hne)⟩
theorem Rdr.rowed {w w' : World} {g B : Nat} {A : Option Addr} {n c p : Nat} {z : Nat → Int} {row : Option Nat} (h : Rdr w g B A n c p z) (k : w.grownBy w' row) (hr : ∀ i, row = some i → g < i) : Rdr w' g B A n c p z where
  blk := by rw [k.block g h.lt (fun e => by have := hr g e.symm; omega)]; exact h.blk
  hn := h.hn
  hc := h.hc
  hB := h.hB
  byte := h.byte
  row hp := by
    obtain ⟨b, off, e, hb', hrow⟩ := h.row hp
    refine ⟨b, off, e, hb', fun i hi => ?_⟩
    have := h.hB; have := h.lt
    rw [World.cell?_of_block (a := ⟨b, off + i, none⟩) (k.block b (by omega) (fun e => by have := hr b e.symm; omega))]
    exact hrow i hi

theorem pick_step (g B : Nat) (A : Option Addr) (n c p : Nat) (z : Nat → Int) (m : Int) (w : World) (h : Rdr w g B A n c p z) (hp : p ≤ 1000000) (hm : 1 ≤ m) (hm2 : m ≤ 4611686018427387904) :
    Calls Tryd.prog 20 #[.pointer (some ⟨g, 0, none⟩), .int .i64 m] w fun e w' => ∃ v : Int, e = .returned (.int .i64 v) ∧ 0 ≤ v ∧ v < m ∧ Rdr w' g B A n c (p + 1) z ∧ w.grownBy w' (some g) :=
  (pick_any g B A n c p z m w h hp (by omega) hm2).mono fun e w' ⟨v, k, he, h0, h1, _, hw⟩ => ⟨v, he, h0, h1 hm, by rw [hw]; exact h.next k, by rw [hw]; exact gr_set _ _ _ _ _⟩

/-- The numbers that a draw lays before it picks one. -/
def numsObj (l : List Int) : Obj := .cells ((l.map (Value.int .i64)).toArray) 3
theorem nums_new (w : World) (l : List Int) : Nums (w.alloc (numsObj l)) w.heap.size l := by
  intro i hi
  unfold numsObj
  rw [World.cell?_alloc_new]
  simp [hi]
theorem num_step (g B : Nat) (A : Option Addr) (n c p : Nat) (z : Nat → Int) (l : List Int) (m b : Nat) (o : Obj) (w : World) (hm : m = l.length) (hb : b = w.heap.size) (ho : o = numsObj l) (h : Rdr w g B A n c p z) (hp : p ≤ 1000000) (hl0 : 0 < m) (hl1 : m ≤ 1000) :
    Calls Tryd.prog 19 #[.pointer (some ⟨g, 0, none⟩), .slice (some ⟨b, 0, none⟩) m m] (w.alloc o) fun e w' => ∃ v : Int, e = .returned (.int .i64 v) ∧ v ∈ l ∧ Rdr w' g B A n c (p + 1) z ∧ w.grownBy w' (some g) := by
  subst hm hb ho
  exact (num_any g B A n c p z w.heap.size l _ (h.below ((Below.refl _ _).alloc (Nat.le_refl _) _)) hp (nums_new w l) hl0 hl1 (by have := h.lt; omega)).mono fun e w' ⟨v, k, he, hv, hw⟩ =>
    ⟨v, he, hv, by rw [hw]; exact (h.below ((Below.refl _ _).alloc (Nat.le_refl _) _)).next k, by
      rw [hw]; exact gr_trans (gr_below g ((Below.refl _ _).alloc (Nat.le_refl _) _)) (gr_set _ _ _ _ _)⟩

def SpansRes (g B : Nat) (A : Option Addr) (n c p K L : Nat) (z : Nat → Int) (w : World) (e : Ending) (w' : World) : Prop :=
  ∃ (v : Value) (xs : List Sp) (p' : Nat), e = .returned v ∧ OwnS w' w.heap.size v xs ∧ Fits xs ∧ xs.length ≤ L ∧ p' ≤ p + K ∧ Rdr w' g B A n c p' z ∧ w.grownBy w' (some g)

end Go.Proofs.YtiaoenkgapfgaaaDoor
