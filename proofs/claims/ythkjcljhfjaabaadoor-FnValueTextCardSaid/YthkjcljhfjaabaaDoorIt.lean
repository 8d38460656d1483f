/-
  The iterator over the numbers of a set, and the program's and the model's containment of sets.
-/
import Derived.Test.YthkjcljhfjaabaaDoorJo
import Derived.RangeFuncNested
import Derived.RangeFuncBound
import Derived.RangeFuncCalls
import Derived.RangeFuncLeaves
import Derived.Shelf.Abstract
import Derived.Shelf.RegionOpen
import Derived.OwnWalkIn
import Derived.TacticsInMore
import Derived.LoopNIn
import Derived.LoopIn
namespace Go.Proofs.YthkjcljhfjaabaaDoor
open Go.RowKit Go.Shelf Sets
attribute [local go_sem] Oper.semAt_some

/-- Every cell that holds a value holds it still. -/
def KeepsC (W W' : World) : Prop := ∀ p v, W.cell? p = some v → W'.cell? p = some v
theorem KeepsC.refl (W : World) : KeepsC W W := fun _ _ h => h
theorem KeepsC.trans {A B C : World} (h : KeepsC A B) (k : KeepsC B C) : KeepsC A C := fun p v hp => k p v (h p v hp)
theorem KeepsC.put {w : World} (W : World) (l : Nat) (o o' : Obj) (_ : w.heap.size ≤ l) (h : W.heap[l]? = some o) (hc : o.isCells = false) (_ : o.isWalk = false) : KeepsC W (W.putObj l o') :=
  fun _ _ hp => cell_kept hp (grownBy_putObj' W l o') (fun r e => by cases e; exact ⟨o, h, hc⟩)
theorem KeepsC.below {W W' : World} (h : Below W.heap.size W W') : KeepsC W W' := fun p _ hp => (h.cell (p := p) (by obtain ⟨o, ho, _⟩ := cells_of_cell hp; exact (Array.getElem?_eq_some_iff.1 ho).1)).trans hp
theorem KeepsC.alloc {W W' : World} (h : KeepsC W W') (o : Obj) : KeepsC W (W'.alloc o) := h.trans (KeepsC.below ((Below.refl _ W').alloc (Nat.le_refl _) o))
theorem keepsOthers_below {W W' : World} (h : Below W.heap.size W W') : KeepsOthers W W' := ⟨h.size, fun k _ hk _ => (h.block k (Array.getElem?_eq_some_iff.1 hk).1).trans hk⟩
theorem RowAt.keepC {W W' : World} {b off : Nat} {xs : List Sp} (hr : RowAt W b off xs) (h : KeepsC W W') : RowAt W' b off xs := fun i hi => ⟨h _ _ (hr i hi).1, h _ _ (hr i hi).2⟩

def numsAt (xs : List Sp) (k : Nat) (pre : List Int) : Prop := ∀ y, y ∈ pre ↔ memS (xs.take k) y
def numsIn (xs : List Sp) (k : Nat) (m : Int) (pre : List Int) : Prop := ∀ y, y ∈ pre ↔ (memS (xs.take k) y ∨ (lo xs k ≤ y ∧ y < m))
theorem numsAt_zero (xs : List Sp) : numsAt xs 0 [] := fun y => by
  rw [List.take_zero]
  exact ⟨(fun h => by cases h), fun h => absurd h (memS_nil y)⟩
theorem numsIn_start {xs : List Sp} {k : Nat} {pre : List Int} (h : numsAt xs k pre) : numsIn xs k (lo xs k) pre := fun y => by
  rw [h y]
  constructor
  · exact .inl
  · rintro (h | h)
    · exact h
    · omega
theorem numsIn_snoc {xs : List Sp} {k : Nat} {m : Int} {pre : List Int} (h : numsIn xs k m pre) (hm : lo xs k ≤ m) : numsIn xs k (m + 1) (pre ++ [m]) := fun y => by
  rw [List.mem_append, h y, List.mem_singleton]
  constructor
  · rintro ((h | h) | h)
    · exact .inl h
    · exact .inr ⟨h.1, by omega⟩
    · exact .inr ⟨by omega, by omega⟩
  · rintro (h | h)
    · exact .inl (.inl h)
    · by_cases e : y = m
      · exact .inr e
      · exact .inl (.inr ⟨h.1, by omega⟩)
theorem numsIn_end {xs : List Sp} {k : Nat} {m : Int} {pre : List Int} (h : numsIn xs k m pre) (hk : k < xs.length) (hm : m = hi xs k + 1) : numsAt xs (k + 1) pre := fun y => by
  rw [h y, take_lohi hk, memS_append, memS_cons]
  have := memS_nil y
  constructor
  · rintro (h | h)
    · exact .inl h
    · exact .inr (.inl ⟨h.1, by show y ≤ hi xs k; omega⟩)
  · rintro (h | h | h)
    · exact .inl h
    · exact .inr ⟨h.1, by have h2 : y ≤ hi xs k := h.2; omega⟩
    · exact absurd h this
theorem memS_take {xs : List Sp} {k : Nat} {y : Int} (h : memS (xs.take k) y) : memS xs y := by
  obtain ⟨x, hx, h⟩ := h
  exact ⟨x, List.mem_of_mem_take hx, h⟩
theorem numsIn_mem {xs : List Sp} {k : Nat} {m : Int} {pre : List Int} (h : numsIn xs k m pre) (hk : k < xs.length) (hm : m ≤ hi xs k + 1) : ∀ y ∈ pre, memS xs y := by
  intro y hy
  rcases (h y).1 hy with h | h
  · exact memS_take h
  · refine ⟨(lo xs k, hi xs k), ?_, h.1, by show y ≤ hi xs k; omega⟩
    have := take_lohi hk
    exact List.mem_of_mem_take (i := k + 1) (by rw [this]; exact List.mem_append.2 (.inr (List.mem_singleton.2 rfl)))

/-- what the iterator needs to know of the numbers -/
def Plain (xs : List Sp) : Prop := xs.length ≤ 12 ∧ ∀ k, k < xs.length → -99 ≤ lo xs k ∧ lo xs k ≤ hi xs k ∧ hi xs k ≤ 99
theorem plain_of_valid {xs : List Sp} (h : validB xs = true) : Plain xs := by
  obtain ⟨h1, h2⟩ := (validB_iff xs).1 h
  exact ⟨h1, fun k hk => by have := h2 k hk; unfold YthkjcljhfjaabaaDoor.lo YthkjcljhfjaabaaDoor.hi; exact ⟨this.1, this.2.2.1, this.2.1⟩⟩

theorem cell_newS (W : World) (v : Value) (t : TypeId) : (W.alloc (.cells #[v] t)).cell? ⟨W.heap.size, 0, none⟩ = some v ∧ (W.alloc (.cells #[v] t)).frozen? ⟨W.heap.size, 0, none⟩ = false :=
  ⟨by rw [World.cell?_alloc_new]; rfl, World.frozen?_alloc_at _ _ _ _ rfl⟩
theorem cell_allocS {W : World} {a : Addr} {v : Value} (o : Obj) (h : W.cell? a = some v) : (W.alloc o).cell? a = some v := cell_kept h (World.grownBy_alloc W o none) (fun r e => by cases e)
theorem frozen_allocS {W : World} {a : Addr} {v : Value} (o : Obj) (h : W.cell? a = some v) (hf : W.frozen? a = false) : (W.alloc o).frozen? a = false := (frozen_kept h (World.grownBy_alloc W o none) (fun r e => by cases e)).trans hf
theorem cell_new2 (w : World) (a b : Int) : (w.alloc (.cells #[.int .i64 a, .int .i64 b] 46)).cell? ⟨w.heap.size, 1, none⟩ = some (.int .i64 b) := by
  rw [World.cell?_alloc_new]; rfl

def withinB (xs ys : List Sp) : Bool := bothB xs ys && decide (minusP xs ys = [])
theorem minus_nil {xs ys : List Sp} (h1 : validB xs = true) (h2 : validB ys = true) : minusP xs ys = [] ↔ ∀ n, memS xs n → memS ys n := by
  obtain ⟨n1, w1⟩ := norm_of_valid h1
  obtain ⟨n2, w2⟩ := norm_of_valid h2
  obtain ⟨m1, m2, m3⟩ := minusP_spec xs ys n1 w1 n2 w2
  constructor
  · intro h n hn
    by_cases hy : memS ys n
    · exact hy
    · have := (m3 n).2 ⟨hn, hy⟩
      rw [h] at this
      exact absurd this (memS_nil n)
  · intro h
    cases hm : minusP xs ys with
    | nil => rfl
    | cons z zs =>
      have hz := m1.le z (by rw [hm]; exact List.mem_cons_self)
      have h4 := (m3 z.1).1 (by rw [hm, memS_cons]; exact .inl ⟨Int.le_refl _, hz⟩)
      exact absurd (h _ h4.1) h4.2

end Go.Proofs.YthkjcljhfjaabaaDoor
