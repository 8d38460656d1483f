/-
  What the walks are told of a slice of spans: it reads as a list of pairs of numbers, in blocks below a bound.
-/
import Derived.Test.YtajjmdnbmicefabDoorPure2
import Derived.WalkKit
namespace Go.Proofs.YtajjmdnbmicefabDoor
open Go.RowKit Sets

/-- A number that fits an int. -/
def I64 (x : Int) : Prop := -9223372036854775808 ≤ x ∧ x ≤ 9223372036854775807
def Fits (xs : List Sp) : Prop := ∀ x ∈ xs, I64 x.1 ∧ I64 x.2
/-- The element at place i. -/
def lo (xs : List Sp) (i : Nat) : Int := (xs.getD i (0, 0)).1
def hi (xs : List Sp) (i : Nat) : Int := (xs.getD i (0, 0)).2
theorem Fits.lo {xs : List Sp} (h : Fits xs) (i : Nat) : I64 (lo xs i) := by
  unfold YtajjmdnbmicefabDoor.lo
  rcases Nat.lt_or_ge i xs.length with hi | hi
  · rw [List.getD_eq_getElem?_getD, List.getElem?_eq_getElem hi]; exact (h _ (List.getElem_mem hi)).1
  · rw [List.getD_eq_getElem?_getD, List.getElem?_eq_none hi]; exact ⟨by decide, by decide⟩
theorem Fits.hi {xs : List Sp} (h : Fits xs) (i : Nat) : I64 (hi xs i) := by
  unfold YtajjmdnbmicefabDoor.hi
  rcases Nat.lt_or_ge i xs.length with hi | hi
  · rw [List.getD_eq_getElem?_getD, List.getElem?_eq_getElem hi]; exact (h _ (List.getElem_mem hi)).2
  · rw [List.getD_eq_getElem?_getD, List.getElem?_eq_none hi]; exact ⟨by decide, by decide⟩

/-- The cells of a row of spans. -/
def RowAt (w : World) (b off : Nat) (xs : List Sp) : Prop :=
  ∀ i, i < xs.length → w.cell? ⟨b, off + i * 2, none⟩ = some (.int .i64 (lo xs i)) ∧ w.cell? ⟨b, off + i * 2 + 1, none⟩ = some (.int .i64 (hi xs i))
theorem RowAt.keep {w w' : World} {b off : Nat} {xs : List Sp} (h : RowAt w b off xs) (hk : ∀ o, w'.cell? ⟨b, o, none⟩ = w.cell? ⟨b, o, none⟩) : RowAt w' b off xs :=
  fun i hi => ⟨(hk _).trans (h i hi).1, (hk _).trans (h i hi).2⟩
theorem RowAt.below {w w' : World} {B b off : Nat} {xs : List Sp} (h : RowAt w b off xs) (hb : Below B w w') (hB : b < B) : RowAt w' b off xs :=
  h.keep fun o => hb.cell (p := ⟨b, o, none⟩) hB

/-- A slice of spans reads as xs, below block B. -/
def Reads (w : World) (B : Nat) (A : Option Addr) (c : Nat) (xs : List Sp) : Prop :=
  xs.length ≤ c ∧ c ≤ 9223372036854775807 ∧ Fits xs ∧ (xs = [] ∨ ∃ b off, A = some ⟨b, off, none⟩ ∧ b < B ∧ RowAt w b off xs)
theorem Reads.below {w w' : World} {B : Nat} {A : Option Addr} {c : Nat} {xs : List Sp} (h : Reads w B A c xs) (hb : Below B w w') : Reads w' B A c xs :=
  ⟨h.1, h.2.1, h.2.2.1, h.2.2.2.imp id fun ⟨b, off, e, hB, hr⟩ => ⟨b, off, e, hB, hr.below hb hB⟩⟩
theorem Reads.mono {w : World} {B B' : Nat} {A : Option Addr} {c : Nat} {xs : List Sp} (h : Reads w B A c xs) (hB : B ≤ B') : Reads w B' A c xs :=
  ⟨h.1, h.2.1, h.2.2.1, h.2.2.2.imp id fun ⟨b, off, e, hb, hr⟩ => ⟨b, off, e, by omega, hr⟩⟩

theorem take_lohi {xs : List Sp} {k : Nat} (h : k < xs.length) : xs.take (k + 1) = xs.take k ++ [(lo xs k, hi xs k)] := by
  rw [List.take_succ_eq_append_getElem h]
  unfold YtajjmdnbmicefabDoor.lo YtajjmdnbmicefabDoor.hi
  rw [List.getD_eq_getElem?_getD, List.getElem?_eq_getElem h]
  rfl
theorem have_yes {xs : List Sp} {n : Int} {k : Nat} (hk : k < xs.length) (h1 : lo xs k ≤ n) (h2 : n ≤ hi xs k) : haveB xs n = true := by
  refine (haveB_iff xs n).2 ⟨xs[k], List.getElem_mem hk, ?_⟩
  unfold YtajjmdnbmicefabDoor.lo at h1
  unfold YtajjmdnbmicefabDoor.hi at h2
  rw [List.getD_eq_getElem?_getD, List.getElem?_eq_getElem hk] at h1 h2
  exact ⟨h1, h2⟩
theorem have_no {xs : List Sp} {n : Int} (h : ∀ j, j < xs.length → ¬ (lo xs j ≤ n ∧ n ≤ hi xs j)) : haveB xs n = false := by
  rw [← Bool.not_eq_true, haveB_iff]
  rintro ⟨x, hx, h1, h2⟩
  obtain ⟨j, hj, rfl⟩ := List.mem_iff_getElem.1 hx
  refine h j hj ?_
  unfold YtajjmdnbmicefabDoor.lo YtajjmdnbmicefabDoor.hi
  rw [List.getD_eq_getElem?_getD, List.getElem?_eq_getElem hj]
  exact ⟨h1, h2⟩

/-- Equality of lists of spans, as a Bool that no simp rule opens. -/
def sameB (xs ys : List Sp) : Bool := decide (xs = ys)
theorem same_yes {xs ys : List Sp} (hl : xs.length = ys.length) (h : ∀ j, j < xs.length → lo xs j = lo ys j ∧ hi xs j = hi ys j) : sameB xs ys = true := by
  refine decide_eq_true (List.ext_getElem hl fun j h1 h2 => ?_)
  have := h j h1
  unfold YtajjmdnbmicefabDoor.lo YtajjmdnbmicefabDoor.hi at this
  rw [List.getD_eq_getElem?_getD, List.getElem?_eq_getElem h1, List.getD_eq_getElem?_getD, List.getElem?_eq_getElem h2] at this
  exact Prod.ext this.1 this.2
theorem same_no {xs ys : List Sp} {j : Nat} (h : lo xs j ≠ lo ys j ∨ hi xs j ≠ hi ys j) : sameB xs ys = false := by
  refine decide_eq_false ?_
  rintro rfl
  simp at h
theorem same_no_len {xs ys : List Sp} (h : xs.length ≠ ys.length) : sameB xs ys = false := by
  refine decide_eq_false ?_
  rintro rfl
  simp at h
theorem same_iff (xs ys : List Sp) : sameB xs ys = true ↔ xs = ys := decide_eq_true_iff
end Go.Proofs.YtajjmdnbmicefabDoor
