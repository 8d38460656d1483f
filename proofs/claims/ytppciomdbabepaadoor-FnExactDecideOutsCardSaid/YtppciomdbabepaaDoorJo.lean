/-
  Contracts of the model's union, meet and difference of sets.
-/
import Derived.Test.YtppciomdbabepaaDoorFr
import Derived.Test.YtppciomdbabepaaDoorIm
namespace Go.Proofs.YtppciomdbabepaaDoor
open Go.RowKit Sets

def jf (both minus p q : Bool) : Bool := if minus then p && !q else if both then p && q else p || q
def jfK (both minus : Bool) (xs ys : List Sp) (k j : Nat) : Bool := if j < k then jf both minus (flag xs j) (flag ys j) else flag xs j
theorem jfK_set (both minus : Bool) (xs ys : List Sp) (k j : Nat) (b : Bool) (hb : b = jf both minus (flag xs k) (flag ys k)) : (if j = k then b else jfK both minus xs ys k j) = jfK both minus xs ys (k + 1) j := by
  unfold jfK
  by_cases e : j = k
  · subst e; rw [if_pos rfl, if_pos (by omega), hb]
  · rw [if_neg e]
    by_cases h : j < k
    · rw [if_pos h, if_pos (by omega)]
    · rw [if_neg h, if_neg (by omega)]

theorem Reads.stepB {w w' : World} {A : Option Addr} {c : Nat} {xs : List Sp} (h : Reads w w.heap.size A c xs) (hb : Below w.heap.size w w') : Reads w' w'.heap.size A c xs := h.step hb

theorem norm_of_valid {xs : List Sp} (h : validB xs = true) : Norm xs ∧ Within xs := ((valid_iff xs).1 ((validB_iff xs).1 h)).2
theorem join_meet {xs ys : List Sp} (h1 : validB xs = true) (h2 : validB ys = true) : fromF (fun j => jf true false (flag xs j) (flag ys j)) 199 = meetP xs ys :=
  meet_flags xs ys (norm_of_valid h1).1 (norm_of_valid h1).2 (norm_of_valid h2).1
theorem join_minus {xs ys : List Sp} (h1 : validB xs = true) (h2 : validB ys = true) : fromF (fun j => jf false true (flag xs j) (flag ys j)) 199 = minusP xs ys :=
  minus_flags xs ys (norm_of_valid h1).1 (norm_of_valid h1).2 (norm_of_valid h2).1 (norm_of_valid h2).2

end Go.Proofs.YtppciomdbabepaaDoor
