/-
  Contract of the model's set of marked numbers.
-/
import Derived.Test.YtppciomdbabepaaDoorFl
import Derived.Test.YtppciomdbabepaaDoorOw
namespace Go.Proofs.YtppciomdbabepaaDoor
open Go.RowKit Sets

theorem cellsOf_set (b : Int) : ∀ (xs : List Sp) (i : Nat), i < xs.length → cellsOf (xs.set i (lo xs i, b)) = (cellsOf xs).set (i * 2 + 1) (.int .i64 b)
  | [], i, h => by simp at h
  | x :: xs, 0, _ => rfl
  | x :: xs, i + 1, h => by
    have ih := cellsOf_set b xs i (by simpa using h)
    rw [show (i + 1) * 2 + 1 = i * 2 + 1 + 1 + 1 by omega]
    simp only [List.set_cons_succ, cellsOf, List.cons.injEq, true_and]
    rw [← ih]
    rfl
theorem step_no (s : List Sp) (n : Int) : stepF s n false = s := by unfold stepF; simp
theorem step_ext {s : List Sp} {n : Int} (h : 0 < s.length) (e : hi s (s.length - 1) = n - 1) : stepF s n true = s.set (s.length - 1) (lo s (s.length - 1), n) := by
  unfold stepF
  rw [if_pos rfl, if_pos ⟨h, e⟩]; rfl
theorem step_new {s : List Sp} {n : Int} (h : ¬ (0 < s.length ∧ hi s (s.length - 1) = n - 1)) : stepF s n true = s ++ [(n, n)] := by
  unfold stepF
  rw [if_pos rfl]
  exact if_neg h
theorem fromF_fits (f : Nat → Bool) (k : Nat) (hk : k ≤ 199) : Fits (fromF f k) := fun x hx => by
  have h := (fromF_spec f k).2.1 x hx
  have h1 := (fromF_spec f k).1.le x hx
  unfold I64
  omega
theorem fits_nil' : Fits [] := fun x hx => by cases hx
theorem stepF_len (s : List Sp) (n : Int) (f : Bool) : (stepF s n f).length ≤ s.length + 1 := by
  unfold stepF
  split
  · split
    · rw [List.length_set]; omega
    · rw [List.length_append]; simp
  · omega
theorem fromF_len (f : Nat → Bool) : ∀ k, (fromF f k).length ≤ k
  | 0 => Nat.le_refl _
  | k + 1 => by have := fromF_len f k; have := stepF_len (fromF f k) ((k : Int) - 99) (f k); simp only [fromF]; omega

end Go.Proofs.YtppciomdbabepaaDoor
