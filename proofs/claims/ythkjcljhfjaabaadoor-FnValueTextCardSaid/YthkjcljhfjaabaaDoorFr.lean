/-
  Contract of the model's set of marked numbers.
-/
import Derived.Test.YthkjcljhfjaabaaDoorFl
import Derived.Test.YthkjcljhfjaabaaDoorOw
namespace Go.Proofs.YthkjcljhfjaabaaDoor
open Go.RowKit Sets

theorem cellsOf_set (b : Int) : ∀ (xs : List Sp) (i : Nat), i < xs.length → cellsOf (xs.set i (lo xs i, b)) = (cellsOf xs).set (i * 2 + 1) (.int .i64 b)
  | [], i, h => by simp at h
  | x :: xs, 0, _ => rfl
  | x :: xs, i + 1, h => by
    have ih := cellsOf_set b xs i (by simpa using h)
    rw [show (i + 1) * 2 + 1 = i * 2 + 1 + 1 + 1 by omega]
    simp only [List.set_cons_succ, cellsOf, List.cons.injEq, true_and]
    rw [← ih]
    rfl
theorem OwnS.block {w : World} {base : Nat} {v : Value} {xs : List Sp} (h : OwnS w base v xs) (hp : 0 < xs.length) :
    ∃ g cap, v = .slice (some ⟨g, 0, none⟩) xs.length cap ∧ base ≤ g ∧ g < w.heap.size ∧ xs.length ≤ cap ∧ cap ≤ 9223372036854775807 ∧ RowAt w g 0 xs ∧ (∀ o, w.frozen? ⟨g, o, none⟩ = false) ∧ w.ownsRow base 46 2 (.slice (some ⟨g, 0, none⟩) xs.length cap) xs.length (cellsOf xs) := by
  have h' := h
  obtain ⟨h0, ⟨rfl, hn⟩ | ⟨g, cap, cur, rfl, hb, hg, hnc, hcm, hcs, hcur⟩⟩ := h
  · omega
  · refine ⟨g, cap, rfl, hb, (Array.getElem?_eq_some_iff.1 hg).1, hnc, by unfold maxLen at hcm; omega, fun i hi => ?_, fun o => by simp [World.frozen?, hg], h'⟩
    have hc := cellsOf_at xs i hi
    have hcell : ∀ o, o < xs.length * 2 → w.cell? ⟨g, 0 + o, none⟩ = (cellsOf xs)[o]? := by
      intro o ho
      rw [← hcur, List.getElem?_take_of_lt ho, Nat.zero_add]
      simp [World.cell?, hg]
    exact ⟨by rw [hcell _ (by omega)]; exact hc.1, by rw [Nat.add_assoc, hcell _ (by omega)]; exact hc.2⟩
theorem OwnS.set_hi {w : World} {base g cap : Nat} {xs : List Sp} (h : w.ownsRow base 46 2 (.slice (some ⟨g, 0, none⟩) xs.length cap) xs.length (cellsOf xs)) {i : Nat} (hi : i < xs.length) (b : Int) :
    OwnS (w.setCell ⟨g, i * 2 + 1, none⟩ (.int .i64 b)) base (.slice (some ⟨g, 0, none⟩) xs.length cap) (xs.set i (lo xs i, b)) := by
  unfold OwnS
  rw [cellsOf_set b xs i hi, List.length_set]
  exact (World.ownsRow.stored h (i * 2 + 1) (.int .i64 b)).1

theorem step_no (s : List Sp) (n : Int) : stepF s n false = s := by unfold stepF; simp
theorem step_ext {s : List Sp} {n : Int} (h : 0 < s.length) (e : hi s (s.length - 1) = n - 1) : stepF s n true = s.set (s.length - 1) (lo s (s.length - 1), n) := by
  unfold stepF
  rw [if_pos rfl, if_pos ⟨h, e⟩]; rfl
theorem step_new {s : List Sp} {n : Int} (h : ¬ (0 < s.length ∧ hi s (s.length - 1) = n - 1)) : stepF s n true = s ++ [(n, n)] := by
  unfold stepF
  rw [if_pos rfl]
  exact if_neg h
theorem fromF_fits (f : Nat → Bool) (k : Nat) (hk : k ≤ 199) : Fits (fromF f k) := fun x hx => by
  have h := (fromF_spec f k).2.1 x hx
  have h1 := (fromF_spec f k).1.le x hx
  unfold I64
  omega
theorem fits_nil' : Fits [] := fun x hx => by cases hx
theorem stepF_len (s : List Sp) (n : Int) (f : Bool) : (stepF s n f).length ≤ s.length + 1 := by
  unfold stepF
  split
  · split
    · rw [List.length_set]; omega
    · rw [List.length_append]; simp
  · omega
theorem fromF_len (f : Nat → Bool) : ∀ k, (fromF f k).length ≤ k
  | 0 => Nat.le_refl _
  | k + 1 => by have := fromF_len f k; have := stepF_len (fromF f k) ((k : Int) - 99) (f k); simp only [fromF]; omega

end Go.Proofs.YthkjcljhfjaabaaDoor
