/-
  Plain facts on the join of sorted spans.
-/
import Derived.Test.YtamfmemdhldmjaaGreatDoorPureM
namespace Go.Proofs.YtamfmemdhldmjaaGreatDoor
open Go.RowKit Sets

def stepJ (s : List Sp) (x : Sp) : List Sp :=
  if 0 < s.length ∧ x.1 ≤ hi s (s.length - 1) + 1 then s.set (s.length - 1) (lo s (s.length - 1), max (hi s (s.length - 1)) x.2) else s ++ [x]
def joinF (xs : List Sp) : Nat → List Sp
  | 0 => []
  | k + 1 => stepJ (joinF xs k) (lo xs k, hi xs k)

theorem lohi_last (p : List Sp) (l : Sp) : lo (p ++ [l]) ((p ++ [l]).length - 1) = l.1 ∧ hi (p ++ [l]) ((p ++ [l]).length - 1) = l.2 := by
  unfold YtamfmemdhldmjaaGreatDoor.lo YtamfmemdhldmjaaGreatDoor.hi
  simp
theorem stepJ_nil (x : Sp) : stepJ [] x = [x] := by unfold stepJ; simp
theorem stepJ_snoc (p : List Sp) (l x : Sp) : stepJ (p ++ [l]) x = if x.1 ≤ l.2 + 1 then p ++ [(l.1, max l.2 x.2)] else (p ++ [l]) ++ [x] := by
  obtain ⟨e1, e2⟩ := lohi_last p l
  unfold stepJ
  rw [e1, e2]
  by_cases h : x.1 ≤ l.2 + 1
  · rw [if_pos ⟨by simp, h⟩, if_pos h]
    simp
  · rw [if_neg (fun q => h q.2), if_neg h]
theorem snoc_cases (s : List Sp) : s = [] ∨ ∃ p l, s = p ++ [l] := by
  rcases List.eq_nil_or_concat s with h | ⟨p, l, h⟩
  · exact .inl h
  · exact .inr ⟨p, l, by rw [h]; simp⟩
theorem stepJ_len (s : List Sp) (x : Sp) : (stepJ s x).length ≤ s.length + 1 := by
  unfold stepJ
  split
  · rw [List.length_set]; omega
  · rw [List.length_append]; simp
theorem joinF_len (xs : List Sp) : ∀ k, (joinF xs k).length ≤ k
  | 0 => Nat.le_refl _
  | k + 1 => by have := joinF_len xs k; have := stepJ_len (joinF xs k) (lo xs k, hi xs k); simp only [joinF]; omega

/-- spans with numbers, ascending by their first numbers -/
def Asc (xs : List Sp) : Prop := (∀ k, k < xs.length → lo xs k ≤ hi xs k) ∧ ∀ i j, i < j → j < xs.length → lo xs i ≤ lo xs j

theorem joinF_spec (xs : List Sp) (h : Asc xs) : ∀ k, k ≤ xs.length → Norm (joinF xs k) ∧ (∀ x ∈ joinF xs k, ∀ m, k ≤ m → m < xs.length → x.1 ≤ lo xs m) ∧ ∀ n, memS (joinF xs k) n ↔ ∃ i, i < k ∧ lo xs i ≤ n ∧ n ≤ hi xs i
  | 0, _ => ⟨trivial, (fun x hx => by cases hx), fun n => ⟨fun q => absurd q (memS_nil n), fun ⟨i, hi, _⟩ => absurd hi (by omega)⟩⟩
  | k + 1, hk => by
    obtain ⟨h1, h2, h3⟩ := joinF_spec xs h k (by omega)
    have hle := h.1 k (by omega)
    have hasc : ∀ m, k + 1 ≤ m → m < xs.length → lo xs k ≤ lo xs m := fun m hm hl => h.2 k m (by omega) hl
    have hmem : ∀ n, (∃ i, i < k + 1 ∧ lo xs i ≤ n ∧ n ≤ hi xs i) ↔ memS (joinF xs k) n ∨ (lo xs k ≤ n ∧ n ≤ hi xs k) := by
      intro n
      rw [h3 n]
      constructor
      · rintro ⟨i, hi, q⟩
        rcases Nat.lt_or_ge i k with hlt | hge
        · exact .inl ⟨i, hlt, q⟩
        · obtain rfl : i = k := by omega
          exact .inr q
      · rintro (⟨i, hi, q⟩ | q)
        · exact ⟨i, by omega, q⟩
        · exact ⟨k, by omega, q⟩
    simp only [joinF]
    rcases snoc_cases (joinF xs k) with he | ⟨p, l, he⟩
    · rw [he, stepJ_nil]
      rw [he] at hmem
      refine ⟨⟨hle, (fun y hy => by cases hy), trivial⟩, fun x hx m hm hl => ?_, fun n => ?_⟩
      · rw [List.mem_singleton.1 hx]; exact hasc m hm hl
      · rw [hmem n, memS_cons]
        exact or_comm
    · rw [he, stepJ_snoc]
      rw [he] at h1 h2 hmem
      have hl1 := h2 l (List.mem_append.2 (.inr (List.mem_singleton.2 rfl))) k (Nat.le_refl _) (by omega)
      obtain ⟨n1, n2, n3⟩ := norm_of_append h1
      have hl2 : l.1 ≤ l.2 := n2.1
      by_cases hc : lo xs k ≤ l.2 + 1
      · rw [if_pos hc]
        refine ⟨norm_snoc n1 (by simp; omega) fun y hy => n3 y hy l (List.mem_singleton.2 rfl), fun x hx m hm hl => ?_, fun n => ?_⟩
        · rcases List.mem_append.1 hx with hx | hx
          · exact h2 x (List.mem_append.2 (.inl hx)) m (by omega) hl
          · rw [List.mem_singleton.1 hx]
            exact h2 l (List.mem_append.2 (.inr (List.mem_singleton.2 rfl))) m (by omega) hl
        · rw [hmem n, memS_append, memS_append, memS_cons, memS_cons]
          have := memS_nil n
          simp only []
          constructor
          · rintro (q | q | q)
            · exact .inl (.inl q)
            · by_cases hn : n ≤ l.2
              · exact .inl (.inr (.inl ⟨q.1, hn⟩))
              · exact .inr ⟨by omega, by omega⟩
            · exact absurd q this
          · rintro ((q | q | q) | q)
            · exact .inl q
            · exact .inr (.inl ⟨q.1, by omega⟩)
            · exact absurd q this
            · exact .inr (.inl ⟨by omega, by omega⟩)
      · rw [if_neg hc]
        refine ⟨norm_snoc h1 hle fun y hy => ?_, fun x hx m hm hl => ?_, fun n => ?_⟩
        · rcases List.mem_append.1 hy with hy | hy
          · have := n3 y hy l (List.mem_singleton.2 rfl)
            show y.2 + 2 ≤ lo xs k
            omega
          · rw [List.mem_singleton.1 hy]
            show l.2 + 2 ≤ lo xs k
            omega
        · rcases List.mem_append.1 hx with hx | hx
          · exact h2 x hx m (by omega) hl
          · rw [List.mem_singleton.1 hx]; exact hasc m hm hl
        · rw [hmem n, memS_append _ [_], memS_cons]
          have := memS_nil n
          constructor
          · rintro (q | q | q)
            · exact .inl q
            · exact .inr q
            · exact absurd q this
          · rintro (q | q)
            · exact .inl q
            · exact .inr (.inl q)
theorem memS_at (xs : List Sp) (n : Int) : memS xs n ↔ ∃ i, i < xs.length ∧ lo xs i ≤ n ∧ n ≤ hi xs i := by
  constructor
  · rintro ⟨x, hx, h⟩
    obtain ⟨i, hi, rfl⟩ := List.getElem_of_mem hx
    exact ⟨i, hi, by unfold YtamfmemdhldmjaaGreatDoor.lo YtamfmemdhldmjaaGreatDoor.hi; simpa [hi] using h⟩
  · rintro ⟨i, hi, h⟩
    refine ⟨xs[i], List.getElem_mem hi, ?_⟩
    unfold YtamfmemdhldmjaaGreatDoor.lo YtamfmemdhldmjaaGreatDoor.hi at h
    simpa [hi] using h
theorem joinF_all (xs : List Sp) (h : Asc xs) (hw : Within xs) : Norm (joinF xs xs.length) ∧ Within (joinF xs xs.length) ∧ ∀ n, memS (joinF xs xs.length) n ↔ memS xs n := by
  obtain ⟨h1, _, h3⟩ := joinF_spec xs h xs.length (Nat.le_refl _)
  have h4 : ∀ n, memS (joinF xs xs.length) n ↔ memS xs n := fun n => (h3 n).trans (memS_at xs n).symm
  refine ⟨h1, fun x hx => ?_, h4⟩
  have hle := h1.le x hx
  obtain ⟨y, hy, a⟩ := (h4 x.1).1 ⟨x, hx, Int.le_refl _, hle⟩
  obtain ⟨z, hz, b⟩ := (h4 x.2).1 ⟨x, hx, hle, Int.le_refl _⟩
  have := hw y hy
  have := hw z hz
  omega
end Go.Proofs.YtamfmemdhldmjaaGreatDoor
