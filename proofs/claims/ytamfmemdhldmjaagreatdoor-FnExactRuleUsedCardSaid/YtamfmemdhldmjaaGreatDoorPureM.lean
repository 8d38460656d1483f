/-
  Plain facts on sets of numbers as lists of spans: normal forms are unique; the set of the marked numbers is in normal form.
-/
import Derived.WalkKit
namespace Go.Proofs.YtamfmemdhldmjaaGreatDoor
namespace Sets

abbrev Sp := Int × Int

def memS (s : List Sp) (n : Int) : Prop := ∃ x ∈ s, x.1 ≤ n ∧ n ≤ x.2

theorem memS_nil (n : Int) : ¬ memS [] n := by rintro ⟨x, hx, _⟩; cases hx
theorem memS_cons (x : Sp) (s : List Sp) (n : Int) : memS (x :: s) n ↔ (x.1 ≤ n ∧ n ≤ x.2) ∨ memS s n := by
  constructor
  · rintro ⟨y, hy, h⟩
    rcases List.mem_cons.1 hy with rfl | hy
    · exact .inl h
    · exact .inr ⟨y, hy, h⟩
  · rintro (h | ⟨y, hy, h⟩)
    · exact ⟨x, List.mem_cons_self, h⟩
    · exact ⟨y, List.mem_cons_of_mem _ hy, h⟩
theorem memS_append (s t : List Sp) (n : Int) : memS (s ++ t) n ↔ memS s n ∨ memS t n := by
  induction s with
  | nil => simp [memS_nil]
  | cons x s ih => rw [List.cons_append, memS_cons, memS_cons, ih, or_assoc]

def haveB (s : List Sp) (n : Int) : Bool := s.any fun x => decide (x.1 ≤ n) && decide (n ≤ x.2)
theorem haveB_iff (s : List Sp) (n : Int) : haveB s n = true ↔ memS s n := by
  unfold haveB memS
  simp

def Norm : List Sp → Prop
  | [] => True
  | x :: s => x.1 ≤ x.2 ∧ (∀ y ∈ s, x.2 + 2 ≤ y.1) ∧ Norm s

theorem Norm.le {s : List Sp} (h : Norm s) : ∀ x ∈ s, x.1 ≤ x.2 := by
  induction s with
  | nil => intro x hx; cases hx
  | cons y s ih =>
    intro x hx
    rcases List.mem_cons.1 hx with rfl | hx
    · exact h.1
    · exact ih h.2.2 x hx

theorem norm_unique : ∀ s t : List Sp, Norm s → Norm t → (∀ n, memS s n ↔ memS t n) → s = t
  | [], [], _, _, _ => rfl
  | [], y :: t, _, ht, h => absurd ((h y.1).2 ((memS_cons y t y.1).2 (.inl ⟨Int.le_refl _, ht.1⟩))) (memS_nil _)
  | x :: s, [], hs, _, h => absurd ((h x.1).1 ((memS_cons x s x.1).2 (.inl ⟨Int.le_refl _, hs.1⟩))) (memS_nil _)
  | x :: s, y :: t, hs, ht, h => by
    have low : ∀ (z : Sp) (r : List Sp), Norm (z :: r) → ∀ n, memS (z :: r) n → z.1 ≤ n := by
      intro z r hz n hn
      rcases (memS_cons z r n).1 hn with hn | ⟨u, hu, hn⟩
      · exact hn.1
      · have := hz.1; have := hz.2.1 u hu; omega
    have tail : ∀ (z : Sp) (r : List Sp), Norm (z :: r) → ∀ n, memS r n → z.2 + 2 ≤ n := by
      rintro z r hz n ⟨u, hu, hn⟩
      have := hz.2.1 u hu; omega
    have h1 : x.1 = y.1 := by
      have a := low y t ht x.1 ((h x.1).1 ((memS_cons x s x.1).2 (.inl ⟨Int.le_refl _, hs.1⟩)))
      have b := low x s hs y.1 ((h y.1).2 ((memS_cons y t y.1).2 (.inl ⟨Int.le_refl _, ht.1⟩)))
      omega
    have hx := hs.1
    have hy := ht.1
    have h2 : x.2 = y.2 := by
      rcases Int.lt_trichotomy x.2 y.2 with hlt | heq | hlt
      · exfalso
        have hm := (h (x.2 + 1)).2 ((memS_cons y t _).2 (.inl ⟨by omega, by omega⟩))
        rcases (memS_cons x s _).1 hm with hn | hn
        · omega
        · have := tail x s hs _ hn; omega
      · exact heq
      · exfalso
        have hm := (h (y.2 + 1)).1 ((memS_cons x s _).2 (.inl ⟨by omega, by omega⟩))
        rcases (memS_cons y t _).1 hm with hn | hn
        · omega
        · have := tail y t ht _ hn; omega
    have hxy : x = y := Prod.ext h1 h2
    subst hxy
    have h3 : ∀ n, memS s n ↔ memS t n := by
      intro n
      constructor
      · intro hn
        have hb := tail x s hs n hn
        rcases (memS_cons x t n).1 ((h n).1 ((memS_cons x s n).2 (.inr hn))) with hc | hc
        · omega
        · exact hc
      · intro hn
        have hb := tail x t ht n hn
        rcases (memS_cons x s n).1 ((h n).2 ((memS_cons x t n).2 (.inr hn))) with hc | hc
        · omega
        · exact hc
    rw [norm_unique s t hs.2.2 ht.2.2 h3]

theorem norm_append {s t : List Sp} (hs : Norm s) (ht : Norm t) (h : ∀ x ∈ s, ∀ y ∈ t, x.2 + 2 ≤ y.1) : Norm (s ++ t) := by
  induction s with
  | nil => exact ht
  | cons x s ih =>
    refine ⟨hs.1, fun y hy => ?_, ih hs.2.2 fun z hz => h z (List.mem_cons_of_mem _ hz)⟩
    rcases List.mem_append.1 hy with hy | hy
    · exact hs.2.1 y hy
    · exact h x List.mem_cons_self y hy

theorem norm_snoc {s : List Sp} {x : Sp} (hs : Norm s) (hx : x.1 ≤ x.2) (h : ∀ y ∈ s, y.2 + 2 ≤ x.1) : Norm (s ++ [x]) :=
  norm_append hs ⟨hx, (fun y hy => by cases hy), trivial⟩ fun y hy z hz => by
    rw [List.mem_singleton.1 hz]; exact h y hy

theorem norm_of_append {s t : List Sp} (h : Norm (s ++ t)) : Norm s ∧ Norm t ∧ ∀ x ∈ s, ∀ y ∈ t, x.2 + 2 ≤ y.1 := by
  induction s with
  | nil => exact ⟨trivial, h, fun x hx => by cases hx⟩
  | cons x s ih =>
    obtain ⟨h1, h2, h3⟩ := ih h.2.2
    refine ⟨⟨h.1, fun y hy => h.2.1 y (List.mem_append.2 (.inl hy)), h1⟩, h2, fun z hz y hy => ?_⟩
    rcases List.mem_cons.1 hz with rfl | hz
    · exact h.2.1 y (List.mem_append.2 (.inr hy))
    · exact h3 z hz y hy

/- the check of a set, as both programs make it: element by element -/
def okAt (s : List Sp) (j : Nat) : Prop :=
  -99 ≤ (s.getD j (0, 0)).1 ∧ (s.getD j (0, 0)).2 ≤ 99 ∧ (s.getD j (0, 0)).1 ≤ (s.getD j (0, 0)).2 ∧
    (0 < j → (s.getD (j - 1) (0, 0)).2 + 2 ≤ (s.getD j (0, 0)).1)
instance (s : List Sp) (j : Nat) : Decidable (okAt s j) := by unfold okAt; infer_instance
def ValidP (s : List Sp) : Prop := s.length ≤ 12 ∧ ∀ j, j < s.length → okAt s j
instance (s : List Sp) : Decidable (ValidP s) := by unfold ValidP; infer_instance
def validB (s : List Sp) : Bool := decide (ValidP s)
theorem validB_iff (s : List Sp) : validB s = true ↔ ValidP s := by unfold validB; exact decide_eq_true_iff
theorem validB_no (s : List Sp) : validB s = false ↔ ¬ ValidP s := by unfold validB; exact decide_eq_false_iff_not

theorem okAt_cons (x : Sp) (s : List Sp) (j : Nat) (h : okAt (x :: s) (j + 1)) (hj : 0 < j) : okAt s j := by
  obtain ⟨k, rfl⟩ : ∃ k, j = k + 1 := ⟨j - 1, by omega⟩
  have h4 := h.2.2.2 (by omega)
  exact ⟨by simpa using h.1, by simpa using h.2.1, by simpa using h.2.2.1, fun _ => by simpa using h4⟩

/-- a checked list is in normal form, and its numbers are within the limits -/
theorem norm_of_ok : ∀ s : List Sp, (∀ j, j < s.length → okAt s j) → Norm s ∧ ∀ x ∈ s, -99 ≤ x.1 ∧ x.2 ≤ 99
  | [], _ => ⟨trivial, fun x hx => by cases hx⟩
  | [x], h => by
    have h0 := h 0 (by simp)
    have a := h0.1; have b := h0.2.1; have c := h0.2.2.1
    simp at a b c
    refine ⟨⟨c, (fun y hy => by cases hy), trivial⟩, fun y hy => ?_⟩
    rw [List.mem_singleton.1 hy]; exact ⟨a, b⟩
  | x :: y :: s, h => by
    have h0 := h 0 (by simp)
    have a := h0.1; have b := h0.2.1; have c := h0.2.2.1
    simp at a b c
    have h1 := (h 1 (by simp)).2.2.2 (by omega)
    simp at h1
    have ih := norm_of_ok (y :: s) (by
      intro j hj
      rcases Nat.eq_zero_or_pos j with rfl | hp
      · have k := h 1 (by simp)
        exact ⟨by simpa using k.1, by simpa using k.2.1, by simpa using k.2.2.1, fun hh => absurd hh (by omega)⟩
      · exact okAt_cons x (y :: s) j (h (j + 1) (by simp at hj ⊢; omega)) hp)
    refine ⟨⟨c, fun z hz => ?_, ih.1⟩, fun z hz => ?_⟩
    · rcases List.mem_cons.1 hz with rfl | hz
      · exact h1
      · have := ih.1.2.1 z hz; have := ih.1.1; omega
    · rcases List.mem_cons.1 hz with rfl | hz
      · exact ⟨a, b⟩
      · exact ih.2 z hz

theorem ok_of_norm : ∀ s : List Sp, Norm s → (∀ x ∈ s, -99 ≤ x.1 ∧ x.2 ≤ 99) → ∀ j, j < s.length → okAt s j
  | [], _, _, j, hj => by simp at hj
  | x :: s, hs, hb, 0, _ => by
    have := hb x List.mem_cons_self
    have := hs.1
    exact ⟨by simp; omega, by simp; omega, by simp; omega, fun h => absurd h (by omega)⟩
  | x :: s, hs, hb, j + 1, hj => by
    have hj' : j < s.length := by simpa using hj
    have ih := ok_of_norm s hs.2.2 (fun z hz => hb z (List.mem_cons_of_mem _ hz)) j hj'
    refine ⟨by simpa using ih.1, by simpa using ih.2.1, by simpa using ih.2.2.1, fun _ => ?_⟩
    rcases Nat.eq_zero_or_pos j with rfl | hp
    · have hm : s.getD 0 (0, 0) ∈ s := by
        rw [List.getD_eq_getElem?_getD, List.getElem?_eq_getElem hj']; exact List.getElem_mem hj'
      have := hs.2.1 _ hm
      simpa using this
    · obtain ⟨k, rfl⟩ : ∃ k, j = k + 1 := ⟨j - 1, by omega⟩
      have := ih.2.2.2 (by omega)
      simpa using this

def Within (s : List Sp) : Prop := ∀ x ∈ s, -99 ≤ x.1 ∧ x.2 ≤ 99

theorem valid_iff (s : List Sp) : ValidP s ↔ s.length ≤ 12 ∧ Norm s ∧ Within s :=
  ⟨fun h => ⟨h.1, (norm_of_ok s h.2).1, (norm_of_ok s h.2).2⟩, fun h => ⟨h.1, ok_of_norm s h.2.1 h.2.2⟩⟩

/- the set of the marked numbers: flag i stands for the number i - 99 -/
def stepF (out : List Sp) (n : Int) (f : Bool) : List Sp :=
  if f then
    (if 0 < out.length ∧ (out.getD (out.length - 1) (0, 0)).2 = n - 1 then out.set (out.length - 1) ((out.getD (out.length - 1) (0, 0)).1, n) else out ++ [(n, n)])
  else out
def fromF (f : Nat → Bool) : Nat → List Sp
  | 0 => []
  | k + 1 => stepF (fromF f k) ((k : Int) - 99) (f k)

theorem snoc_form (s : List Sp) (h : 0 < s.length) : ∃ r x, s = r ++ [x] := by
  have hne : s ≠ [] := by intro e; simp [e] at h
  exact ⟨s.dropLast, s.getLast hne, (List.dropLast_concat_getLast hne).symm⟩

theorem stepF_snoc (r : List Sp) (x : Sp) (n : Int) : stepF (r ++ [x]) n true = if x.2 = n - 1 then r ++ [(x.1, n)] else r ++ [x] ++ [(n, n)] := by
  unfold stepF
  have hg : (r ++ [x]).getD ((r ++ [x]).length - 1) (0, 0) = x := by simp
  rw [hg]
  by_cases h : x.2 = n - 1
  · rw [if_pos rfl, if_pos ⟨by simp, h⟩, if_pos h]
    simp
  · rw [if_pos rfl, if_neg (fun hh => h hh.2), if_neg h]

theorem fromF_spec (f : Nat → Bool) : ∀ k, Norm (fromF f k) ∧ (∀ x ∈ fromF f k, -99 ≤ x.1 ∧ x.2 ≤ (k : Int) - 100) ∧
    ∀ n, memS (fromF f k) n ↔ ∃ j, j < k ∧ f j = true ∧ n = (j : Int) - 99
  | 0 => ⟨trivial, (fun x hx => by cases hx), fun n => ⟨fun h => absurd h (memS_nil n), fun ⟨j, hj, _⟩ => absurd hj (by omega)⟩⟩
  | k + 1 => by
    obtain ⟨h1, h2, h3⟩ := fromF_spec f k
    show Norm (stepF (fromF f k) ((k : Int) - 99) (f k)) ∧ (∀ x ∈ stepF (fromF f k) ((k : Int) - 99) (f k), _) ∧ ∀ n, memS (stepF (fromF f k) ((k : Int) - 99) (f k)) n ↔ _
    cases hf : f k with
    | false =>
      have e : stepF (fromF f k) ((k : Int) - 99) false = fromF f k := by unfold stepF; simp
      rw [e]
      refine ⟨h1, fun x hx => ⟨(h2 x hx).1, by have := (h2 x hx).2; omega⟩, fun n => (h3 n).trans ⟨fun ⟨j, hj, r⟩ => ⟨j, by omega, r⟩, fun ⟨j, hj, hfj, r⟩ => ⟨j, ?_, hfj, r⟩⟩⟩
      rcases Nat.lt_or_ge j k with h | h
      · exact h
      · have : j = k := by omega
        subst this; rw [hf] at hfj; cases hfj
    | true =>
      have hmem : ∀ n : Int, (∃ j, j < k + 1 ∧ f j = true ∧ n = (j : Int) - 99) ↔ memS (fromF f k) n ∨ n = (k : Int) - 99 := by
        intro n
        rw [h3 n]
        constructor
        · rintro ⟨j, hj, hfj, e⟩
          rcases Nat.lt_or_ge j k with h | h
          · exact .inl ⟨j, h, hfj, e⟩
          · have : j = k := by omega
            subst this; exact .inr e
        · rintro (⟨j, hj, hfj, e⟩ | e)
          · exact ⟨j, by omega, hfj, e⟩
          · exact ⟨k, by omega, hf, e⟩
      have app : Norm (fromF f k ++ [((k : Int) - 99, (k : Int) - 99)]) → (Norm (fromF f k ++ [((k : Int) - 99, (k : Int) - 99)]) ∧ (∀ x ∈ fromF f k ++ [((k : Int) - 99, (k : Int) - 99)], -99 ≤ x.1 ∧ x.2 ≤ ((k + 1 : Nat) : Int) - 100) ∧ ∀ n, memS (fromF f k ++ [((k : Int) - 99, (k : Int) - 99)]) n ↔ ∃ j, j < k + 1 ∧ f j = true ∧ n = (j : Int) - 99) := by
        intro hn
        refine ⟨hn, fun x hx => ?_, fun n => ?_⟩
        · rcases List.mem_append.1 hx with hx | hx
          · have := h2 x hx; omega
          · rw [List.mem_singleton.1 hx]; simp; omega
        · rw [hmem n, memS_append, memS_cons]
          have : ¬ memS [] n := memS_nil n
          constructor
          · rintro (h | h | h)
            · exact .inl h
            · right; simp at h; omega
            · exact absurd h this
          · rintro (h | h)
            · exact .inl h
            · exact .inr (.inl (by simp; omega))
      rcases Nat.eq_zero_or_pos (fromF f k).length with h0 | hpos
      · have he : fromF f k = [] := List.eq_nil_of_length_eq_zero h0
        have hs : stepF (fromF f k) ((k : Int) - 99) true = fromF f k ++ [((k : Int) - 99, (k : Int) - 99)] := by
          rw [he]; rfl
        rw [hs]
        exact app (norm_snoc h1 (Int.le_refl _) (by intro y hy; rw [he] at hy; cases hy))
      · obtain ⟨r, x, hrx⟩ := snoc_form _ hpos
        rw [hrx, stepF_snoc]
        by_cases hx : x.2 = (k : Int) - 99 - 1
        · rw [if_pos hx]
          rw [hrx] at h1 h2 hmem
          obtain ⟨n1, n2, n3⟩ := norm_of_append h1
          have hx1 : x.1 ≤ x.2 := n2.1
          refine ⟨norm_append n1 ⟨(by simp; omega), (fun y hy => by cases hy), trivial⟩ fun y hy z hz => ?_, fun y hy => ?_, fun n => ?_⟩
          · rw [List.mem_singleton.1 hz]; exact n3 y hy x List.mem_cons_self
          · rcases List.mem_append.1 hy with hy | hy
            · have := h2 y (List.mem_append.2 (.inl hy)); omega
            · rw [List.mem_singleton.1 hy]
              have := h2 x (List.mem_append.2 (.inr List.mem_cons_self))
              simp; omega
          · rw [hmem n, memS_append, memS_append, memS_cons, memS_cons]
            have : ¬ memS [] n := memS_nil n
            constructor
            · rintro (h | h | h)
              · exact .inl (.inl h)
              · simp at h
                by_cases e : n = (k : Int) - 99
                · exact .inr e
                · exact .inl (.inr (.inl ⟨h.1, by omega⟩))
              · exact absurd h this
            · rintro ((h | h | h) | h)
              · exact .inl h
              · exact .inr (.inl (by simp; omega))
              · exact absurd h this
              · exact .inr (.inl (by simp; omega))
        · rw [if_neg hx, ← hrx]
          refine app (norm_snoc h1 (Int.le_refl _) fun y hy => ?_)
          have hy2 := (h2 y hy).2
          rw [hrx] at hy h1 h2
          rcases List.mem_append.1 hy with hy' | hy'
          · have := (norm_of_append h1).2.2 y hy' x List.mem_cons_self
            have := (norm_of_append h1).2.1.1
            have := (h2 x (List.mem_append.2 (.inr List.mem_cons_self))).2
            simp; omega
          · rw [List.mem_singleton.1 hy'] at hy2 ⊢
            simp; omega
end Sets
end Go.Proofs.YtamfmemdhldmjaaGreatDoor

namespace Go.Proofs.YtamfmemdhldmjaaGreatDoor
namespace Sets

theorem norm_low {x : Sp} {s : List Sp} (h : Norm (x :: s)) : ∀ n, memS (x :: s) n → x.1 ≤ n := by
  intro n hn
  rcases (memS_cons x s n).1 hn with hn | ⟨u, hu, hn⟩
  · exact hn.1
  · have := h.1; have := h.2.1 u hu; omega

theorem norm_tail {x : Sp} {s : List Sp} (h : Norm (x :: s)) : ∀ n, memS s n → x.2 + 2 ≤ n := by
  rintro n ⟨u, hu, hn⟩
  have := h.2.1 u hu; omega

/- the meet of two lists, as the program makes it -/
def capS (x y : Sp) : List Sp := if max x.1 y.1 ≤ min x.2 y.2 then [(max x.1 y.1, min x.2 y.2)] else []
def meetP : List Sp → List Sp → List Sp
  | [], _ => []
  | _ :: _, [] => []
  | x :: a, y :: b => capS x y ++ if x.2 < y.2 then meetP a (y :: b) else meetP (x :: a) b
termination_by a b => a.length + b.length

theorem capS_mem (x y : Sp) (n : Int) : memS (capS x y) n ↔ (x.1 ≤ n ∧ n ≤ x.2) ∧ (y.1 ≤ n ∧ n ≤ y.2) := by
  unfold capS
  split
  · rw [memS_cons]
    have := memS_nil n
    constructor
    · rintro (h | h)
      · simp at h; omega
      · exact absurd h this
    · intro h; left; simp; omega
  · constructor
    · intro h; exact absurd h (memS_nil n)
    · intro h; omega

theorem capS_norm (x y : Sp) : Norm (capS x y) := by
  unfold capS
  split
  · exact ⟨by assumption, (fun z hz => by cases hz), trivial⟩
  · trivial

theorem capS_of (x y z : Sp) (h : z ∈ capS x y) : z.1 = max x.1 y.1 ∧ z.2 = min x.2 y.2 ∧ z.1 ≤ z.2 := by
  unfold capS at h
  split at h
  · rw [List.mem_singleton.1 h]; exact ⟨rfl, rfl, by assumption⟩
  · cases h

theorem capS_len (x y : Sp) : (capS x y).length ≤ 1 := by unfold capS; split <;> simp

theorem meetP_len : ∀ a b : List Sp, (meetP a b).length ≤ a.length + b.length
  | [], b => by simp [meetP]
  | x :: a, [] => by simp [meetP]
  | x :: a, y :: b => by
    have hc := capS_len x y
    rw [meetP, List.length_append]
    split
    · have := meetP_len a (y :: b); simp at *; omega
    · have := meetP_len (x :: a) b; simp at *; omega
termination_by a b => a.length + b.length

theorem meetP_spec : ∀ a b : List Sp, Norm a → Norm b → Norm (meetP a b) ∧ (∀ n, memS (meetP a b) n ↔ memS a n ∧ memS b n) ∧
    (∀ z ∈ meetP a b, ∃ x ∈ a, ∃ y ∈ b, z.1 = max x.1 y.1 ∧ z.2 = min x.2 y.2)
  | [], b, _, _ => by
    rw [meetP]
    exact ⟨trivial, fun n => ⟨fun h => absurd h (memS_nil n), fun h => absurd h.1 (memS_nil n)⟩, fun z hz => by cases hz⟩
  | x :: a, [], _, _ => by
    rw [meetP]
    exact ⟨trivial, fun n => ⟨fun h => absurd h (memS_nil n), fun h => absurd h.2 (memS_nil n)⟩, fun z hz => by cases hz⟩
  | x :: a, y :: b, ha, hb => by
    rw [meetP]
    by_cases hlt : x.2 < y.2
    · rw [if_pos hlt]
      obtain ⟨h1, h2, h3⟩ := meetP_spec a (y :: b) ha.2.2 hb
      refine ⟨norm_append (capS_norm x y) h1 fun u hu v hv => ?_, fun n => ?_, fun z hz => ?_⟩
      · have hu' := capS_of x y u hu
        obtain ⟨x', hx', y', hy', e1, e2⟩ := h3 v hv
        have := ha.2.1 x' hx'
        omega
      · rw [memS_append, capS_mem, h2 n]
        constructor
        · rintro (⟨p, q⟩ | ⟨p, q⟩)
          · exact ⟨(memS_cons _ _ _).2 (.inl p), (memS_cons _ _ _).2 (.inl q)⟩
          · exact ⟨(memS_cons _ _ _).2 (.inr p), q⟩
        · rintro ⟨p, q⟩
          rcases (memS_cons _ _ _).1 p with p | p
          · rcases (memS_cons _ _ _).1 q with q' | q'
            · exact .inl ⟨p, q'⟩
            · have := norm_tail hb n q'; omega
          · exact .inr ⟨p, q⟩
      · rcases List.mem_append.1 hz with hz | hz
        · have := capS_of x y z hz
          exact ⟨x, List.mem_cons_self, y, List.mem_cons_self, this.1, this.2.1⟩
        · obtain ⟨x', hx', y', hy', e⟩ := h3 z hz
          exact ⟨x', List.mem_cons_of_mem _ hx', y', hy', e⟩
    · rw [if_neg hlt]
      obtain ⟨h1, h2, h3⟩ := meetP_spec (x :: a) b ha hb.2.2
      refine ⟨norm_append (capS_norm x y) h1 fun u hu v hv => ?_, fun n => ?_, fun z hz => ?_⟩
      · have hu' := capS_of x y u hu
        obtain ⟨x', hx', y', hy', e1, e2⟩ := h3 v hv
        have := hb.2.1 y' hy'
        omega
      · rw [memS_append, capS_mem, h2 n]
        constructor
        · rintro (⟨p, q⟩ | ⟨p, q⟩)
          · exact ⟨(memS_cons _ _ _).2 (.inl p), (memS_cons _ _ _).2 (.inl q)⟩
          · exact ⟨p, (memS_cons _ _ _).2 (.inr q)⟩
        · rintro ⟨p, q⟩
          rcases (memS_cons _ _ _).1 q with q' | q'
          · rcases (memS_cons _ _ _).1 p with p' | p'
            · exact .inl ⟨p', q'⟩
            · have := norm_tail ha n p'; omega
          · exact .inr ⟨p, q'⟩
      · rcases List.mem_append.1 hz with hz | hz
        · have := capS_of x y z hz
          exact ⟨x, List.mem_cons_self, y, List.mem_cons_self, this.1, this.2.1⟩
        · obtain ⟨x', hx', y', hy', e⟩ := h3 z hz
          exact ⟨x', hx', y', List.mem_cons_of_mem _ hy', e⟩
termination_by a b => a.length + b.length

/- the numbers up to 99 that a set does not have, from 'next' on, as the program makes it -/
def gapS (next lo : Int) : List Sp := if next < lo then [(next, lo - 1)] else []
def lastS (next : Int) : List Sp := if next ≤ 99 then [(next, 99)] else []
def otherP : Int → List Sp → List Sp
  | next, [] => lastS next
  | next, x :: s => gapS next x.1 ++ otherP (x.2 + 1) s

theorem otherP_len (s : List Sp) : ∀ next, (otherP next s).length ≤ s.length + 1 := by
  induction s with
  | nil => intro next; simp only [otherP, lastS]; split <;> simp
  | cons x s ih =>
    intro next
    have := ih (x.2 + 1)
    simp only [otherP, gapS, List.length_append]
    split <;> simp <;> omega

theorem otherP_spec (s : List Sp) : ∀ next, Norm s → Within s → (∀ x ∈ s, next ≤ x.1) → Norm (otherP next s) ∧
    (∀ n, memS (otherP next s) n ↔ next ≤ n ∧ n ≤ 99 ∧ ¬ memS s n) ∧ ∀ z ∈ otherP next s, next ≤ z.1 ∧ z.2 ≤ 99 := by
  induction s with
  | nil =>
    intro next _ _ _
    simp only [otherP, lastS]
    split
    · refine ⟨⟨by assumption, (fun z hz => by cases hz), trivial⟩, fun n => ?_, fun z hz => ?_⟩
      · rw [memS_cons]
        have := memS_nil n
        constructor
        · rintro (h | h)
          · simp at h; exact ⟨h.1, h.2, this⟩
          · exact absurd h this
        · intro h; left; simp; omega
      · rw [List.mem_singleton.1 hz]; simp
    · refine ⟨trivial, fun n => ⟨fun h => absurd h (memS_nil n), fun h => ?_⟩, fun z hz => by cases hz⟩
      omega
  | cons x s ih =>
    intro next hs hw hn
    have hx := hs.1
    have hwx := hw x List.mem_cons_self
    have hnx := hn x List.mem_cons_self
    obtain ⟨h1, h2, h3⟩ := ih (x.2 + 1) hs.2.2 (fun z hz => hw z (List.mem_cons_of_mem _ hz)) (fun z hz => by have := hs.2.1 z hz; omega)
    have hlow : ∀ n, memS s n → x.2 + 2 ≤ n := norm_tail hs
    simp only [otherP, gapS]
    split
    · rename_i hlt
      refine ⟨⟨by simp; omega, (fun z hz => ?_), h1⟩, fun n => ?_, fun z hz => ?_⟩
      · have hz' : z ∈ otherP (x.2 + 1) s := by simpa using hz
        have := (h3 z hz').1
        simp; omega
      · rw [memS_append, memS_cons, h2 n, memS_cons]
        have := memS_nil n
        have := hlow n
        constructor
        · rintro ((h | h) | h)
          · simp at h
            refine ⟨h.1, by omega, ?_⟩
            rintro (h' | h')
            · omega
            · have := hlow n h'; omega
          · exact absurd h (memS_nil n)
          · refine ⟨by omega, h.2.1, ?_⟩
            rintro (h' | h')
            · omega
            · exact h.2.2 h'
        · rintro ⟨ha, hb, hc⟩
          by_cases hlt : n < x.1
          · left; left; simp; omega
          · right
            refine ⟨?_, hb, fun h' => hc (.inr h')⟩
            by_cases hle : n ≤ x.2
            · exact absurd (.inl ⟨by omega, hle⟩) hc
            · omega
      · rcases List.mem_append.1 hz with hz | hz
        · rw [List.mem_singleton.1 hz]; simp; omega
        · have := h3 z hz; omega
    · refine ⟨h1, fun n => ?_, fun z hz => ?_⟩
      · rw [List.nil_append, h2 n, memS_cons]
        constructor
        · rintro ⟨ha, hb, hc⟩
          refine ⟨by omega, hb, ?_⟩
          rintro (h' | h')
          · omega
          · exact hc h'
        · rintro ⟨ha, hb, hc⟩
          refine ⟨?_, hb, fun h' => hc (.inr h')⟩
          by_cases hle : n ≤ x.2
          · exact absurd (.inl ⟨by omega, hle⟩) hc
          · omega
      · have := h3 z (by simpa using hz); omega

/- what both programs answer -/
def minusP (a b : List Sp) : List Sp := meetP a (otherP (-99) b)

theorem minusP_spec (a b : List Sp) (ha : Norm a) (hwa : Within a) (hb : Norm b) (hwb : Within b) :
    Norm (minusP a b) ∧ Within (minusP a b) ∧ ∀ n, memS (minusP a b) n ↔ memS a n ∧ ¬ memS b n := by
  obtain ⟨o1, o2, o3⟩ := otherP_spec b (-99) hb hwb (fun x hx => (hwb x hx).1)
  obtain ⟨m1, m2, m3⟩ := meetP_spec a (otherP (-99) b) ha o1
  refine ⟨m1, fun z hz => ?_, fun n => ?_⟩
  · obtain ⟨x, hx, y, hy, e1, e2⟩ := m3 z hz
    have := hwa x hx; have := o3 y hy; omega
  · unfold minusP
    rw [m2 n, o2 n]
    constructor
    · rintro ⟨p, _, _, q⟩; exact ⟨p, q⟩
    · rintro ⟨p, q⟩
      obtain ⟨x, hx, hn⟩ := p
      have := hwa x hx
      exact ⟨⟨x, hx, hn⟩, by omega, by omega, q⟩

theorem meetP_within (a b : List Sp) (ha : Norm a) (hwa : Within a) (hb : Norm b) : Within (meetP a b) := by
  intro z hz
  obtain ⟨x, hx, y, hy, e1, e2⟩ := (meetP_spec a b ha hb).2.2 z hz
  have := hwa x hx; have := (hb.le) y hy
  have hn := ((meetP_spec a b ha hb).1).le z hz
  omega

/- a set is what its flags say -/
theorem eq_fromF (s : List Sp) (hs : Norm s) (hw : Within s) (f : Nat → Bool) (hf : ∀ j, j < 199 → (f j = true ↔ memS s ((j : Int) - 99))) : fromF f 199 = s := by
  obtain ⟨h1, _, h3⟩ := fromF_spec f 199
  refine norm_unique _ _ h1 hs fun n => (h3 n).trans ⟨?_, ?_⟩
  · rintro ⟨j, hj, hfj, rfl⟩
    exact (hf j hj).1 hfj
  · rintro ⟨x, hx, hn⟩
    have := hw x hx
    refine ⟨(n + 99).toNat, by omega, (hf _ (by omega)).2 ?_, by omega⟩
    have e : (((n + 99).toNat : Nat) : Int) - 99 = n := by omega
    rw [e]; exact ⟨x, hx, hn⟩

def flag (s : List Sp) (j : Nat) : Bool := haveB s ((j : Int) - 99)
theorem flag_iff (s : List Sp) (j : Nat) : flag s j = true ↔ memS s ((j : Int) - 99) := haveB_iff _ _

theorem meet_flags (a b : List Sp) (ha : Norm a) (hwa : Within a) (hb : Norm b) : fromF (fun j => flag a j && flag b j) 199 = meetP a b :=
  eq_fromF _ (meetP_spec a b ha hb).1 (meetP_within a b ha hwa hb) _ fun j _ => by
    rw [(meetP_spec a b ha hb).2.1, Bool.and_eq_true, flag_iff, flag_iff]

theorem minus_flags (a b : List Sp) (ha : Norm a) (hwa : Within a) (hb : Norm b) (hwb : Within b) : fromF (fun j => flag a j && !flag b j) 199 = minusP a b :=
  eq_fromF _ (minusP_spec a b ha hwa hb hwb).1 (minusP_spec a b ha hwa hb hwb).2.1 _ fun j _ => by
    rw [(minusP_spec a b ha hwa hb hwb).2.2, Bool.and_eq_true, flag_iff, Bool.not_eq_true', ← Bool.not_eq_true, flag_iff]

/- sizes -/
def sizeS : List Sp → Int
  | [] => 0
  | x :: s => (x.2 - x.1 + 1) + sizeS s
def cnt (f : Nat → Bool) : Nat → Int
  | 0 => 0
  | k + 1 => cnt f k + if f k then 1 else 0

theorem cnt_congr (f g : Nat → Bool) (k : Nat) (h : ∀ j, j < k → f j = g j) : cnt f k = cnt g k := by
  induction k with
  | zero => rfl
  | succ k ih => simp only [cnt]; rw [ih (fun j hj => h j (by omega)), h k (by omega)]
theorem cnt_add (f g h : Nat → Bool) (k : Nat) (e : ∀ j, j < k → ((if f j then 1 else 0 : Int) + (if g j then 1 else 0)) = if h j then 1 else 0) : cnt f k + cnt g k = cnt h k := by
  induction k with
  | zero => rfl
  | succ k ih =>
    have := ih (fun j hj => e j (by omega))
    have := e k (by omega)
    simp only [cnt]; omega
theorem cnt_none (k : Nat) : cnt (fun _ => false) k = 0 := by
  induction k with
  | zero => rfl
  | succ k ih => simp only [cnt]; rw [ih]; rfl
theorem cnt_span (x : Sp) (hlo : -99 ≤ x.1) (hle : x.1 ≤ x.2) : ∀ k : Nat, cnt (fun j => decide (x.1 ≤ (j : Int) - 99) && decide ((j : Int) - 99 ≤ x.2)) k =
    if (k : Int) - 99 ≤ x.1 then 0 else if (k : Int) - 100 ≤ x.2 then (k : Int) - 99 - x.1 else x.2 - x.1 + 1
  | 0 => by
    show (0 : Int) = _
    rw [if_pos (by simp; omega)]
  | k + 1 => by
    have ih := cnt_span x hlo hle k
    simp only [cnt, ih]
    by_cases h1 : x.1 ≤ (k : Int) - 99 <;> by_cases h2 : (k : Int) - 99 ≤ x.2 <;> simp [h1, h2] <;> split <;> (try split) <;> (try split) <;> (try split) <;> omega

theorem size_cnt : ∀ s : List Sp, Norm s → Within s → sizeS s = cnt (flag s) 199
  | [], _, _ => by
    show (0 : Int) = _
    rw [cnt_congr (flag []) (fun _ => false) 199 (fun j _ => rfl), cnt_none]
  | x :: s, hs, hw => by
    have ih := size_cnt s hs.2.2 (fun z hz => hw z (List.mem_cons_of_mem _ hz))
    have hx := hw x List.mem_cons_self
    have h1 := cnt_span x hx.1 hs.1 199
    rw [if_neg (by have := hs.1; omega), ] at h1
    have h2 : cnt (fun j => decide (x.1 ≤ (j : Int) - 99) && decide ((j : Int) - 99 ≤ x.2)) 199 = x.2 - x.1 + 1 := by
      rw [h1]; split <;> omega
    have h3 := cnt_add (fun j => decide (x.1 ≤ (j : Int) - 99) && decide ((j : Int) - 99 ≤ x.2)) (flag s) (flag (x :: s)) 199 (by
      intro j _
      have hfl : flag (x :: s) j = ((decide (x.1 ≤ (j : Int) - 99) && decide ((j : Int) - 99 ≤ x.2)) || flag s j) := rfl
      rw [hfl]
      cases hc : flag s j with
      | false => cases (decide (x.1 ≤ (j : Int) - 99) && decide ((j : Int) - 99 ≤ x.2)) <;> rfl
      | true =>
        have := norm_tail hs _ ((flag_iff s j).1 hc)
        have hn : decide ((j : Int) - 99 ≤ x.2) = false := decide_eq_false (by omega)
        rw [hn]; simp)
    show (x.2 - x.1 + 1) + sizeS s = _
    rw [← h3, h2, ih]

theorem size_parts (a b : List Sp) (ha : Norm a) (hwa : Within a) (hb : Norm b) (hwb : Within b) : sizeS (minusP a b) + sizeS (meetP a b) = sizeS a := by
  obtain ⟨m1, m2, m3⟩ := minusP_spec a b ha hwa hb hwb
  have n1 := (meetP_spec a b ha hb)
  rw [size_cnt _ m1 m2, size_cnt _ n1.1 (meetP_within a b ha hwa hb), size_cnt a ha hwa]
  refine cnt_add _ _ _ _ fun j _ => ?_
  have e1 : flag (minusP a b) j = (flag a j && !flag b j) := by
    rw [Bool.eq_iff_iff, flag_iff, m3, Bool.and_eq_true, flag_iff, Bool.not_eq_true', ← Bool.not_eq_true, flag_iff]
  have e2 : flag (meetP a b) j = (flag a j && flag b j) := by
    rw [Bool.eq_iff_iff, flag_iff, n1.2.1, Bool.and_eq_true, flag_iff, flag_iff]
  rw [e1, e2]
  cases flag a j <;> cases flag b j <;> rfl

theorem sizeS_bound : ∀ s : List Sp, Norm s → Within s → 0 ≤ sizeS s ∧ sizeS s ≤ 199 * (s.length : Int)
  | [], _, _ => ⟨Int.le_refl _, by simp [sizeS]⟩
  | x :: s, hs, hw => by
    have ih := sizeS_bound s hs.2.2 (fun z hz => hw z (List.mem_cons_of_mem _ hz))
    have hx := hw x List.mem_cons_self
    have := hs.1
    simp only [sizeS, List.length_cons]
    constructor <;> push_cast <;> omega
end Sets
end Go.Proofs.YtamfmemdhldmjaaGreatDoor

namespace Go.Proofs.YtamfmemdhldmjaaGreatDoor
open Go.RowKit Sets

/-- A number that fits an int. -/
def I64 (x : Int) : Prop := -9223372036854775808 ≤ x ∧ x ≤ 9223372036854775807
def Fits (xs : List Sp) : Prop := ∀ x ∈ xs, I64 x.1 ∧ I64 x.2
/-- The element at place i. -/
def lo (xs : List Sp) (i : Nat) : Int := (xs.getD i (0, 0)).1
def hi (xs : List Sp) (i : Nat) : Int := (xs.getD i (0, 0)).2
theorem Fits.lo {xs : List Sp} (h : Fits xs) (i : Nat) : I64 (lo xs i) := by
  unfold YtamfmemdhldmjaaGreatDoor.lo
  rcases Nat.lt_or_ge i xs.length with hi | hi
  · rw [List.getD_eq_getElem?_getD, List.getElem?_eq_getElem hi]; exact (h _ (List.getElem_mem hi)).1
  · rw [List.getD_eq_getElem?_getD, List.getElem?_eq_none hi]; exact ⟨by decide, by decide⟩
theorem Fits.hi {xs : List Sp} (h : Fits xs) (i : Nat) : I64 (hi xs i) := by
  unfold YtamfmemdhldmjaaGreatDoor.hi
  rcases Nat.lt_or_ge i xs.length with hi | hi
  · rw [List.getD_eq_getElem?_getD, List.getElem?_eq_getElem hi]; exact (h _ (List.getElem_mem hi)).2
  · rw [List.getD_eq_getElem?_getD, List.getElem?_eq_none hi]; exact ⟨by decide, by decide⟩

/-- The cells of a row of spans. -/
def RowAt (w : World) (b off : Nat) (xs : List Sp) : Prop :=
  ∀ i, i < xs.length → w.cell? ⟨b, off + i * 2, none⟩ = some (.int .i64 (lo xs i)) ∧ w.cell? ⟨b, off + i * 2 + 1, none⟩ = some (.int .i64 (hi xs i))
theorem RowAt.keep {w w' : World} {b off : Nat} {xs : List Sp} (h : RowAt w b off xs) (hk : ∀ o, w'.cell? ⟨b, o, none⟩ = w.cell? ⟨b, o, none⟩) : RowAt w' b off xs :=
  fun i hi => ⟨(hk _).trans (h i hi).1, (hk _).trans (h i hi).2⟩
theorem RowAt.below {w w' : World} {B b off : Nat} {xs : List Sp} (h : RowAt w b off xs) (hb : Below B w w') (hB : b < B) : RowAt w' b off xs :=
  h.keep fun o => hb.cell (p := ⟨b, o, none⟩) hB

/-- A slice of spans reads as xs, below block B. -/
def Reads (w : World) (B : Nat) (A : Option Addr) (c : Nat) (xs : List Sp) : Prop :=
  xs.length ≤ c ∧ c ≤ 9223372036854775807 ∧ Fits xs ∧ (xs = [] ∨ ∃ b off, A = some ⟨b, off, none⟩ ∧ b < B ∧ RowAt w b off xs)
theorem Reads.below {w w' : World} {B : Nat} {A : Option Addr} {c : Nat} {xs : List Sp} (h : Reads w B A c xs) (hb : Below B w w') : Reads w' B A c xs :=
  ⟨h.1, h.2.1, h.2.2.1, h.2.2.2.imp id fun ⟨b, off, e, hB, hr⟩ => ⟨b, off, e, hB, hr.below hb hB⟩⟩
theorem Reads.mono {w : World} {B B' : Nat} {A : Option Addr} {c : Nat} {xs : List Sp} (h : Reads w B A c xs) (hB : B ≤ B') : Reads w B' A c xs :=
  ⟨h.1, h.2.1, h.2.2.1, h.2.2.2.imp id fun ⟨b, off, e, hb, hr⟩ => ⟨b, off, e, by omega, hr⟩⟩

theorem take_lohi {xs : List Sp} {k : Nat} (h : k < xs.length) : xs.take (k + 1) = xs.take k ++ [(lo xs k, hi xs k)] := by
  rw [List.take_succ_eq_append_getElem h]
  unfold YtamfmemdhldmjaaGreatDoor.lo YtamfmemdhldmjaaGreatDoor.hi
  rw [List.getD_eq_getElem?_getD, List.getElem?_eq_getElem h]
  rfl
theorem have_yes {xs : List Sp} {n : Int} {k : Nat} (hk : k < xs.length) (h1 : lo xs k ≤ n) (h2 : n ≤ hi xs k) : haveB xs n = true := by
  refine (haveB_iff xs n).2 ⟨xs[k], List.getElem_mem hk, ?_⟩
  unfold YtamfmemdhldmjaaGreatDoor.lo at h1
  unfold YtamfmemdhldmjaaGreatDoor.hi at h2
  rw [List.getD_eq_getElem?_getD, List.getElem?_eq_getElem hk] at h1 h2
  exact ⟨h1, h2⟩
theorem have_no {xs : List Sp} {n : Int} (h : ∀ j, j < xs.length → ¬ (lo xs j ≤ n ∧ n ≤ hi xs j)) : haveB xs n = false := by
  rw [← Bool.not_eq_true, haveB_iff]
  rintro ⟨x, hx, h1, h2⟩
  obtain ⟨j, hj, rfl⟩ := List.mem_iff_getElem.1 hx
  refine h j hj ?_
  unfold YtamfmemdhldmjaaGreatDoor.lo YtamfmemdhldmjaaGreatDoor.hi
  rw [List.getD_eq_getElem?_getD, List.getElem?_eq_getElem hj]
  exact ⟨h1, h2⟩

/-- Equality of lists of spans, as a Bool that no simp rule opens. -/
def sameB (xs ys : List Sp) : Bool := decide (xs = ys)
theorem same_yes {xs ys : List Sp} (hl : xs.length = ys.length) (h : ∀ j, j < xs.length → lo xs j = lo ys j ∧ hi xs j = hi ys j) : sameB xs ys = true := by
  refine decide_eq_true (List.ext_getElem hl fun j h1 h2 => ?_)
  have := h j h1
  unfold YtamfmemdhldmjaaGreatDoor.lo YtamfmemdhldmjaaGreatDoor.hi at this
  rw [List.getD_eq_getElem?_getD, List.getElem?_eq_getElem h1, List.getD_eq_getElem?_getD, List.getElem?_eq_getElem h2] at this
  exact Prod.ext this.1 this.2
theorem same_no {xs ys : List Sp} {j : Nat} (h : lo xs j ≠ lo ys j ∨ hi xs j ≠ hi ys j) : sameB xs ys = false := by
  refine decide_eq_false ?_
  rintro rfl
  simp at h
theorem same_no_len {xs ys : List Sp} (h : xs.length ≠ ys.length) : sameB xs ys = false := by
  refine decide_eq_false ?_
  rintro rfl
  simp at h
theorem same_iff (xs ys : List Sp) : sameB xs ys = true ↔ xs = ys := decide_eq_true_iff
end Go.Proofs.YtamfmemdhldmjaaGreatDoor
