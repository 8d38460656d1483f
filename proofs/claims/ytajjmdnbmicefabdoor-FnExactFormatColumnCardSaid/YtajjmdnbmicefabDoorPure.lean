/-
  Plain facts on sets of numbers as lists of spans: normal forms are unique; the set of the marked numbers is in normal form.
-/
namespace Go.Proofs.YtajjmdnbmicefabDoor
namespace Sets

abbrev Sp := Int × Int

def memS (s : List Sp) (n : Int) : Prop := ∃ x ∈ s, x.1 ≤ n ∧ n ≤ x.2

theorem memS_nil (n : Int) : ¬ memS [] n := by rintro ⟨x, hx, _⟩; cases hx
theorem memS_cons (x : Sp) (s : List Sp) (n : Int) : memS (x :: s) n ↔ (x.1 ≤ n ∧ n ≤ x.2) ∨ memS s n := by
  constructor
  · rintro ⟨y, hy, h⟩
    rcases List.mem_cons.1 hy with rfl | hy
    · exact .inl h
    · exact .inr ⟨y, hy, h⟩
  · rintro (h | ⟨y, hy, h⟩)
    · exact ⟨x, List.mem_cons_self, h⟩
    · exact ⟨y, List.mem_cons_of_mem _ hy, h⟩
theorem memS_append (s t : List Sp) (n : Int) : memS (s ++ t) n ↔ memS s n ∨ memS t n := by
  induction s with
  | nil => simp [memS_nil]
  | cons x s ih => rw [List.cons_append, memS_cons, memS_cons, ih, or_assoc]

def haveB (s : List Sp) (n : Int) : Bool := s.any fun x => decide (x.1 ≤ n) && decide (n ≤ x.2)
theorem haveB_iff (s : List Sp) (n : Int) : haveB s n = true ↔ memS s n := by
  unfold haveB memS
  simp

def Norm : List Sp → Prop
  | [] => True
  | x :: s => x.1 ≤ x.2 ∧ (∀ y ∈ s, x.2 + 2 ≤ y.1) ∧ Norm s

theorem Norm.le {s : List Sp} (h : Norm s) : ∀ x ∈ s, x.1 ≤ x.2 := by
  induction s with
  | nil => intro x hx; cases hx
  | cons y s ih =>
    intro x hx
    rcases List.mem_cons.1 hx with rfl | hx
    · exact h.1
    · exact ih h.2.2 x hx

theorem norm_unique : ∀ s t : List Sp, Norm s → Norm t → (∀ n, memS s n ↔ memS t n) → s = t
  | [], [], _, _, _ => rfl
  | [], y :: t, _, ht, h => absurd ((h y.1).2 ((memS_cons y t y.1).2 (.inl ⟨Int.le_refl _, ht.1⟩))) (memS_nil _)
  | x :: s, [], hs, _, h => absurd ((h x.1).1 ((memS_cons x s x.1).2 (.inl ⟨Int.le_refl _, hs.1⟩))) (memS_nil _)
  | x :: s, y :: t, hs, ht, h => by
    have low : ∀ (z : Sp) (r : List Sp), Norm (z :: r) → ∀ n, memS (z :: r) n → z.1 ≤ n := by
      intro z r hz n hn
      rcases (memS_cons z r n).1 hn with hn | ⟨u, hu, hn⟩
      · exact hn.1
      · have := hz.1; have := hz.2.1 u hu; omega
    have tail : ∀ (z : Sp) (r : List Sp), Norm (z :: r) → ∀ n, memS r n → z.2 + 2 ≤ n := by
      rintro z r hz n ⟨u, hu, hn⟩
      have := hz.2.1 u hu; omega
    have h1 : x.1 = y.1 := by
      have a := low y t ht x.1 ((h x.1).1 ((memS_cons x s x.1).2 (.inl ⟨Int.le_refl _, hs.1⟩)))
      have b := low x s hs y.1 ((h y.1).2 ((memS_cons y t y.1).2 (.inl ⟨Int.le_refl _, ht.1⟩)))
      omega
    have hx := hs.1
    have hy := ht.1
    have h2 : x.2 = y.2 := by
      rcases Int.lt_trichotomy x.2 y.2 with hlt | heq | hlt
      · exfalso
        have hm := (h (x.2 + 1)).2 ((memS_cons y t _).2 (.inl ⟨by omega, by omega⟩))
        rcases (memS_cons x s _).1 hm with hn | hn
        · omega
        · have := tail x s hs _ hn; omega
      · exact heq
      · exfalso
        have hm := (h (y.2 + 1)).1 ((memS_cons x s _).2 (.inl ⟨by omega, by omega⟩))
        rcases (memS_cons y t _).1 hm with hn | hn
        · omega
        · have := tail y t ht _ hn; omega
    have hxy : x = y := Prod.ext h1 h2
    subst hxy
    have h3 : ∀ n, memS s n ↔ memS t n := by
      intro n
      constructor
      · intro hn
        have hb := tail x s hs n hn
        rcases (memS_cons x t n).1 ((h n).1 ((memS_cons x s n).2 (.inr hn))) with hc | hc
        · omega
        · exact hc
      · intro hn
        have hb := tail x t ht n hn
        rcases (memS_cons x s n).1 ((h n).2 ((memS_cons x t n).2 (.inr hn))) with hc | hc
        · omega
        · exact hc
    rw [norm_unique s t hs.2.2 ht.2.2 h3]

theorem norm_append {s t : List Sp} (hs : Norm s) (ht : Norm t) (h : ∀ x ∈ s, ∀ y ∈ t, x.2 + 2 ≤ y.1) : Norm (s ++ t) := by
  induction s with
  | nil => exact ht
  | cons x s ih =>
    refine ⟨hs.1, fun y hy => ?_, ih hs.2.2 fun z hz => h z (List.mem_cons_of_mem _ hz)⟩
    rcases List.mem_append.1 hy with hy | hy
    · exact hs.2.1 y hy
    · exact h x List.mem_cons_self y hy

theorem norm_snoc {s : List Sp} {x : Sp} (hs : Norm s) (hx : x.1 ≤ x.2) (h : ∀ y ∈ s, y.2 + 2 ≤ x.1) : Norm (s ++ [x]) :=
  norm_append hs ⟨hx, (fun y hy => by cases hy), trivial⟩ fun y hy z hz => by
    rw [List.mem_singleton.1 hz]; exact h y hy

theorem norm_of_append {s t : List Sp} (h : Norm (s ++ t)) : Norm s ∧ Norm t ∧ ∀ x ∈ s, ∀ y ∈ t, x.2 + 2 ≤ y.1 := by
  induction s with
  | nil => exact ⟨trivial, h, fun x hx => by cases hx⟩
  | cons x s ih =>
    obtain ⟨h1, h2, h3⟩ := ih h.2.2
    refine ⟨⟨h.1, fun y hy => h.2.1 y (List.mem_append.2 (.inl hy)), h1⟩, h2, fun z hz y hy => ?_⟩
    rcases List.mem_cons.1 hz with rfl | hz
    · exact h.2.1 y (List.mem_append.2 (.inr hy))
    · exact h3 z hz y hy

/- the check of a set, as both programs make it: element by element -/
def okAt (s : List Sp) (j : Nat) : Prop :=
  -99 ≤ (s.getD j (0, 0)).1 ∧ (s.getD j (0, 0)).2 ≤ 99 ∧ (s.getD j (0, 0)).1 ≤ (s.getD j (0, 0)).2 ∧
    (0 < j → (s.getD (j - 1) (0, 0)).2 + 2 ≤ (s.getD j (0, 0)).1)
instance (s : List Sp) (j : Nat) : Decidable (okAt s j) := by unfold okAt; infer_instance
def ValidP (s : List Sp) : Prop := s.length ≤ 12 ∧ ∀ j, j < s.length → okAt s j
instance (s : List Sp) : Decidable (ValidP s) := by unfold ValidP; infer_instance
def validB (s : List Sp) : Bool := decide (ValidP s)
theorem validB_iff (s : List Sp) : validB s = true ↔ ValidP s := by unfold validB; exact decide_eq_true_iff
theorem validB_no (s : List Sp) : validB s = false ↔ ¬ ValidP s := by unfold validB; exact decide_eq_false_iff_not

theorem okAt_cons (x : Sp) (s : List Sp) (j : Nat) (h : okAt (x :: s) (j + 1)) (hj : 0 < j) : okAt s j := by
  obtain ⟨k, rfl⟩ : ∃ k, j = k + 1 := ⟨j - 1, by omega⟩
  have h4 := h.2.2.2 (by omega)
  exact ⟨by simpa using h.1, by simpa using h.2.1, by simpa using h.2.2.1, fun _ => by simpa using h4⟩

/-- a checked list is in normal form, and its numbers are within the limits -/
theorem norm_of_ok : ∀ s : List Sp, (∀ j, j < s.length → okAt s j) → Norm s ∧ ∀ x ∈ s, -99 ≤ x.1 ∧ x.2 ≤ 99
  | [], _ => ⟨trivial, fun x hx => by cases hx⟩
  | [x], h => by
    have h0 := h 0 (by simp)
    have a := h0.1; have b := h0.2.1; have c := h0.2.2.1
    simp at a b c
    refine ⟨⟨c, (fun y hy => by cases hy), trivial⟩, fun y hy => ?_⟩
    rw [List.mem_singleton.1 hy]; exact ⟨a, b⟩
  | x :: y :: s, h => by
    have h0 := h 0 (by simp)
    have a := h0.1; have b := h0.2.1; have c := h0.2.2.1
    simp at a b c
    have h1 := (h 1 (by simp)).2.2.2 (by omega)
    simp at h1
    have ih := norm_of_ok (y :: s) (by
      intro j hj
      rcases Nat.eq_zero_or_pos j with rfl | hp
      · have k := h 1 (by simp)
        exact ⟨by simpa using k.1, by simpa using k.2.1, by simpa using k.2.2.1, fun hh => absurd hh (by omega)⟩
      · exact okAt_cons x (y :: s) j (h (j + 1) (by simp at hj ⊢; omega)) hp)
    refine ⟨⟨c, fun z hz => ?_, ih.1⟩, fun z hz => ?_⟩
    · rcases List.mem_cons.1 hz with rfl | hz
      · exact h1
      · have := ih.1.2.1 z hz; have := ih.1.1; omega
    · rcases List.mem_cons.1 hz with rfl | hz
      · exact ⟨a, b⟩
      · exact ih.2 z hz

theorem ok_of_norm : ∀ s : List Sp, Norm s → (∀ x ∈ s, -99 ≤ x.1 ∧ x.2 ≤ 99) → ∀ j, j < s.length → okAt s j
  | [], _, _, j, hj => by simp at hj
  | x :: s, hs, hb, 0, _ => by
    have := hb x List.mem_cons_self
    have := hs.1
    exact ⟨by simp; omega, by simp; omega, by simp; omega, fun h => absurd h (by omega)⟩
  | x :: s, hs, hb, j + 1, hj => by
    have hj' : j < s.length := by simpa using hj
    have ih := ok_of_norm s hs.2.2 (fun z hz => hb z (List.mem_cons_of_mem _ hz)) j hj'
    refine ⟨by simpa using ih.1, by simpa using ih.2.1, by simpa using ih.2.2.1, fun _ => ?_⟩
    rcases Nat.eq_zero_or_pos j with rfl | hp
    · have hm : s.getD 0 (0, 0) ∈ s := by
        rw [List.getD_eq_getElem?_getD, List.getElem?_eq_getElem hj']; exact List.getElem_mem hj'
      have := hs.2.1 _ hm
      simpa using this
    · obtain ⟨k, rfl⟩ : ∃ k, j = k + 1 := ⟨j - 1, by omega⟩
      have := ih.2.2.2 (by omega)
      simpa using this

def Within (s : List Sp) : Prop := ∀ x ∈ s, -99 ≤ x.1 ∧ x.2 ≤ 99

theorem valid_iff (s : List Sp) : ValidP s ↔ s.length ≤ 12 ∧ Norm s ∧ Within s :=
  ⟨fun h => ⟨h.1, (norm_of_ok s h.2).1, (norm_of_ok s h.2).2⟩, fun h => ⟨h.1, ok_of_norm s h.2.1 h.2.2⟩⟩

/- the set of the marked numbers: flag i stands for the number i - 99 -/
def stepF (out : List Sp) (n : Int) (f : Bool) : List Sp :=
  if f then
    (if 0 < out.length ∧ (out.getD (out.length - 1) (0, 0)).2 = n - 1 then out.set (out.length - 1) ((out.getD (out.length - 1) (0, 0)).1, n) else out ++ [(n, n)])
  else out
def fromF (f : Nat → Bool) : Nat → List Sp
  | 0 => []
  | k + 1 => stepF (fromF f k) ((k : Int) - 99) (f k)

theorem snoc_form (s : List Sp) (h : 0 < s.length) : ∃ r x, s = r ++ [x] := by
  have hne : s ≠ [] := by intro e; simp [e] at h
  exact ⟨s.dropLast, s.getLast hne, (List.dropLast_concat_getLast hne).symm⟩

theorem stepF_snoc (r : List Sp) (x : Sp) (n : Int) : stepF (r ++ [x]) n true = if x.2 = n - 1 then r ++ [(x.1, n)] else r ++ [x] ++ [(n, n)] := by
  unfold stepF
  have hg : (r ++ [x]).getD ((r ++ [x]).length - 1) (0, 0) = x := by simp
  rw [hg]
  by_cases h : x.2 = n - 1
  · rw [if_pos rfl, if_pos ⟨by simp, h⟩, if_pos h]
    simp
  · rw [if_pos rfl, if_neg (fun hh => h hh.2), if_neg h]

theorem fromF_spec (f : Nat → Bool) : ∀ k, Norm (fromF f k) ∧ (∀ x ∈ fromF f k, -99 ≤ x.1 ∧ x.2 ≤ (k : Int) - 100) ∧
    ∀ n, memS (fromF f k) n ↔ ∃ j, j < k ∧ f j = true ∧ n = (j : Int) - 99
  | 0 => ⟨trivial, (fun x hx => by cases hx), fun n => ⟨fun h => absurd h (memS_nil n), fun ⟨j, hj, _⟩ => absurd hj (by omega)⟩⟩
  | k + 1 => by
    obtain ⟨h1, h2, h3⟩ := fromF_spec f k
    show Norm (stepF (fromF f k) ((k : Int) - 99) (f k)) ∧ (∀ x ∈ stepF (fromF f k) ((k : Int) - 99) (f k), _) ∧ ∀ n, memS (stepF (fromF f k) ((k : Int) - 99) (f k)) n ↔ _
    cases hf : f k with
    | false =>
      have e : stepF (fromF f k) ((k : Int) - 99) false = fromF f k := by unfold stepF; simp
      rw [e]
      refine ⟨h1, fun x hx => ⟨(h2 x hx).1, by have := (h2 x hx).2; omega⟩, fun n => (h3 n).trans ⟨fun ⟨j, hj, r⟩ => ⟨j, by omega, r⟩, fun ⟨j, hj, hfj, r⟩ => ⟨j, ?_, hfj, r⟩⟩⟩
      rcases Nat.lt_or_ge j k with h | h
      · exact h
      · have : j = k := by omega
        subst this; rw [hf] at hfj; cases hfj
    | true =>
      have hmem : ∀ n : Int, (∃ j, j < k + 1 ∧ f j = true ∧ n = (j : Int) - 99) ↔ memS (fromF f k) n ∨ n = (k : Int) - 99 := by
        intro n
        rw [h3 n]
        constructor
        · rintro ⟨j, hj, hfj, e⟩
          rcases Nat.lt_or_ge j k with h | h
          · exact .inl ⟨j, h, hfj, e⟩
          · have : j = k := by omega
            subst this; exact .inr e
        · rintro (⟨j, hj, hfj, e⟩ | e)
          · exact ⟨j, by omega, hfj, e⟩
          · exact ⟨k, by omega, hf, e⟩
      have app : Norm (fromF f k ++ [((k : Int) - 99, (k : Int) - 99)]) → (Norm (fromF f k ++ [((k : Int) - 99, (k : Int) - 99)]) ∧ (∀ x ∈ fromF f k ++ [((k : Int) - 99, (k : Int) - 99)], -99 ≤ x.1 ∧ x.2 ≤ ((k + 1 : Nat) : Int) - 100) ∧ ∀ n, memS (fromF f k ++ [((k : Int) - 99, (k : Int) - 99)]) n ↔ ∃ j, j < k + 1 ∧ f j = true ∧ n = (j : Int) - 99) := by
        intro hn
        refine ⟨hn, fun x hx => ?_, fun n => ?_⟩
        · rcases List.mem_append.1 hx with hx | hx
          · have := h2 x hx; omega
          · rw [List.mem_singleton.1 hx]; simp; omega
        · rw [hmem n, memS_append, memS_cons]
          have : ¬ memS [] n := memS_nil n
          constructor
          · rintro (h | h | h)
            · exact .inl h
            · right; simp at h; omega
            · exact absurd h this
          · rintro (h | h)
            · exact .inl h
            · exact .inr (.inl (by simp; omega))
      rcases Nat.eq_zero_or_pos (fromF f k).length with h0 | hpos
      · have he : fromF f k = [] := List.eq_nil_of_length_eq_zero h0
        have hs : stepF (fromF f k) ((k : Int) - 99) true = fromF f k ++ [((k : Int) - 99, (k : Int) - 99)] := by
          rw [he]; rfl
        rw [hs]
        exact app (norm_snoc h1 (Int.le_refl _) (by intro y hy; rw [he] at hy; cases hy))
      · obtain ⟨r, x, hrx⟩ := snoc_form _ hpos
        rw [hrx, stepF_snoc]
        by_cases hx : x.2 = (k : Int) - 99 - 1
        · rw [if_pos hx]
          rw [hrx] at h1 h2 hmem
          obtain ⟨n1, n2, n3⟩ := norm_of_append h1
          have hx1 : x.1 ≤ x.2 := n2.1
          refine ⟨norm_append n1 ⟨(by simp; omega), (fun y hy => by cases hy), trivial⟩ fun y hy z hz => ?_, fun y hy => ?_, fun n => ?_⟩
          · rw [List.mem_singleton.1 hz]; exact n3 y hy x List.mem_cons_self
          · rcases List.mem_append.1 hy with hy | hy
            · have := h2 y (List.mem_append.2 (.inl hy)); omega
            · rw [List.mem_singleton.1 hy]
              have := h2 x (List.mem_append.2 (.inr List.mem_cons_self))
              simp; omega
          · rw [hmem n, memS_append, memS_append, memS_cons, memS_cons]
            have : ¬ memS [] n := memS_nil n
            constructor
            · rintro (h | h | h)
              · exact .inl (.inl h)
              · simp at h
                by_cases e : n = (k : Int) - 99
                · exact .inr e
                · exact .inl (.inr (.inl ⟨h.1, by omega⟩))
              · exact absurd h this
            · rintro ((h | h | h) | h)
              · exact .inl h
              · exact .inr (.inl (by simp; omega))
              · exact absurd h this
              · exact .inr (.inl (by simp; omega))
        · rw [if_neg hx, ← hrx]
          refine app (norm_snoc h1 (Int.le_refl _) fun y hy => ?_)
          have hy2 := (h2 y hy).2
          rw [hrx] at hy h1 h2
          rcases List.mem_append.1 hy with hy' | hy'
          · have := (norm_of_append h1).2.2 y hy' x List.mem_cons_self
            have := (norm_of_append h1).2.1.1
            have := (h2 x (List.mem_append.2 (.inr List.mem_cons_self))).2
            simp; omega
          · rw [List.mem_singleton.1 hy'] at hy2 ⊢
            simp; omega
end Sets
end Go.Proofs.YtajjmdnbmicefabDoor
