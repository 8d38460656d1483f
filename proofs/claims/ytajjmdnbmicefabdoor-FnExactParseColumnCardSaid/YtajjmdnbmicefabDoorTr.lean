/-
  Plain facts on tests: a test's text describes the test; what a text describes is a test.
-/
import Derived.Test.YtajjmdnbmicefabDoorTp
namespace Go.Proofs.YtajjmdnbmicefabDoor
namespace Sets

theorem valid_one {a b : Int} (h1 : -99 ≤ a) (h2 : a ≤ b) (h3 : b ≤ 99) : validB [(a, b)] = true :=
  mk_valid (by simp) ⟨h2, (fun y hy => by cases hy), trivial⟩ fun x hx => by rw [List.mem_singleton.1 hx]; exact ⟨h1, h3⟩
theorem valid_nil : validB [] = true := mk_valid (by simp) trivial fun x hx => by cases hx
theorem colS_valid (L : Bool) (a b : Int) : validB (colS L a b) = true := by
  cases h : colB L a b with
  | true =>
    obtain ⟨c1, c2, c3, c4⟩ := (colB_iff _ _ _).1 h
    rw [colS_yes h]
    exact valid_one c1 c2 c3
  | false => rw [colS_no h]; exact valid_nil
theorem memS_one (a b n : Int) : memS [(a, b)] n ↔ a ≤ n ∧ n ≤ b := by
  rw [memS_cons]
  have := memS_nil n
  constructor
  · rintro (h | h)
    · exact h
    · exact absurd h this
  · exact .inl
theorem norm_mem {xs : List Sp} (h : Norm xs) {x : Sp} (hx : x ∈ xs) : memS xs x.1 ∧ memS xs x.2 :=
  ⟨⟨x, hx, Int.le_refl _, h.le x hx⟩, ⟨x, hx, h.le x hx, Int.le_refl _⟩⟩
/-- what a test is -/
theorem isT_iff (L : Bool) (a b : Int) (xs : List Sp) : isT L a b xs = true ↔ colB L a b = true ∧ validB xs = true ∧ ∀ n, memS xs n → a ≤ n ∧ n ≤ b := by
  unfold isT
  rw [Bool.and_eq_true]
  constructor
  · rintro ⟨h1, h2⟩
    have hv : validB xs = true := by
      cases h : validB xs with
      | true => rfl
      | false => rw [within_noL h] at h2; cases h2
    refine ⟨h1, hv, fun n hn => ?_⟩
    have := (within_iff hv (colS_valid L a b)).1 h2 n hn
    rw [colS_yes h1] at this
    exact (memS_one a b n).1 this
  · rintro ⟨h1, h2, h3⟩
    refine ⟨h1, (within_iff h2 (colS_valid L a b)).2 fun n hn => ?_⟩
    rw [colS_yes h1]
    exact (memS_one a b n).2 (h3 n hn)
theorem isT_spans {L : Bool} {a b : Int} {xs : List Sp} (h : isT L a b xs = true) : ∀ x ∈ xs, inB L a b x.1 = true ∧ inB L a b x.2 = true ∧ x.1 ≤ x.2 := by
  obtain ⟨h1, h2, h3⟩ := (isT_iff _ _ _ _).1 h
  obtain ⟨hn, _⟩ := norm_of_valid h2
  intro x hx
  obtain ⟨m1, m2⟩ := norm_mem hn hx
  exact ⟨(inB_iff _ _ _ _).2 ⟨h1, h3 _ m1⟩, (inB_iff _ _ _ _).2 ⟨h1, h3 _ m2⟩, hn.le x hx⟩

/-- a set of the numbers of a set -/
theorem setOf_self {xs : List Sp} (h : validB xs = true) : setOfB xs = true ∧ setOfV xs = xs := by
  obtain ⟨h12, hn, hw⟩ := (valid_iff xs).1 ((validB_iff xs).1 h)
  have he : fromF (flag xs) 199 = xs := eq_fromF xs hn hw _ fun j _ => flag_iff xs j
  have hl : LimAll xs := fun j hj => by
    have hm : xs.getD j (0, 0) ∈ xs := by
      rw [List.getD_eq_getElem?_getD, List.getElem?_eq_getElem hj]; exact List.getElem_mem hj
    have h1 := hw _ hm
    have h2 := hn.le _ hm
    refine (limB_iff _ _).2 ?_
    unfold YtajjmdnbmicefabDoor.lo YtajjmdnbmicefabDoor.hi
    omega
  have hB : setOfB xs = true := by
    rw [setOf_in (by omega) hl, he]
    exact decide_eq_true h12
  exact ⟨hB, by rw [setOfV_yes hB, he]⟩
/-- the set of the numbers of spans within the limits -/
theorem setOf_facts {xs : List Sp} (h : setOfB xs = true) : validB (setOfV xs) = true ∧ ∀ n, memS (setOfV xs) n ↔ memS xs n ∧ -99 ≤ n ∧ n ≤ 99 := by
  rw [setOfV_yes h]
  obtain ⟨s1, s2, s3⟩ := fromF_spec (flag xs) 199
  have h12 : (fromF (flag xs) 199).length ≤ 12 := by
    unfold setOfB at h
    rw [Bool.and_eq_true] at h
    exact of_decide_eq_true h.2
  refine ⟨mk_valid h12 s1 fun x hx => by have := s2 x hx; omega, fun n => ?_⟩
  rw [s3 n]
  constructor
  · rintro ⟨j, hj, hf, rfl⟩
    exact ⟨(flag_iff xs j).1 hf, by omega, by omega⟩
  · rintro ⟨h1, h2, h3⟩
    refine ⟨(n + 99).toNat, by omega, (flag_iff xs _).2 ?_, by omega⟩
    rw [show (((n + 99).toNat : Nat) : Int) - 99 = n by omega]
    exact h1
theorem setOf_short {xs : List Sp} (h1 : xs.length ≤ 100) (h2 : LimAll xs) (h3 : (fromF (flag xs) 199).length ≤ 12) : setOfB xs = true := by
  rw [setOf_in h1 h2]
  exact decide_eq_true h3

/-- the bytes of a span's text -/
theorem spanT_bytes {L : Bool} {a b : Int} {x : Sp} (h1 : inB L a b x.1 = true) (h2 : inB L a b x.2 = true) :
    (∃ c t, spanT L x = c :: t ∧ okByte c) ∧ spanT L x ≠ [45] ∧ ∀ c ∈ spanT L x, okByte c ∨ c = 46 := by
  obtain ⟨v1, v2, v3, v4⟩ := vT_bytes h1
  obtain ⟨u1, u2, u3, u4⟩ := vT_bytes h2
  obtain ⟨c, t, hct⟩ : ∃ c t, vT L x.1 = c :: t := by
    cases h : vT L x.1 with
    | nil => exact absurd h v1
    | cons c t => exact ⟨c, t, rfl⟩
  have hc : okByte c := v4 c (by rw [hct]; exact List.mem_cons_self)
  unfold spanT
  split
  · exact ⟨⟨c, t, hct, hc⟩, v2, fun d hd => .inl (v4 d hd)⟩
  · refine ⟨⟨c, t ++ (dots ++ vT L x.2), by rw [hct]; rfl, hc⟩, ?_, fun d hd => ?_⟩
    · intro e
      have := congrArg List.length e
      rw [hct] at this
      simp [dots] at this
    · rcases List.mem_append.1 hd with hd | hd
      · exact .inl (v4 d hd)
      · rcases List.mem_append.1 hd with hd | hd
        · right
          simpa [dots] using hd
        · exact .inl (u4 d hd)
theorem prefix_cons (p c : UInt8) (t : Bs) : Lib.hasPrefix (c :: t) [p] = (p == c) := by
  unfold Lib.hasPrefix
  simp [List.isPrefixOf]
theorem prefix_cons2 (p q c : UInt8) (t : Bs) (h : p ≠ c) : Lib.hasPrefix (c :: t) (p :: q :: []) = false := by
  unfold Lib.hasPrefix
  simp [List.isPrefixOf, h]
/-- a text that begins as a value does -/
theorem piece_span {L : Bool} {a b : Int} {c : UInt8} {t : Bs} (h : okByte c) : pieceO L a b (c :: t) = spanO L a b (c :: t) := by
  obtain ⟨n1, n2, n3, n4, n5, n6⟩ := okByte_ne h
  unfold pieceO
  rw [prefix_cons2 _ _ _ _ (Ne.symm n3), prefix_cons2 _ _ _ _ (Ne.symm n4), prefix_cons, prefix_cons, beq_eq_false_iff_ne.2 (Ne.symm n3), beq_eq_false_iff_ne.2 (Ne.symm n4)]
  simp
theorem piece_text {L : Bool} {a b : Int} {x : Sp} (h1 : inB L a b x.1 = true) (h2 : inB L a b x.2 = true) (h3 : x.1 ≤ x.2) : pieceO L a b (spanT L x) = some x := by
  obtain ⟨⟨c, t, hct, hc⟩, _, _⟩ := spanT_bytes h1 h2
  rw [hct, piece_span hc, ← hct]
  unfold spanT
  split
  · rename_i he
    rw [spanO_one h1]
    exact congrArg some (Prod.ext rfl he)
  · exact spanO_two h1 h2 h3
theorem join_cons2 (x y : Bs) (r : List Bs) : Lib.join (x :: y :: r) [44] = x ++ 44 :: Lib.join (y :: r) [44] := by
  rw [Lib.join_cons, Lib.join_cons]
  simp [Lib.joinTail]
theorem split_join : ∀ (ps : List Bs), ps ≠ [] → (∀ p ∈ ps, ∀ c ∈ p, c ≠ 44) → splitC (Lib.join ps [44]) = ps
  | [], h, _ => absurd rfl h
  | [p], _, h => by
    rw [Lib.join_one]
    exact splitC_plain p (h p List.mem_cons_self)
  | p :: q :: r, _, h => by
    rw [join_cons2, splitC_cut p _ (h p List.mem_cons_self), split_join (q :: r) (by simp) fun s hs => h s (List.mem_cons_of_mem _ hs)]
theorem join_head (x : Bs) (r : List Bs) : ∃ t, Lib.join (x :: r) [44] = x ++ t := ⟨_, Lib.join_cons x r [44]⟩

theorem spans_text {L : Bool} {a b : Int} {xs : List Sp} (h : ∀ x ∈ xs, inB L a b x.1 = true ∧ inB L a b x.2 = true ∧ x.1 ≤ x.2) : (xs.map (spanT L)).all (pieceB L a b) = true ∧ spansOf L a b (xs.map (spanT L)) = xs := by
  induction xs with
  | nil => exact ⟨rfl, rfl⟩
  | cons x xs ih =>
    obtain ⟨i1, i2⟩ := ih fun y hy => h y (List.mem_cons_of_mem _ hy)
    obtain ⟨h1, h2, h3⟩ := h x List.mem_cons_self
    obtain ⟨p1, p2⟩ := pieceV_of (piece_text h1 h2 h3)
    constructor
    · rw [List.map_cons, List.all_cons, p2, i1]; rfl
    · unfold spansOf at i2 ⊢
      rw [List.map_cons, List.map_cons, List.filter_cons, p1, if_pos (by simpa using h3), i2]
theorem list_text {L : Bool} {a b : Int} {xs : List Sp} (h : isT L a b xs = true) (hne : xs ≠ []) : listB L a b (Lib.join (xs.map (spanT L)) [44]) = true ∧ listV L a b (Lib.join (xs.map (spanT L)) [44]) = xs := by
  have hs := isT_spans h
  obtain ⟨h1, h2, h3⟩ := (isT_iff _ _ _ _).1 h
  have hsp : splitC (Lib.join (xs.map (spanT L)) [44]) = xs.map (spanT L) := split_join _ (by simpa using hne) fun p hp c hc => by
    obtain ⟨x, hx, rfl⟩ := List.mem_map.1 hp
    obtain ⟨g1, g2, g3⟩ := hs x hx
    rcases (spanT_bytes g1 g2).2.2 c hc with k | k
    · exact (okByte_ne k).2.1
    · rw [k]; decide
  obtain ⟨s1, s2⟩ := spans_text hs
  obtain ⟨t1, t2⟩ := setOf_self h2
  have h12 := ((validB_iff xs).1 h2).1
  have hB : listB L a b (Lib.join (xs.map (spanT L)) [44]) = true := by
    unfold listB partsB
    rw [hsp, s1, s2, t1]
    simp; omega
  exact ⟨hB, by unfold listV; rw [if_pos hB, hsp, s2, t2]⟩

/-- THE TEXT OF A TEST DESCRIBES IT. -/
theorem test_text {L : Bool} {a b : Int} {xs : List Sp} (h : isT L a b xs = true) : tB L a b (fT L a b xs) = true ∧ tV L a b (fT L a b xs) = xs := by
  have hs := isT_spans h
  obtain ⟨h1, h2, h3⟩ := (isT_iff _ _ _ _).1 h
  by_cases he : sameB xs (colS L a b) = true
  · have hf : fT L a b xs = [45] := by unfold fT; rw [if_pos h, if_pos he]
    have hB : tB L a b [45] = true := by unfold tB; rw [h1]; simp
    rw [hf]
    exact ⟨hB, by unfold tV; rw [if_pos hB, if_pos rfl, (same_iff _ _).1 he]⟩
  · have hf : fT L a b xs = Lib.join (xs.map (spanT L)) [44] := by unfold fT; rw [if_pos h, if_neg he]
    by_cases hne : xs = []
    · subst hne
      have hf0 : fT L a b [] = [] := hf
      have hB : tB L a b [] = true := by unfold tB; rw [h1]; simp
      rw [hf0]
      exact ⟨hB, by unfold tV; rw [if_pos hB, if_neg (by simp), if_pos rfl]⟩
    · obtain ⟨l1, l2⟩ := list_text h hne
      obtain ⟨x, r, rfl⟩ : ∃ x r, xs = x :: r := by
        cases xs with
        | nil => exact absurd rfl hne
        | cons x r => exact ⟨x, r, rfl⟩
      obtain ⟨g1, g2, g3⟩ := hs x List.mem_cons_self
      obtain ⟨⟨c, t, hct, hc⟩, b2, b3⟩ := spanT_bytes g1 g2
      obtain ⟨u, hu⟩ := join_head (spanT L x) (r.map (spanT L))
      rw [List.map_cons] at hf l1 l2
      rw [hf]
      have n0 : Lib.join (spanT L x :: r.map (spanT L)) [44] ≠ [] := by rw [hu, hct]; simp
      have n1 : Lib.join (spanT L x :: r.map (spanT L)) [44] ≠ [45] := by
        rw [hu]
        intro e
        have hl := congrArg List.length e
        rw [hct] at hl
        obtain ⟨ht, hu0⟩ : t = [] ∧ u = [] := by simpa using hl
        rw [hu0, List.append_nil] at e
        exact b2 e
      have n2 : notB (Lib.join (spanT L x :: r.map (spanT L)) [44]) = false := by
        rw [hu, hct]
        unfold notB Lib.hasPrefix
        have := (okByte_ne hc).2.2.2.2.1
        simp [List.isPrefixOf, Ne.symm this]
      have hB : tB L a b (Lib.join (spanT L x :: r.map (spanT L)) [44]) = true := by
        unfold tB
        rw [h1, n2, l1]
        simp
      exact ⟨hB, by unfold tV; rw [if_pos hB, if_neg n1, if_neg n0, n2, if_neg (by simp), l2]⟩

/- ## what a text describes is a test -/
theorem spansOf_in {L : Bool} {a b : Int} {ps : List Bs} (h : ps.all (pieceB L a b) = true) : ∀ x ∈ spansOf L a b ps, a ≤ x.1 ∧ x.1 ≤ x.2 ∧ x.2 ≤ b := by
  intro x hx
  unfold spansOf at hx
  obtain ⟨h1, h2⟩ := List.mem_filter.1 hx
  obtain ⟨p, hp, rfl⟩ := List.mem_map.1 h1
  have := pieceV_in (List.all_eq_true.1 h p hp)
  exact ⟨this.2.1, of_decide_eq_true h2, this.2.2.1⟩
theorem list_facts {L : Bool} {a b : Int} {l : Bs} (hc : colB L a b = true) (h : listB L a b l = true) : validB (listV L a b l) = true ∧ (splitC l).all (pieceB L a b) = true ∧ ∀ n, memS (listV L a b l) n ↔ memS (spansOf L a b (splitC l)) n := by
  have hV : listV L a b l = setOfV (spansOf L a b (splitC l)) := by unfold listV; rw [if_pos h]
  unfold listB partsB at h
  rw [Bool.and_eq_true, Bool.and_eq_true] at h
  obtain ⟨⟨h1, _⟩, h2⟩ := h
  obtain ⟨f1, f2⟩ := setOf_facts h2
  rw [hV]
  refine ⟨f1, h1, fun n => (f2 n).trans ⟨fun h => h.1, fun h => ⟨h, ?_⟩⟩⟩
  obtain ⟨x, hx, k1, k2⟩ := h
  have := spansOf_in h1 x hx
  obtain ⟨c1, c2, c3, c4⟩ := (colB_iff _ _ _).1 hc
  omega
theorem list_isT {L : Bool} {a b : Int} {l : Bs} (hc : colB L a b = true) (h : listB L a b l = true) : isT L a b (listV L a b l) = true := by
  obtain ⟨f1, f2, f3⟩ := list_facts hc h
  refine (isT_iff _ _ _ _).2 ⟨hc, f1, fun n hn => ?_⟩
  obtain ⟨x, hx, k1, k2⟩ := (f3 n).1 hn
  have := spansOf_in f2 x hx
  omega
theorem col_isT {L : Bool} {a b : Int} (hc : colB L a b = true) : isT L a b (colS L a b) = true :=
  (isT_iff _ _ _ _).2 ⟨hc, colS_valid L a b, fun n hn => by rw [colS_yes hc] at hn; exact (memS_one a b n).1 hn⟩
/-- WHAT A TEXT DESCRIBES IS A TEST. -/
theorem test_isT {L : Bool} {a b : Int} {l : Bs} (h : tB L a b l = true) : isT L a b (tV L a b l) = true := by
  have hB := h
  unfold tB at h
  rw [Bool.and_eq_true] at h
  obtain ⟨hc, h⟩ := h
  unfold tV
  rw [if_pos hB]
  split
  · exact col_isT hc
  · rename_i n1
    split
    · exact (isT_iff _ _ _ _).2 ⟨hc, valid_nil, fun n hn => absurd hn (memS_nil n)⟩
    · rename_i n0
      rw [decide_eq_false n1, decide_eq_false n0, Bool.false_or, Bool.false_or] at h
      split
      · rename_i hn
        rw [if_pos hn, Bool.and_eq_true, Bool.and_eq_true] at h
        obtain ⟨m1, m2, m3, m4⟩ := minus_facts h.2.2
        refine (isT_iff _ _ _ _).2 ⟨hc, m3, fun n hn => ?_⟩
        have := ((m4 n).1 hn).1
        rw [colS_yes hc] at this
        exact (memS_one a b n).1 this
      · rename_i hn
        rw [if_neg hn] at h
        exact list_isT hc h
end Sets
end Go.Proofs.YtajjmdnbmicefabDoor
