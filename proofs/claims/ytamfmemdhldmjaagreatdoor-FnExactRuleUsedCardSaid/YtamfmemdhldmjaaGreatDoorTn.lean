/-
  Plain facts on tests that the laws on negations, lists, bounds and lengths want.
-/
import Derived.Test.YtamfmemdhldmjaaGreatDoorTpM
import Derived.Test.YtamfmemdhldmjaaGreatDoorRdM
import Derived.Test.YtamfmemdhldmjaaGreatDoorSuM
namespace Go.Proofs.YtamfmemdhldmjaaGreatDoor
namespace Sets

def cat4 : Bs := [110, 111, 116, 40]
theorem notP_of (l : Bs) : notB (cat4 ++ (l ++ [41])) = true ∧ closeB (cat4 ++ (l ++ [41])) = true ∧ notP (cat4 ++ (l ++ [41])) = l := by
  refine ⟨by simp [notB, Lib.hasPrefix, cat4, List.isPrefixOf], ?_, ?_⟩
  · unfold closeB Lib.hasSuffix
    rw [List.isSuffixOf_iff_suffix]
    exact ⟨l, by simp [cat4]⟩
  · unfold notP
    simp [cat4]
theorem tB_col {L : Bool} {a b : Int} {l : Bs} (h : tB L a b l = true) : colB L a b = true := by
  unfold tB at h
  rw [Bool.and_eq_true] at h
  exact h.1
/-- a good text that is a list of parts -/
theorem tB_list {L : Bool} {a b : Int} {l : Bs} (h : tB L a b l = true) (h0 : l ≠ []) (h1 : l ≠ [45]) (hn : notB l = false) : listB L a b l = true ∧ tV L a b l = listV L a b l := by
  have hB := h
  unfold tB at h
  rw [decide_eq_false h1, decide_eq_false h0, hn] at h
  simp only [Bool.and_eq_true, Bool.false_or, Bool.false_eq_true, if_false] at h
  refine ⟨h.2, ?_⟩
  unfold tV
  rw [if_pos hB, if_neg h1, if_neg h0, hn]
  rfl
theorem tB_of_list {L : Bool} {a b : Int} {l : Bs} (hc : colB L a b = true) (h : listB L a b l = true) (hn : notB l = false) : tB L a b l = true := by
  unfold tB
  rw [hc, h, hn]
  simp
theorem not_n {c : UInt8} {t : Bs} (h : c ≠ 110) : notB (c :: t) = false := by
  unfold notB Lib.hasPrefix
  simp [List.isPrefixOf, Ne.symm h]

/-- FnTestNot -/
theorem not_law {L : Bool} {a b : Int} {l : Bs} (h : tB L a b l = true) (h0 : l ≠ []) (h1 : l ≠ [45]) (hn : notB l = false) (h2 : tB L a b (cat4 ++ (l ++ [41])) = true) (n : Int) (ha : a ≤ n) (hb : n ≤ b) :
    hasB (tV L a b (cat4 ++ (l ++ [41]))) n = !hasB (tV L a b l) n := by
  have hc := tB_col h
  obtain ⟨l1, l2⟩ := tB_list h h0 h1 hn
  obtain ⟨p1, p2, p3⟩ := notP_of l
  have hT := (isT_iff _ _ _ _).1 (test_isT h)
  have hT2 := (isT_iff _ _ _ _).1 (test_isT h2)
  have hB2 := h2
  unfold tB at h2
  rw [p1, p2, p3] at h2
  have ne1 : cat4 ++ (l ++ [41]) ≠ [45] := by simp [cat4]
  have ne0 : cat4 ++ (l ++ [41]) ≠ [] := by simp [cat4]
  rw [decide_eq_false ne1, decide_eq_false ne0] at h2
  simp only [Bool.and_eq_true, Bool.false_or, Bool.true_and, if_true] at h2
  have hv2 : tV L a b (cat4 ++ (l ++ [41])) = minusV (colS L a b) (listV L a b l) := by
    unfold tV
    rw [if_pos hB2, if_neg ne1, if_neg ne0, if_pos p1, p3]
  obtain ⟨m1, m2, m3, m4⟩ := minus_facts h2.2.2
  rw [hv2, l2]
  unfold hasB
  rw [m3, m2]
  rw [Bool.true_and, Bool.true_and, Bool.eq_iff_iff, Bool.not_eq_true', ← Bool.not_eq_true, haveB_iff, haveB_iff, m4 n, colS_yes hc, memS_one]
  exact ⟨fun h => h.2, fun h => ⟨⟨ha, hb⟩, h⟩⟩

theorem splitC_snoc (v : Bs) (hv : ∀ c ∈ v, c ≠ 44) : ∀ (l : Bs), splitC (l ++ 44 :: v) = splitC l ++ [v]
  | [] => by
    show splitC (44 :: v) = [[]] ++ [v]
    rw [show splitC (44 :: v) = [] :: splitC v from by rw [splitC, if_pos rfl], splitC_plain v hv]; rfl
  | c :: t => by
    rw [List.cons_append, splitC, splitC, splitC_snoc v hv t]
    split
    · rfl
    · cases h : splitC t with
      | nil => exact absurd h (splitC_ne t)
      | cons p ps => rfl
theorem cnt_le (f g : Nat → Bool) (k : Nat) (h : ∀ j, j < k → f j = true → g j = true) : cnt f k ≤ cnt g k := by
  induction k with
  | zero => exact Int.le_refl _
  | succ k ih =>
    have := ih fun j hj => h j (by omega)
    have h2 := h k (by omega)
    simp only [cnt]
    cases hf : f k <;> cases hg : g k
    · simp; omega
    · simp; omega
    · rw [hf] at h2; simp [hg] at h2
    · simp; omega
theorem cnt_one (f g : Nat → Bool) (m : Nat) : ∀ (k : Nat), (∀ j, j < k → g j = true → f j = true ∨ j = m) → cnt g k ≤ cnt f k + if m < k then 1 else 0
  | 0, _ => by simp [cnt]
  | k + 1, h => by
    have ih := cnt_one f g m k fun j hj => h j (by omega)
    have h2 := h k (by omega)
    simp only [cnt]
    by_cases hm : k = m
    · subst hm
      rw [if_neg (Nat.lt_irrefl k)] at ih
      rw [if_pos (Nat.lt_succ_self k)]
      split <;> split <;> omega
    · have e : (if m < k + 1 then (1 : Int) else 0) = if m < k then 1 else 0 := by
        by_cases hk : m < k
        · rw [if_pos hk, if_pos (by omega)]
        · rw [if_neg hk, if_neg (by omega)]
      rw [e]
      cases hg : g k with
      | false => cases f k <;> simp <;> omega
      | true =>
        rcases h2 hg with hf | hf
        · rw [hf]; simp; omega
        · exact absurd hf hm
theorem size_plus {xs ys : List Sp} (n : Int) (hx : validB xs = true) (hy : validB ys = true) (h : ∀ m, memS ys m → memS xs m ∨ m = n) : sizeS ys ≤ sizeS xs + 1 := by
  obtain ⟨n1, w1⟩ := norm_of_valid hx
  obtain ⟨n2, w2⟩ := norm_of_valid hy
  rw [size_cnt xs n1 w1, size_cnt ys n2 w2]
  have := cnt_one (flag xs) (flag ys) (n + 99).toNat 199 fun j _ hj => by
    rw [flag_iff] at hj ⊢
    rcases h _ hj with h | h
    · exact .inl h
    · exact .inr (by omega)
  split at this <;> omega

/-- FnTestList -/
theorem list_law {L : Bool} {a b : Int} {l : Bs} (h : tB L a b l = true) (h0 : l ≠ []) (h1 : l ≠ [45]) (hn : l.headD 0 ≠ 110) (h2 : tB L a b (l ++ 44 :: fV L a b a) = true) :
    withinB (tV L a b l) (tV L a b (l ++ 44 :: fV L a b a)) = true ∧ hasB (tV L a b (l ++ 44 :: fV L a b a)) a = true ∧ sizeV (tV L a b (l ++ 44 :: fV L a b a)) ≤ sizeV (tV L a b l) + 1 := by
  have hc := tB_col h
  obtain ⟨c1, c2, c3, c4⟩ := (colB_iff _ _ _).1 hc
  have hin : inB L a b a = true := (inB_iff _ _ _ _).2 ⟨hc, Int.le_refl _, c2⟩
  obtain ⟨c, t, rfl⟩ : ∃ c t, l = c :: t := by
    cases l with
    | nil => exact absurd rfl h0
    | cons c t => exact ⟨c, t, rfl⟩
  have hnn : notB (c :: t) = false := not_n (by simpa using hn)
  have hnn2 : notB (c :: t ++ 44 :: fV L a b a) = false := not_n (by simpa using hn)
  obtain ⟨l1, l2⟩ := tB_list h h0 h1 hnn
  obtain ⟨k1, k2⟩ := tB_list h2 (by simp) (by simp) hnn2
  obtain ⟨f1, f2, f3⟩ := list_facts hc l1
  obtain ⟨g1, g2, g3⟩ := list_facts hc k1
  rw [fV_yes hin] at k1 k2 g1 g2 g3 ⊢
  have hsp := splitC_snoc (vT L a) (fun d hd => (okByte_ne ((vT_bytes hin).2.2.2 d hd)).2.1) (c :: t)
  have hp : spansOf L a b [vT L a] = [(a, a)] := by
    have : pieceO L a b (vT L a) = some (a, a) := by
      have := piece_text (x := (a, a)) hin hin (Int.le_refl _)
      simpa [spanT] using this
    unfold spansOf
    rw [List.map_cons, List.map_nil, (pieceV_of this).1]
    simp
  have hm : ∀ n, memS (listV L a b (c :: t ++ 44 :: vT L a)) n ↔ memS (listV L a b (c :: t)) n ∨ n = a := by
    intro n
    rw [g3, f3, hsp, spansOf_append, hp, memS_append, memS_one]
    constructor
    · rintro (h | h)
      · exact .inl h
      · exact .inr (by omega)
    · rintro (h | h)
      · exact .inl h
      · exact .inr (by omega)
  rw [l2, k2]
  refine ⟨(within_iff f1 g1).2 fun n h => (hm n).2 (.inl h), ?_, ?_⟩
  · unfold hasB
    rw [g1, Bool.true_and, haveB_iff]
    exact (hm a).2 (.inr rfl)
  · rw [sizeV_yes f1, sizeV_yes g1]
    exact size_plus a f1 g1 fun n h => (hm n).1 h

/-- a text of one part -/
theorem one_part {L : Bool} {a b : Int} {l : Bs} {x : Sp} (hc : colB L a b = true) (hp : pieceO L a b l = some x) (hb : ∀ c ∈ l, c ≠ 44) (h0 : l ≠ []) (h1 : l ≠ [45]) (hn : notB l = false) :
    tB L a b l = true ∧ tV L a b l = if x.1 ≤ x.2 then [x] else [] := by
  have hs := splitC_plain l hb
  obtain ⟨p1, p2⟩ := pieceV_of hp
  obtain ⟨i0, i1, i2, i3, i4⟩ := pieceO_in hp
  obtain ⟨c1, c2, c3, c4⟩ := (colB_iff _ _ _).1 hc
  have hsp : spansOf L a b [l] = if x.1 ≤ x.2 then [x] else [] := by
    unfold spansOf
    rw [List.map_cons, List.map_nil, p1]
    by_cases hx : x.1 ≤ x.2
    · rw [if_pos hx, List.filter_cons, if_pos (by simpa using hx)]; rfl
    · rw [if_neg hx, List.filter_cons, if_neg (by simpa using hx)]; rfl
  have hv : validB (if x.1 ≤ x.2 then [x] else []) = true := by
    split
    · exact valid_one (by omega) (by omega) (by omega)
    · exact valid_nil
  obtain ⟨s1, s2⟩ := setOf_self hv
  have hl : listB L a b l = true := by
    unfold listB partsB
    rw [hs, hsp, s1, List.all_cons, p2]
    have h12 : (if x.1 ≤ x.2 then [x] else []).length ≤ 51 := by split <;> simp
    rw [decide_eq_true h12]; rfl
  have hB := tB_of_list hc hl hn
  refine ⟨hB, ?_⟩
  rw [(tB_list hB h0 h1 hn).2]
  unfold listV
  rw [if_pos hl, hs, hsp, s2]

/-- FnParseValueIn -/
theorem value_test {L : Bool} {a b n : Int} (h : inB L a b n = true) : tB L a b (vT L n) = true ∧ tV L a b (vT L n) = [(n, n)] := by
  have hc := ((inB_iff _ _ _ _).1 h).1
  obtain ⟨v1, v2, v3, v4⟩ := vT_bytes h
  have hp : pieceO L a b (vT L n) = some (n, n) := by
    have := piece_text (x := (n, n)) h h (Int.le_refl _)
    simpa [spanT] using this
  have hn : notB (vT L n) = false := by
    cases hv : vT L n with
    | nil => exact absurd hv v1
    | cons c t => exact not_n (okByte_ne (v4 c (by rw [hv]; exact List.mem_cons_self))).2.2.2.2.1
  have := one_part hc hp (fun c hc => (okByte_ne (v4 c hc)).2.1) v1 v2 hn
  rw [if_pos (Int.le_refl _)] at this
  exact this

/-- FnTestBounds -/
theorem less_test {L : Bool} {a b n : Int} (h : inB L a b n = true) : tB L a b (60 :: vT L n) = true ∧ tV L a b (60 :: vT L n) = if a ≤ n - 1 then [(a, n - 1)] else [] := by
  obtain ⟨hc, h1, h2⟩ := (inB_iff _ _ _ _).1 h
  obtain ⟨v1, v2, v3, v4⟩ := vT_bytes h
  have hp : pieceO L a b (60 :: vT L n) = some (a, n - 1) := by
    have hq := pvO_some (L := L) (a := a) (b := b) (l := vT L n) ⟨h, rfl⟩
    obtain ⟨c, t, hct⟩ : ∃ c t, vT L n = c :: t := by
      cases h : vT L n with
      | nil => exact absurd h v1
      | cons c t => exact ⟨c, t, rfl⟩
    have hc61 : c ≠ 61 := by
      have := v4 c (by rw [hct]; exact List.mem_cons_self)
      unfold okByte at this
      rintro rfl
      revert this
      decide
    unfold pieceO
    have e1 : Lib.hasPrefix (60 :: vT L n) [60, 61] = false := by
      rw [hct]; unfold Lib.hasPrefix; simp [List.isPrefixOf, Ne.symm hc61]
    rw [e1, prefix_cons2 62 61 60 _ (by decide), prefix_cons]
    simp [hq]
  exact one_part hc hp (fun d hd => by
    rcases List.mem_cons.1 hd with rfl | hd
    · decide
    · exact (okByte_ne (v4 d hd)).2.1) (by simp) (by simp) (not_n (by decide))
theorem from_test {L : Bool} {a b n : Int} (h : inB L a b n = true) : tB L a b (62 :: 61 :: vT L n) = true ∧ tV L a b (62 :: 61 :: vT L n) = [(n, b)] := by
  obtain ⟨hc, h1, h2⟩ := (inB_iff _ _ _ _).1 h
  obtain ⟨v1, v2, v3, v4⟩ := vT_bytes h
  have hp : pieceO L a b (62 :: 61 :: vT L n) = some (n, b) := by
    have hq := pvO_some (L := L) (a := a) (b := b) (l := vT L n) ⟨h, rfl⟩
    unfold pieceO
    have e1 : Lib.hasPrefix (62 :: 61 :: vT L n) [62, 61] = true := by unfold Lib.hasPrefix; simp [List.isPrefixOf]
    rw [prefix_cons2 60 61 62 _ (by decide), e1]
    simp [hq]
  have := one_part hc hp (fun d hd => by
    rcases List.mem_cons.1 hd with rfl | hd
    · decide
    · rcases List.mem_cons.1 hd with rfl | hd
      · decide
      · exact (okByte_ne (v4 d hd)).2.1) (by simp) (by simp) (not_n (by decide))
  rw [if_pos h2] at this
  exact this
theorem bounds_law {L : Bool} {a b n : Int} (h : inB L a b n = true) :
    (unionB (if a ≤ n - 1 then [(a, n - 1)] else []) [(n, b)] = true ∧ unionV (if a ≤ n - 1 then [(a, n - 1)] else []) [(n, b)] = colS L a b) ∧
      meetV (if a ≤ n - 1 then [(a, n - 1)] else []) [(n, b)] = [] ∧ hasB [(n, b)] n = true ∧ hasB (if a ≤ n - 1 then [(a, n - 1)] else []) n = false := by
  obtain ⟨hc, h1, h2⟩ := (inB_iff _ _ _ _).1 h
  obtain ⟨c1, c2, c3, c4⟩ := (colB_iff _ _ _).1 hc
  have vb := valid_one (a := n) (b := b) (by omega) h2 c3
  have va : validB (if a ≤ n - 1 then [(a, n - 1)] else []) = true := by
    split
    · exact valid_one c1 (by omega) (by omega)
    · exact valid_nil
  have ma : ∀ m, memS (if a ≤ n - 1 then [(a, n - 1)] else []) m ↔ a ≤ m ∧ m ≤ n - 1 := by
    intro m
    split
    · exact memS_one _ _ _
    · have := memS_nil m
      constructor
      · intro h; exact absurd h this
      · intro h; omega
  generalize (if a ≤ n - 1 then [(a, n - 1)] else []) = xs at va ma ⊢
  have hu : unionP xs [(n, b)] = colS L a b := by
    have hcv := norm_of_valid (colS_valid L a b)
    unfold unionP
    refine eq_fromF _ hcv.1 hcv.2 _ fun j _ => ?_
    rw [Bool.or_eq_true, flag_iff, flag_iff, ma, memS_one, colS_yes hc, memS_one]
    omega
  have hb : unionB xs [(n, b)] = true := by
    unfold unionB bothB
    rw [va, vb, hu, colS_yes hc]; rfl
  obtain ⟨m1, m2, m3⟩ := meetV_facts va vb
  refine ⟨⟨hb, by unfold unionV; rw [if_pos hb, hu]⟩, norm_unique _ _ m1 trivial fun m => ?_, ?_, ?_⟩
  · rw [m3, ma, memS_one]
    have := memS_nil m
    constructor
    · intro h; omega
    · intro h; exact absurd h this
  · unfold hasB
    rw [vb, Bool.true_and, haveB_iff, memS_one]
    omega
  · unfold hasB
    rw [va, Bool.true_and, ← Bool.not_eq_true, haveB_iff, ma]
    omega
theorem col_law {L : Bool} {a b : Int} (hc : colB L a b = true) : sizeV (colS L a b) = b - a + 1 ∧ fT L a b (colS L a b) = [45] := by
  constructor
  · rw [sizeV_yes (colS_valid L a b), colS_yes hc]
    simp [sizeS]
  · unfold fT
    rw [if_pos (col_isT hc), if_pos ((same_iff _ _).2 rfl)]
theorem has_col (L : Bool) (a b n : Int) : hasB (colS L a b) n = inB L a b n := by
  unfold hasB
  rw [colS_valid, Bool.true_and]
  cases hc : colB L a b with
  | true =>
    rw [colS_yes hc, Bool.eq_iff_iff, haveB_iff, memS_one, inB_iff]
    exact ⟨fun h => ⟨hc, h⟩, fun h => h.2⟩
  | false =>
    rw [colS_no hc, Bool.eq_iff_iff, haveB_iff, inB_iff, hc]
    have := memS_nil n
    constructor
    · intro h; exact absurd h this
    · intro h; cases h.1
theorem one_law (n : Int) (h : -99 ≤ n ∧ n ≤ 99) : sizeV [(n, n)] = 1 ∧ hasB [(n, n)] n = true := by
  have v := valid_one (a := n) (b := n) h.1 (Int.le_refl _) h.2
  constructor
  · rw [sizeV_yes v]; simp [sizeS]
  · unfold hasB
    rw [v, Bool.true_and, haveB_iff, memS_one]
    omega

/- ## the length of a test's text -/
theorem count_plain (l : Bs) (h : ∀ c ∈ l, c ≠ 44) : l.count 44 = 0 := List.count_eq_zero.2 fun hm => h 44 hm rfl
theorem count_join : ∀ (ps : List Bs), (∀ p ∈ ps, ∀ c ∈ p, c ≠ 44) → (Lib.join ps [44]).count 44 = ps.length - 1
  | [], _ => rfl
  | [p], h => by rw [Lib.join_one, count_plain p (h p List.mem_cons_self)]; rfl
  | p :: q :: r, h => by
    rw [join_cons2, List.count_append, count_plain p (h p List.mem_cons_self), List.count_cons_self, count_join (q :: r) fun s hs => h s (List.mem_cons_of_mem _ hs)]
    simp
theorem length_law {L : Bool} {a b : Int} {xs : List Sp} (h0 : fT L a b xs ≠ []) (h1 : fT L a b xs ≠ [45]) : (fT L a b xs).count 44 = xs.length - 1 ∧ 1 ≤ xs.length := by
  unfold fT at h0 h1 ⊢
  by_cases ht : isT L a b xs = true
  · rw [if_pos ht] at h0 h1 ⊢
    by_cases hs : sameB xs (colS L a b) = true
    · rw [if_pos hs] at h1
      exact absurd rfl h1
    · rw [if_neg hs] at h0 ⊢
      have hsp := isT_spans ht
      rw [count_join _ fun p hp c hc => by
        obtain ⟨x, hx, rfl⟩ := List.mem_map.1 hp
        obtain ⟨g1, g2, g3⟩ := hsp x hx
        rcases (spanT_bytes g1 g2).2.2 c hc with k | k
        · exact (okByte_ne k).2.1
        · rw [k]; decide]
      rw [List.length_map]
      refine ⟨rfl, ?_⟩
      cases xs with
      | nil => exact absurd rfl h0
      | cons x xs => simp
  · rw [if_neg ht] at h0
    exact absurd rfl h0
end Sets
end Go.Proofs.YtamfmemdhldmjaaGreatDoor
