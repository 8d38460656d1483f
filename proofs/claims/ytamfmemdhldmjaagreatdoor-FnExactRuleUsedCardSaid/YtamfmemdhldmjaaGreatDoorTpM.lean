/-
  Plain facts on tests: their parts, their texts, and what a text describes.
-/
import Derived.Test.YtamfmemdhldmjaaGreatDoorTv
import Derived.Test.YtamfmemdhldmjaaGreatDoorPl
import Derived.Test.YtamfmemdhldmjaaGreatDoorSo
namespace Go.Proofs.YtamfmemdhldmjaaGreatDoor
namespace Sets

def dots : Bs := [46, 46]
/-- the span of a value, or of two with dots between them -/
def spanO (L : Bool) (a b : Int) (l : Bs) : Option Sp :=
  match pvO L a b (Lib.cut l dots).1, pvO L a b (if (Lib.cut l dots).2.2 = true then (Lib.cut l dots).2.1 else (Lib.cut l dots).1) with
  | some x, some y => if x ≤ y then some (x, y) else none
  | _, _ => none
/-- what a part of a test describes -/
def pieceO (L : Bool) (a b : Int) (l : Bs) : Option Sp :=
  if Lib.hasPrefix l [60, 61] = true then (pvO L a b (l.drop 2)).map fun n => (a, n)
  else if Lib.hasPrefix l [62, 61] = true then (pvO L a b (l.drop 2)).map fun n => (n, b)
  else if Lib.hasPrefix l [60] = true then (pvO L a b (l.drop 1)).map fun n => (a, n - 1)
  else if Lib.hasPrefix l [62] = true then (pvO L a b (l.drop 1)).map fun n => (n + 1, b)
  else spanO L a b l
def pieceB (L : Bool) (a b : Int) (l : Bs) : Bool := (pieceO L a b l).isSome
def pieceV (L : Bool) (a b : Int) (l : Bs) : Sp := (pieceO L a b l).getD (0, 0)

/-- a text cut at its commas -/
def splitC : Bs → List Bs
  | [] => [[]]
  | c :: t => if c = 44 then [] :: splitC t else (c :: (splitC t).headD []) :: (splitC t).tail
theorem splitC_ne (l : Bs) : splitC l ≠ [] := by
  cases l with
  | nil => simp [splitC]
  | cons c t => rw [splitC]; split <;> simp
theorem splitC_plain : ∀ (l : Bs), (∀ c ∈ l, c ≠ 44) → splitC l = [l]
  | [], _ => rfl
  | c :: t, h => by
    rw [splitC, if_neg (h c List.mem_cons_self), splitC_plain t (fun d hd => h d (List.mem_cons_of_mem _ hd))]
    rfl
theorem splitC_cut : ∀ (p r : Bs), (∀ c ∈ p, c ≠ 44) → splitC (p ++ 44 :: r) = p :: splitC r
  | [], r, _ => by
    rw [List.nil_append, splitC, if_pos rfl]
  | c :: t, r, h => by
    rw [List.cons_append, splitC, if_neg (h c List.mem_cons_self), splitC_cut t r (fun d hd => h d (List.mem_cons_of_mem _ hd))]
    rfl
theorem index_cut : ∀ (l : Bs), (Lib.indexByte l 44 = -1 ∧ ∀ c ∈ l, c ≠ 44) ∨ ∃ p r, l = p ++ 44 :: r ∧ (∀ c ∈ p, c ≠ 44) ∧ Lib.indexByte l 44 = p.length
  | [] => .inl ⟨rfl, fun c hc => by cases hc⟩
  | c :: t => by
    by_cases e : c = 44
    · subst e
      exact .inr ⟨[], t, rfl, (fun c hc => by cases hc), by simp [Lib.indexByte]⟩
    · have e' : (c == 44) = false := beq_eq_false_iff_ne.2 e
      rcases index_cut t with ⟨h1, h2⟩ | ⟨p, r, rfl, h2, h3⟩
      · refine .inl ⟨by rw [Lib.indexByte, e', h1]; rfl, fun d hd => ?_⟩
        rcases List.mem_cons.1 hd with rfl | hd
        · exact e
        · exact h2 d hd
      · refine .inr ⟨c :: p, r, rfl, fun d hd => ?_, ?_⟩
        · rcases List.mem_cons.1 hd with rfl | hd
          · exact e
          · exact h2 d hd
        · rw [Lib.indexByte, e', h3]
          have : ((p.length : Int) == -1) = false := beq_eq_false_iff_ne.2 (by omega)
          rw [this]
          simp

/-- what the parts describe together -/
def spansOf (L : Bool) (a b : Int) (ps : List Bs) : List Sp := (ps.map (pieceV L a b)).filter fun x => decide (x.1 ≤ x.2)
def partsB (L : Bool) (a b : Int) (ps : List Bs) : Bool := ps.all (pieceB L a b) && decide ((spansOf L a b ps).length ≤ 51)
def listB (L : Bool) (a b : Int) (l : Bs) : Bool := partsB L a b (splitC l) && setOfB (spansOf L a b (splitC l))
def listV (L : Bool) (a b : Int) (l : Bs) : List Sp := if listB L a b l = true then setOfV (spansOf L a b (splitC l)) else []
theorem spansOf_append (L : Bool) (a b : Int) (ps qs : List Bs) : spansOf L a b (ps ++ qs) = spansOf L a b ps ++ spansOf L a b qs := by
  unfold spansOf
  rw [List.map_append, List.filter_append]
theorem partsB_fail {L : Bool} {a b : Int} {ps : List Bs} {x : Bs} (qs : List Bs) (h : pieceB L a b x = false) : partsB L a b (ps ++ x :: qs) = false := by
  unfold partsB
  rw [List.all_append, List.all_cons, h]
  simp
theorem partsB_many {L : Bool} {a b : Int} {ps : List Bs} {x : Bs} (qs : List Bs) (h : (spansOf L a b ps).length = 51) (hx : (pieceV L a b x).1 ≤ (pieceV L a b x).2) : partsB L a b (ps ++ x :: qs) = false := by
  unfold partsB
  have : spansOf L a b (x :: qs) = pieceV L a b x :: spansOf L a b qs := by
    unfold spansOf
    rw [List.map_cons, List.filter_cons, if_pos (by simpa using hx)]
  rw [spansOf_append, this]
  simp [h]

/-- what a test's text describes -/
def notP (l : Bs) : Bs := (l.drop 4).take (l.length - 5)
def notB (l : Bs) : Bool := Lib.hasPrefix l [110, 111, 116, 40]
def closeB (l : Bs) : Bool := Lib.hasSuffix (l.drop 4) [41]
def tB (L : Bool) (a b : Int) (l : Bs) : Bool :=
  colB L a b && (decide (l = [45]) || (decide (l = []) || (if notB l = true then closeB l && (listB L a b (notP l) && minusB (colS L a b) (listV L a b (notP l))) else listB L a b l)))
def tV (L : Bool) (a b : Int) (l : Bs) : List Sp :=
  if tB L a b l = true then (if l = [45] then colS L a b else if l = [] then [] else if notB l = true then minusV (colS L a b) (listV L a b (notP l)) else listV L a b l) else []

/-- the texts -/
def spanT (L : Bool) (x : Sp) : Bs := if x.1 = x.2 then vT L x.1 else vT L x.1 ++ (dots ++ vT L x.2)
def isT (L : Bool) (a b : Int) (xs : List Sp) : Bool := colB L a b && withinB xs (colS L a b)
def fT (L : Bool) (a b : Int) (xs : List Sp) : Bs := if isT L a b xs = true then (if sameB xs (colS L a b) = true then [45] else Lib.join (xs.map (spanT L)) [44]) else []
def fC (L : Bool) (a b : Int) : Bs := if colB L a b = true then vT L a ++ (dots ++ vT L b) else []

/- ## cutting at the dots -/
theorem cut_plain {l : Bs} (h : ∀ c ∈ l, c ≠ 46) : Lib.cut l dots = (l, [], false) := by
  unfold Lib.cut
  rcases Lib.index_spec l dots with ⟨h1, _⟩ | ⟨i, h1, h2, h3, _⟩
  · rw [h1]; rfl
  · exfalso
    unfold Lib.occAt at h3
    have := List.isPrefixOf_iff_prefix.1 h3
    obtain ⟨t, ht⟩ := this
    have hm : (46 : UInt8) ∈ l.drop i := by rw [← ht]; simp [dots]
    exact h _ (List.mem_of_mem_drop hm) rfl
theorem cut_at {p r : Bs} (h : ∀ c ∈ p, c ≠ 46) : Lib.cut (p ++ (dots ++ r)) dots = (p, r, true) := by
  have hi : Lib.index (p ++ (dots ++ r)) dots = p.length := by
    refine Lib.index_first (by simp) ?_ fun j hj => ?_
    · unfold Lib.occAt
      rw [List.drop_left]
      exact List.isPrefixOf_iff_prefix.2 ⟨r, rfl⟩
    · unfold Lib.occAt
      rw [Bool.eq_false_iff]
      intro hp
      obtain ⟨t, ht⟩ := List.isPrefixOf_iff_prefix.1 hp
      have h0 : ((p ++ (dots ++ r)).drop j)[0]? = some 46 := by rw [← ht]; rfl
      rw [List.getElem?_drop, Nat.add_zero, List.getElem?_append_left hj, List.getElem?_eq_getElem hj] at h0
      injection h0 with h0
      exact h _ (List.getElem_mem hj) h0
  unfold Lib.cut
  rw [hi, if_pos (by omega)]
  simp [dots]
theorem okByte_ne {c : UInt8} (h : okByte c) : c ≠ 46 ∧ c ≠ 44 ∧ c ≠ 60 ∧ c ≠ 62 ∧ c ≠ 110 ∧ c ≠ 41 := by
  unfold okByte at h
  refine ⟨?_, ?_, ?_, ?_, ?_, ?_⟩ <;> (rintro rfl; revert h; decide)
/-- a text of which the first cut is a value's text -/
theorem cut_shape (l : Bs) : ((Lib.cut l dots).2.2 = false ∧ (Lib.cut l dots).1 = l) ∨ ((Lib.cut l dots).2.2 = true ∧ l = (Lib.cut l dots).1 ++ (dots ++ (Lib.cut l dots).2.1)) := by
  unfold Lib.cut
  rcases Lib.index_spec l dots with ⟨h1, _⟩ | ⟨i, h1, h2, h3, _⟩
  · rw [h1]; exact .inl ⟨rfl, rfl⟩
  · rw [h1, if_pos (by omega)]
    right
    refine ⟨rfl, ?_⟩
    unfold Lib.occAt at h3
    obtain ⟨t, ht⟩ := List.isPrefixOf_iff_prefix.1 h3
    have e1 : l = l.take i ++ l.drop i := (List.take_append_drop i l).symm
    have e2 : l.drop (i + 2) = t := by
      rw [← List.drop_drop, ← ht]; rfl
    simp only [Int.toNat_natCast]
    rw [show dots.length = 2 from rfl, e2, ht]
    exact e1

theorem spanO_one {L : Bool} {a b n : Int} (h : inB L a b n = true) : spanO L a b (vT L n) = some (n, n) := by
  unfold spanO
  have hc := cut_plain (l := vT L n) fun c hc => (okByte_ne ((vT_bytes h).2.2.2 c hc)).1
  have hp := pvO_some (L := L) (a := a) (b := b) (l := vT L n) ⟨h, rfl⟩
  rw [hc]
  simp [hp]
theorem spanO_two {L : Bool} {a b m n : Int} (hm : inB L a b m = true) (hn : inB L a b n = true) (h : m ≤ n) : spanO L a b (vT L m ++ (dots ++ vT L n)) = some (m, n) := by
  unfold spanO
  have hc := cut_at (p := vT L m) (r := vT L n) fun c hc => (okByte_ne ((vT_bytes hm).2.2.2 c hc)).1
  have hp := pvO_some (L := L) (a := a) (b := b) (l := vT L m) ⟨hm, rfl⟩
  have hq := pvO_some (L := L) (a := a) (b := b) (l := vT L n) ⟨hn, rfl⟩
  rw [hc]
  simp [hp, hq, h]
/-- the spans with values that parts describe lie in the column -/
theorem pieceO_in {L : Bool} {a b : Int} {l : Bs} {x : Sp} (h : pieceO L a b l = some x) : colB L a b = true ∧ a ≤ x.1 ∧ x.2 ≤ b ∧ x.1 ≤ b + 1 ∧ a - 1 ≤ x.2 := by
  have hv : ∀ {l : Bs} {n : Int}, pvO L a b l = some n → colB L a b = true ∧ a ≤ n ∧ n ≤ b := fun h => (inB_iff _ _ _ _).1 (pvO_PV h).1
  have hm : ∀ {l : Bs} {f : Int → Sp}, (pvO L a b l).map f = some x → ∃ n, pvO L a b l = some n ∧ f n = x := fun h => by
    rw [Option.map_eq_some_iff] at h
    exact h
  unfold pieceO at h
  split at h
  · obtain ⟨n, h1, rfl⟩ := hm h
    have := hv h1
    exact ⟨this.1, by dsimp only; omega, by dsimp only; omega, by dsimp only; omega, by dsimp only; omega⟩
  · split at h
    · obtain ⟨n, h1, rfl⟩ := hm h
      have := hv h1
      exact ⟨this.1, by dsimp only; omega, by dsimp only; omega, by dsimp only; omega, by dsimp only; omega⟩
    · split at h
      · obtain ⟨n, h1, rfl⟩ := hm h
        have := hv h1
        exact ⟨this.1, by dsimp only; omega, by dsimp only; omega, by dsimp only; omega, by dsimp only; omega⟩
      · split at h
        · obtain ⟨n, h1, rfl⟩ := hm h
          have := hv h1
          exact ⟨this.1, by dsimp only; omega, by dsimp only; omega, by dsimp only; omega, by dsimp only; omega⟩
        · unfold spanO at h
          split at h
          · rename_i u v h1 h2
            split at h
            · injection h with h
              subst h
              have g1 := hv h1
              have g2 := hv h2
              exact ⟨g1.1, by dsimp only; omega, by dsimp only; omega, by dsimp only; omega, by dsimp only; omega⟩
            · cases h
          · cases h
theorem pieceV_of {L : Bool} {a b : Int} {l : Bs} {x : Sp} (h : pieceO L a b l = some x) : pieceV L a b l = x ∧ pieceB L a b l = true := by
  unfold pieceV pieceB
  rw [h]
  exact ⟨rfl, rfl⟩
theorem pieceB_no {L : Bool} {a b : Int} {l : Bs} (h : pieceO L a b l = none) : pieceB L a b l = false := by
  unfold pieceB
  rw [h]
  rfl
theorem pieceV_in {L : Bool} {a b : Int} {l : Bs} (h : pieceB L a b l = true) : colB L a b = true ∧ a ≤ (pieceV L a b l).1 ∧ (pieceV L a b l).2 ≤ b ∧ (pieceV L a b l).1 ≤ b + 1 ∧ a - 1 ≤ (pieceV L a b l).2 := by
  unfold pieceB at h
  cases hp : pieceO L a b l with
  | none => rw [hp] at h; cases h
  | some x => rw [(pieceV_of hp).1]; exact pieceO_in hp
theorem pieceV_small (L : Bool) (a b : Int) (l : Bs) : -100 ≤ (pieceV L a b l).1 ∧ (pieceV L a b l).1 ≤ 100 ∧ -100 ≤ (pieceV L a b l).2 ∧ (pieceV L a b l).2 ≤ 100 := by
  cases hp : pieceO L a b l with
  | none => unfold pieceV; rw [hp]; simp
  | some x =>
    rw [(pieceV_of hp).1]
    obtain ⟨h0, h1, h2, h3, h4⟩ := pieceO_in hp
    obtain ⟨c1, c2, c3, c4⟩ := (colB_iff _ _ _).1 h0
    omega
end Sets
end Go.Proofs.YtamfmemdhldmjaaGreatDoor

namespace Go.Proofs.YtamfmemdhldmjaaGreatDoor
namespace Sets

theorem valid_one {a b : Int} (h1 : -99 ≤ a) (h2 : a ≤ b) (h3 : b ≤ 99) : validB [(a, b)] = true :=
  mk_valid (by simp) ⟨h2, (fun y hy => by cases hy), trivial⟩ fun x hx => by rw [List.mem_singleton.1 hx]; exact ⟨h1, h3⟩
theorem valid_nil : validB [] = true := mk_valid (by simp) trivial fun x hx => by cases hx
theorem colS_valid (L : Bool) (a b : Int) : validB (colS L a b) = true := by
  cases h : colB L a b with
  | true =>
    obtain ⟨c1, c2, c3, c4⟩ := (colB_iff _ _ _).1 h
    rw [colS_yes h]
    exact valid_one c1 c2 c3
  | false => rw [colS_no h]; exact valid_nil
theorem memS_one (a b n : Int) : memS [(a, b)] n ↔ a ≤ n ∧ n ≤ b := by
  rw [memS_cons]
  have := memS_nil n
  constructor
  · rintro (h | h)
    · exact h
    · exact absurd h this
  · exact .inl
theorem norm_mem {xs : List Sp} (h : Norm xs) {x : Sp} (hx : x ∈ xs) : memS xs x.1 ∧ memS xs x.2 :=
  ⟨⟨x, hx, Int.le_refl _, h.le x hx⟩, ⟨x, hx, h.le x hx, Int.le_refl _⟩⟩
/-- what a test is -/
theorem isT_iff (L : Bool) (a b : Int) (xs : List Sp) : isT L a b xs = true ↔ colB L a b = true ∧ validB xs = true ∧ ∀ n, memS xs n → a ≤ n ∧ n ≤ b := by
  unfold isT
  rw [Bool.and_eq_true]
  constructor
  · rintro ⟨h1, h2⟩
    have hv : validB xs = true := by
      cases h : validB xs with
      | true => rfl
      | false => rw [within_noL h] at h2; cases h2
    refine ⟨h1, hv, fun n hn => ?_⟩
    have := (within_iff hv (colS_valid L a b)).1 h2 n hn
    rw [colS_yes h1] at this
    exact (memS_one a b n).1 this
  · rintro ⟨h1, h2, h3⟩
    refine ⟨h1, (within_iff h2 (colS_valid L a b)).2 fun n hn => ?_⟩
    rw [colS_yes h1]
    exact (memS_one a b n).2 (h3 n hn)
theorem isT_spans {L : Bool} {a b : Int} {xs : List Sp} (h : isT L a b xs = true) : ∀ x ∈ xs, inB L a b x.1 = true ∧ inB L a b x.2 = true ∧ x.1 ≤ x.2 := by
  obtain ⟨h1, h2, h3⟩ := (isT_iff _ _ _ _).1 h
  obtain ⟨hn, _⟩ := norm_of_valid h2
  intro x hx
  obtain ⟨m1, m2⟩ := norm_mem hn hx
  exact ⟨(inB_iff _ _ _ _).2 ⟨h1, h3 _ m1⟩, (inB_iff _ _ _ _).2 ⟨h1, h3 _ m2⟩, hn.le x hx⟩

/-- a set of the numbers of a set -/
theorem setOf_self {xs : List Sp} (h : validB xs = true) : setOfB xs = true ∧ setOfV xs = xs := by
  obtain ⟨h12, hn, hw⟩ := (valid_iff xs).1 ((validB_iff xs).1 h)
  have he : fromF (flag xs) 199 = xs := eq_fromF xs hn hw _ fun j _ => flag_iff xs j
  have hl : LimAll xs := fun j hj => by
    have hm : xs.getD j (0, 0) ∈ xs := by
      rw [List.getD_eq_getElem?_getD, List.getElem?_eq_getElem hj]; exact List.getElem_mem hj
    have h1 := hw _ hm
    have h2 := hn.le _ hm
    refine (limB_iff _ _).2 ?_
    unfold YtamfmemdhldmjaaGreatDoor.lo YtamfmemdhldmjaaGreatDoor.hi
    omega
  have hB : setOfB xs = true := by
    rw [setOf_in (by omega) hl, he]
    exact decide_eq_true h12
  exact ⟨hB, by rw [setOfV_yes hB, he]⟩
/-- the set of the numbers of spans within the limits -/
theorem setOf_facts {xs : List Sp} (h : setOfB xs = true) : validB (setOfV xs) = true ∧ ∀ n, memS (setOfV xs) n ↔ memS xs n ∧ -99 ≤ n ∧ n ≤ 99 := by
  rw [setOfV_yes h]
  obtain ⟨s1, s2, s3⟩ := fromF_spec (flag xs) 199
  have h12 : (fromF (flag xs) 199).length ≤ 12 := by
    unfold setOfB at h
    rw [Bool.and_eq_true] at h
    exact of_decide_eq_true h.2
  refine ⟨mk_valid h12 s1 fun x hx => by have := s2 x hx; omega, fun n => ?_⟩
  rw [s3 n]
  constructor
  · rintro ⟨j, hj, hf, rfl⟩
    exact ⟨(flag_iff xs j).1 hf, by omega, by omega⟩
  · rintro ⟨h1, h2, h3⟩
    refine ⟨(n + 99).toNat, by omega, (flag_iff xs _).2 ?_, by omega⟩
    rw [show (((n + 99).toNat : Nat) : Int) - 99 = n by omega]
    exact h1
theorem setOf_short {xs : List Sp} (h1 : xs.length ≤ 100) (h2 : LimAll xs) (h3 : (fromF (flag xs) 199).length ≤ 12) : setOfB xs = true := by
  rw [setOf_in h1 h2]
  exact decide_eq_true h3

/-- the bytes of a span's text -/
theorem spanT_bytes {L : Bool} {a b : Int} {x : Sp} (h1 : inB L a b x.1 = true) (h2 : inB L a b x.2 = true) :
    (∃ c t, spanT L x = c :: t ∧ okByte c) ∧ spanT L x ≠ [45] ∧ ∀ c ∈ spanT L x, okByte c ∨ c = 46 := by
  obtain ⟨v1, v2, v3, v4⟩ := vT_bytes h1
  obtain ⟨u1, u2, u3, u4⟩ := vT_bytes h2
  obtain ⟨c, t, hct⟩ : ∃ c t, vT L x.1 = c :: t := by
    cases h : vT L x.1 with
    | nil => exact absurd h v1
    | cons c t => exact ⟨c, t, rfl⟩
  have hc : okByte c := v4 c (by rw [hct]; exact List.mem_cons_self)
  unfold spanT
  split
  · exact ⟨⟨c, t, hct, hc⟩, v2, fun d hd => .inl (v4 d hd)⟩
  · refine ⟨⟨c, t ++ (dots ++ vT L x.2), by rw [hct]; rfl, hc⟩, ?_, fun d hd => ?_⟩
    · intro e
      have := congrArg List.length e
      rw [hct] at this
      simp [dots] at this
    · rcases List.mem_append.1 hd with hd | hd
      · exact .inl (v4 d hd)
      · rcases List.mem_append.1 hd with hd | hd
        · right
          simpa [dots] using hd
        · exact .inl (u4 d hd)
theorem prefix_cons (p c : UInt8) (t : Bs) : Lib.hasPrefix (c :: t) [p] = (p == c) := by
  unfold Lib.hasPrefix
  simp [List.isPrefixOf]
theorem prefix_cons2 (p q c : UInt8) (t : Bs) (h : p ≠ c) : Lib.hasPrefix (c :: t) (p :: q :: []) = false := by
  unfold Lib.hasPrefix
  simp [List.isPrefixOf, h]
/-- a text that begins as a value does -/
theorem piece_span {L : Bool} {a b : Int} {c : UInt8} {t : Bs} (h : okByte c) : pieceO L a b (c :: t) = spanO L a b (c :: t) := by
  obtain ⟨n1, n2, n3, n4, n5, n6⟩ := okByte_ne h
  unfold pieceO
  rw [prefix_cons2 _ _ _ _ (Ne.symm n3), prefix_cons2 _ _ _ _ (Ne.symm n4), prefix_cons, prefix_cons, beq_eq_false_iff_ne.2 (Ne.symm n3), beq_eq_false_iff_ne.2 (Ne.symm n4)]
  simp
theorem piece_text {L : Bool} {a b : Int} {x : Sp} (h1 : inB L a b x.1 = true) (h2 : inB L a b x.2 = true) (h3 : x.1 ≤ x.2) : pieceO L a b (spanT L x) = some x := by
  obtain ⟨⟨c, t, hct, hc⟩, _, _⟩ := spanT_bytes h1 h2
  rw [hct, piece_span hc, ← hct]
  unfold spanT
  split
  · rename_i he
    rw [spanO_one h1]
    exact congrArg some (Prod.ext rfl he)
  · exact spanO_two h1 h2 h3
theorem join_cons2 (x y : Bs) (r : List Bs) : Lib.join (x :: y :: r) [44] = x ++ 44 :: Lib.join (y :: r) [44] := by
  rw [Lib.join_cons, Lib.join_cons]
  simp [Lib.joinTail]
theorem split_join : ∀ (ps : List Bs), ps ≠ [] → (∀ p ∈ ps, ∀ c ∈ p, c ≠ 44) → splitC (Lib.join ps [44]) = ps
  | [], h, _ => absurd rfl h
  | [p], _, h => by
    rw [Lib.join_one]
    exact splitC_plain p (h p List.mem_cons_self)
  | p :: q :: r, _, h => by
    rw [join_cons2, splitC_cut p _ (h p List.mem_cons_self), split_join (q :: r) (by simp) fun s hs => h s (List.mem_cons_of_mem _ hs)]
theorem join_head (x : Bs) (r : List Bs) : ∃ t, Lib.join (x :: r) [44] = x ++ t := ⟨_, Lib.join_cons x r [44]⟩

theorem spans_text {L : Bool} {a b : Int} {xs : List Sp} (h : ∀ x ∈ xs, inB L a b x.1 = true ∧ inB L a b x.2 = true ∧ x.1 ≤ x.2) : (xs.map (spanT L)).all (pieceB L a b) = true ∧ spansOf L a b (xs.map (spanT L)) = xs := by
  induction xs with
  | nil => exact ⟨rfl, rfl⟩
  | cons x xs ih =>
    obtain ⟨i1, i2⟩ := ih fun y hy => h y (List.mem_cons_of_mem _ hy)
    obtain ⟨h1, h2, h3⟩ := h x List.mem_cons_self
    obtain ⟨p1, p2⟩ := pieceV_of (piece_text h1 h2 h3)
    constructor
    · rw [List.map_cons, List.all_cons, p2, i1]; rfl
    · unfold spansOf at i2 ⊢
      rw [List.map_cons, List.map_cons, List.filter_cons, p1, if_pos (by simpa using h3), i2]
theorem list_text {L : Bool} {a b : Int} {xs : List Sp} (h : isT L a b xs = true) (hne : xs ≠ []) : listB L a b (Lib.join (xs.map (spanT L)) [44]) = true ∧ listV L a b (Lib.join (xs.map (spanT L)) [44]) = xs := by
  have hs := isT_spans h
  obtain ⟨h1, h2, h3⟩ := (isT_iff _ _ _ _).1 h
  have hsp : splitC (Lib.join (xs.map (spanT L)) [44]) = xs.map (spanT L) := split_join _ (by simpa using hne) fun p hp c hc => by
    obtain ⟨x, hx, rfl⟩ := List.mem_map.1 hp
    obtain ⟨g1, g2, g3⟩ := hs x hx
    rcases (spanT_bytes g1 g2).2.2 c hc with k | k
    · exact (okByte_ne k).2.1
    · rw [k]; decide
  obtain ⟨s1, s2⟩ := spans_text hs
  obtain ⟨t1, t2⟩ := setOf_self h2
  have h12 := ((validB_iff xs).1 h2).1
  have hB : listB L a b (Lib.join (xs.map (spanT L)) [44]) = true := by
    unfold listB partsB
    rw [hsp, s1, s2, t1]
    simp; omega
  exact ⟨hB, by unfold listV; rw [if_pos hB, hsp, s2, t2]⟩

/-- THE TEXT OF A TEST DESCRIBES IT. -/
theorem test_text {L : Bool} {a b : Int} {xs : List Sp} (h : isT L a b xs = true) : tB L a b (fT L a b xs) = true ∧ tV L a b (fT L a b xs) = xs := by
  have hs := isT_spans h
  obtain ⟨h1, h2, h3⟩ := (isT_iff _ _ _ _).1 h
  by_cases he : sameB xs (colS L a b) = true
  · have hf : fT L a b xs = [45] := by unfold fT; rw [if_pos h, if_pos he]
    have hB : tB L a b [45] = true := by unfold tB; rw [h1]; simp
    rw [hf]
    exact ⟨hB, by unfold tV; rw [if_pos hB, if_pos rfl, (same_iff _ _).1 he]⟩
  · have hf : fT L a b xs = Lib.join (xs.map (spanT L)) [44] := by unfold fT; rw [if_pos h, if_neg he]
    by_cases hne : xs = []
    · subst hne
      have hf0 : fT L a b [] = [] := hf
      have hB : tB L a b [] = true := by unfold tB; rw [h1]; simp
      rw [hf0]
      exact ⟨hB, by unfold tV; rw [if_pos hB, if_neg (by simp), if_pos rfl]⟩
    · obtain ⟨l1, l2⟩ := list_text h hne
      obtain ⟨x, r, rfl⟩ : ∃ x r, xs = x :: r := by
        cases xs with
        | nil => exact absurd rfl hne
        | cons x r => exact ⟨x, r, rfl⟩
      obtain ⟨g1, g2, g3⟩ := hs x List.mem_cons_self
      obtain ⟨⟨c, t, hct, hc⟩, b2, b3⟩ := spanT_bytes g1 g2
      obtain ⟨u, hu⟩ := join_head (spanT L x) (r.map (spanT L))
      rw [List.map_cons] at hf l1 l2
      rw [hf]
      have n0 : Lib.join (spanT L x :: r.map (spanT L)) [44] ≠ [] := by rw [hu, hct]; simp
      have n1 : Lib.join (spanT L x :: r.map (spanT L)) [44] ≠ [45] := by
        rw [hu]
        intro e
        have hl := congrArg List.length e
        rw [hct] at hl
        obtain ⟨ht, hu0⟩ : t = [] ∧ u = [] := by simpa using hl
        rw [hu0, List.append_nil] at e
        exact b2 e
      have n2 : notB (Lib.join (spanT L x :: r.map (spanT L)) [44]) = false := by
        rw [hu, hct]
        unfold notB Lib.hasPrefix
        have := (okByte_ne hc).2.2.2.2.1
        simp [List.isPrefixOf, Ne.symm this]
      have hB : tB L a b (Lib.join (spanT L x :: r.map (spanT L)) [44]) = true := by
        unfold tB
        rw [h1, n2, l1]
        simp
      exact ⟨hB, by unfold tV; rw [if_pos hB, if_neg n1, if_neg n0, n2, if_neg (by simp), l2]⟩

/- ## what a text describes is a test -/
theorem spansOf_in {L : Bool} {a b : Int} {ps : List Bs} (h : ps.all (pieceB L a b) = true) : ∀ x ∈ spansOf L a b ps, a ≤ x.1 ∧ x.1 ≤ x.2 ∧ x.2 ≤ b := by
  intro x hx
  unfold spansOf at hx
  obtain ⟨h1, h2⟩ := List.mem_filter.1 hx
  obtain ⟨p, hp, rfl⟩ := List.mem_map.1 h1
  have := pieceV_in (List.all_eq_true.1 h p hp)
  exact ⟨this.2.1, of_decide_eq_true h2, this.2.2.1⟩
theorem list_facts {L : Bool} {a b : Int} {l : Bs} (hc : colB L a b = true) (h : listB L a b l = true) : validB (listV L a b l) = true ∧ (splitC l).all (pieceB L a b) = true ∧ ∀ n, memS (listV L a b l) n ↔ memS (spansOf L a b (splitC l)) n := by
  have hV : listV L a b l = setOfV (spansOf L a b (splitC l)) := by unfold listV; rw [if_pos h]
  unfold listB partsB at h
  rw [Bool.and_eq_true, Bool.and_eq_true] at h
  obtain ⟨⟨h1, _⟩, h2⟩ := h
  obtain ⟨f1, f2⟩ := setOf_facts h2
  rw [hV]
  refine ⟨f1, h1, fun n => (f2 n).trans ⟨fun h => h.1, fun h => ⟨h, ?_⟩⟩⟩
  obtain ⟨x, hx, k1, k2⟩ := h
  have := spansOf_in h1 x hx
  obtain ⟨c1, c2, c3, c4⟩ := (colB_iff _ _ _).1 hc
  omega
theorem list_isT {L : Bool} {a b : Int} {l : Bs} (hc : colB L a b = true) (h : listB L a b l = true) : isT L a b (listV L a b l) = true := by
  obtain ⟨f1, f2, f3⟩ := list_facts hc h
  refine (isT_iff _ _ _ _).2 ⟨hc, f1, fun n hn => ?_⟩
  obtain ⟨x, hx, k1, k2⟩ := (f3 n).1 hn
  have := spansOf_in f2 x hx
  omega
theorem col_isT {L : Bool} {a b : Int} (hc : colB L a b = true) : isT L a b (colS L a b) = true :=
  (isT_iff _ _ _ _).2 ⟨hc, colS_valid L a b, fun n hn => by rw [colS_yes hc] at hn; exact (memS_one a b n).1 hn⟩
/-- WHAT A TEXT DESCRIBES IS A TEST. -/
theorem test_isT {L : Bool} {a b : Int} {l : Bs} (h : tB L a b l = true) : isT L a b (tV L a b l) = true := by
  have hB := h
  unfold tB at h
  rw [Bool.and_eq_true] at h
  obtain ⟨hc, h⟩ := h
  unfold tV
  rw [if_pos hB]
  split
  · exact col_isT hc
  · rename_i n1
    split
    · exact (isT_iff _ _ _ _).2 ⟨hc, valid_nil, fun n hn => absurd hn (memS_nil n)⟩
    · rename_i n0
      rw [decide_eq_false n1, decide_eq_false n0, Bool.false_or, Bool.false_or] at h
      split
      · rename_i hn
        rw [if_pos hn, Bool.and_eq_true, Bool.and_eq_true] at h
        obtain ⟨m1, m2, m3, m4⟩ := minus_facts h.2.2
        refine (isT_iff _ _ _ _).2 ⟨hc, m3, fun n hn => ?_⟩
        have := ((m4 n).1 hn).1
        rw [colS_yes hc] at this
        exact (memS_one a b n).1 this
      · rename_i hn
        rw [if_neg hn] at h
        exact list_isT hc h
end Sets
end Go.Proofs.YtamfmemdhldmjaaGreatDoor

namespace Go.Proofs.YtamfmemdhldmjaaGreatDoor
namespace Sets

def dvn (p : Bs) : Int := p.foldl (fun n c => n * 10 + ((c.toNat : Int) - 48)) 0
def lead (p : Bs) : Nat := ((p.take 3).takeWhile isDig).length
def negN (l : Bs) : Nat := if negB l = true then 1 else 0
theorem digs_drop (l : Bs) : digsOf l = l.drop (negN l) := by
  unfold digsOf negN
  split <;> rfl
def numV (l : Bs) : Int := if negB l = true then -dvn ((digsOf l).take (lead (digsOf l))) else dvn ((digsOf l).take (lead (digsOf l)))
def numK (l : Bs) : Nat := negN l + lead (digsOf l)
/-- What the model's reader of numbers answers: the number at the beginning of a text, and how long it is. -/
def numP (l : Bs) : Int × Nat := if lead (digsOf l) = 0 then (0, 0) else if Lib.itoa (numV l) = l.take (numK l) then (numV l, numK l) else (0, 0)
def letP : Bs → Int × Nat
  | [] => (0, 0)
  | c :: _ => if isLet c = true then ((c.toNat : Int) - 65, 1) else (0, 0)
def rawP (L : Bool) (l : Bs) : Int × Nat := if L = true then letP l else numP l
/-- What the model's reader of values answers. -/
def valP (L : Bool) (a b : Int) (l : Bs) : Int × Nat := if (rawP L l).2 = 0 ∨ (rawP L l).1 < a ∨ b < (rawP L l).1 then (0, 0) else rawP L l

theorem dvn_snoc (p : Bs) (c : UInt8) : dvn (p ++ [c]) = dvn p * 10 + ((c.toNat : Int) - 48) := by
  unfold dvn
  rw [List.foldl_append]
  rfl
theorem lead_le (p : Bs) : lead p ≤ 3 ∧ lead p ≤ p.length := by
  unfold lead
  have h := (List.takeWhile_sublist (p := isDig) (l := p.take 3)).length_le
  rw [List.length_take] at h
  omega
theorem lead_eq {p : Bs} {k : Nat} (h3 : k ≤ 3) (hk : k ≤ p.length) (hd : ∀ j (hj : j < k), isDig (p[j]'(by omega)) = true) (he : k = 3 ∨ k = p.length ∨ ∃ h : k < p.length, isDig p[k] = false) : lead p = k := by
  have e1 : p = p.take k ++ p.drop k := (List.take_append_drop k p).symm
  have e2 : p.take 3 = p.take k ++ (p.drop k).take (3 - k) := by
    conv => lhs; rw [e1]
    rw [List.take_append, List.take_of_length_le (by rw [List.length_take]; omega), List.length_take]
    congr 2
    omega
  have e3 : ((p.drop k).take (3 - k)).takeWhile isDig = [] := by
    rcases he with rfl | rfl | ⟨h, hn⟩
    · simp
    · simp
    · rw [List.drop_eq_getElem_cons h]
      cases hm : 3 - k with
      | zero => rfl
      | succ m => rw [List.take_succ_cons, List.takeWhile_cons, hn]; rfl
  unfold lead
  rw [e2, List.takeWhile_append_of_pos, e3, List.append_nil, List.length_take]
  · omega
  · intro c hc
    obtain ⟨j, hj, rfl⟩ := List.getElem_of_mem hc
    rw [List.length_take] at hj
    rw [List.getElem_take]
    exact hd j (by omega)

theorem dec2_facts : ∀ i : Fin 100, dvn (dec2 i.val) = (i.val : Int) ∧ (dec2 i.val).all isDig = true ∧ 1 ≤ (dec2 i.val).length ∧ (dec2 i.val).length ≤ 2 := by decide +kernel
/-- a text that doesn't begin with a digit -/
def noDig (t : Bs) : Prop := t = [] ∨ ∃ c r, t = c :: r ∧ isDig c = false
theorem lead_dec {i : Nat} (hi : i < 100) {t : Bs} (ht : noDig t) : lead (dec2 i ++ t) = (dec2 i).length ∧ dvn ((dec2 i ++ t).take (dec2 i).length) = (i : Int) := by
  obtain ⟨f1, f2, f3, f4⟩ := dec2_facts ⟨i, hi⟩
  simp only at f1 f2 f3 f4
  refine ⟨lead_eq (by omega) (by simp) (fun j hj => ?_) ?_, by rw [List.take_left]; exact f1⟩
  · rw [List.getElem_append_left hj]
    exact List.all_eq_true.1 f2 _ (List.getElem_mem hj)
  · rcases ht with rfl | ⟨c, r, rfl, hc⟩
    · exact .inr (.inl (by simp))
    · refine .inr (.inr ⟨by simp, ?_⟩)
      rw [List.getElem_append_right (Nat.le_refl _)]
      simpa using hc
theorem dec2_head (i : Nat) (hi : i < 100) : ∃ c r, dec2 i = c :: r ∧ isDig c = true := by
  obtain ⟨f1, f2, f3, f4⟩ := dec2_facts ⟨i, hi⟩
  simp only at f1 f2 f3 f4
  cases h : dec2 i with
  | nil => rw [h] at f3; simp at f3
  | cons c r =>
    rw [h, List.all_cons, Bool.and_eq_true] at f2
    exact ⟨c, r, rfl, f2.1⟩
theorem negB_cons (c : UInt8) (t : Bs) : negB (c :: t) = (45 == c) := prefix_cons 45 c t
theorem numP_text {n : Int} (h1 : -99 ≤ n) (h2 : n ≤ 99) {t : Bs} (ht : noDig t) : numP (decT n ++ t) = (n, (decT n).length) := by
  by_cases hn : n < 0
  · have hd : decT n = 45 :: dec2 n.natAbs := by unfold decT; rw [if_pos hn]
    have hneg : negB (decT n ++ t) = true := by rw [hd]; exact negB_cons _ _
    have hdg : digsOf (decT n ++ t) = dec2 n.natAbs ++ t := by unfold digsOf; rw [if_pos hneg, hd]; rfl
    obtain ⟨l1, l2⟩ := lead_dec (i := n.natAbs) (by omega) ht
    have hne := dec2_facts ⟨n.natAbs, by omega⟩
    simp only at hne
    have hv : numV (decT n ++ t) = n := by unfold numV; rw [if_pos hneg, hdg, l1, l2]; omega
    have hk : numK (decT n ++ t) = (decT n).length := by unfold numK negN; rw [if_pos hneg, hdg, l1, hd]; simp; omega
    unfold numP
    rw [hdg, l1, if_neg (by omega), hv, hk, List.take_left, decT_eq h1 h2, if_pos rfl]
  · have hd : decT n = dec2 n.toNat := by unfold decT; rw [if_neg hn]
    obtain ⟨c, r, hc, hcd⟩ := dec2_head n.toNat (by omega)
    have hneg : negB (decT n ++ t) = false := by
      rw [hd, hc, List.cons_append, negB_cons]
      have := (isDig_iff c).1 hcd
      refine beq_eq_false_iff_ne.2 ?_
      rintro rfl
      revert this
      decide
    have hdg : digsOf (decT n ++ t) = dec2 n.toNat ++ t := by unfold digsOf; rw [hneg, hd]; rfl
    obtain ⟨l1, l2⟩ := lead_dec (i := n.toNat) (by omega) ht
    have hne := dec2_facts ⟨n.toNat, by omega⟩
    simp only at hne
    have hv : numV (decT n ++ t) = n := by unfold numV; rw [hneg, if_neg (by simp), hdg, l1, l2]; omega
    have hk : numK (decT n ++ t) = (decT n).length := by unfold numK negN; rw [hneg, if_neg (by simp), hdg, l1, hd]; omega
    unfold numP
    rw [hdg, l1, if_neg (by omega), hv, hk, List.take_left, decT_eq h1 h2, if_pos rfl]
theorem numP_pos {l : Bs} (h : (numP l).2 ≠ 0) : Lib.itoa (numP l).1 = l.take (numP l).2 ∧ (numP l).2 ≤ l.length := by
  unfold numP at h ⊢
  split at h
  · exact absurd rfl h
  · rename_i h0
    rw [if_neg h0]
    split at h
    · rename_i h1
      rw [if_pos h1]
      refine ⟨h1, ?_⟩
      have h2 := (lead_le (digsOf l)).2
      rw [digs_drop, List.length_drop] at h2
      show negN l + lead (digsOf l) ≤ l.length
      rw [digs_drop] at h0 ⊢
      omega
    · exact absurd rfl h

/-- a value at the beginning of a text -/
theorem valP_pos {L : Bool} {a b : Int} {l : Bs} (hc : colB L a b = true) (h : (valP L a b l).2 ≠ 0) :
    inB L a b (valP L a b l).1 = true ∧ l.take (valP L a b l).2 = vT L (valP L a b l).1 ∧ (valP L a b l).2 ≤ l.length ∧ valP L a b l = rawP L l := by
  obtain ⟨c1, c2, c3, c4⟩ := (colB_iff _ _ _).1 hc
  unfold valP at h ⊢
  split at h
  · exact absurd rfl h
  · rename_i h0
    rw [if_neg h0]
    have hi : inB L a b (rawP L l).1 = true := (inB_iff _ _ _ _).2 ⟨hc, by omega, by omega⟩
    refine ⟨hi, ?_, ?_, rfl⟩
    · cases L with
      | false =>
        obtain ⟨n1, n2⟩ := numP_pos (l := l) h
        show l.take (numP l).2 = decT (numP l).1
        have : (rawP false l).1 = (numP l).1 := rfl
        rw [← n1, decT_eq (by omega) (by omega)]
      | true =>
        cases l with
        | nil => exact absurd rfl h
        | cons c t =>
          show (c :: t).take (letP (c :: t)).2 = vT true (letP (c :: t)).1
          have h' : (letP (c :: t)).2 ≠ 0 := h
          rw [letP] at h' ⊢
          split at h'
          · rename_i hl
            rw [if_pos hl, vT_let]
            have := (isLet_iff c).1 hl
            show [c] = [UInt8.ofNat (65 + ((c.toNat : Int) - 65).toNat)]
            rw [show 65 + ((c.toNat : Int) - 65).toNat = c.toNat by omega]
            simp
          · exact absurd rfl h'
    · cases L with
      | false => exact (numP_pos (l := l) h).2
      | true =>
        cases l with
        | nil => exact absurd rfl h
        | cons c t =>
          show (letP (c :: t)).2 ≤ _
          rw [letP]
          split <;> simp
theorem valP_text {L : Bool} {a b n : Int} (h : inB L a b n = true) {t : Bs} (ht : noDig t) : valP L a b (vT L n ++ t) = (n, (vT L n).length) := by
  obtain ⟨hc, h1, h2⟩ := (inB_iff _ _ _ _).1 h
  obtain ⟨c1, c2, c3, c4⟩ := (colB_iff _ _ _).1 hc
  have hr : rawP L (vT L n ++ t) = (n, (vT L n).length) := by
    cases L with
    | false => exact numP_text (by omega) (by omega) ht
    | true =>
      have := c4 rfl
      have hl := let_bytes ⟨n.toNat, by omega⟩
      simp only at hl
      show letP (UInt8.ofNat (65 + n.toNat) :: ([] ++ t)) = _
      rw [letP, if_pos ((isLet_iff _).2 (by omega)), hl]
      simp [vT_let]; omega
  unfold valP
  rw [hr]
  have := (vT_bytes h).1
  rw [if_neg]
  simp only [List.length_eq_zero_iff]
  rintro (k | k | k)
  · exact this k
  · omega
  · omega
theorem valP_small {L : Bool} {a b : Int} {l : Bs} (hc : colB L a b = true) : -99 ≤ (valP L a b l).1 ∧ (valP L a b l).1 ≤ 99 := by
  by_cases h : (valP L a b l).2 = 0
  · unfold valP at h ⊢
    split
    · simp
    · rename_i h0
      rw [if_neg h0] at h
      exact absurd (.inl h) h0
  · have := (inB_iff _ _ _ _).1 (valP_pos hc h).1
    have := (colB_iff _ _ _).1 hc
    omega

/-- the model's ParseValue -/
theorem specPV_yes {L : Bool} {a b : Int} {l : Bs} (hc : colB L a b = true) (h : (valP L a b l).2 ≠ 0) (hl : (valP L a b l).2 = l.length) : pvN L a b l = (valP L a b l).1 ∧ pvB L a b l = true := by
  obtain ⟨h1, h2, h3, _⟩ := valP_pos hc h
  rw [hl, List.take_length] at h2
  have := pvO_some (L := L) (a := a) (b := b) (l := l) ⟨h1, h2.symm⟩
  unfold pvN pvB
  rw [this]
  exact ⟨rfl, rfl⟩
theorem specPV_no {L : Bool} {a b : Int} {l : Bs} (h : (valP L a b l).2 = 0 ∨ (valP L a b l).2 ≠ l.length) : pvN L a b l = 0 ∧ pvB L a b l = false := by
  have : pvO L a b l = none := pvO_no fun n hn => by
    have e := valP_text hn.1 (t := []) (.inl rfl)
    have hne := (vT_bytes hn.1).1
    rw [List.append_nil, hn.2] at e
    rw [hn.2] at hne
    rw [e] at h
    rcases h with h | h
    · exact hne (List.eq_nil_of_length_eq_zero h)
    · exact h rfl
  unfold pvN pvB
  rw [this]
  exact ⟨rfl, rfl⟩
theorem pv_nocol {L : Bool} {a b : Int} {l : Bs} (hc : colB L a b = false) : pvN L a b l = 0 ∧ pvB L a b l = false := by
  have : pvO L a b l = none := pvO_no fun n hn => by
    have := ((inB_iff _ _ _ _).1 hn.1).1
    rw [hc] at this
    cases this
  unfold pvN pvB
  rw [this]
  exact ⟨rfl, rfl⟩
end Sets
end Go.Proofs.YtamfmemdhldmjaaGreatDoor

namespace Go.Proofs.YtamfmemdhldmjaaGreatDoor
namespace Sets

theorem fC_yes {L : Bool} {a b : Int} (h : colB L a b = true) : fC L a b = vT L a ++ (dots ++ vT L b) := by unfold fC; rw [if_pos h]
theorem fC_no {L : Bool} {a b : Int} (h : colB L a b = false) : fC L a b = [] := by unfold fC; rw [h]; rfl
theorem in_lo {L : Bool} {a b : Int} (h : colB L a b = true) : inB L a b a = true := (inB_iff _ _ _ _).2 ⟨h, Int.le_refl _, ((colB_iff _ _ _).1 h).2.1⟩
theorem in_hi {L : Bool} {a b : Int} (h : colB L a b = true) : inB L a b b = true := (inB_iff _ _ _ _).2 ⟨h, ((colB_iff _ _ _).1 h).2.1, Int.le_refl _⟩

/-- what a text of a column of one kind describes -/
def cO (L : Bool) (l : Bs) : Option (Int × Int) :=
  if (rdO L (Lib.cut l dots).1).2 = true ∧ (rdO L (Lib.cut l dots).2.1).2 = true ∧ fC L (rdO L (Lib.cut l dots).1).1 (rdO L (Lib.cut l dots).2.1).1 = l
  then some ((rdO L (Lib.cut l dots).1).1, (rdO L (Lib.cut l dots).2.1).1) else none
theorem cut_nil : Lib.cut [] dots = ([], [], false) := cut_plain fun c hc => by cases hc
theorem cO_iff (L : Bool) (l : Bs) (a b : Int) : cO L l = some (a, b) ↔ colB L a b = true ∧ fC L a b = l := by
  constructor
  · intro h
    unfold cO at h
    split at h
    · rename_i hc
      obtain ⟨h1, h2, h3⟩ := hc
      injection h with h
      injection h with ha hb
      rw [ha, hb] at h3
      refine ⟨?_, h3⟩
      cases hc : colB L a b with
      | true => rfl
      | false =>
        exfalso
        rw [fC_no hc] at h3
        subst h3
        rw [cut_nil] at h1
        exact rdO_ne h1 rfl
    · cases h
  · rintro ⟨hc, rfl⟩
    have hx := in_lo hc
    have hy := in_hi hc
    have hcut := cut_at (p := vT L a) (r := vT L b) fun c hc => (okByte_ne ((vT_bytes hx).2.2.2 c hc)).1
    unfold cO
    rw [fC_yes hc, hcut]
    simp only [rdO_vT hx, rdO_vT hy]
    rw [if_pos ⟨trivial, trivial, fC_yes hc⟩]

/-- what ParseColumn answers -/
def pcO (l : Bs) : Option (Bool × Int × Int) :=
  match cO false l with
  | some p => some (false, p)
  | none => (cO true l).map fun p => (true, p)
def pcV (l : Bs) : Bool × Int × Int := (pcO l).getD (false, 0, 0)
def pcB (l : Bs) : Bool := (pcO l).isSome
theorem pc_num {l : Bs} {a b : Int} (h : cO false l = some (a, b)) : pcV l = (false, a, b) ∧ pcB l = true := by
  unfold pcV pcB pcO
  rw [h]
  exact ⟨rfl, rfl⟩
theorem pc_let {l : Bs} {a b : Int} (h0 : cO false l = none) (h : cO true l = some (a, b)) : pcV l = (true, a, b) ∧ pcB l = true := by
  unfold pcV pcB pcO
  rw [h0, h]
  exact ⟨rfl, rfl⟩
theorem pc_none {l : Bs} (h0 : cO false l = none) (h : cO true l = none) : pcV l = (false, 0, 0) ∧ pcB l = false := by
  unfold pcV pcB pcO
  rw [h0, h]
  exact ⟨rfl, rfl⟩
theorem noDig_46 (t : Bs) : noDig (46 :: t) := .inr ⟨46, t, rfl, by decide⟩
/-- the program's reading -/
theorem cO_bad1 {L : Bool} {l : Bs} (h : (rdO L (Lib.cut l dots).1).2 = false) : cO L l = none := by
  unfold cO
  rw [if_neg]
  rintro ⟨h1, _⟩
  rw [h] at h1
  cases h1
theorem cO_bad2 {L : Bool} {l : Bs} (h : (rdO L (Lib.cut l dots).2.1).2 = false) : cO L l = none := by
  unfold cO
  rw [if_neg]
  rintro ⟨_, h1, _⟩
  rw [h] at h1
  cases h1
theorem cO_bad3 {L : Bool} {l : Bs} (h : fC L (rdO L (Lib.cut l dots).1).1 (rdO L (Lib.cut l dots).2.1).1 ≠ l) : cO L l = none := by
  unfold cO
  rw [if_neg]
  rintro ⟨_, _, h1⟩
  exact h h1
theorem cO_good {L : Bool} {l : Bs} (h1 : (rdO L (Lib.cut l dots).1).2 = true) (h2 : (rdO L (Lib.cut l dots).2.1).2 = true) (h3 : fC L (rdO L (Lib.cut l dots).1).1 (rdO L (Lib.cut l dots).2.1).1 = l) :
    cO L l = some ((rdO L (Lib.cut l dots).1).1, (rdO L (Lib.cut l dots).2.1).1) := by
  unfold cO
  rw [if_pos ⟨h1, h2, h3⟩]
/-- the model's: of the widest column of a kind -/
def kLo (L : Bool) : Int := if L = true then 0 else -99
def kHi (L : Bool) : Int := if L = true then 25 else 99
theorem kind_col (L : Bool) : colB L (kLo L) (kHi L) = true := by cases L <;> rfl
theorem kind_in {L : Bool} {a b : Int} (h : colB L a b = true) : inB L (kLo L) (kHi L) a = true ∧ inB L (kLo L) (kHi L) b = true := by
  obtain ⟨c1, c2, c3, c4⟩ := (colB_iff _ _ _).1 h
  cases L with
  | false => exact ⟨(inB_iff _ _ _ _).2 ⟨rfl, by simp [kLo]; omega, by simp [kHi]; omega⟩, (inB_iff _ _ _ _).2 ⟨rfl, by simp [kLo]; omega, by simp [kHi]; omega⟩⟩
  | true =>
    have := c4 rfl
    exact ⟨(inB_iff _ _ _ _).2 ⟨rfl, by simp [kLo]; omega, by simp [kHi]; omega⟩, (inB_iff _ _ _ _).2 ⟨rfl, by simp [kLo]; omega, by simp [kHi]; omega⟩⟩
theorem cO_shape {L : Bool} {l : Bs} {a b : Int} (h : cO L l = some (a, b)) :
    valP L (kLo L) (kHi L) l = (a, (vT L a).length) ∧ (vT L a).length ≠ 0 ∧ (vT L a).length + 2 ≤ l.length ∧ (l.drop (vT L a).length).take 2 = dots ∧ l.drop ((vT L a).length + 2) = vT L b ∧ pvN L (kLo L) (kHi L) (vT L b) = b ∧ pvB L (kLo L) (kHi L) (vT L b) = true ∧ colB L a b = true := by
  obtain ⟨hc, rfl⟩ := (cO_iff _ _ _ _).1 h
  obtain ⟨k1, k2⟩ := kind_in hc
  rw [fC_yes hc]
  have hne := (vT_bytes k1).1
  have hp := pvO_some (L := L) (a := kLo L) (b := kHi L) (l := vT L b) ⟨k2, rfl⟩
  refine ⟨valP_text k1 (noDig_46 _), fun h => hne (List.eq_nil_of_length_eq_zero h), by simp [dots], ?_, ?_, ?_, ?_, hc⟩
  · rw [List.drop_left]; rfl
  · rw [← List.drop_drop, List.drop_left]; rfl
  · unfold pvN; rw [hp]; rfl
  · unfold pvB; rw [hp]; rfl
theorem cO_none {L : Bool} {l : Bs} (h : ∀ a b, cO L l ≠ some (a, b)) : cO L l = none := by
  cases hc : cO L l with
  | none => rfl
  | some p => exact absurd hc (h p.1 p.2)
theorem cM_zero {L : Bool} {l : Bs} (h : (valP L (kLo L) (kHi L) l).2 = 0) : cO L l = none := cO_none fun a b hs => by
  obtain ⟨e, h1, _⟩ := cO_shape hs
  rw [e] at h
  exact h1 h
theorem cM_short {L : Bool} {l : Bs} (h : l.length < (valP L (kLo L) (kHi L) l).2 + 2) : cO L l = none := cO_none fun a b hs => by
  obtain ⟨e, h1, h2, _⟩ := cO_shape hs
  rw [e] at h
  exact absurd h2 (by simp only at h; omega)
theorem cM_dots {L : Bool} {l : Bs} (h : (l.drop (valP L (kLo L) (kHi L) l).2).take 2 ≠ dots) : cO L l = none := cO_none fun a b hs => by
  obtain ⟨e, h1, h2, h3, _⟩ := cO_shape hs
  rw [e] at h
  exact h h3
theorem cM_hi {L : Bool} {l : Bs} (h : pvB L (kLo L) (kHi L) (l.drop ((valP L (kLo L) (kHi L) l).2 + 2)) = false) : cO L l = none := cO_none fun a b hs => by
  obtain ⟨e, h1, h2, h3, h4, h5, h6, h7⟩ := cO_shape hs
  rw [e] at h
  simp only at h
  rw [h4, h6] at h
  cases h
theorem cM_col {L : Bool} {l : Bs} (h : colB L (valP L (kLo L) (kHi L) l).1 (pvN L (kLo L) (kHi L) (l.drop ((valP L (kLo L) (kHi L) l).2 + 2))) = false) : cO L l = none := cO_none fun a b hs => by
  obtain ⟨e, h1, h2, h3, h4, h5, h6, h7⟩ := cO_shape hs
  rw [e] at h
  simp only at h
  rw [h4, h5, h7] at h
  cases h
theorem cM_yes {L : Bool} {l : Bs} (h0 : (valP L (kLo L) (kHi L) l).2 ≠ 0) (_ : (valP L (kLo L) (kHi L) l).2 + 2 ≤ l.length) (h3 : (l.drop (valP L (kLo L) (kHi L) l).2).take 2 = dots)
    (h4 : pvB L (kLo L) (kHi L) (l.drop ((valP L (kLo L) (kHi L) l).2 + 2)) = true) (h5 : colB L (valP L (kLo L) (kHi L) l).1 (pvN L (kLo L) (kHi L) (l.drop ((valP L (kLo L) (kHi L) l).2 + 2))) = true) :
    cO L l = some ((valP L (kLo L) (kHi L) l).1, pvN L (kLo L) (kHi L) (l.drop ((valP L (kLo L) (kHi L) l).2 + 2))) := by
  obtain ⟨p1, p2, p3, p4⟩ := valP_pos (kind_col L) h0
  obtain ⟨q1, q2⟩ := pv_back h4
  rw [fV_yes q2] at q1
  generalize pvN L (kLo L) (kHi L) (l.drop ((valP L (kLo L) (kHi L) l).2 + 2)) = n at h5 q1 q2 ⊢
  refine (cO_iff _ _ _ _).2 ⟨h5, ?_⟩
  rw [fC_yes h5, ← p2, q1]
  generalize (valP L (kLo L) (kHi L) l).2 = k at h3 ⊢
  have e1 : l.drop k = dots ++ l.drop (k + 2) := by
    have := List.take_append_drop 2 (l.drop k)
    rw [h3, List.drop_drop] at this
    exact this.symm
  rw [← e1, List.take_append_drop]
/-- what the text of a column describes -/
theorem pc_back {L : Bool} {a b : Int} (h : colB L a b = true) : pcV (fC L a b) = (L, a, b) ∧ pcB (fC L a b) = true := by
  have hc := (cO_iff L (fC L a b) a b).2 ⟨h, rfl⟩
  cases L with
  | false => exact pc_num hc
  | true =>
    refine pc_let (cO_none fun x y hs => ?_) hc
    obtain ⟨h1, h2⟩ := (cO_iff _ _ _ _).1 hs
    rw [fC_yes h, fC_yes h1] at h2
    obtain ⟨c, t, e, hd⟩ : ∃ c t, vT false x = c :: t ∧ (c.toNat = 45 ∨ (48 ≤ c.toNat ∧ c.toNat ≤ 57)) := by
      obtain ⟨k1, k2⟩ := kind_in h1
      obtain ⟨r1, r2, r3⟩ := (inB_iff _ _ _ _).1 k1
      have := decT_bytes x ((mem_nums x).2 ⟨by simpa [kLo] using r2, by simpa [kHi] using r3⟩)
      rw [vT_num]
      cases hv : decT x with
      | nil => exact absurd hv this.1
      | cons c t => exact ⟨c, t, rfl, this.2.2.2 c (by rw [hv]; exact List.mem_cons_self)⟩
    rw [e, vT_let] at h2
    obtain ⟨c1, c2, c3, c4⟩ := (colB_iff _ _ _).1 h
    have := c4 rfl
    have hl := let_bytes ⟨a.toNat, by omega⟩
    simp only at hl
    injection h2 with h2 _
    rw [h2, hl] at hd
    omega
end Sets
end Go.Proofs.YtamfmemdhldmjaaGreatDoor

namespace Go.Proofs.YtamfmemdhldmjaaGreatDoor
namespace Sets

theorem joinTail_snoc (sep p : Bs) (r : List Bs) : Lib.joinTail sep (r ++ [p]) = Lib.joinTail sep r ++ (sep ++ p) := by simp [Lib.joinTail]
theorem join_one (p : Bs) : Lib.join [p] [44] = p := by rw [Lib.join_cons]; simp [Lib.joinTail]
theorem join_more (x p : Bs) (r : List Bs) : Lib.join ((x :: r) ++ [p]) [44] = Lib.join (x :: r) [44] ++ (44 :: p) := by
  rw [List.cons_append, Lib.join_cons, Lib.join_cons, joinTail_snoc, List.append_assoc]
  rfl
/-- the texts of the first k spans, with commas between them -/
def upT (L : Bool) (xs : List Sp) (k : Nat) : Bs := Lib.join ((xs.take k).map (spanT L)) [44]
theorem upT_zero (L : Bool) (xs : List Sp) : upT L xs 0 = [] := rfl
theorem take_snoc (xs : List Sp) (k : Nat) (hk : k < xs.length) : xs.take (k + 1) = xs.take k ++ [(lo xs k, hi xs k)] := by
  rw [List.take_add_one, List.getElem?_eq_getElem hk]
  simp only [Option.toList]
  congr 2
  simp [lo, hi, List.getD_eq_getElem?_getD, List.getElem?_eq_getElem hk]
theorem upT_first (L : Bool) (xs : List Sp) (h : 0 < xs.length) : upT L xs 1 = spanT L (lo xs 0, hi xs 0) := by
  unfold upT
  rw [take_snoc xs 0 h]
  exact join_one _
theorem upT_next (L : Bool) (xs : List Sp) (k : Nat) (h0 : 0 < k) (hk : k < xs.length) : upT L xs (k + 1) = upT L xs k ++ (44 :: spanT L (lo xs k, hi xs k)) := by
  unfold upT
  rw [take_snoc xs k hk, List.map_append]
  cases xs with
  | nil => simp at hk
  | cons x r =>
    cases k with
    | zero => omega
    | succ k =>
      rw [List.take_succ_cons, List.map_cons]
      exact join_more _ _ _
theorem upT_all (L : Bool) (xs : List Sp) : upT L xs xs.length = Lib.join (xs.map (spanT L)) [44] := by
  unfold upT
  rw [List.take_length]
theorem spanT_len {L : Bool} {a b : Int} {x : Sp} (h1 : inB L a b x.1 = true) (h2 : inB L a b x.2 = true) : (spanT L x).length ≤ 8 := by
  have e1 := (vT_bytes h1).2.2.1
  have e2 := (vT_bytes h2).2.2.1
  unfold spanT
  split
  · omega
  · simp [dots]; omega
theorem upT_len {L : Bool} {a b : Int} {xs : List Sp} (h : ∀ x ∈ xs, inB L a b x.1 = true ∧ inB L a b x.2 = true ∧ x.1 ≤ x.2) : ∀ k, k ≤ xs.length → (upT L xs k).length ≤ 9 * k
  | 0, _ => by rw [upT_zero]; simp
  | k + 1, hk => by
    have hm : (lo xs k, hi xs k) ∈ xs := by
      have : xs.take (k + 1) = xs.take k ++ [(lo xs k, hi xs k)] := take_snoc xs k (by omega)
      exact List.mem_of_mem_take (i := k + 1) (by rw [this]; simp)
    have hs := spanT_len (h _ hm).1 (h _ hm).2.1
    have ih := upT_len h k (by omega)
    rcases Nat.eq_zero_or_pos k with rfl | h0
    · rw [upT_first L xs (by omega)]; omega
    · rw [upT_next L xs k h0 (by omega)]
      simp
      omega
theorem span_mem {L : Bool} {a b : Int} {xs : List Sp} (h : ∀ x ∈ xs, inB L a b x.1 = true ∧ inB L a b x.2 = true ∧ x.1 ≤ x.2) {k : Nat} (hk : k < xs.length) : inB L a b (lo xs k) = true ∧ inB L a b (hi xs k) = true := by
  have hm : (lo xs k, hi xs k) ∈ xs := by
    have : xs.take (k + 1) = xs.take k ++ [(lo xs k, hi xs k)] := take_snoc xs k hk
    exact List.mem_of_mem_take (i := k + 1) (by rw [this]; simp)
  exact ⟨(h _ hm).1, (h _ hm).2.1⟩
theorem spanT_same {L : Bool} {x : Int} : spanT L (x, x) = vT L x := by unfold spanT; rw [if_pos rfl]
theorem spanT_two {L : Bool} {x y : Int} (h : x ≠ y) : spanT L (x, y) = vT L x ++ (dots ++ vT L y) := by unfold spanT; rw [if_neg h]
theorem fT_no {L : Bool} {a b : Int} {xs : List Sp} (h : isT L a b xs = false) : fT L a b xs = [] := by unfold fT; rw [h]; rfl
theorem fT_all {L : Bool} {a b : Int} {xs : List Sp} (h : isT L a b xs = true) (h1 : sameB xs (colS L a b) = true) : fT L a b xs = [45] := by unfold fT; rw [if_pos h, if_pos h1]
theorem fT_list {L : Bool} {a b : Int} {xs : List Sp} (h : isT L a b xs = true) (h1 : sameB xs (colS L a b) = false) : fT L a b xs = upT L xs xs.length := by
  unfold fT
  rw [if_pos h, h1, upT_all]
  rfl
theorem isT_len {L : Bool} {a b : Int} {xs : List Sp} (h : isT L a b xs = true) : xs.length ≤ 12 := by
  have := ((isT_iff _ _ _ _).1 h).2.1
  exact ((valid_iff xs).1 ((validB_iff xs).1 this)).1
theorem isT_col {L : Bool} {a b : Int} {xs : List Sp} (h : isT L a b xs = true) : colB L a b = true := ((isT_iff _ _ _ _).1 h).1
end Sets
end Go.Proofs.YtamfmemdhldmjaaGreatDoor
