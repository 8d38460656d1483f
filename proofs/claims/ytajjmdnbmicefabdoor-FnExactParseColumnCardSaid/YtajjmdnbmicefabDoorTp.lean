/-
  Plain facts on tests: their parts, their texts, and what a text describes.
-/
import Derived.Test.YtajjmdnbmicefabDoorTv
import Derived.Test.YtajjmdnbmicefabDoorPl
import Derived.Test.YtajjmdnbmicefabDoorSo
namespace Go.Proofs.YtajjmdnbmicefabDoor
namespace Sets

def dots : Bs := [46, 46]
/-- the span of a value, or of two with dots between them -/
def spanO (L : Bool) (a b : Int) (l : Bs) : Option Sp :=
  match pvO L a b (Lib.cut l dots).1, pvO L a b (if (Lib.cut l dots).2.2 = true then (Lib.cut l dots).2.1 else (Lib.cut l dots).1) with
  | some x, some y => if x ≤ y then some (x, y) else none
  | _, _ => none
/-- what a part of a test describes -/
def pieceO (L : Bool) (a b : Int) (l : Bs) : Option Sp :=
  if Lib.hasPrefix l [60, 61] = true then (pvO L a b (l.drop 2)).map fun n => (a, n)
  else if Lib.hasPrefix l [62, 61] = true then (pvO L a b (l.drop 2)).map fun n => (n, b)
  else if Lib.hasPrefix l [60] = true then (pvO L a b (l.drop 1)).map fun n => (a, n - 1)
  else if Lib.hasPrefix l [62] = true then (pvO L a b (l.drop 1)).map fun n => (n + 1, b)
  else spanO L a b l
def pieceB (L : Bool) (a b : Int) (l : Bs) : Bool := (pieceO L a b l).isSome
def pieceV (L : Bool) (a b : Int) (l : Bs) : Sp := (pieceO L a b l).getD (0, 0)

/-- a text cut at its commas -/
def splitC : Bs → List Bs
  | [] => [[]]
  | c :: t => if c = 44 then [] :: splitC t else (c :: (splitC t).headD []) :: (splitC t).tail
theorem splitC_ne (l : Bs) : splitC l ≠ [] := by
  cases l with
  | nil => simp [splitC]
  | cons c t => rw [splitC]; split <;> simp
theorem splitC_plain : ∀ (l : Bs), (∀ c ∈ l, c ≠ 44) → splitC l = [l]
  | [], _ => rfl
  | c :: t, h => by
    rw [splitC, if_neg (h c List.mem_cons_self), splitC_plain t (fun d hd => h d (List.mem_cons_of_mem _ hd))]
    rfl
theorem splitC_cut : ∀ (p r : Bs), (∀ c ∈ p, c ≠ 44) → splitC (p ++ 44 :: r) = p :: splitC r
  | [], r, _ => by
    rw [List.nil_append, splitC, if_pos rfl]
  | c :: t, r, h => by
    rw [List.cons_append, splitC, if_neg (h c List.mem_cons_self), splitC_cut t r (fun d hd => h d (List.mem_cons_of_mem _ hd))]
    rfl
theorem index_cut : ∀ (l : Bs), (Lib.indexByte l 44 = -1 ∧ ∀ c ∈ l, c ≠ 44) ∨ ∃ p r, l = p ++ 44 :: r ∧ (∀ c ∈ p, c ≠ 44) ∧ Lib.indexByte l 44 = p.length
  | [] => .inl ⟨rfl, fun c hc => by cases hc⟩
  | c :: t => by
    by_cases e : c = 44
    · subst e
      exact .inr ⟨[], t, rfl, (fun c hc => by cases hc), by simp [Lib.indexByte]⟩
    · have e' : (c == 44) = false := beq_eq_false_iff_ne.2 e
      rcases index_cut t with ⟨h1, h2⟩ | ⟨p, r, rfl, h2, h3⟩
      · refine .inl ⟨by rw [Lib.indexByte, e', h1]; rfl, fun d hd => ?_⟩
        rcases List.mem_cons.1 hd with rfl | hd
        · exact e
        · exact h2 d hd
      · refine .inr ⟨c :: p, r, rfl, fun d hd => ?_, ?_⟩
        · rcases List.mem_cons.1 hd with rfl | hd
          · exact e
          · exact h2 d hd
        · rw [Lib.indexByte, e', h3]
          have : ((p.length : Int) == -1) = false := beq_eq_false_iff_ne.2 (by omega)
          rw [this]
          simp

/-- what the parts describe together -/
def spansOf (L : Bool) (a b : Int) (ps : List Bs) : List Sp := (ps.map (pieceV L a b)).filter fun x => decide (x.1 ≤ x.2)
def partsB (L : Bool) (a b : Int) (ps : List Bs) : Bool := ps.all (pieceB L a b) && decide ((spansOf L a b ps).length ≤ 51)
def listB (L : Bool) (a b : Int) (l : Bs) : Bool := partsB L a b (splitC l) && setOfB (spansOf L a b (splitC l))
def listV (L : Bool) (a b : Int) (l : Bs) : List Sp := if listB L a b l = true then setOfV (spansOf L a b (splitC l)) else []
theorem spansOf_append (L : Bool) (a b : Int) (ps qs : List Bs) : spansOf L a b (ps ++ qs) = spansOf L a b ps ++ spansOf L a b qs := by
  unfold spansOf
  rw [List.map_append, List.filter_append]
theorem partsB_fail {L : Bool} {a b : Int} {ps : List Bs} {x : Bs} (qs : List Bs) (h : pieceB L a b x = false) : partsB L a b (ps ++ x :: qs) = false := by
  unfold partsB
  rw [List.all_append, List.all_cons, h]
  simp
theorem partsB_many {L : Bool} {a b : Int} {ps : List Bs} {x : Bs} (qs : List Bs) (h : (spansOf L a b ps).length = 51) (hx : (pieceV L a b x).1 ≤ (pieceV L a b x).2) : partsB L a b (ps ++ x :: qs) = false := by
  unfold partsB
  have : spansOf L a b (x :: qs) = pieceV L a b x :: spansOf L a b qs := by
    unfold spansOf
    rw [List.map_cons, List.filter_cons, if_pos (by simpa using hx)]
  rw [spansOf_append, this]
  simp [h]

/-- what a test's text describes -/
def notP (l : Bs) : Bs := (l.drop 4).take (l.length - 5)
def notB (l : Bs) : Bool := Lib.hasPrefix l [110, 111, 116, 40]
def closeB (l : Bs) : Bool := Lib.hasSuffix (l.drop 4) [41]
def tB (L : Bool) (a b : Int) (l : Bs) : Bool :=
  colB L a b && (decide (l = [45]) || (decide (l = []) || (if notB l = true then closeB l && (listB L a b (notP l) && minusB (colS L a b) (listV L a b (notP l))) else listB L a b l)))
def tV (L : Bool) (a b : Int) (l : Bs) : List Sp :=
  if tB L a b l = true then (if l = [45] then colS L a b else if l = [] then [] else if notB l = true then minusV (colS L a b) (listV L a b (notP l)) else listV L a b l) else []

/-- the texts -/
def spanT (L : Bool) (x : Sp) : Bs := if x.1 = x.2 then vT L x.1 else vT L x.1 ++ (dots ++ vT L x.2)
def isT (L : Bool) (a b : Int) (xs : List Sp) : Bool := colB L a b && withinB xs (colS L a b)
def fT (L : Bool) (a b : Int) (xs : List Sp) : Bs := if isT L a b xs = true then (if sameB xs (colS L a b) = true then [45] else Lib.join (xs.map (spanT L)) [44]) else []
def fC (L : Bool) (a b : Int) : Bs := if colB L a b = true then vT L a ++ (dots ++ vT L b) else []

/- ## cutting at the dots -/
theorem cut_plain {l : Bs} (h : ∀ c ∈ l, c ≠ 46) : Lib.cut l dots = (l, [], false) := by
  unfold Lib.cut
  rcases Lib.index_spec l dots with ⟨h1, _⟩ | ⟨i, h1, h2, h3, _⟩
  · rw [h1]; rfl
  · exfalso
    unfold Lib.occAt at h3
    have := List.isPrefixOf_iff_prefix.1 h3
    obtain ⟨t, ht⟩ := this
    have hm : (46 : UInt8) ∈ l.drop i := by rw [← ht]; simp [dots]
    exact h _ (List.mem_of_mem_drop hm) rfl
theorem cut_at {p r : Bs} (h : ∀ c ∈ p, c ≠ 46) : Lib.cut (p ++ (dots ++ r)) dots = (p, r, true) := by
  have hi : Lib.index (p ++ (dots ++ r)) dots = p.length := by
    refine Lib.index_first (by simp) ?_ fun j hj => ?_
    · unfold Lib.occAt
      rw [List.drop_left]
      exact List.isPrefixOf_iff_prefix.2 ⟨r, rfl⟩
    · unfold Lib.occAt
      rw [Bool.eq_false_iff]
      intro hp
      obtain ⟨t, ht⟩ := List.isPrefixOf_iff_prefix.1 hp
      have h0 : ((p ++ (dots ++ r)).drop j)[0]? = some 46 := by rw [← ht]; rfl
      rw [List.getElem?_drop, Nat.add_zero, List.getElem?_append_left hj, List.getElem?_eq_getElem hj] at h0
      injection h0 with h0
      exact h _ (List.getElem_mem hj) h0
  unfold Lib.cut
  rw [hi, if_pos (by omega)]
  simp [dots]
theorem okByte_ne {c : UInt8} (h : okByte c) : c ≠ 46 ∧ c ≠ 44 ∧ c ≠ 60 ∧ c ≠ 62 ∧ c ≠ 110 ∧ c ≠ 41 := by
  unfold okByte at h
  refine ⟨?_, ?_, ?_, ?_, ?_, ?_⟩ <;> (rintro rfl; revert h; decide)
/-- a text of which the first cut is a value's text -/
theorem cut_shape (l : Bs) : ((Lib.cut l dots).2.2 = false ∧ (Lib.cut l dots).1 = l) ∨ ((Lib.cut l dots).2.2 = true ∧ l = (Lib.cut l dots).1 ++ (dots ++ (Lib.cut l dots).2.1)) := by
  unfold Lib.cut
  rcases Lib.index_spec l dots with ⟨h1, _⟩ | ⟨i, h1, h2, h3, _⟩
  · rw [h1]; exact .inl ⟨rfl, rfl⟩
  · rw [h1, if_pos (by omega)]
    right
    refine ⟨rfl, ?_⟩
    unfold Lib.occAt at h3
    obtain ⟨t, ht⟩ := List.isPrefixOf_iff_prefix.1 h3
    have e1 : l = l.take i ++ l.drop i := (List.take_append_drop i l).symm
    have e2 : l.drop (i + 2) = t := by
      rw [← List.drop_drop, ← ht]; rfl
    simp only [Int.toNat_natCast]
    rw [show dots.length = 2 from rfl, e2, ht]
    exact e1

theorem spanO_one {L : Bool} {a b n : Int} (h : inB L a b n = true) : spanO L a b (vT L n) = some (n, n) := by
  unfold spanO
  have hc := cut_plain (l := vT L n) fun c hc => (okByte_ne ((vT_bytes h).2.2.2 c hc)).1
  have hp := pvO_some (L := L) (a := a) (b := b) (l := vT L n) ⟨h, rfl⟩
  rw [hc]
  simp [hp]
theorem spanO_two {L : Bool} {a b m n : Int} (hm : inB L a b m = true) (hn : inB L a b n = true) (h : m ≤ n) : spanO L a b (vT L m ++ (dots ++ vT L n)) = some (m, n) := by
  unfold spanO
  have hc := cut_at (p := vT L m) (r := vT L n) fun c hc => (okByte_ne ((vT_bytes hm).2.2.2 c hc)).1
  have hp := pvO_some (L := L) (a := a) (b := b) (l := vT L m) ⟨hm, rfl⟩
  have hq := pvO_some (L := L) (a := a) (b := b) (l := vT L n) ⟨hn, rfl⟩
  rw [hc]
  simp [hp, hq, h]
/-- the spans with values that parts describe lie in the column -/
theorem pieceO_in {L : Bool} {a b : Int} {l : Bs} {x : Sp} (h : pieceO L a b l = some x) : colB L a b = true ∧ a ≤ x.1 ∧ x.2 ≤ b ∧ x.1 ≤ b + 1 ∧ a - 1 ≤ x.2 := by
  have hv : ∀ {l : Bs} {n : Int}, pvO L a b l = some n → colB L a b = true ∧ a ≤ n ∧ n ≤ b := fun h => (inB_iff _ _ _ _).1 (pvO_PV h).1
  have hm : ∀ {l : Bs} {f : Int → Sp}, (pvO L a b l).map f = some x → ∃ n, pvO L a b l = some n ∧ f n = x := fun h => by
    rw [Option.map_eq_some_iff] at h
    exact h
  unfold pieceO at h
  split at h
  · obtain ⟨n, h1, rfl⟩ := hm h
    have := hv h1
    exact ⟨this.1, by dsimp only; omega, by dsimp only; omega, by dsimp only; omega, by dsimp only; omega⟩
  · split at h
    · obtain ⟨n, h1, rfl⟩ := hm h
      have := hv h1
      exact ⟨this.1, by dsimp only; omega, by dsimp only; omega, by dsimp only; omega, by dsimp only; omega⟩
    · split at h
      · obtain ⟨n, h1, rfl⟩ := hm h
        have := hv h1
        exact ⟨this.1, by dsimp only; omega, by dsimp only; omega, by dsimp only; omega, by dsimp only; omega⟩
      · split at h
        · obtain ⟨n, h1, rfl⟩ := hm h
          have := hv h1
          exact ⟨this.1, by dsimp only; omega, by dsimp only; omega, by dsimp only; omega, by dsimp only; omega⟩
        · unfold spanO at h
          split at h
          · rename_i u v h1 h2
            split at h
            · injection h with h
              subst h
              have g1 := hv h1
              have g2 := hv h2
              exact ⟨g1.1, by dsimp only; omega, by dsimp only; omega, by dsimp only; omega, by dsimp only; omega⟩
            · cases h
          · cases h
theorem pieceV_of {L : Bool} {a b : Int} {l : Bs} {x : Sp} (h : pieceO L a b l = some x) : pieceV L a b l = x ∧ pieceB L a b l = true := by
  unfold pieceV pieceB
  rw [h]
  exact ⟨rfl, rfl⟩
theorem pieceB_no {L : Bool} {a b : Int} {l : Bs} (h : pieceO L a b l = none) : pieceB L a b l = false := by
  unfold pieceB
  rw [h]
  rfl
theorem pieceV_in {L : Bool} {a b : Int} {l : Bs} (h : pieceB L a b l = true) : colB L a b = true ∧ a ≤ (pieceV L a b l).1 ∧ (pieceV L a b l).2 ≤ b ∧ (pieceV L a b l).1 ≤ b + 1 ∧ a - 1 ≤ (pieceV L a b l).2 := by
  unfold pieceB at h
  cases hp : pieceO L a b l with
  | none => rw [hp] at h; cases h
  | some x => rw [(pieceV_of hp).1]; exact pieceO_in hp
theorem pieceV_small (L : Bool) (a b : Int) (l : Bs) : -100 ≤ (pieceV L a b l).1 ∧ (pieceV L a b l).1 ≤ 100 ∧ -100 ≤ (pieceV L a b l).2 ∧ (pieceV L a b l).2 ≤ 100 := by
  cases hp : pieceO L a b l with
  | none => unfold pieceV; rw [hp]; simp
  | some x =>
    rw [(pieceV_of hp).1]
    obtain ⟨h0, h1, h2, h3, h4⟩ := pieceO_in hp
    obtain ⟨c1, c2, c3, c4⟩ := (colB_iff _ _ _).1 h0
    omega
end Sets
end Go.Proofs.YtajjmdnbmicefabDoor
