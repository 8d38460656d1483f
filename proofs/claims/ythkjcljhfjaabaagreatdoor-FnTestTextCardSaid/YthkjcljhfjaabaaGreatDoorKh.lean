/-
  Plain facts on texts of tests, as both programs take them apart.
-/
import Derived.Test.YthkjcljhfjaabaaGreatDoorKgM
import Derived.Test.YthkjcljhfjaabaaGreatDoorSuM
import Derived.Test.YthkjcljhfjaabaaGreatDoorSz
namespace Go.Proofs.YthkjcljhfjaabaaGreatDoor
namespace Sets

theorem t_none {L : Bool} {a b : Int} {l : Bs} (h : colB L a b = false) : tB L a b l = false ∧ tV L a b l = [] := by
  have h1 : tB L a b l = false := by unfold tB; rw [h]; rfl
  refine ⟨h1, ?_⟩
  unfold tV
  rw [h1]
  rfl
theorem t_dash {L : Bool} {a b : Int} {l : Bs} (h : colB L a b = true) (hl : l = [45]) : tB L a b l = true ∧ tV L a b l = colS L a b := by
  have h1 : tB L a b l = true := by unfold tB; rw [h, decide_eq_true hl]; rfl
  refine ⟨h1, ?_⟩
  unfold tV
  rw [if_pos h1, if_pos hl]
theorem t_nil {L : Bool} {a b : Int} {l : Bs} (h : colB L a b = true) (hl : l = []) : tB L a b l = true ∧ tV L a b l = [] := by
  have h1 : tB L a b l = true := by unfold tB; rw [h, decide_eq_true hl]; simp
  refine ⟨h1, ?_⟩
  unfold tV
  rw [if_pos h1, if_neg (by rw [hl]; simp), if_pos hl]
theorem t_list {L : Bool} {a b : Int} {l : Bs} (h : colB L a b = true) (h1 : l ≠ [45]) (h0 : l ≠ []) (hn : notB l = false) : tB L a b l = listB L a b l ∧ tV L a b l = listV L a b l := by
  have hb : tB L a b l = listB L a b l := by unfold tB; rw [h, decide_eq_false h1, decide_eq_false h0, hn]; rfl
  refine ⟨hb, ?_⟩
  unfold tV
  rw [hb, if_neg h1, if_neg h0, hn]
  cases hl : listB L a b l
  · unfold listV; rw [hl]; rfl
  · rfl
theorem not_ne {l : Bs} (h : notB l = true) : l ≠ [45] ∧ l ≠ [] := by
  constructor <;> (rintro rfl; revert h; decide)
theorem t_open {L : Bool} {a b : Int} {l : Bs} (hn : notB l = true) (hc : closeB l = false) : tB L a b l = false ∧ tV L a b l = [] := by
  obtain ⟨h1, h0⟩ := not_ne hn
  have hb : tB L a b l = false := by unfold tB; rw [decide_eq_false h1, decide_eq_false h0, hn, hc]; simp
  refine ⟨hb, ?_⟩
  unfold tV
  rw [hb]
  rfl
theorem t_bad {L : Bool} {a b : Int} {l : Bs} (hn : notB l = true) (hl : listB L a b (notP l) = false) : tB L a b l = false ∧ tV L a b l = [] := by
  obtain ⟨h1, h0⟩ := not_ne hn
  have hb : tB L a b l = false := by unfold tB; rw [decide_eq_false h1, decide_eq_false h0, hn, hl]; simp
  refine ⟨hb, ?_⟩
  unfold tV
  rw [hb]
  rfl
theorem t_not {L : Bool} {a b : Int} {l : Bs} (h : colB L a b = true) (hn : notB l = true) (hc : closeB l = true) (hl : listB L a b (notP l) = true) : tB L a b l = minusB (colS L a b) (listV L a b (notP l)) ∧ tV L a b l = minusV (colS L a b) (listV L a b (notP l)) := by
  obtain ⟨h1, h0⟩ := not_ne hn
  have hb : tB L a b l = minusB (colS L a b) (listV L a b (notP l)) := by unfold tB; rw [h, decide_eq_false h1, decide_eq_false h0, hn, hc, hl]; rfl
  refine ⟨hb, ?_⟩
  unfold tV
  rw [hb, if_neg h1, if_neg h0, if_pos hn]
  cases hm : minusB (colS L a b) (listV L a b (notP l))
  · unfold minusV; rw [hm]; rfl
  · rfl
theorem notB_len {l : Bs} (h : notB l = true) : ∃ t, l = [110, 111, 116, 40] ++ t := by
  unfold notB Lib.hasPrefix at h
  obtain ⟨t, ht⟩ := List.isPrefixOf_iff_prefix.1 h
  exact ⟨t, ht.symm⟩
/-- what is between 'not(' and the last byte -/
theorem notP_trim {l : Bs} (hc : closeB l = true) : Lib.trimSuffix (l.drop 4) [41] = notP l := by
  unfold closeB at hc
  unfold Lib.trimSuffix notP
  rw [if_pos hc]
  simp only [List.length_drop, List.length_cons, List.length_nil]
  congr 1
theorem splitC_n (t : Bs) : ∃ u r, splitC (110 :: t) = (110 :: u) :: r := by
  rw [splitC, if_neg (by decide)]
  exact ⟨_, _, rfl⟩
theorem pieceB_n (L : Bool) (a b : Int) (u : Bs) : pieceB L a b (110 :: u) = false := by
  refine pieceB_no ?_
  rw [pieceO_span (by decide) (by decide)]
  refine spanO_none fun x y hs => ?_
  have hx : inB L a b x = true ∧ ∃ t, (110 : UInt8) :: u = vT L x ++ t := by
    rcases hs with ⟨_, h1, h2⟩ | ⟨h1, _, _, h2⟩
    · exact ⟨h1, [], by rw [List.append_nil]; exact h2⟩
    · exact ⟨h1, _, h2⟩
  obtain ⟨h1, t, h2⟩ := hx
  obtain ⟨v1, _, _, v4⟩ := vT_bytes h1
  cases hv : vT L x with
  | nil => exact v1 hv
  | cons c r =>
    rw [hv] at h2
    injection h2 with h3 _
    have := (okByte_ne (v4 c (by rw [hv]; exact List.mem_cons_self))).2.2.2.2.1
    exact this h3.symm
/-- no list of parts begins with an n -/
theorem list_n {L : Bool} {a b : Int} {l : Bs} (h : notB l = true) : listB L a b l = false ∧ listV L a b l = [] := by
  obtain ⟨t, rfl⟩ := notB_len h
  obtain ⟨u, r, hs⟩ := splitC_n ([111, 116, 40] ++ t)
  have hb : listB L a b ([110, 111, 116, 40] ++ t) = false := by
    unfold listB partsB
    rw [show [110, 111, 116, 40] ++ t = 110 :: ([111, 116, 40] ++ t) from rfl, hs, List.all_cons, pieceB_n]
    rfl
  refine ⟨hb, ?_⟩
  unfold listV
  rw [hb]
  rfl
theorem list_nil (L : Bool) (a b : Int) : listB L a b [] = false := by
  unfold listB partsB
  rw [show splitC [] = [[]] from rfl, List.all_cons, pieceB_no (pieceO_nil L a b)]
  rfl
/-- the model's condition -/
theorem t_model {L : Bool} {a b : Int} {l : Bs} (hn : notB l = true) (hm : l.length ≤ 5 ∨ closeB l = false) : tB L a b l = listB L a b l ∧ tV L a b l = listV L a b l := by
  obtain ⟨e1, e2⟩ := list_n (L := L) (a := a) (b := b) hn
  rw [e1, e2]
  cases hc : closeB l
  · exact t_open hn hc
  · rcases hm with hm | hm
    · refine t_bad hn ?_
      have : notP l = [] := by unfold notP; rw [show l.length - 5 = 0 by omega]; rfl
      rw [this]
      exact list_nil L a b
    · rw [hc] at hm; cases hm
theorem close_iff {l : Bs} (hn : notB l = true) (h : 5 ≤ l.length) : closeB l = (l[l.length - 1]'(by omega) == 41) := by
  obtain ⟨t, rfl⟩ := notB_len hn
  unfold closeB Lib.hasSuffix
  have ht : t ≠ [] := by rintro rfl; simp at h
  have e : ([110, 111, 116, 40] ++ t).drop 4 = t := rfl
  rw [e]
  obtain ⟨u, c, rfl⟩ : ∃ u c, t = u ++ [c] := ⟨t.dropLast, t.getLast ht, (List.dropLast_concat_getLast ht).symm⟩
  rw [Bool.eq_iff_iff, List.isSuffixOf_iff_suffix, beq_iff_eq]
  have hg : ([110, 111, 116, 40] ++ (u ++ [c]))[([110, 111, 116, 40] ++ (u ++ [c])).length - 1]'(by simp) = c := by
    simp
  rw [hg]
  constructor
  · rintro ⟨v, hv⟩
    have := congrArg List.getLast? hv
    simpa using this.symm
  · rintro rfl
    exact ⟨u, rfl⟩
theorem tV_len (L : Bool) (a b : Int) (l : Bs) : (tV L a b l).length ≤ 65536 := by
  cases h : tB L a b l
  · unfold tV; rw [h]; simp
  · have h1 := (isT_iff _ _ _ _).1 (test_isT h)
    have h2 := valid_len h1.2.1
    omega
end Sets
end Go.Proofs.YthkjcljhfjaabaaGreatDoor
