/-
  Plain facts on the model's readers: a value at the beginning of a text.
-/
import Derived.Test.YtajjmdnbmicefabDoorTr
namespace Go.Proofs.YtajjmdnbmicefabDoor
namespace Sets

def dvn (p : Bs) : Int := p.foldl (fun n c => n * 10 + ((c.toNat : Int) - 48)) 0
def lead (p : Bs) : Nat := ((p.take 3).takeWhile isDig).length
def negN (l : Bs) : Nat := if negB l = true then 1 else 0
theorem digs_drop (l : Bs) : digsOf l = l.drop (negN l) := by
  unfold digsOf negN
  split <;> rfl
def numV (l : Bs) : Int := if negB l = true then -dvn ((digsOf l).take (lead (digsOf l))) else dvn ((digsOf l).take (lead (digsOf l)))
def numK (l : Bs) : Nat := negN l + lead (digsOf l)
/-- What the model's reader of numbers answers: the number at the beginning of a text, and how long it is. -/
def numP (l : Bs) : Int × Nat := if lead (digsOf l) = 0 then (0, 0) else if Lib.itoa (numV l) = l.take (numK l) then (numV l, numK l) else (0, 0)
def letP : Bs → Int × Nat
  | [] => (0, 0)
  | c :: _ => if isLet c = true then ((c.toNat : Int) - 65, 1) else (0, 0)
def rawP (L : Bool) (l : Bs) : Int × Nat := if L = true then letP l else numP l
/-- What the model's reader of values answers. -/
def valP (L : Bool) (a b : Int) (l : Bs) : Int × Nat := if (rawP L l).2 = 0 ∨ (rawP L l).1 < a ∨ b < (rawP L l).1 then (0, 0) else rawP L l

theorem dvn_snoc (p : Bs) (c : UInt8) : dvn (p ++ [c]) = dvn p * 10 + ((c.toNat : Int) - 48) := by
  unfold dvn
  rw [List.foldl_append]
  rfl
theorem lead_le (p : Bs) : lead p ≤ 3 ∧ lead p ≤ p.length := by
  unfold lead
  have h := (List.takeWhile_sublist (p := isDig) (l := p.take 3)).length_le
  rw [List.length_take] at h
  omega
theorem lead_eq {p : Bs} {k : Nat} (h3 : k ≤ 3) (hk : k ≤ p.length) (hd : ∀ j (hj : j < k), isDig (p[j]'(by omega)) = true) (he : k = 3 ∨ k = p.length ∨ ∃ h : k < p.length, isDig p[k] = false) : lead p = k := by
  have e1 : p = p.take k ++ p.drop k := (List.take_append_drop k p).symm
  have e2 : p.take 3 = p.take k ++ (p.drop k).take (3 - k) := by
    conv => lhs; rw [e1]
    rw [List.take_append, List.take_of_length_le (by rw [List.length_take]; omega), List.length_take]
    congr 2
    omega
  have e3 : ((p.drop k).take (3 - k)).takeWhile isDig = [] := by
    rcases he with rfl | rfl | ⟨h, hn⟩
    · simp
    · simp
    · rw [List.drop_eq_getElem_cons h]
      cases hm : 3 - k with
      | zero => rfl
      | succ m => rw [List.take_succ_cons, List.takeWhile_cons, hn]; rfl
  unfold lead
  rw [e2, List.takeWhile_append_of_pos, e3, List.append_nil, List.length_take]
  · omega
  · intro c hc
    obtain ⟨j, hj, rfl⟩ := List.getElem_of_mem hc
    rw [List.length_take] at hj
    rw [List.getElem_take]
    exact hd j (by omega)

theorem dec2_facts : ∀ i : Fin 100, dvn (dec2 i.val) = (i.val : Int) ∧ (dec2 i.val).all isDig = true ∧ 1 ≤ (dec2 i.val).length ∧ (dec2 i.val).length ≤ 2 := by decide +kernel
/-- a text that doesn't begin with a digit -/
def noDig (t : Bs) : Prop := t = [] ∨ ∃ c r, t = c :: r ∧ isDig c = false
theorem lead_dec {i : Nat} (hi : i < 100) {t : Bs} (ht : noDig t) : lead (dec2 i ++ t) = (dec2 i).length ∧ dvn ((dec2 i ++ t).take (dec2 i).length) = (i : Int) := by
  obtain ⟨f1, f2, f3, f4⟩ := dec2_facts ⟨i, hi⟩
  simp only at f1 f2 f3 f4
  refine ⟨lead_eq (by omega) (by simp) (fun j hj => ?_) ?_, by rw [List.take_left]; exact f1⟩
  · rw [List.getElem_append_left hj]
    exact List.all_eq_true.1 f2 _ (List.getElem_mem hj)
  · rcases ht with rfl | ⟨c, r, rfl, hc⟩
    · exact .inr (.inl (by simp))
    · refine .inr (.inr ⟨by simp, ?_⟩)
      rw [List.getElem_append_right (Nat.le_refl _)]
      simpa using hc
theorem dec2_head (i : Nat) (hi : i < 100) : ∃ c r, dec2 i = c :: r ∧ isDig c = true := by
  obtain ⟨f1, f2, f3, f4⟩ := dec2_facts ⟨i, hi⟩
  simp only at f1 f2 f3 f4
  cases h : dec2 i with
  | nil => rw [h] at f3; simp at f3
  | cons c r =>
    rw [h, List.all_cons, Bool.and_eq_true] at f2
    exact ⟨c, r, rfl, f2.1⟩
theorem negB_cons (c : UInt8) (t : Bs) : negB (c :: t) = (45 == c) := prefix_cons 45 c t
theorem numP_text {n : Int} (h1 : -99 ≤ n) (h2 : n ≤ 99) {t : Bs} (ht : noDig t) : numP (decT n ++ t) = (n, (decT n).length) := by
  by_cases hn : n < 0
  · have hd : decT n = 45 :: dec2 n.natAbs := by unfold decT; rw [if_pos hn]
    have hneg : negB (decT n ++ t) = true := by rw [hd]; exact negB_cons _ _
    have hdg : digsOf (decT n ++ t) = dec2 n.natAbs ++ t := by unfold digsOf; rw [if_pos hneg, hd]; rfl
    obtain ⟨l1, l2⟩ := lead_dec (i := n.natAbs) (by omega) ht
    have hne := dec2_facts ⟨n.natAbs, by omega⟩
    simp only at hne
    have hv : numV (decT n ++ t) = n := by unfold numV; rw [if_pos hneg, hdg, l1, l2]; omega
    have hk : numK (decT n ++ t) = (decT n).length := by unfold numK negN; rw [if_pos hneg, hdg, l1, hd]; simp; omega
    unfold numP
    rw [hdg, l1, if_neg (by omega), hv, hk, List.take_left, decT_eq h1 h2, if_pos rfl]
  · have hd : decT n = dec2 n.toNat := by unfold decT; rw [if_neg hn]
    obtain ⟨c, r, hc, hcd⟩ := dec2_head n.toNat (by omega)
    have hneg : negB (decT n ++ t) = false := by
      rw [hd, hc, List.cons_append, negB_cons]
      have := (isDig_iff c).1 hcd
      refine beq_eq_false_iff_ne.2 ?_
      rintro rfl
      revert this
      decide
    have hdg : digsOf (decT n ++ t) = dec2 n.toNat ++ t := by unfold digsOf; rw [hneg, hd]; rfl
    obtain ⟨l1, l2⟩ := lead_dec (i := n.toNat) (by omega) ht
    have hne := dec2_facts ⟨n.toNat, by omega⟩
    simp only at hne
    have hv : numV (decT n ++ t) = n := by unfold numV; rw [hneg, if_neg (by simp), hdg, l1, l2]; omega
    have hk : numK (decT n ++ t) = (decT n).length := by unfold numK negN; rw [hneg, if_neg (by simp), hdg, l1, hd]; omega
    unfold numP
    rw [hdg, l1, if_neg (by omega), hv, hk, List.take_left, decT_eq h1 h2, if_pos rfl]
theorem numP_pos {l : Bs} (h : (numP l).2 ≠ 0) : Lib.itoa (numP l).1 = l.take (numP l).2 ∧ (numP l).2 ≤ l.length := by
  unfold numP at h ⊢
  split at h
  · exact absurd rfl h
  · rename_i h0
    rw [if_neg h0]
    split at h
    · rename_i h1
      rw [if_pos h1]
      refine ⟨h1, ?_⟩
      have h2 := (lead_le (digsOf l)).2
      rw [digs_drop, List.length_drop] at h2
      show negN l + lead (digsOf l) ≤ l.length
      rw [digs_drop] at h0 ⊢
      omega
    · exact absurd rfl h

/-- a value at the beginning of a text -/
theorem valP_pos {L : Bool} {a b : Int} {l : Bs} (hc : colB L a b = true) (h : (valP L a b l).2 ≠ 0) :
    inB L a b (valP L a b l).1 = true ∧ l.take (valP L a b l).2 = vT L (valP L a b l).1 ∧ (valP L a b l).2 ≤ l.length ∧ valP L a b l = rawP L l := by
  obtain ⟨c1, c2, c3, c4⟩ := (colB_iff _ _ _).1 hc
  unfold valP at h ⊢
  split at h
  · exact absurd rfl h
  · rename_i h0
    rw [if_neg h0]
    have hi : inB L a b (rawP L l).1 = true := (inB_iff _ _ _ _).2 ⟨hc, by omega, by omega⟩
    refine ⟨hi, ?_, ?_, rfl⟩
    · cases L with
      | false =>
        obtain ⟨n1, n2⟩ := numP_pos (l := l) h
        show l.take (numP l).2 = decT (numP l).1
        have : (rawP false l).1 = (numP l).1 := rfl
        rw [← n1, decT_eq (by omega) (by omega)]
      | true =>
        cases l with
        | nil => exact absurd rfl h
        | cons c t =>
          show (c :: t).take (letP (c :: t)).2 = vT true (letP (c :: t)).1
          have h' : (letP (c :: t)).2 ≠ 0 := h
          rw [letP] at h' ⊢
          split at h'
          · rename_i hl
            rw [if_pos hl, vT_let]
            have := (isLet_iff c).1 hl
            show [c] = [UInt8.ofNat (65 + ((c.toNat : Int) - 65).toNat)]
            rw [show 65 + ((c.toNat : Int) - 65).toNat = c.toNat by omega]
            simp
          · exact absurd rfl h'
    · cases L with
      | false => exact (numP_pos (l := l) h).2
      | true =>
        cases l with
        | nil => exact absurd rfl h
        | cons c t =>
          show (letP (c :: t)).2 ≤ _
          rw [letP]
          split <;> simp
theorem valP_text {L : Bool} {a b n : Int} (h : inB L a b n = true) {t : Bs} (ht : noDig t) : valP L a b (vT L n ++ t) = (n, (vT L n).length) := by
  obtain ⟨hc, h1, h2⟩ := (inB_iff _ _ _ _).1 h
  obtain ⟨c1, c2, c3, c4⟩ := (colB_iff _ _ _).1 hc
  have hr : rawP L (vT L n ++ t) = (n, (vT L n).length) := by
    cases L with
    | false => exact numP_text (by omega) (by omega) ht
    | true =>
      have := c4 rfl
      have hl := let_bytes ⟨n.toNat, by omega⟩
      simp only at hl
      show letP (UInt8.ofNat (65 + n.toNat) :: ([] ++ t)) = _
      rw [letP, if_pos ((isLet_iff _).2 (by omega)), hl]
      simp [vT_let]; omega
  unfold valP
  rw [hr]
  have := (vT_bytes h).1
  rw [if_neg]
  simp only [List.length_eq_zero_iff]
  rintro (k | k | k)
  · exact this k
  · omega
  · omega
theorem valP_small {L : Bool} {a b : Int} {l : Bs} (hc : colB L a b = true) : -99 ≤ (valP L a b l).1 ∧ (valP L a b l).1 ≤ 99 := by
  by_cases h : (valP L a b l).2 = 0
  · unfold valP at h ⊢
    split
    · simp
    · rename_i h0
      rw [if_neg h0] at h
      exact absurd (.inl h) h0
  · have := (inB_iff _ _ _ _).1 (valP_pos hc h).1
    have := (colB_iff _ _ _).1 hc
    omega

/-- the model's ParseValue -/
theorem specPV_yes {L : Bool} {a b : Int} {l : Bs} (hc : colB L a b = true) (h : (valP L a b l).2 ≠ 0) (hl : (valP L a b l).2 = l.length) : pvN L a b l = (valP L a b l).1 ∧ pvB L a b l = true := by
  obtain ⟨h1, h2, h3, _⟩ := valP_pos hc h
  rw [hl, List.take_length] at h2
  have := pvO_some (L := L) (a := a) (b := b) (l := l) ⟨h1, h2.symm⟩
  unfold pvN pvB
  rw [this]
  exact ⟨rfl, rfl⟩
theorem specPV_no {L : Bool} {a b : Int} {l : Bs} (h : (valP L a b l).2 = 0 ∨ (valP L a b l).2 ≠ l.length) : pvN L a b l = 0 ∧ pvB L a b l = false := by
  have : pvO L a b l = none := pvO_no fun n hn => by
    have e := valP_text hn.1 (t := []) (.inl rfl)
    have hne := (vT_bytes hn.1).1
    rw [List.append_nil, hn.2] at e
    rw [hn.2] at hne
    rw [e] at h
    rcases h with h | h
    · exact hne (List.eq_nil_of_length_eq_zero h)
    · exact h rfl
  unfold pvN pvB
  rw [this]
  exact ⟨rfl, rfl⟩
theorem pv_nocol {L : Bool} {a b : Int} {l : Bs} (hc : colB L a b = false) : pvN L a b l = 0 ∧ pvB L a b l = false := by
  have : pvO L a b l = none := pvO_no fun n hn => by
    have := ((inB_iff _ _ _ _).1 hn.1).1
    rw [hc] at this
    cases this
  unfold pvN pvB
  rw [this]
  exact ⟨rfl, rfl⟩
end Sets
end Go.Proofs.YtajjmdnbmicefabDoor
