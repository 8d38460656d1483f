/-
  Plain facts on parts of tests, as the model reads them, and on texts that are cut at a byte.
-/
import Derived.Test.YthkjcljhfjaabaaGreatDoorTpM
namespace Go.Proofs.YthkjcljhfjaabaaGreatDoor
namespace Sets

theorem pvO_of {L : Bool} {a b : Int} {l : Bs} (h : pvB L a b l = true) : pvO L a b l = some (pvN L a b l) := by
  unfold pvB at h
  unfold pvN
  cases hp : pvO L a b l with
  | none => rw [hp] at h; cases h
  | some n => rfl
theorem pvO_not {L : Bool} {a b : Int} {l : Bs} (h : pvB L a b l = false) : pvO L a b l = none := by
  unfold pvB at h
  cases hp : pvO L a b l with
  | none => rfl
  | some n => rw [hp] at h; cases h
theorem pvO_nil (L : Bool) (a b : Int) : pvO L a b [] = none := pvO_no fun n hn => by
  have := (vT_bytes hn.1).1
  rw [hn.2] at this
  exact this rfl

/-- what a span's text looks like -/
def spanShape (L : Bool) (a b : Int) (l : Bs) (x y : Int) : Prop :=
  (x = y ∧ inB L a b x = true ∧ l = vT L x) ∨ (inB L a b x = true ∧ inB L a b y = true ∧ x ≤ y ∧ l = vT L x ++ (dots ++ vT L y))
theorem spanO_shape {L : Bool} {a b : Int} {l : Bs} {x y : Int} (h : spanO L a b l = some (x, y)) : spanShape L a b l x y := by
  unfold spanO at h
  rcases cut_shape l with ⟨h1, h2⟩ | ⟨h1, h2⟩
  · rw [h1, h2] at h
    simp only [Bool.false_eq_true, if_false] at h
    split at h
    · rename_i u v hu hv
      split at h
      · rw [hu] at hv
        injection hv with hv
        subst hv
        injection h with h
        injection h with h3 h4
        subst h3 h4
        obtain ⟨p1, p2⟩ := pvO_PV hu
        exact .inl ⟨rfl, p1, p2.symm⟩
      · cases h
    · cases h
  · rw [h1] at h
    simp only [if_true] at h
    split at h
    · rename_i u v hu hv
      split at h
      · rename_i huv
        injection h with h
        injection h with h3 h4
        subst h3 h4
        obtain ⟨p1, p2⟩ := pvO_PV hu
        obtain ⟨q1, q2⟩ := pvO_PV hv
        refine .inr ⟨p1, q1, huv, ?_⟩
        rw [p2, q2]
        exact h2
      · cases h
    · cases h
theorem spanO_none {L : Bool} {a b : Int} {l : Bs} (h : ∀ x y, ¬ spanShape L a b l x y) : spanO L a b l = none := by
  cases hs : spanO L a b l with
  | none => rfl
  | some p => obtain ⟨x, y⟩ := p; exact absurd (spanO_shape hs) (h x y)
theorem shape_val {L : Bool} {a b : Int} {l : Bs} {x y : Int} (h : spanShape L a b l x y) :
    (valP L a b l = (x, l.length) ∧ (vT L x).length = l.length ∧ l ≠ []) ∨
      (valP L a b l = (x, (vT L x).length) ∧ (vT L x).length ≠ 0 ∧ (vT L x).length + 2 ≤ l.length ∧ (vT L x).length ≠ l.length ∧ (l.drop (vT L x).length).take 2 = dots ∧ l.drop ((vT L x).length + 2) = vT L y ∧ inB L a b y = true ∧ x ≤ y) := by
  rcases h with ⟨rfl, h1, rfl⟩ | ⟨h1, h2, h3, rfl⟩
  · left
    have := valP_text h1 (t := []) (.inl rfl)
    rw [List.append_nil] at this
    exact ⟨this, rfl, (vT_bytes h1).1⟩
  · right
    have := valP_text h1 (t := dots ++ vT L y) (noDig_46 _)
    refine ⟨this, ?_, ?_, ?_, ?_, ?_, h2, h3⟩
    · exact fun e => (vT_bytes h1).1 (List.eq_nil_of_length_eq_zero e)
    · simp [dots]
    · simp [dots]
    · rw [List.drop_left]; rfl
    · rw [← List.drop_drop, List.drop_left]; rfl
theorem pM_zero {L : Bool} {a b : Int} {l : Bs} (h : (valP L a b l).2 = 0) : spanO L a b l = none := spanO_none fun x y hs => by
  rcases shape_val hs with ⟨e, _, h2⟩ | ⟨e, h0, _⟩
  · rw [e] at h; exact h2 (List.eq_nil_of_length_eq_zero h)
  · rw [e] at h; exact h0 h
theorem pM_all {L : Bool} {a b : Int} {l : Bs} (hc : colB L a b = true) (h : (valP L a b l).2 ≠ 0) (h1 : (valP L a b l).2 = l.length) : spanO L a b l = some ((valP L a b l).1, (valP L a b l).1) := by
  obtain ⟨p1, p2, _⟩ := valP_pos hc h
  rw [h1, List.take_length] at p2
  have := spanO_one p1
  rwa [← p2] at this
theorem pM_short {L : Bool} {a b : Int} {l : Bs} (h1 : (valP L a b l).2 ≠ l.length) (h : l.length < (valP L a b l).2 + 2) : spanO L a b l = none := spanO_none fun x y hs => by
  rcases shape_val hs with ⟨e, _, _⟩ | ⟨e, _, h3, _⟩
  · rw [e] at h1; exact h1 rfl
  · rw [e] at h; simp only at h; omega
theorem pM_dots {L : Bool} {a b : Int} {l : Bs} (h1 : (valP L a b l).2 ≠ l.length) (h : (l.drop (valP L a b l).2).take 2 ≠ dots) : spanO L a b l = none := spanO_none fun x y hs => by
  rcases shape_val hs with ⟨e, _, _⟩ | ⟨e, _, _, _, h3, _⟩
  · rw [e] at h1; exact h1 rfl
  · rw [e] at h; exact h h3
theorem pM_hi {L : Bool} {a b : Int} {l : Bs} (h1 : (valP L a b l).2 ≠ l.length) (h : pvB L a b (l.drop ((valP L a b l).2 + 2)) = false) : spanO L a b l = none := spanO_none fun x y hs => by
  rcases shape_val hs with ⟨e, _, _⟩ | ⟨e, _, _, _, _, h3, h4, _⟩
  · rw [e] at h1; exact h1 rfl
  · rw [e] at h; simp only at h; rw [h3, ← fV_yes h4, (parse_fV h4).2] at h; cases h
theorem pM_gt {L : Bool} {a b : Int} {l : Bs} (h1 : (valP L a b l).2 ≠ l.length) (h : pvN L a b (l.drop ((valP L a b l).2 + 2)) < (valP L a b l).1) : spanO L a b l = none := spanO_none fun x y hs => by
  rcases shape_val hs with ⟨e, _, _⟩ | ⟨e, _, _, _, _, h3, h4, h5⟩
  · rw [e] at h1; exact h1 rfl
  · rw [e] at h; simp only at h; rw [h3, ← fV_yes h4, (parse_fV h4).1] at h; omega
theorem pM_two {L : Bool} {a b : Int} {l : Bs} (hc : colB L a b = true) (h0 : (valP L a b l).2 ≠ 0) (hd : (l.drop (valP L a b l).2).take 2 = dots) (hb : pvB L a b (l.drop ((valP L a b l).2 + 2)) = true)
    (hle : (valP L a b l).1 ≤ pvN L a b (l.drop ((valP L a b l).2 + 2))) : spanO L a b l = some ((valP L a b l).1, pvN L a b (l.drop ((valP L a b l).2 + 2))) := by
  obtain ⟨p1, p2, _⟩ := valP_pos hc h0
  obtain ⟨q1, q2⟩ := pv_back hb
  rw [fV_yes q2] at q1
  have e : l = vT L (valP L a b l).1 ++ (dots ++ vT L (pvN L a b (l.drop ((valP L a b l).2 + 2)))) := by
    rw [q1, ← p2, ← hd]
    have h1 := (List.take_append_drop 2 (l.drop (valP L a b l).2)).symm
    rw [List.drop_drop] at h1
    rw [← h1]
    exact (List.take_append_drop _ _).symm
  have := spanO_two p1 q2 hle
  rwa [← e] at this

/- ## comparisons -/
theorem prefix2 (p q c d : UInt8) (t : Bs) : Lib.hasPrefix (c :: d :: t) [p, q] = (p == c && q == d) := by
  unfold Lib.hasPrefix
  simp [List.isPrefixOf]
theorem prefix2_one (p q c : UInt8) : Lib.hasPrefix [c] [p, q] = false := by
  unfold Lib.hasPrefix
  simp [List.isPrefixOf]
theorem prefix_nil (p : UInt8) (r : Bs) : Lib.hasPrefix [] (p :: r) = false := rfl
theorem pieceO_nil (L : Bool) (a b : Int) : pieceO L a b [] = none := by
  unfold pieceO
  rw [prefix_nil, prefix_nil, prefix_nil, prefix_nil]
  simp only [Bool.false_eq_true, if_false]
  unfold spanO
  rw [cut_nil]
  simp [pvO_nil]
theorem pieceO_span {L : Bool} {a b : Int} {c : UInt8} {t : Bs} (h1 : c ≠ 60) (h2 : c ≠ 62) : pieceO L a b (c :: t) = spanO L a b (c :: t) := by
  unfold pieceO
  rw [prefix_cons2 _ _ _ _ (Ne.symm h1), prefix_cons2 _ _ _ _ (Ne.symm h2), prefix_cons, prefix_cons, beq_eq_false_iff_ne.2 (Ne.symm h1), beq_eq_false_iff_ne.2 (Ne.symm h2)]
  simp
def eq2 (l : Bs) : Bool := decide (1 < l.length) && ((l.drop 1).headD 0 == 61)
theorem pieceO_lt2 {L : Bool} {a b : Int} {l : Bs} (h : l.headD 0 = 60) (h2 : eq2 l = true) : pieceO L a b l = (pvO L a b (l.drop 2)).map fun n => (a, n) := by
  unfold eq2 at h2
  rcases l with _ | ⟨c, _ | ⟨d, t⟩⟩
  · simp at h2
  · simp at h2
  · simp at h h2
    subst h h2
    unfold pieceO
    rw [prefix2]
    simp
theorem pieceO_lt1 {L : Bool} {a b : Int} {l : Bs} (h : l.headD 0 = 60) (h2 : eq2 l = false) : pieceO L a b l = (pvO L a b (l.drop 1)).map fun n => (a, n - 1) := by
  unfold eq2 at h2
  rcases l with _ | ⟨c, _ | ⟨d, t⟩⟩
  · exact absurd h (by decide)
  · simp at h
    subst h
    unfold pieceO
    rw [prefix2_one, prefix2_one, prefix_cons]
    simp
  · simp at h h2
    subst h
    unfold pieceO
    rw [prefix2, prefix2, prefix_cons]
    have : ((61 : UInt8) == d) = false := beq_eq_false_iff_ne.2 (Ne.symm h2)
    rw [this]
    simp
theorem pieceO_gt2 {L : Bool} {a b : Int} {l : Bs} (h : l.headD 0 = 62) (h2 : eq2 l = true) : pieceO L a b l = (pvO L a b (l.drop 2)).map fun n => (n, b) := by
  unfold eq2 at h2
  rcases l with _ | ⟨c, _ | ⟨d, t⟩⟩
  · simp at h2
  · simp at h2
  · simp at h h2
    subst h h2
    unfold pieceO
    rw [prefix2, prefix2]
    simp
theorem pieceO_gt1 {L : Bool} {a b : Int} {l : Bs} (h : l.headD 0 = 62) (h2 : eq2 l = false) : pieceO L a b l = (pvO L a b (l.drop 1)).map fun n => (n + 1, b) := by
  unfold eq2 at h2
  rcases l with _ | ⟨c, _ | ⟨d, t⟩⟩
  · exact absurd h (by decide)
  · simp at h
    subst h
    unfold pieceO
    rw [prefix2_one, prefix2_one, prefix_cons, prefix_cons]
    simp
  · simp at h h2
    subst h
    unfold pieceO
    rw [prefix2, prefix2, prefix_cons, prefix_cons]
    have : ((61 : UInt8) == d) = false := beq_eq_false_iff_ne.2 (Ne.symm h2)
    rw [this]
    simp
theorem piece_some {L : Bool} {a b : Int} {l m : Bs} {f : Int → Sp} (h : pieceO L a b l = (pvO L a b m).map f) (hb : pvB L a b m = true) : pieceV L a b l = f (pvN L a b m) ∧ pieceB L a b l = true := by
  rw [pvO_of hb] at h
  exact pieceV_of h
theorem piece_none {L : Bool} {a b : Int} {l m : Bs} {f : Int → Sp} (h : pieceO L a b l = (pvO L a b m).map f) (hb : pvB L a b m = false) : pieceV L a b l = (0, 0) ∧ pieceB L a b l = false := by
  rw [pvO_not hb] at h
  refine ⟨?_, pieceB_no h⟩
  unfold pieceV
  rw [h]
  rfl
theorem piece_no {L : Bool} {a b : Int} {l : Bs} (h : pieceO L a b l = none) : pieceV L a b l = (0, 0) ∧ pieceB L a b l = false := by
  refine ⟨?_, pieceB_no h⟩
  unfold pieceV
  rw [h]
  rfl

/- ## a text cut at a byte -/
def splitG (s : UInt8) : Bs → List Bs
  | [] => [[]]
  | c :: t => if c = s then [] :: splitG s t else (c :: (splitG s t).headD []) :: (splitG s t).tail
theorem splitG_44 : ∀ l : Bs, splitG 44 l = splitC l
  | [] => rfl
  | c :: t => by rw [splitG, splitC, splitG_44 t]
theorem splitG_ne (s : UInt8) (l : Bs) : splitG s l ≠ [] := by
  cases l with
  | nil => simp [splitG]
  | cons c t => rw [splitG]; split <;> simp
theorem splitG_plain (s : UInt8) : ∀ (l : Bs), (∀ c ∈ l, c ≠ s) → splitG s l = [l]
  | [], _ => rfl
  | c :: t, h => by
    rw [splitG, if_neg (h c List.mem_cons_self), splitG_plain s t (fun d hd => h d (List.mem_cons_of_mem _ hd))]
    rfl
theorem splitG_cut (s : UInt8) : ∀ (p r : Bs), (∀ c ∈ p, c ≠ s) → splitG s (p ++ s :: r) = p :: splitG s r
  | [], r, _ => by
    rw [List.nil_append, splitG, if_pos rfl]
  | c :: t, r, h => by
    rw [List.cons_append, splitG, if_neg (h c List.mem_cons_self), splitG_cut s t r (fun d hd => h d (List.mem_cons_of_mem _ hd))]
    rfl
theorem indexG (s : UInt8) : ∀ (l : Bs), (Lib.indexByte l s = -1 ∧ ∀ c ∈ l, c ≠ s) ∨ ∃ p r, l = p ++ s :: r ∧ (∀ c ∈ p, c ≠ s) ∧ Lib.indexByte l s = p.length
  | [] => .inl ⟨rfl, fun c hc => by cases hc⟩
  | c :: t => by
    by_cases e : c = s
    · subst e
      exact .inr ⟨[], t, rfl, (fun c hc => by cases hc), by simp [Lib.indexByte]⟩
    · have e' : (c == s) = false := beq_eq_false_iff_ne.2 e
      rcases indexG s t with ⟨h1, h2⟩ | ⟨p, r, rfl, h2, h3⟩
      · refine .inl ⟨by rw [Lib.indexByte, e', h1]; rfl, fun d hd => ?_⟩
        rcases List.mem_cons.1 hd with rfl | hd
        · exact e
        · exact h2 d hd
      · refine .inr ⟨c :: p, r, rfl, fun d hd => ?_, ?_⟩
        · rcases List.mem_cons.1 hd with rfl | hd
          · exact e
          · exact h2 d hd
        · rw [Lib.indexByte, e', h3]
          have : ((p.length : Int) == -1) = false := beq_eq_false_iff_ne.2 (by omega)
          rw [this]
          simp
theorem splitG_len (s : UInt8) : ∀ l : Bs, (splitG s l).length ≤ l.length + 1
  | [] => Nat.le_refl _
  | c :: t => by
    have := splitG_len s t
    have h0 : (splitG s t).length ≠ 0 := fun e => splitG_ne s t (List.eq_nil_of_length_eq_zero e)
    rw [splitG]
    split
    · simp; omega
    · simp; omega
theorem splitG_mem_len (s : UInt8) : ∀ (l : Bs), ∀ p ∈ splitG s l, p.length ≤ l.length
  | [], p, h => by simp [splitG] at h; subst h; simp
  | c :: t, p, h => by
    have ih := splitG_mem_len s t
    rw [splitG] at h
    split at h
    · rcases List.mem_cons.1 h with rfl | h
      · simp
      · have := ih p h; simp; omega
    · rcases List.mem_cons.1 h with rfl | h
      · cases hs : splitG s t with
        | nil => exact absurd hs (splitG_ne s t)
        | cons q r => have := ih q (by rw [hs]; exact List.mem_cons_self); simp; omega
      · have := ih p (List.mem_of_mem_tail h); simp; omega

/-- the model's loop: at i, with the present piece begun at f -/
def cutAt (s : UInt8) (l : Bs) (out : List Bs) (f i : Nat) : Prop :=
  (i ≤ l.length ∧ f ≤ i ∧ splitG s l = out ++ splitG s (l.drop f) ∧ ∀ c ∈ (l.drop f).take (i - f), c ≠ s) ∨ (i = l.length + 1 ∧ out = splitG s l)
theorem cutAt_start (s : UInt8) (l : Bs) : cutAt s l [] 0 0 := .inl ⟨Nat.zero_le _, Nat.le_refl _, rfl, by simp⟩
theorem cutAt_last {s : UInt8} {l : Bs} {out : List Bs} {f : Nat} (h : cutAt s l out f l.length) : f ≤ l.length ∧ cutAt s l (out ++ [l.drop f]) (l.length + 1) (l.length + 1) := by
  rcases h with ⟨_, h1, h2, h3⟩ | ⟨h, _⟩
  · refine ⟨h1, .inr ⟨rfl, ?_⟩⟩
    rw [h2, splitG_plain s (l.drop f)]
    rwa [List.take_of_length_le (by simp)] at h3
  · omega
theorem cutAt_le {s : UInt8} {l : Bs} {out : List Bs} {f i : Nat} (h : cutAt s l out f i) (hi : i < l.length) : f ≤ i := by
  rcases h with ⟨_, h1, _⟩ | ⟨h, _⟩
  · exact h1
  · omega
theorem cutAt_hit {s : UInt8} {l : Bs} {out : List Bs} {f i : Nat} (h : cutAt s l out f i) (hi : i < l.length) (hc : l[i] = s) : cutAt s l (out ++ [(l.drop f).take (i - f)]) (i + 1) (i + 1) := by
  rcases h with ⟨_, h1, h2, h3⟩ | ⟨h, _⟩
  · refine .inl ⟨hi, Nat.le_refl _, ?_, by simp⟩
    have e : l.drop f = (l.drop f).take (i - f) ++ s :: l.drop (i + 1) := by
      have e2 : (l.drop f).drop (i - f) = s :: l.drop (i + 1) := by
        rw [List.drop_drop, show f + (i - f) = i by omega, List.drop_eq_getElem_cons hi, hc]
      rw [← e2, List.take_append_drop]
    rw [h2, e, splitG_cut s _ _ h3, ← e]
    simp
  · omega
theorem cutAt_miss {s : UInt8} {l : Bs} {out : List Bs} {f i : Nat} (h : cutAt s l out f i) (hi : i < l.length) (hc : l[i] ≠ s) : cutAt s l out f (i + 1) := by
  rcases h with ⟨_, h1, h2, h3⟩ | ⟨h, _⟩
  · refine .inl ⟨hi, by omega, h2, ?_⟩
    have hd : i - f < (l.drop f).length := by simp; omega
    rw [show i + 1 - f = (i - f) + 1 by omega, List.take_succ_eq_append_getElem hd]
    intro c hm
    rcases List.mem_append.1 hm with hm | hm
    · exact h3 c hm
    · rw [List.mem_singleton.1 hm]
      simp only [List.getElem_drop]
      have : f + (i - f) = i := by omega
      simpa [this] using hc
  · omega
theorem cutAt_end {s : UInt8} {l : Bs} {out : List Bs} {f i : Nat} (h : cutAt s l out f i) (hi : l.length < i) : out = splitG s l := by
  rcases h with ⟨h, _⟩ | ⟨_, h⟩
  · omega
  · exact h
theorem cutAt_len {s : UInt8} {l : Bs} {out : List Bs} {f i : Nat} (h : cutAt s l out f i) : out.length ≤ l.length + 1 ∧ i ≤ l.length + 1 := by
  have := splitG_len s l
  rcases h with ⟨h1, _, h2, _⟩ | ⟨h1, h⟩
  · have e := congrArg List.length h2
    rw [List.length_append] at e
    omega
  · subst h; omega
/- ## a part of a test, as the program reads it -/
theorem piece1 {L : Bool} {a b : Int} {l : Bs} (h1 : Lib.hasPrefix l [60, 61] = true) : pieceO L a b l = (pvO L a b (l.drop 2)).map fun n => (a, n) := by
  unfold pieceO; rw [if_pos h1]
theorem piece2 {L : Bool} {a b : Int} {l : Bs} (h1 : Lib.hasPrefix l [60, 61] = false) (h2 : Lib.hasPrefix l [62, 61] = true) : pieceO L a b l = (pvO L a b (l.drop 2)).map fun n => (n, b) := by
  unfold pieceO; rw [h1, if_neg (by simp), if_pos h2]
theorem piece3 {L : Bool} {a b : Int} {l : Bs} (h1 : Lib.hasPrefix l [60, 61] = false) (h2 : Lib.hasPrefix l [62, 61] = false) (h3 : Lib.hasPrefix l [60] = true) : pieceO L a b l = (pvO L a b (l.drop 1)).map fun n => (a, n - 1) := by
  unfold pieceO; rw [h1, if_neg (by simp), h2, if_neg (by simp), if_pos h3]
theorem piece4 {L : Bool} {a b : Int} {l : Bs} (h1 : Lib.hasPrefix l [60, 61] = false) (h2 : Lib.hasPrefix l [62, 61] = false) (h3 : Lib.hasPrefix l [60] = false) (h4 : Lib.hasPrefix l [62] = true) : pieceO L a b l = (pvO L a b (l.drop 1)).map fun n => (n + 1, b) := by
  unfold pieceO; rw [h1, if_neg (by simp), h2, if_neg (by simp), h3, if_neg (by simp), if_pos h4]
theorem piece5 {L : Bool} {a b : Int} {l : Bs} (h1 : Lib.hasPrefix l [60, 61] = false) (h2 : Lib.hasPrefix l [62, 61] = false) (h3 : Lib.hasPrefix l [60] = false) (h4 : Lib.hasPrefix l [62] = false) : pieceO L a b l = spanO L a b l := by
  unfold pieceO; rw [h1, if_neg (by simp), h2, if_neg (by simp), h3, if_neg (by simp), h4, if_neg (by simp)]
theorem piece_res {L : Bool} {a b : Int} {l m : Bs} {f : Int → Sp} (h : pieceO L a b l = (pvO L a b m).map f) : pieceV L a b l = (if pvB L a b m = true then f (pvN L a b m) else (0, 0)) ∧ pieceB L a b l = pvB L a b m := by
  cases hb : pvB L a b m
  · obtain ⟨h1, h2⟩ := piece_none h hb
    exact ⟨by rw [h1, if_neg (by simp)], h2⟩
  · obtain ⟨h1, h2⟩ := piece_some h hb
    exact ⟨by rw [h1, if_pos rfl], h2⟩
theorem piece_of {L : Bool} {a b : Int} {l : Bs} {x : Sp} (h : pieceO L a b l = spanO L a b l) (h2 : spanO L a b l = some x) : pieceV L a b l = x ∧ pieceB L a b l = true := pieceV_of (h.trans h2)
theorem piece_not {L : Bool} {a b : Int} {l : Bs} (h : pieceO L a b l = spanO L a b l) (h2 : spanO L a b l = none) : pieceV L a b l = (0, 0) ∧ pieceB L a b l = false := piece_no (h.trans h2)
/-- the two texts that a span's text is cut into -/
def cutY (l : Bs) : Bs := if (Lib.cut l dots).2.2 = true then (Lib.cut l dots).2.1 else (Lib.cut l dots).1
theorem span_no1 {L : Bool} {a b : Int} {l : Bs} (h : pvB L a b (Lib.cut l dots).1 = false) : spanO L a b l = none := by
  unfold spanO; rw [pvO_not h]
theorem span_no2 {L : Bool} {a b : Int} {l : Bs} (h : pvB L a b (cutY l) = false) : spanO L a b l = none := by
  unfold cutY at h
  unfold spanO; rw [pvO_not h]; split
  · rename_i h1 h2; cases h2
  · rfl
theorem span_gt {L : Bool} {a b : Int} {l : Bs} (h1 : pvB L a b (Lib.cut l dots).1 = true) (h2 : pvB L a b (cutY l) = true) (h : pvN L a b (cutY l) < pvN L a b (Lib.cut l dots).1) : spanO L a b l = none := by
  unfold cutY at h2 h
  unfold spanO; rw [pvO_of h1, pvO_of h2]
  simp only
  rw [if_neg (by omega)]
theorem span_le {L : Bool} {a b : Int} {l : Bs} (h1 : pvB L a b (Lib.cut l dots).1 = true) (h2 : pvB L a b (cutY l) = true) (h : pvN L a b (Lib.cut l dots).1 ≤ pvN L a b (cutY l)) : spanO L a b l = some (pvN L a b (Lib.cut l dots).1, pvN L a b (cutY l)) := by
  unfold cutY at h2 h ⊢
  unfold spanO; rw [pvO_of h1, pvO_of h2]
  simp only
  rw [if_pos h]
theorem cut_sizes (l p : Bs) : (Lib.cut l p).1.length ≤ l.length ∧ (Lib.cut l p).2.1.length ≤ l.length := by
  unfold Lib.cut
  split
  · simp only [List.length_take, List.length_drop]; omega
  · simp
end Sets
end Go.Proofs.YthkjcljhfjaabaaGreatDoor
