/-
  Plain facts on meets, complements and sizes of sets of numbers as lists of spans.
-/
import Derived.Test.YtajjmdnbmicefabDoorPure
namespace Go.Proofs.YtajjmdnbmicefabDoor
namespace Sets

theorem norm_low {x : Sp} {s : List Sp} (h : Norm (x :: s)) : ∀ n, memS (x :: s) n → x.1 ≤ n := by
  intro n hn
  rcases (memS_cons x s n).1 hn with hn | ⟨u, hu, hn⟩
  · exact hn.1
  · have := h.1; have := h.2.1 u hu; omega

theorem norm_tail {x : Sp} {s : List Sp} (h : Norm (x :: s)) : ∀ n, memS s n → x.2 + 2 ≤ n := by
  rintro n ⟨u, hu, hn⟩
  have := h.2.1 u hu; omega

/- the meet of two lists, as the program makes it -/
def capS (x y : Sp) : List Sp := if max x.1 y.1 ≤ min x.2 y.2 then [(max x.1 y.1, min x.2 y.2)] else []
def meetP : List Sp → List Sp → List Sp
  | [], _ => []
  | _ :: _, [] => []
  | x :: a, y :: b => capS x y ++ if x.2 < y.2 then meetP a (y :: b) else meetP (x :: a) b
termination_by a b => a.length + b.length

theorem capS_mem (x y : Sp) (n : Int) : memS (capS x y) n ↔ (x.1 ≤ n ∧ n ≤ x.2) ∧ (y.1 ≤ n ∧ n ≤ y.2) := by
  unfold capS
  split
  · rw [memS_cons]
    have := memS_nil n
    constructor
    · rintro (h | h)
      · simp at h; omega
      · exact absurd h this
    · intro h; left; simp; omega
  · constructor
    · intro h; exact absurd h (memS_nil n)
    · intro h; omega

theorem capS_norm (x y : Sp) : Norm (capS x y) := by
  unfold capS
  split
  · exact ⟨by assumption, (fun z hz => by cases hz), trivial⟩
  · trivial

theorem capS_of (x y z : Sp) (h : z ∈ capS x y) : z.1 = max x.1 y.1 ∧ z.2 = min x.2 y.2 ∧ z.1 ≤ z.2 := by
  unfold capS at h
  split at h
  · rw [List.mem_singleton.1 h]; exact ⟨rfl, rfl, by assumption⟩
  · cases h

theorem capS_len (x y : Sp) : (capS x y).length ≤ 1 := by unfold capS; split <;> simp

theorem meetP_len : ∀ a b : List Sp, (meetP a b).length ≤ a.length + b.length
  | [], b => by simp [meetP]
  | x :: a, [] => by simp [meetP]
  | x :: a, y :: b => by
    have hc := capS_len x y
    rw [meetP, List.length_append]
    split
    · have := meetP_len a (y :: b); simp at *; omega
    · have := meetP_len (x :: a) b; simp at *; omega
termination_by a b => a.length + b.length

theorem meetP_spec : ∀ a b : List Sp, Norm a → Norm b → Norm (meetP a b) ∧ (∀ n, memS (meetP a b) n ↔ memS a n ∧ memS b n) ∧
    (∀ z ∈ meetP a b, ∃ x ∈ a, ∃ y ∈ b, z.1 = max x.1 y.1 ∧ z.2 = min x.2 y.2)
  | [], b, _, _ => by
    rw [meetP]
    exact ⟨trivial, fun n => ⟨fun h => absurd h (memS_nil n), fun h => absurd h.1 (memS_nil n)⟩, fun z hz => by cases hz⟩
  | x :: a, [], _, _ => by
    rw [meetP]
    exact ⟨trivial, fun n => ⟨fun h => absurd h (memS_nil n), fun h => absurd h.2 (memS_nil n)⟩, fun z hz => by cases hz⟩
  | x :: a, y :: b, ha, hb => by
    rw [meetP]
    by_cases hlt : x.2 < y.2
    · rw [if_pos hlt]
      obtain ⟨h1, h2, h3⟩ := meetP_spec a (y :: b) ha.2.2 hb
      refine ⟨norm_append (capS_norm x y) h1 fun u hu v hv => ?_, fun n => ?_, fun z hz => ?_⟩
      · have hu' := capS_of x y u hu
        obtain ⟨x', hx', y', hy', e1, e2⟩ := h3 v hv
        have := ha.2.1 x' hx'
        omega
      · rw [memS_append, capS_mem, h2 n]
        constructor
        · rintro (⟨p, q⟩ | ⟨p, q⟩)
          · exact ⟨(memS_cons _ _ _).2 (.inl p), (memS_cons _ _ _).2 (.inl q)⟩
          · exact ⟨(memS_cons _ _ _).2 (.inr p), q⟩
        · rintro ⟨p, q⟩
          rcases (memS_cons _ _ _).1 p with p | p
          · rcases (memS_cons _ _ _).1 q with q' | q'
            · exact .inl ⟨p, q'⟩
            · have := norm_tail hb n q'; omega
          · exact .inr ⟨p, q⟩
      · rcases List.mem_append.1 hz with hz | hz
        · have := capS_of x y z hz
          exact ⟨x, List.mem_cons_self, y, List.mem_cons_self, this.1, this.2.1⟩
        · obtain ⟨x', hx', y', hy', e⟩ := h3 z hz
          exact ⟨x', List.mem_cons_of_mem _ hx', y', hy', e⟩
    · rw [if_neg hlt]
      obtain ⟨h1, h2, h3⟩ := meetP_spec (x :: a) b ha hb.2.2
      refine ⟨norm_append (capS_norm x y) h1 fun u hu v hv => ?_, fun n => ?_, fun z hz => ?_⟩
      · have hu' := capS_of x y u hu
        obtain ⟨x', hx', y', hy', e1, e2⟩ := h3 v hv
        have := hb.2.1 y' hy'
        omega
      · rw [memS_append, capS_mem, h2 n]
        constructor
        · rintro (⟨p, q⟩ | ⟨p, q⟩)
          · exact ⟨(memS_cons _ _ _).2 (.inl p), (memS_cons _ _ _).2 (.inl q)⟩
          · exact ⟨p, (memS_cons _ _ _).2 (.inr q)⟩
        · rintro ⟨p, q⟩
          rcases (memS_cons _ _ _).1 q with q' | q'
          · rcases (memS_cons _ _ _).1 p with p' | p'
            · exact .inl ⟨p', q'⟩
            · have := norm_tail ha n p'; omega
          · exact .inr ⟨p, q'⟩
      · rcases List.mem_append.1 hz with hz | hz
        · have := capS_of x y z hz
          exact ⟨x, List.mem_cons_self, y, List.mem_cons_self, this.1, this.2.1⟩
        · obtain ⟨x', hx', y', hy', e⟩ := h3 z hz
          exact ⟨x', hx', y', List.mem_cons_of_mem _ hy', e⟩
termination_by a b => a.length + b.length

/- the numbers up to 99 that a set does not have, from 'next' on, as the program makes it -/
def gapS (next lo : Int) : List Sp := if next < lo then [(next, lo - 1)] else []
def lastS (next : Int) : List Sp := if next ≤ 99 then [(next, 99)] else []
def otherP : Int → List Sp → List Sp
  | next, [] => lastS next
  | next, x :: s => gapS next x.1 ++ otherP (x.2 + 1) s

theorem otherP_len (s : List Sp) : ∀ next, (otherP next s).length ≤ s.length + 1 := by
  induction s with
  | nil => intro next; simp only [otherP, lastS]; split <;> simp
  | cons x s ih =>
    intro next
    have := ih (x.2 + 1)
    simp only [otherP, gapS, List.length_append]
    split <;> simp <;> omega

theorem otherP_spec (s : List Sp) : ∀ next, Norm s → Within s → (∀ x ∈ s, next ≤ x.1) → Norm (otherP next s) ∧
    (∀ n, memS (otherP next s) n ↔ next ≤ n ∧ n ≤ 99 ∧ ¬ memS s n) ∧ ∀ z ∈ otherP next s, next ≤ z.1 ∧ z.2 ≤ 99 := by
  induction s with
  | nil =>
    intro next _ _ _
    simp only [otherP, lastS]
    split
    · refine ⟨⟨by assumption, (fun z hz => by cases hz), trivial⟩, fun n => ?_, fun z hz => ?_⟩
      · rw [memS_cons]
        have := memS_nil n
        constructor
        · rintro (h | h)
          · simp at h; exact ⟨h.1, h.2, this⟩
          · exact absurd h this
        · intro h; left; simp; omega
      · rw [List.mem_singleton.1 hz]; simp
    · refine ⟨trivial, fun n => ⟨fun h => absurd h (memS_nil n), fun h => ?_⟩, fun z hz => by cases hz⟩
      omega
  | cons x s ih =>
    intro next hs hw hn
    have hx := hs.1
    have hwx := hw x List.mem_cons_self
    have hnx := hn x List.mem_cons_self
    obtain ⟨h1, h2, h3⟩ := ih (x.2 + 1) hs.2.2 (fun z hz => hw z (List.mem_cons_of_mem _ hz)) (fun z hz => by have := hs.2.1 z hz; omega)
    have hlow : ∀ n, memS s n → x.2 + 2 ≤ n := norm_tail hs
    simp only [otherP, gapS]
    split
    · rename_i hlt
      refine ⟨⟨by simp; omega, (fun z hz => ?_), h1⟩, fun n => ?_, fun z hz => ?_⟩
      · have hz' : z ∈ otherP (x.2 + 1) s := by simpa using hz
        have := (h3 z hz').1
        simp; omega
      · rw [memS_append, memS_cons, h2 n, memS_cons]
        have := memS_nil n
        have := hlow n
        constructor
        · rintro ((h | h) | h)
          · simp at h
            refine ⟨h.1, by omega, ?_⟩
            rintro (h' | h')
            · omega
            · have := hlow n h'; omega
          · exact absurd h (memS_nil n)
          · refine ⟨by omega, h.2.1, ?_⟩
            rintro (h' | h')
            · omega
            · exact h.2.2 h'
        · rintro ⟨ha, hb, hc⟩
          by_cases hlt : n < x.1
          · left; left; simp; omega
          · right
            refine ⟨?_, hb, fun h' => hc (.inr h')⟩
            by_cases hle : n ≤ x.2
            · exact absurd (.inl ⟨by omega, hle⟩) hc
            · omega
      · rcases List.mem_append.1 hz with hz | hz
        · rw [List.mem_singleton.1 hz]; simp; omega
        · have := h3 z hz; omega
    · refine ⟨h1, fun n => ?_, fun z hz => ?_⟩
      · rw [List.nil_append, h2 n, memS_cons]
        constructor
        · rintro ⟨ha, hb, hc⟩
          refine ⟨by omega, hb, ?_⟩
          rintro (h' | h')
          · omega
          · exact hc h'
        · rintro ⟨ha, hb, hc⟩
          refine ⟨?_, hb, fun h' => hc (.inr h')⟩
          by_cases hle : n ≤ x.2
          · exact absurd (.inl ⟨by omega, hle⟩) hc
          · omega
      · have := h3 z (by simpa using hz); omega

/- what both programs answer -/
def minusP (a b : List Sp) : List Sp := meetP a (otherP (-99) b)

theorem minusP_spec (a b : List Sp) (ha : Norm a) (hwa : Within a) (hb : Norm b) (hwb : Within b) :
    Norm (minusP a b) ∧ Within (minusP a b) ∧ ∀ n, memS (minusP a b) n ↔ memS a n ∧ ¬ memS b n := by
  obtain ⟨o1, o2, o3⟩ := otherP_spec b (-99) hb hwb (fun x hx => (hwb x hx).1)
  obtain ⟨m1, m2, m3⟩ := meetP_spec a (otherP (-99) b) ha o1
  refine ⟨m1, fun z hz => ?_, fun n => ?_⟩
  · obtain ⟨x, hx, y, hy, e1, e2⟩ := m3 z hz
    have := hwa x hx; have := o3 y hy; omega
  · unfold minusP
    rw [m2 n, o2 n]
    constructor
    · rintro ⟨p, _, _, q⟩; exact ⟨p, q⟩
    · rintro ⟨p, q⟩
      obtain ⟨x, hx, hn⟩ := p
      have := hwa x hx
      exact ⟨⟨x, hx, hn⟩, by omega, by omega, q⟩

theorem meetP_within (a b : List Sp) (ha : Norm a) (hwa : Within a) (hb : Norm b) : Within (meetP a b) := by
  intro z hz
  obtain ⟨x, hx, y, hy, e1, e2⟩ := (meetP_spec a b ha hb).2.2 z hz
  have := hwa x hx; have := (hb.le) y hy
  have hn := ((meetP_spec a b ha hb).1).le z hz
  omega

/- a set is what its flags say -/
theorem eq_fromF (s : List Sp) (hs : Norm s) (hw : Within s) (f : Nat → Bool) (hf : ∀ j, j < 199 → (f j = true ↔ memS s ((j : Int) - 99))) : fromF f 199 = s := by
  obtain ⟨h1, _, h3⟩ := fromF_spec f 199
  refine norm_unique _ _ h1 hs fun n => (h3 n).trans ⟨?_, ?_⟩
  · rintro ⟨j, hj, hfj, rfl⟩
    exact (hf j hj).1 hfj
  · rintro ⟨x, hx, hn⟩
    have := hw x hx
    refine ⟨(n + 99).toNat, by omega, (hf _ (by omega)).2 ?_, by omega⟩
    have e : (((n + 99).toNat : Nat) : Int) - 99 = n := by omega
    rw [e]; exact ⟨x, hx, hn⟩

def flag (s : List Sp) (j : Nat) : Bool := haveB s ((j : Int) - 99)
theorem flag_iff (s : List Sp) (j : Nat) : flag s j = true ↔ memS s ((j : Int) - 99) := haveB_iff _ _

theorem meet_flags (a b : List Sp) (ha : Norm a) (hwa : Within a) (hb : Norm b) : fromF (fun j => flag a j && flag b j) 199 = meetP a b :=
  eq_fromF _ (meetP_spec a b ha hb).1 (meetP_within a b ha hwa hb) _ fun j _ => by
    rw [(meetP_spec a b ha hb).2.1, Bool.and_eq_true, flag_iff, flag_iff]

theorem minus_flags (a b : List Sp) (ha : Norm a) (hwa : Within a) (hb : Norm b) (hwb : Within b) : fromF (fun j => flag a j && !flag b j) 199 = minusP a b :=
  eq_fromF _ (minusP_spec a b ha hwa hb hwb).1 (minusP_spec a b ha hwa hb hwb).2.1 _ fun j _ => by
    rw [(minusP_spec a b ha hwa hb hwb).2.2, Bool.and_eq_true, flag_iff, Bool.not_eq_true', ← Bool.not_eq_true, flag_iff]

/- sizes -/
def sizeS : List Sp → Int
  | [] => 0
  | x :: s => (x.2 - x.1 + 1) + sizeS s
def cnt (f : Nat → Bool) : Nat → Int
  | 0 => 0
  | k + 1 => cnt f k + if f k then 1 else 0

theorem cnt_congr (f g : Nat → Bool) (k : Nat) (h : ∀ j, j < k → f j = g j) : cnt f k = cnt g k := by
  induction k with
  | zero => rfl
  | succ k ih => simp only [cnt]; rw [ih (fun j hj => h j (by omega)), h k (by omega)]
theorem cnt_add (f g h : Nat → Bool) (k : Nat) (e : ∀ j, j < k → ((if f j then 1 else 0 : Int) + (if g j then 1 else 0)) = if h j then 1 else 0) : cnt f k + cnt g k = cnt h k := by
  induction k with
  | zero => rfl
  | succ k ih =>
    have := ih (fun j hj => e j (by omega))
    have := e k (by omega)
    simp only [cnt]; omega
theorem cnt_none (k : Nat) : cnt (fun _ => false) k = 0 := by
  induction k with
  | zero => rfl
  | succ k ih => simp only [cnt]; rw [ih]; rfl
theorem cnt_span (x : Sp) (hlo : -99 ≤ x.1) (hle : x.1 ≤ x.2) : ∀ k : Nat, cnt (fun j => decide (x.1 ≤ (j : Int) - 99) && decide ((j : Int) - 99 ≤ x.2)) k =
    if (k : Int) - 99 ≤ x.1 then 0 else if (k : Int) - 100 ≤ x.2 then (k : Int) - 99 - x.1 else x.2 - x.1 + 1
  | 0 => by
    show (0 : Int) = _
    rw [if_pos (by simp; omega)]
  | k + 1 => by
    have ih := cnt_span x hlo hle k
    simp only [cnt, ih]
    by_cases h1 : x.1 ≤ (k : Int) - 99 <;> by_cases h2 : (k : Int) - 99 ≤ x.2 <;> simp [h1, h2] <;> split <;> (try split) <;> (try split) <;> (try split) <;> omega

theorem size_cnt : ∀ s : List Sp, Norm s → Within s → sizeS s = cnt (flag s) 199
  | [], _, _ => by
    show (0 : Int) = _
    rw [cnt_congr (flag []) (fun _ => false) 199 (fun j _ => rfl), cnt_none]
  | x :: s, hs, hw => by
    have ih := size_cnt s hs.2.2 (fun z hz => hw z (List.mem_cons_of_mem _ hz))
    have hx := hw x List.mem_cons_self
    have h1 := cnt_span x hx.1 hs.1 199
    rw [if_neg (by have := hs.1; omega), ] at h1
    have h2 : cnt (fun j => decide (x.1 ≤ (j : Int) - 99) && decide ((j : Int) - 99 ≤ x.2)) 199 = x.2 - x.1 + 1 := by
      rw [h1]; split <;> omega
    have h3 := cnt_add (fun j => decide (x.1 ≤ (j : Int) - 99) && decide ((j : Int) - 99 ≤ x.2)) (flag s) (flag (x :: s)) 199 (by
      intro j _
      have hfl : flag (x :: s) j = ((decide (x.1 ≤ (j : Int) - 99) && decide ((j : Int) - 99 ≤ x.2)) || flag s j) := rfl
      rw [hfl]
      cases hc : flag s j with
      | false => cases (decide (x.1 ≤ (j : Int) - 99) && decide ((j : Int) - 99 ≤ x.2)) <;> rfl
      | true =>
        have := norm_tail hs _ ((flag_iff s j).1 hc)
        have hn : decide ((j : Int) - 99 ≤ x.2) = false := decide_eq_false (by omega)
        rw [hn]; simp)
    show (x.2 - x.1 + 1) + sizeS s = _
    rw [← h3, h2, ih]

theorem size_parts (a b : List Sp) (ha : Norm a) (hwa : Within a) (hb : Norm b) (hwb : Within b) : sizeS (minusP a b) + sizeS (meetP a b) = sizeS a := by
  obtain ⟨m1, m2, m3⟩ := minusP_spec a b ha hwa hb hwb
  have n1 := (meetP_spec a b ha hb)
  rw [size_cnt _ m1 m2, size_cnt _ n1.1 (meetP_within a b ha hwa hb), size_cnt a ha hwa]
  refine cnt_add _ _ _ _ fun j _ => ?_
  have e1 : flag (minusP a b) j = (flag a j && !flag b j) := by
    rw [Bool.eq_iff_iff, flag_iff, m3, Bool.and_eq_true, flag_iff, Bool.not_eq_true', ← Bool.not_eq_true, flag_iff]
  have e2 : flag (meetP a b) j = (flag a j && flag b j) := by
    rw [Bool.eq_iff_iff, flag_iff, n1.2.1, Bool.and_eq_true, flag_iff, flag_iff]
  rw [e1, e2]
  cases flag a j <;> cases flag b j <;> rfl

theorem sizeS_bound : ∀ s : List Sp, Norm s → Within s → 0 ≤ sizeS s ∧ sizeS s ≤ 199 * (s.length : Int)
  | [], _, _ => ⟨Int.le_refl _, by simp [sizeS]⟩
  | x :: s, hs, hw => by
    have ih := sizeS_bound s hs.2.2 (fun z hz => hw z (List.mem_cons_of_mem _ hz))
    have hx := hw x List.mem_cons_self
    have := hs.1
    simp only [sizeS, List.length_cons]
    constructor <;> push_cast <;> omega
end Sets
end Go.Proofs.YtajjmdnbmicefabDoor
