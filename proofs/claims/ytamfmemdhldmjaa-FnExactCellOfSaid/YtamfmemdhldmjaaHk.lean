/-
  The cell of an input: what it is, and the model.
-/
import Derived.Test.YtamfmemdhldmjaaHj
import Derived.BigQuiet
namespace Go.Proofs.Ytamfmemdhldmjaa
open Go.RowKit Sets

def IsPos (xs : List Sp) (v : Int) (p : Nat) : Prop := p < xs.length ∧ lo xs p ≤ v ∧ v ≤ hi xs p
theorem cuts_apart {xs : List Sp} {a b : Int} (h : CutsOk xs a b) {i : Nat} : ∀ d, i + d + 1 < xs.length → hi xs i < lo xs (i + d + 1) := by
  intro d
  induction d with
  | zero => intro hd; have := h.next i hd; show (xs.getD i (0, 0)).2 < (xs.getD (i + 1) (0, 0)).1; omega
  | succ d ih =>
    intro hd
    have h1 := ih (by omega)
    have h2 := h.fine (i + d + 1) (by omega)
    have h3 := h.next (i + d + 1) hd
    show (xs.getD i (0, 0)).2 < (xs.getD (i + d + 1 + 1) (0, 0)).1
    have h1' : (xs.getD i (0, 0)).2 < (xs.getD (i + d + 1) (0, 0)).1 := h1
    omega
theorem pos_uniq {xs : List Sp} {a b v : Int} (h : CutsOk xs a b) {p q : Nat} (hp : IsPos xs v p) (hq : IsPos xs v q) : p = q := by
  obtain ⟨p1, p2, p3⟩ := hp
  obtain ⟨q1, q2, q3⟩ := hq
  rcases Nat.lt_trichotomy p q with hlt | heq | hlt
  · have := cuts_apart h (i := p) (q - p - 1) (by omega)
    rw [show p + (q - p - 1) + 1 = q by omega] at this
    omega
  · exact heq
  · have := cuts_apart h (i := q) (p - q - 1) (by omega)
    rw [show q + (p - q - 1) + 1 = p by omega] at this
    omega
theorem pos_ex {xs : List Sp} {a b v : Int} (h : CutsOk xs a b) (h1 : a ≤ v) (h2 : v ≤ b) : ∃ p, IsPos xs v p := by
  have : ∀ n, n < xs.length → v ≤ hi xs n → ∃ p, IsPos xs v p := by
    intro n
    induction n with
    | zero => intro hn hv; exact ⟨0, hn, by show (xs.getD 0 (0, 0)).1 ≤ v; rw [h.first]; exact h1, hv⟩
    | succ n ih =>
      intro hn hv
      by_cases hq : v ≤ hi xs n
      · exact ih (by omega) hq
      · have := h.next n hn
        refine ⟨n + 1, hn, ?_, hv⟩
        show (xs.getD (n + 1) (0, 0)).1 ≤ v
        have hq' : ¬ v ≤ (xs.getD n (0, 0)).2 := hq
        omega
  refine this (xs.length - 1) (by have := h.pos; omega) ?_
  show v ≤ (xs.getD (xs.length - 1) (0, 0)).2
  rw [h.last]; exact h2
/-- the place of a number among spans, from the back -/
def posK (xs : List Sp) (v : Int) : Nat → Nat
  | 0 => 0
  | k + 1 => if lo xs k ≤ v ∧ v ≤ hi xs k then k else posK xs v k
def posV (xs : List Sp) (v : Int) : Nat := posK xs v xs.length
theorem posK_is {xs : List Sp} {a b v : Int} (h : CutsOk xs a b) {p : Nat} (hp : IsPos xs v p) : ∀ k, p < k → k ≤ xs.length → posK xs v k = p := by
  intro k
  induction k with
  | zero => intro h; omega
  | succ k ih =>
    intro h1 h2
    unfold posK
    split
    · rename_i hk
      exact pos_uniq h ⟨by omega, hk.1, hk.2⟩ hp
    · rename_i hk
      refine ih ?_ (by omega)
      rcases Nat.lt_or_ge p k with hlt | hge
      · exact hlt
      · exact absurd (show lo xs k ≤ v ∧ v ≤ hi xs k by rw [show k = p by omega]; exact hp.2) hk
theorem posV_is {xs : List Sp} {a b v : Int} (h : CutsOk xs a b) (h1 : a ≤ v) (h2 : v ≤ b) : IsPos xs v (posV xs v) := by
  obtain ⟨p, hp⟩ := pos_ex h h1 h2
  have : posV xs v = p := posK_is h hp _ hp.1 (Nat.le_refl _)
  rw [this]; exact hp
/-- what lies before the place lies below the number -/
theorem pos_before {xs : List Sp} {a b v : Int} (h : CutsOk xs a b) {p m : Nat} (hp : IsPos xs v p) (hm : m < p) : hi xs m < v := by
  have := cuts_apart h (i := m) (p - m - 1) (by have := hp.1; omega)
  rw [show m + (p - m - 1) + 1 = p by omega] at this
  have := hp.2.1
  omega

def nuP (gs : List (List Sp)) (ns : List Int) : Nat → Int
  | 0 => 0
  | k + 1 => nuP gs ns k * ((gs.getD k []).length : Int) + (posV (gs.getD k []) (ns.getD k 0) : Int)
def cobV (t : Tb) (ns : List Int) : Bool := gridB t && inpB t ns
def coV (t : Tb) (ns : List Int) : Int := if cobV t ns = true then nuP (gridC t) ns (gridC t).length else 0
theorem in_col {t : Tb} {ns : List Int} (h : inpB t ns = true) {k : Nat} (hk : k < t.cols.length) : (t.cols.getD k (false, 0, 0)).2.1 ≤ ns.getD k 0 ∧ ns.getD k 0 ≤ (t.cols.getD k (false, 0, 0)).2.2 := by
  obtain ⟨h1, h2⟩ := inp_parts h
  rw [ins_yes (ins_len h2), List.all_eq_true] at h2
  have := h2 k (List.mem_range.2 hk)
  unfold inAt at this
  rw [Bool.and_eq_true, decide_eq_true_eq, decide_eq_true_eq] at this
  exact this
theorem col_ok {t : Tb} (h : tabB t = true) {k : Nat} (hk : k < t.cols.length) : CutsOk (cutC t k) (t.cols.getD k (false, 0, 0)).2.1 (t.cols.getD k (false, 0, 0)).2.2 := cutC_ok (tab_col h hk).2.1
theorem in_pos {t : Tb} {ns : List Int} (h : inpB t ns = true) {k : Nat} (hk : k < t.cols.length) : IsPos (cutC t k) (ns.getD k 0) (posV (cutC t k) (ns.getD k 0)) :=
  posV_is (col_ok (inp_parts h).1 hk) (in_col h hk).1 (in_col h hk).2
theorem nuP_succ {t : Tb} {ns : List Int} {k : Nat} (hk : k < t.cols.length) : nuP (gridC t) ns (k + 1) = nuP (gridC t) ns k * ((cutC t k).length : Int) + (posV (cutC t k) (ns.getD k 0) : Int) := by
  rw [nuP, gridC_at hk]
theorem nuP_bound {t : Tb} {ns : List Int} (h : inpB t ns = true) : ∀ k, k ≤ t.cols.length → 0 ≤ nuP (gridC t) ns k ∧ nuP (gridC t) ns k < cntP (gridC t) k := by
  intro k
  induction k with
  | zero => intro _; exact ⟨by simp [nuP], by simp [nuP, cntP]⟩
  | succ k ih =>
    intro hk
    obtain ⟨i1, i2⟩ := ih (by omega)
    have hp := (in_pos h (k := k) (by omega)).1
    rw [nuP_succ (by omega), cntP_succ (by omega)]
    have h1 := Int.mul_nonneg i1 (show (0 : Int) ≤ ((cutC t k).length : Int) by omega)
    have h2 := Int.mul_le_mul_of_nonneg_right (show nuP (gridC t) ns k ≤ cntP (gridC t) k - 1 by omega) (show (0 : Int) ≤ ((cutC t k).length : Int) by omega)
    rw [Int.sub_mul, Int.one_mul] at h2
    constructor <;> omega
theorem nuP_small {t : Tb} {ns : List Int} (h : inpB t ns = true) {k : Nat} (hk : k < t.cols.length) : 0 ≤ nuP (gridC t) ns k * ((cutC t k).length : Int) ∧ nuP (gridC t) ns k * ((cutC t k).length : Int) + (posV (cutC t k) (ns.getD k 0) : Int) ≤ 1568239201 ∧ 0 ≤ nuP (gridC t) ns k ∧ nuP (gridC t) ns k ≤ 1568239201 := by
  have h1 := nuP_bound h k (by omega)
  have h2 := nuP_bound h (k + 1) hk
  have h3 := cntP_small (inp_parts h).1 (k := k) (by omega)
  have h4 := cntP_small (inp_parts h).1 (k := k + 1) hk
  rw [nuP_succ hk] at h2
  have h5 := Int.mul_nonneg h1.1 (show (0 : Int) ≤ ((cutC t k).length : Int) by omega)
  omega
end Go.Proofs.Ytamfmemdhldmjaa
