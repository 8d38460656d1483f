/-
  Lists of numbers that a call makes; what outputs decide.
-/
import Derived.Test.YtiaoenkgapfgaaaDoorUaM
import Derived.Test.YtiaoenkgapfgaaaDoorVr
import Derived.Test.YtiaoenkgapfgaaaDoorOw
namespace Go.Proofs.YtiaoenkgapfgaaaDoor
open Go.RowKit Sets

/-- A slice of the call's own (blocks from base on) that holds the numbers ns. -/
def OwnN (w : World) (base : Nat) (A : Option Addr) (c : Nat) (ns : List Int) : Prop :=
  ns.length ≤ c ∧ c ≤ 9223372036854775807 ∧ (∀ x ∈ ns, I64 x) ∧ (∀ g o s, A = some ⟨g, o, s⟩ → base ≤ g ∧ g < w.heap.size) ∧ (ns.length = 0 ∨ ∃ g, A = some ⟨g, 0, none⟩ ∧ IntRow w g ns ns.length ∧ OwnBlk w g ns.length)
theorem OwnN.ints {w : World} {base : Nat} {A : Option Addr} {c : Nat} {ns : List Int} (h : OwnN w base A c ns) : IntsAt w w.heap.size A c ns :=
  ⟨h.2.2.1, h.1, h.2.1, h.2.2.2.2.imp id fun ⟨g, e, hr, ho⟩ => ⟨g, 0, e, ho.2.2, fun i hi => by rw [Nat.zero_add, Nat.mul_one]; exact hr i hi⟩⟩
theorem OwnN.step {w w' : World} {base : Nat} {A : Option Addr} {c : Nat} {ns : List Int} (h : OwnN w base A c ns) (hb : Below w.heap.size w w') : OwnN w' base A c ns :=
  ⟨h.1, h.2.1, h.2.2.1, fun g o s e => ⟨(h.2.2.2.1 g o s e).1, Nat.lt_of_lt_of_le (h.2.2.2.1 g o s e).2 hb.size⟩, h.2.2.2.2.imp id fun ⟨g, e, hr, ho⟩ => ⟨g, e, hr.below hb ho.2.2, ho.below hb ho.2.2⟩⟩
theorem OwnN.base {w : World} {base base' : Nat} {A : Option Addr} {c : Nat} {ns : List Int} (h : OwnN w base A c ns) (hb : base' ≤ base) : OwnN w base' A c ns :=
  ⟨h.1, h.2.1, h.2.2.1, fun g o s e => ⟨Nat.le_trans hb (h.2.2.2.1 g o s e).1, (h.2.2.2.1 g o s e).2⟩, h.2.2.2.2⟩
theorem OwnN.nil (w : World) (base : Nat) : OwnN w base none 0 [] := ⟨Nat.le_refl _, by omega, (fun x hx => by cases hx), (fun g o s e => by cases e), .inl rfl⟩
/-- the cells of a list of numbers -/
def intCells (ns : List Int) : List Value := ns.map (Value.int .i64)
theorem intCells_at {ns : List Int} {i : Nat} (hi : i < ns.length) : (intCells ns)[i]? = some (.int .i64 (ns.getD i 0)) := by
  unfold intCells
  rw [List.getElem?_map, List.getElem?_eq_getElem hi, List.getD_eq_getElem?_getD, List.getElem?_eq_getElem hi]; rfl
/-- v is a row of the call's own that holds ns -/
def OwnI (w : World) (base : Nat) (v : Value) (ns : List Int) : Prop := w.ownsRow base 3 1 v ns.length (intCells ns)
theorem OwnI.form {w : World} {base : Nat} {v : Value} {ns : List Int} (h : OwnI w base v ns) (hf : ∀ x ∈ ns, I64 x) : ∃ A c, v = .slice A ns.length c ∧ OwnN w base A c ns := by
  obtain ⟨_, ⟨rfl, hn⟩ | ⟨g, cap, cur, rfl, hb, hg, hnc, hcm, hcs, hcur⟩⟩ := h
  · have : ns = [] := List.eq_nil_of_length_eq_zero hn
    subst this
    exact ⟨none, 0, rfl, OwnN.nil w base⟩
  · have hgs := (Array.getElem?_eq_some_iff.1 hg).1
    have hcell : ∀ i, i < ns.length → w.cell? ⟨g, i, none⟩ = some (.int .i64 (ns.getD i 0)) := fun i hi => by
      rw [← intCells_at hi, ← hcur, List.getElem?_take_of_lt (by omega)]
      simp [World.cell?, hg]
    refine ⟨_, cap, rfl, hnc, by unfold maxLen at hcm; omega, hf, (fun g' o s e => by injection e with e; injection e with e1 _; subst e1; exact ⟨hb, hgs⟩), .inr ⟨g, rfl, hcell, fun o ho => ⟨_, hcell o ho⟩, fun o => ?_, hgs⟩⟩
    simp [World.frozen?, hg]
theorem OwnI.of_append {w : World} {base : Nat} {v : Value} {ns : List Int} {x : Int} (h : w.ownsRow base 3 1 v (ns.length + 1) (intCells ns ++ [.int .i64 x])) : OwnI w base v (ns ++ [x]) := by
  unfold OwnI intCells
  rw [List.map_append, List.length_append]
  exact h
theorem OwnI.of_append2 {w : World} {base : Nat} {v : Value} {ns ms : List Int} (h : w.ownsRow base 3 1 v (ns.length + ms.length) (intCells ns ++ intCells ms)) : OwnI w base v (ns ++ ms) := by
  unfold OwnI intCells
  rw [List.map_append, List.length_append]
  exact h
theorem OwnI.lt {w : World} {base : Nat} {v : Value} {ns : List Int} (h : OwnI w base v ns) : ∀ k, v.ownBlock = some k → base ≤ k ∧ k < w.heap.size := World.ownsRow.lt h
theorem OwnI.below {w w' : World} {base : Nat} {v : Value} {ns : List Int} (h : OwnI w base v ns) (hb : Below w.heap.size w w') : OwnI w' base v ns := by
  refine ⟨h.1, h.2.imp id ?_⟩
  rintro ⟨g, cap, cur, rfl, hb', hg, r⟩
  exact ⟨g, cap, cur, rfl, hb', by rw [hb.block g (Array.getElem?_eq_some_iff.1 hg).1]; exact hg, r⟩
theorem ownI_empty (w : World) : OwnI (w.alloc (.cells #[] 3)) w.heap.size (.slice (some ⟨w.heap.size, 0, none⟩) 0 0) [] := World.ownsRow_lit w #[] 0 (Nat.le_refl _) (by decide) rfl
theorem ownI_one (w : World) (x : Int) : OwnI (w.alloc (.cells #[.int .i64 x] 3)) w.heap.size (.slice (some ⟨w.heap.size, 0, none⟩) 1 1) [x] :=
  World.ownsRow_lit w #[.int .i64 x] 1 (Nat.le_refl _) (by decide) rfl
theorem infoI : ∃ i0, Tryd.prog.info? 3 = some i0 ∧ i0.zero = some (.int .i64 0) ∧ i0.size = 1 ∧ i0.bytes = 8 := info_parts infoInt
theorem cell_int (w : World) (g : Nat) (x : Int) (hg : g = w.heap.size) : ∀ (j : Nat) (u : Value), [Value.int .i64 x][j]? = some u → (w.alloc (.cells #[.int .i64 x] 3)).cell? ((⟨g, 0, none⟩ : Addr).add j) = some u := by
  subst hg
  intro j u hu
  have hadd : (⟨w.heap.size, 0, none⟩ : Addr).add j = ⟨w.heap.size, j, none⟩ := by unfold Addr.add; split <;> simp_all
  rw [hadd, World.cell?_alloc_new]
  simpa using hu
theorem ints_cells {w : World} {b o : Nat} {ns : List Int} (h : ∀ i, i < ns.length → w.cell? ⟨b, o + i * 1, none⟩ = some (.int .i64 (ns.getD i 0))) : ∀ (j : Nat) (u : Value), (intCells ns)[j]? = some u → w.cell? ((⟨b, o, none⟩ : Addr).add j) = some u := by
  intro j u hu
  have hj : j < ns.length := by
    have := (List.getElem?_eq_some_iff.1 hu).1
    simpa [intCells] using this
  rw [intCells_at hj] at hu
  have hadd : (⟨b, o, none⟩ : Addr).add j = ⟨b, o + j, none⟩ := by unfold Addr.add; split <;> simp_all
  have := h j hj
  rw [Nat.mul_one] at this
  rw [hadd, this, hu]
theorem intCells_one (ns : List Int) : ∀ u ∈ intCells ns, u.oneCell' = true := by
  intro u hu
  obtain ⟨x, _, rfl⟩ := List.mem_map.1 hu
  rfl

/-! What outputs decide. -/
/-- the least, the greatest of the first k + 1 numbers; the sum of the first k -/
def mnK (ns : List Int) : Nat → Int
  | 0 => ns.getD 0 0
  | k + 1 => if ns.getD (k + 1) 0 < mnK ns k then ns.getD (k + 1) 0 else mnK ns k
def mxK (ns : List Int) : Nat → Int
  | 0 => ns.getD 0 0
  | k + 1 => if mxK ns k < ns.getD (k + 1) 0 then ns.getD (k + 1) 0 else mxK ns k
def smK (ns : List Int) : Nat → Int
  | 0 => 0
  | k + 1 => smK ns k + ns.getD k 0
/-- the place behind which x is inserted, from the right -/
def posR (x : Int) (l : List Int) : Nat → Nat
  | 0 => 0
  | p + 1 => if l.getD p 0 < x then posR x l p else p + 1
def insR (x : Int) (l : List Int) : List Int := l.take (posR x l l.length) ++ x :: l.drop (posR x l l.length)
/-- the first k numbers, in descending order -/
def srK (ns : List Int) : Nat → List Int
  | 0 => []
  | k + 1 => insR (ns.getD k 0) (srK ns k)
def smB (ns : List Int) : Bool := (List.range ns.length).all fun k => ns.getD k 0 == ns.getD 0 0
def outB (ns : List Int) : Bool := decide (ns.length ≤ 12) && (List.range ns.length).all fun k => decide (0 ≤ ns.getD k 0) && decide (ns.getD k 0 ≤ 99)
def numV (p : Int) (ns : List Int) : Int :=
  if p = 10 then ns.length else if p = 7 then smK ns ns.length else if p = 8 then mnK ns (ns.length - 1) else if p = 9 ∨ p = 3 then mxK ns (ns.length - 1) else ns.getD 0 0
/-- what a policy decides by outputs that are all valid, of a policy that is one -/
def dcV (p : Int) (ns : List Int) : Rs :=
  if ns.length = 0 then (if p = 10 then (0, [0]) else (1, []))
  else if p = 1 then (if 1 < ns.length then (2, []) else (0, [ns.getD 0 0]))
  else if p = 2 then (if smB ns = true then (0, [ns.getD 0 0]) else (2, []))
  else if p = 5 then (0, ns) else if p = 6 then (0, srK ns ns.length) else (0, [numV p ns])
/-- what DecideOuts answers -/
def doV (p : Int) (ns : List Int) : Rs := if (decide (1 ≤ p) && decide (p ≤ 10) && outB ns) = true then dcV p ns else (3, [])

theorem posR_le (x : Int) (l : List Int) : ∀ k, posR x l k ≤ k := by
  intro k
  induction k with
  | zero => exact Nat.le_refl _
  | succ k ih => unfold posR; split <;> omega
theorem insR_len (x : Int) (l : List Int) : (insR x l).length = l.length + 1 := by
  have := posR_le x l l.length
  unfold insR
  rw [List.length_append, List.length_take, List.length_cons, List.length_drop]
  omega
theorem srK_len (ns : List Int) : ∀ k, (srK ns k).length = k := by
  intro k
  induction k with
  | zero => rfl
  | succ k ih => unfold srK; rw [insR_len, ih]
theorem getD_take {l : List Int} {p i : Nat} (h : i < p) (d : Int) : (l.take p).getD i d = l.getD i d := by
  rw [List.getD_eq_getElem?_getD, List.getElem?_take_of_lt h, ← List.getD_eq_getElem?_getD]
/-- where the elements of a list lie when x is inserted -/
theorem insR_at (x : Int) (l : List Int) (p : Nat) (hp : posR x l l.length = p) (i : Nat) : (insR x l).getD i 0 = if i < p then l.getD i 0 else if i = p then x else l.getD (i - 1) 0 := by
  have hpl : p ≤ l.length := hp ▸ posR_le x l l.length
  unfold insR
  rw [hp]
  have htl : (l.take p).length = p := by rw [List.length_take]; omega
  by_cases h1 : i < p
  · rw [if_pos h1, List.getD_eq_getElem?_getD, List.getElem?_append_left (by omega), List.getElem?_take_of_lt h1, ← List.getD_eq_getElem?_getD]
  · rw [if_neg h1, List.getD_eq_getElem?_getD, List.getElem?_append_right (by omega), htl]
    by_cases h2 : i = p
    · subst h2
      rw [if_pos rfl, Nat.sub_self]; rfl
    · rw [if_neg h2]
      obtain ⟨j, rfl⟩ : ∃ j, i = p + 1 + j := ⟨i - (p + 1), by omega⟩
      rw [show p + 1 + j - p = j + 1 by omega, List.getElem?_cons_succ, List.getElem?_drop, show p + 1 + j - 1 = p + j by omega, ← List.getD_eq_getElem?_getD]
theorem posR_stop {x : Int} {l : List Int} {p : Nat} (h : posR x l (p + 1) = posR x l l.length) (hx : ¬ l.getD p 0 < x) : posR x l l.length = p + 1 := by
  rw [← h]; unfold posR; rw [if_neg hx]
theorem posR_down {x : Int} {l : List Int} {p : Nat} (h : posR x l (p + 1) = posR x l l.length) (hx : l.getD p 0 < x) : posR x l p = posR x l l.length := by
  rw [← h]; show _ = posR x l (p + 1); rw [posR, if_pos hx]
theorem outB_at {ns : List Int} (h : outB ns = true) : ns.length ≤ 12 ∧ ∀ k, k < ns.length → 0 ≤ ns.getD k 0 ∧ ns.getD k 0 ≤ 99 := by
  unfold outB at h
  rw [Bool.and_eq_true, decide_eq_true_eq, List.all_eq_true] at h
  refine ⟨h.1, fun k hk => ?_⟩
  have := h.2 k (List.mem_range.2 hk)
  simpa using this
theorem smK_bound {ns : List Int} (h : ∀ k, k < ns.length → 0 ≤ ns.getD k 0 ∧ ns.getD k 0 ≤ 99) : ∀ k, k ≤ ns.length → 0 ≤ smK ns k ∧ smK ns k ≤ 99 * k := by
  intro k
  induction k with
  | zero => intro _; exact ⟨Int.le_refl _, by simp [smK]⟩
  | succ k ih =>
    intro hk
    have h1 := ih (by omega)
    have h2 := h k (by omega)
    unfold smK
    omega
theorem mn_mem {ns : List Int} : ∀ k, k < ns.length → ∃ j, j ≤ k ∧ mnK ns k = ns.getD j 0 := by
  intro k
  induction k with
  | zero => intro _; exact ⟨0, Nat.le_refl _, rfl⟩
  | succ k ih =>
    intro hk
    obtain ⟨j, hj, e⟩ := ih (by omega)
    unfold mnK
    split
    · exact ⟨k + 1, Nat.le_refl _, rfl⟩
    · exact ⟨j, by omega, e⟩
theorem mx_mem {ns : List Int} : ∀ k, k < ns.length → ∃ j, j ≤ k ∧ mxK ns k = ns.getD j 0 := by
  intro k
  induction k with
  | zero => intro _; exact ⟨0, Nat.le_refl _, rfl⟩
  | succ k ih =>
    intro hk
    obtain ⟨j, hj, e⟩ := ih (by omega)
    unfold mxK
    split
    · exact ⟨k + 1, Nat.le_refl _, rfl⟩
    · exact ⟨j, by omega, e⟩
theorem mn_le {ns : List Int} : ∀ k j, j ≤ k → mnK ns k ≤ ns.getD j 0 := by
  intro k
  induction k with
  | zero => intro j hj; rw [show j = 0 by omega]; exact Int.le_refl _
  | succ k ih =>
    intro j hj
    unfold mnK
    by_cases e : j = k + 1
    · subst e; split <;> omega
    · have := ih j (by omega); split <;> omega
theorem le_mx {ns : List Int} : ∀ k j, j ≤ k → ns.getD j 0 ≤ mxK ns k := by
  intro k
  induction k with
  | zero => intro j hj; rw [show j = 0 by omega]; exact Int.le_refl _
  | succ k ih =>
    intro j hj
    unfold mxK
    by_cases e : j = k + 1
    · subst e; split <;> omega
    · have := ih j (by omega); split <;> omega
/-- all numbers are equal exactly if the least one is the greatest one -/
theorem same_mnmx {ns : List Int} (h : 0 < ns.length) : smB ns = (mnK ns (ns.length - 1) == mxK ns (ns.length - 1)) := by
  rw [Bool.eq_iff_iff, beq_iff_eq]
  unfold smB
  rw [List.all_eq_true]
  constructor
  · intro hall
    have key : ∀ j, j < ns.length → ns.getD j 0 = ns.getD 0 0 := fun j hj => by simpa using hall j (List.mem_range.2 hj)
    obtain ⟨i, hi, e1⟩ := mn_mem (ns := ns) (ns.length - 1) (by omega)
    obtain ⟨j, hj, e2⟩ := mx_mem (ns := ns) (ns.length - 1) (by omega)
    rw [e1, e2, key i (by omega), key j (by omega)]
  · intro e j hj
    have hj := List.mem_range.1 hj
    have a1 := mn_le (ns := ns) (ns.length - 1) j (by omega)
    have a2 := le_mx (ns := ns) (ns.length - 1) j (by omega)
    have b1 := mn_le (ns := ns) (ns.length - 1) 0 (by omega)
    have b2 := le_mx (ns := ns) (ns.length - 1) 0 (by omega)
    rw [beq_iff_eq]
    omega
end Go.Proofs.YtiaoenkgapfgaaaDoor
