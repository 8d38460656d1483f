/-
  Lists of numbers that a call makes; what outputs decide.
-/
import Derived.Test.YtamfmemdhldmjaaGreatDoorUaM
import Derived.Test.YtamfmemdhldmjaaGreatDoorVr
import Derived.Test.YtamfmemdhldmjaaGreatDoorJoM
import Derived.Maps.AppendAt
namespace Go.Proofs.YtamfmemdhldmjaaGreatDoor
open Go.RowKit Sets

/-- A slice of the call's own (blocks from base on) that holds the numbers ns. -/
def OwnN (w : World) (base : Nat) (A : Option Addr) (c : Nat) (ns : List Int) : Prop :=
  ns.length ≤ c ∧ c ≤ 9223372036854775807 ∧ (∀ x ∈ ns, I64 x) ∧ (∀ g o s, A = some ⟨g, o, s⟩ → base ≤ g ∧ g < w.heap.size) ∧ (ns.length = 0 ∨ ∃ g, A = some ⟨g, 0, none⟩ ∧ IntRow w g ns ns.length ∧ OwnBlk w g ns.length)
theorem OwnN.ints {w : World} {base : Nat} {A : Option Addr} {c : Nat} {ns : List Int} (h : OwnN w base A c ns) : IntsAt w w.heap.size A c ns :=
  ⟨h.2.2.1, h.1, h.2.1, h.2.2.2.2.imp id fun ⟨g, e, hr, ho⟩ => ⟨g, 0, e, ho.2.2, fun i hi => by rw [Nat.zero_add, Nat.mul_one]; exact hr i hi⟩⟩
theorem OwnN.step {w w' : World} {base : Nat} {A : Option Addr} {c : Nat} {ns : List Int} (h : OwnN w base A c ns) (hb : Below w.heap.size w w') : OwnN w' base A c ns :=
  ⟨h.1, h.2.1, h.2.2.1, fun g o s e => ⟨(h.2.2.2.1 g o s e).1, Nat.lt_of_lt_of_le (h.2.2.2.1 g o s e).2 hb.size⟩, h.2.2.2.2.imp id fun ⟨g, e, hr, ho⟩ => ⟨g, e, hr.below hb ho.2.2, ho.below hb ho.2.2⟩⟩
theorem OwnN.base {w : World} {base base' : Nat} {A : Option Addr} {c : Nat} {ns : List Int} (h : OwnN w base A c ns) (hb : base' ≤ base) : OwnN w base' A c ns :=
  ⟨h.1, h.2.1, h.2.2.1, fun g o s e => ⟨Nat.le_trans hb (h.2.2.2.1 g o s e).1, (h.2.2.2.1 g o s e).2⟩, h.2.2.2.2⟩
theorem OwnN.nil (w : World) (base : Nat) : OwnN w base none 0 [] := ⟨Nat.le_refl _, by omega, (fun x hx => by cases hx), (fun g o s e => by cases e), .inl rfl⟩
/-- the cells of a list of numbers -/
def intCells (ns : List Int) : List Value := ns.map (Value.int .i64)
theorem intCells_at {ns : List Int} {i : Nat} (hi : i < ns.length) : (intCells ns)[i]? = some (.int .i64 (ns.getD i 0)) := by
  unfold intCells
  rw [List.getElem?_map, List.getElem?_eq_getElem hi, List.getD_eq_getElem?_getD, List.getElem?_eq_getElem hi]; rfl
/-- v is a row of the call's own that holds ns -/
def OwnI (w : World) (base : Nat) (v : Value) (ns : List Int) : Prop := w.ownsRow base 3 1 v ns.length (intCells ns)
theorem OwnI.form {w : World} {base : Nat} {v : Value} {ns : List Int} (h : OwnI w base v ns) (hf : ∀ x ∈ ns, I64 x) : ∃ A c, v = .slice A ns.length c ∧ OwnN w base A c ns := by
  obtain ⟨_, ⟨rfl, hn⟩ | ⟨g, cap, cur, rfl, hb, hg, hnc, hcm, hcs, hcur⟩⟩ := h
  · have : ns = [] := List.eq_nil_of_length_eq_zero hn
    subst this
    exact ⟨none, 0, rfl, OwnN.nil w base⟩
  · have hgs := (Array.getElem?_eq_some_iff.1 hg).1
    have hcell : ∀ i, i < ns.length → w.cell? ⟨g, i, none⟩ = some (.int .i64 (ns.getD i 0)) := fun i hi => by
      rw [← intCells_at hi, ← hcur, List.getElem?_take_of_lt (by omega)]
      simp [World.cell?, hg]
    refine ⟨_, cap, rfl, hnc, by unfold maxLen at hcm; omega, hf, (fun g' o s e => by injection e with e; injection e with e1 _; subst e1; exact ⟨hb, hgs⟩), .inr ⟨g, rfl, hcell, fun o ho => ⟨_, hcell o ho⟩, fun o => ?_, hgs⟩⟩
    simp [World.frozen?, hg]
theorem OwnI.of_append {w : World} {base : Nat} {v : Value} {ns : List Int} {x : Int} (h : w.ownsRow base 3 1 v (ns.length + 1) (intCells ns ++ [.int .i64 x])) : OwnI w base v (ns ++ [x]) := by
  unfold OwnI intCells
  rw [List.map_append, List.length_append]
  exact h
theorem OwnI.of_append2 {w : World} {base : Nat} {v : Value} {ns ms : List Int} (h : w.ownsRow base 3 1 v (ns.length + ms.length) (intCells ns ++ intCells ms)) : OwnI w base v (ns ++ ms) := by
  unfold OwnI intCells
  rw [List.map_append, List.length_append]
  exact h
theorem OwnI.lt {w : World} {base : Nat} {v : Value} {ns : List Int} (h : OwnI w base v ns) : ∀ k, v.ownBlock = some k → base ≤ k ∧ k < w.heap.size := World.ownsRow.lt h
theorem OwnI.below {w w' : World} {base : Nat} {v : Value} {ns : List Int} (h : OwnI w base v ns) (hb : Below w.heap.size w w') : OwnI w' base v ns := by
  refine ⟨h.1, h.2.imp id ?_⟩
  rintro ⟨g, cap, cur, rfl, hb', hg, r⟩
  exact ⟨g, cap, cur, rfl, hb', by rw [hb.block g (Array.getElem?_eq_some_iff.1 hg).1]; exact hg, r⟩
theorem ownI_empty (w : World) : OwnI (w.alloc (.cells #[] 3)) w.heap.size (.slice (some ⟨w.heap.size, 0, none⟩) 0 0) [] := World.ownsRow_lit w #[] 0 (Nat.le_refl _) (by decide) rfl
theorem ownI_one (w : World) (x : Int) : OwnI (w.alloc (.cells #[.int .i64 x] 3)) w.heap.size (.slice (some ⟨w.heap.size, 0, none⟩) 1 1) [x] :=
  World.ownsRow_lit w #[.int .i64 x] 1 (Nat.le_refl _) (by decide) rfl
theorem infoI : ∃ i0, Tryz.prog.info? 3 = some i0 ∧ i0.zero = some (.int .i64 0) ∧ i0.size = 1 ∧ i0.bytes = 8 := info_parts infoInt
theorem cell_int (w : World) (g : Nat) (x : Int) (hg : g = w.heap.size) : ∀ (j : Nat) (u : Value), [Value.int .i64 x][j]? = some u → (w.alloc (.cells #[.int .i64 x] 3)).cell? ((⟨g, 0, none⟩ : Addr).add j) = some u := by
  subst hg
  intro j u hu
  have hadd : (⟨w.heap.size, 0, none⟩ : Addr).add j = ⟨w.heap.size, j, none⟩ := by unfold Addr.add; split <;> simp_all
  rw [hadd, World.cell?_alloc_new]
  simpa using hu
theorem ints_cells {w : World} {b o : Nat} {ns : List Int} (h : ∀ i, i < ns.length → w.cell? ⟨b, o + i * 1, none⟩ = some (.int .i64 (ns.getD i 0))) : ∀ (j : Nat) (u : Value), (intCells ns)[j]? = some u → w.cell? ((⟨b, o, none⟩ : Addr).add j) = some u := by
  intro j u hu
  have hj : j < ns.length := by
    have := (List.getElem?_eq_some_iff.1 hu).1
    simpa [intCells] using this
  rw [intCells_at hj] at hu
  have hadd : (⟨b, o, none⟩ : Addr).add j = ⟨b, o + j, none⟩ := by unfold Addr.add; split <;> simp_all
  have := h j hj
  rw [Nat.mul_one] at this
  rw [hadd, this, hu]
theorem intCells_one (ns : List Int) : ∀ u ∈ intCells ns, u.oneCell' = true := by
  intro u hu
  obtain ⟨x, _, rfl⟩ := List.mem_map.1 hu
  rfl

/-! What outputs decide. -/
/-- the least, the greatest of the first k + 1 numbers; the sum of the first k -/
def mnK (ns : List Int) : Nat → Int
  | 0 => ns.getD 0 0
  | k + 1 => if ns.getD (k + 1) 0 < mnK ns k then ns.getD (k + 1) 0 else mnK ns k
def mxK (ns : List Int) : Nat → Int
  | 0 => ns.getD 0 0
  | k + 1 => if mxK ns k < ns.getD (k + 1) 0 then ns.getD (k + 1) 0 else mxK ns k
def smK (ns : List Int) : Nat → Int
  | 0 => 0
  | k + 1 => smK ns k + ns.getD k 0
/-- the place behind which x is inserted, from the right -/
def posR (x : Int) (l : List Int) : Nat → Nat
  | 0 => 0
  | p + 1 => if l.getD p 0 < x then posR x l p else p + 1
def insR (x : Int) (l : List Int) : List Int := l.take (posR x l l.length) ++ x :: l.drop (posR x l l.length)
/-- the first k numbers, in descending order -/
def srK (ns : List Int) : Nat → List Int
  | 0 => []
  | k + 1 => insR (ns.getD k 0) (srK ns k)
def smB (ns : List Int) : Bool := (List.range ns.length).all fun k => ns.getD k 0 == ns.getD 0 0
def outB (ns : List Int) : Bool := decide (ns.length ≤ 12) && (List.range ns.length).all fun k => decide (0 ≤ ns.getD k 0) && decide (ns.getD k 0 ≤ 99)
def numV (p : Int) (ns : List Int) : Int :=
  if p = 10 then ns.length else if p = 7 then smK ns ns.length else if p = 8 then mnK ns (ns.length - 1) else if p = 9 ∨ p = 3 then mxK ns (ns.length - 1) else ns.getD 0 0
/-- what a policy decides by outputs that are all valid, of a policy that is one -/
def dcV (p : Int) (ns : List Int) : Rs :=
  if ns.length = 0 then (if p = 10 then (0, [0]) else (1, []))
  else if p = 1 then (if 1 < ns.length then (2, []) else (0, [ns.getD 0 0]))
  else if p = 2 then (if smB ns = true then (0, [ns.getD 0 0]) else (2, []))
  else if p = 5 then (0, ns) else if p = 6 then (0, srK ns ns.length) else (0, [numV p ns])
/-- what DecideOuts answers -/
def doV (p : Int) (ns : List Int) : Rs := if (decide (1 ≤ p) && decide (p ≤ 10) && outB ns) = true then dcV p ns else (3, [])

theorem posR_le (x : Int) (l : List Int) : ∀ k, posR x l k ≤ k := by
  intro k
  induction k with
  | zero => exact Nat.le_refl _
  | succ k ih => unfold posR; split <;> omega
theorem insR_len (x : Int) (l : List Int) : (insR x l).length = l.length + 1 := by
  have := posR_le x l l.length
  unfold insR
  rw [List.length_append, List.length_take, List.length_cons, List.length_drop]
  omega
theorem srK_len (ns : List Int) : ∀ k, (srK ns k).length = k := by
  intro k
  induction k with
  | zero => rfl
  | succ k ih => unfold srK; rw [insR_len, ih]
theorem getD_take {l : List Int} {p i : Nat} (h : i < p) (d : Int) : (l.take p).getD i d = l.getD i d := by
  rw [List.getD_eq_getElem?_getD, List.getElem?_take_of_lt h, ← List.getD_eq_getElem?_getD]
/-- where the elements of a list lie when x is inserted -/
theorem insR_at (x : Int) (l : List Int) (p : Nat) (hp : posR x l l.length = p) (i : Nat) : (insR x l).getD i 0 = if i < p then l.getD i 0 else if i = p then x else l.getD (i - 1) 0 := by
  have hpl : p ≤ l.length := hp ▸ posR_le x l l.length
  unfold insR
  rw [hp]
  have htl : (l.take p).length = p := by rw [List.length_take]; omega
  by_cases h1 : i < p
  · rw [if_pos h1, List.getD_eq_getElem?_getD, List.getElem?_append_left (by omega), List.getElem?_take_of_lt h1, ← List.getD_eq_getElem?_getD]
  · rw [if_neg h1, List.getD_eq_getElem?_getD, List.getElem?_append_right (by omega), htl]
    by_cases h2 : i = p
    · subst h2
      rw [if_pos rfl, Nat.sub_self]; rfl
    · rw [if_neg h2]
      obtain ⟨j, rfl⟩ : ∃ j, i = p + 1 + j := ⟨i - (p + 1), by omega⟩
      rw [show p + 1 + j - p = j + 1 by omega, List.getElem?_cons_succ, List.getElem?_drop, show p + 1 + j - 1 = p + j by omega, ← List.getD_eq_getElem?_getD]
theorem posR_stop {x : Int} {l : List Int} {p : Nat} (h : posR x l (p + 1) = posR x l l.length) (hx : ¬ l.getD p 0 < x) : posR x l l.length = p + 1 := by
  rw [← h]; unfold posR; rw [if_neg hx]
theorem posR_down {x : Int} {l : List Int} {p : Nat} (h : posR x l (p + 1) = posR x l l.length) (hx : l.getD p 0 < x) : posR x l p = posR x l l.length := by
  rw [← h]; show _ = posR x l (p + 1); rw [posR, if_pos hx]
theorem outB_at {ns : List Int} (h : outB ns = true) : ns.length ≤ 12 ∧ ∀ k, k < ns.length → 0 ≤ ns.getD k 0 ∧ ns.getD k 0 ≤ 99 := by
  unfold outB at h
  rw [Bool.and_eq_true, decide_eq_true_eq, List.all_eq_true] at h
  refine ⟨h.1, fun k hk => ?_⟩
  have := h.2 k (List.mem_range.2 hk)
  simpa using this
theorem smK_bound {ns : List Int} (h : ∀ k, k < ns.length → 0 ≤ ns.getD k 0 ∧ ns.getD k 0 ≤ 99) : ∀ k, k ≤ ns.length → 0 ≤ smK ns k ∧ smK ns k ≤ 99 * k := by
  intro k
  induction k with
  | zero => intro _; exact ⟨Int.le_refl _, by simp [smK]⟩
  | succ k ih =>
    intro hk
    have h1 := ih (by omega)
    have h2 := h k (by omega)
    unfold smK
    omega
theorem mn_mem {ns : List Int} : ∀ k, k < ns.length → ∃ j, j ≤ k ∧ mnK ns k = ns.getD j 0 := by
  intro k
  induction k with
  | zero => intro _; exact ⟨0, Nat.le_refl _, rfl⟩
  | succ k ih =>
    intro hk
    obtain ⟨j, hj, e⟩ := ih (by omega)
    unfold mnK
    split
    · exact ⟨k + 1, Nat.le_refl _, rfl⟩
    · exact ⟨j, by omega, e⟩
theorem mx_mem {ns : List Int} : ∀ k, k < ns.length → ∃ j, j ≤ k ∧ mxK ns k = ns.getD j 0 := by
  intro k
  induction k with
  | zero => intro _; exact ⟨0, Nat.le_refl _, rfl⟩
  | succ k ih =>
    intro hk
    obtain ⟨j, hj, e⟩ := ih (by omega)
    unfold mxK
    split
    · exact ⟨k + 1, Nat.le_refl _, rfl⟩
    · exact ⟨j, by omega, e⟩
theorem mn_le {ns : List Int} : ∀ k j, j ≤ k → mnK ns k ≤ ns.getD j 0 := by
  intro k
  induction k with
  | zero => intro j hj; rw [show j = 0 by omega]; exact Int.le_refl _
  | succ k ih =>
    intro j hj
    unfold mnK
    by_cases e : j = k + 1
    · subst e; split <;> omega
    · have := ih j (by omega); split <;> omega
theorem le_mx {ns : List Int} : ∀ k j, j ≤ k → ns.getD j 0 ≤ mxK ns k := by
  intro k
  induction k with
  | zero => intro j hj; rw [show j = 0 by omega]; exact Int.le_refl _
  | succ k ih =>
    intro j hj
    unfold mxK
    by_cases e : j = k + 1
    · subst e; split <;> omega
    · have := ih j (by omega); split <;> omega
/-- all numbers are equal exactly if the least one is the greatest one -/
theorem same_mnmx {ns : List Int} (h : 0 < ns.length) : smB ns = (mnK ns (ns.length - 1) == mxK ns (ns.length - 1)) := by
  rw [Bool.eq_iff_iff, beq_iff_eq]
  unfold smB
  rw [List.all_eq_true]
  constructor
  · intro hall
    have key : ∀ j, j < ns.length → ns.getD j 0 = ns.getD 0 0 := fun j hj => by simpa using hall j (List.mem_range.2 hj)
    obtain ⟨i, hi, e1⟩ := mn_mem (ns := ns) (ns.length - 1) (by omega)
    obtain ⟨j, hj, e2⟩ := mx_mem (ns := ns) (ns.length - 1) (by omega)
    rw [e1, e2, key i (by omega), key j (by omega)]
  · intro e j hj
    have hj := List.mem_range.1 hj
    have a1 := mn_le (ns := ns) (ns.length - 1) j (by omega)
    have a2 := le_mx (ns := ns) (ns.length - 1) j (by omega)
    have b1 := mn_le (ns := ns) (ns.length - 1) 0 (by omega)
    have b2 := le_mx (ns := ns) (ns.length - 1) 0 (by omega)
    rw [beq_iff_eq]
    omega
end Go.Proofs.YtamfmemdhldmjaaGreatDoor

namespace Go.Proofs.YtamfmemdhldmjaaGreatDoor
open Go.RowKit Sets

set_option maxRecDepth 100000 in
set_option maxHeartbeats 2000000 in
theorem specSame4_any (A : Option Addr) (c : Nat) (ns : List Int) (w : World) (h : IntsAt w w.heap.size A c ns) (hp : 0 < ns.length) :
    Calls Tryz.prog 60 #[.slice A ns.length c] w fun e w' => e = .returned (.bool (smB ns)) ∧ Below w.heap.size w w' := by
  obtain ⟨_, hlc, hc, hrow⟩ := h
  rcases hrow with hz | ⟨b, off, rfl, hB, hrow⟩
  · omega
  have HP := Lib.hid hp
  have u0 := hrow 0 hp
  rw [Nat.zero_mul, Nat.add_zero] at u0
  have HROW := Lib.hid hrow
  clear hrow hp
  go_enter Tryz.func60, Tryz.ntmps60
  go_wp2
  go_loopw [3] (fun i wr => ∃ k : Nat, 1 ≤ k ∧ k ≤ ns.length ∧ i = .int .i64 k ∧ Hid (∀ j, j < k → (ns.getD j 0 == ns.getD 0 0) = true) ∧ Below w.heap.size w wr) (fun i _ => ns.length - (intOf i).toNat)
  case atStart => exact ⟨1, Nat.le_refl _, HP.out, rfl, Lib.hid (fun i hi => by rw [show i = 0 by omega]; simp), Below.refl _ _⟩
  case round =>
    obtain ⟨k, hk1, hk, rfl, hall, hb⟩ := hrel
    by_cases hlt : k < ns.length
    · have hkl : (k : Int) < (ns.length : Int) := by omega
      have h0l : (0 : Int) < (ns.length : Int) := by omega
      have u1 := HROW.out k hlt
      rw [Nat.mul_one] at u1
      have d0 := (hb.cell (p := ⟨b, off, none⟩) hB).trans u0
      have d1 := (hb.cell (p := ⟨b, off + k, none⟩) hB).trans u1
      obtain ⟨x, hx⟩ : ∃ x, ns.getD k 0 = x := ⟨_, rfl⟩
      obtain ⟨y, hy⟩ : ∃ y, ns.getD 0 0 = y := ⟨_, rfl⟩
      rw [hx] at d1
      rw [hy] at d0
      have HX := Lib.hid (And.intro hx hy)
      have HB := Lib.hid hb
      have HA := Lib.hid hall
      clear u1 hx hy hb hall
      by_cases hxy : x = y
      · subst hxy
        have hxx : (x != x) = false := by simp
        go_wp2
        go_quiet (fail)
        go_wp2
        go_roundw
        case rel =>
          refine ⟨k + 1, by omega, hlt, by go_num, Lib.hid (fun i hi => ?_), below_drewN HB.out _⟩
          by_cases e : i = k
          · rw [e, HX.out.1, HX.out.2]; simp
          · exact HA.out i (by omega)
        case measure => simp [intOf]; omega
      · have hxx : (x != y) = true := by simp [hxy]
        have HF := Lib.hid (show smB ns = false from all_no hlt (by rw [HX.out.1, HX.out.2]; simp [hxy]))
        clear hxy
        go_wp2
        go_quiet (fail)
        go_wp2
        go_ret
        exact ⟨by rw [HF.out]; rfl, below_drewN HB.out _⟩
    · obtain rfl : k = ns.length := by omega
      have HA := Lib.hid (show smB ns = true from all_yes hall.out)
      clear hall
      go_wp2
      go_ret
      exact ⟨by rw [HA.out]; rfl, hb⟩


set_option maxRecDepth 100000 in
set_option maxHeartbeats 2000000 in
theorem specNumSum_any (A : Option Addr) (c : Nat) (ns : List Int) (w : World) (h : IntsAt w w.heap.size A c ns) (hp : 0 < ns.length) (hout : outB ns = true) :
    Calls Tryz.prog 52 #[.int .i64 7, .slice A ns.length c] w fun e w' => e = .returned (.int .i64 (numV 7 ns)) ∧ w = w' := by
  obtain ⟨_, hlc, hc, hrow⟩ := h
  rcases hrow with hz | ⟨b, off, rfl, hB, hrow⟩
  · omega
  have HP := Lib.hid hp
  have HO := Lib.hid (outB_at hout)
  have u0 := hrow 0 hp
  rw [Nat.zero_mul, Nat.add_zero] at u0
  have h0l : (0 : Int) < (ns.length : Int) := by omega
  obtain ⟨y, hy⟩ : ∃ y, ns.getD 0 0 = y := ⟨_, rfl⟩
  rw [hy] at u0
  have HY := Lib.hid hy
  have HROW := Lib.hid hrow
  have HV := Lib.hid (show numV 7 ns = smK ns ns.length by unfold numV; simp)
  clear hrow hp hout hy
  go_enter Tryz.func52, Tryz.ntmps52
  go_wp2
  clear u0
  go_loop [5, 6] (fun n i => ∃ k : Nat, 1 ≤ k ∧ k ≤ ns.length ∧ i = .int .i64 k ∧ n = .int .i64 (smK ns k)) (fun _ i => ns.length - (intOf i).toNat)
  case atStart => exact ⟨1, Nat.le_refl _, HP.out, rfl, by rw [← HY.out]; show _ = Value.int .i64 (0 + ns.getD 0 0); rw [Int.zero_add]⟩
  case round =>
    obtain ⟨k, hk1, hk, rfl, rfl⟩ := hrel
    by_cases hlt : k < ns.length
    · have hkl : (k : Int) < (ns.length : Int) := by omega
      have u1 := HROW.out k hlt
      rw [Nat.mul_one] at u1
      obtain ⟨m, hm⟩ : ∃ m, k = m + 1 := ⟨k - 1, by omega⟩

      have hbd := smK_bound HO.out.2 k hk
      have hx := HO.out.2 k hlt
      have hle := HO.out.1
      obtain ⟨x, hxe⟩ : ∃ x, ns.getD k 0 = x := ⟨_, rfl⟩
      obtain ⟨s, hs⟩ : ∃ s, smK ns k = s := ⟨_, rfl⟩
      have HST := Lib.hid (show smK ns (k + 1) = s + x by rw [← hs, ← hxe]; rfl)
      rw [hxe] at u1 hx
      rw [hs] at hbd ⊢
      have ew : IntKind.i64.wrap (s + x) = s + x := IntWalk.i64_in _ (by omega)
      clear hxe hs hm hbd hx hle
      go_wp2
      go_round
      case rel => exact ⟨k + 1, by omega, hlt, by go_num, by rw [HST.out]⟩
      case measure => simp [intOf]; omega
    · obtain rfl : k = ns.length := by omega
      go_wp2
      go_ret
      exact ⟨by rw [HV.out]; rfl, rfl⟩

set_option maxRecDepth 100000 in
set_option maxHeartbeats 2000000 in
theorem specNumMin_any (A : Option Addr) (c : Nat) (ns : List Int) (w : World) (h : IntsAt w w.heap.size A c ns) (hp : 0 < ns.length) (hout : outB ns = true) :
    Calls Tryz.prog 52 #[.int .i64 8, .slice A ns.length c] w fun e w' => e = .returned (.int .i64 (numV 8 ns)) ∧ w = w' := by
  obtain ⟨_, hlc, hc, hrow⟩ := h
  rcases hrow with hz | ⟨b, off, rfl, hB, hrow⟩
  · omega
  have HP := Lib.hid hp
  have HO := Lib.hid (outB_at hout)
  have u0 := hrow 0 hp
  rw [Nat.zero_mul, Nat.add_zero] at u0
  have h0l : (0 : Int) < (ns.length : Int) := by omega
  obtain ⟨y, hy⟩ : ∃ y, ns.getD 0 0 = y := ⟨_, rfl⟩
  rw [hy] at u0
  have HY := Lib.hid hy
  have HROW := Lib.hid hrow
  have HV := Lib.hid (show numV 8 ns = mnK ns (ns.length - 1) by unfold numV; simp)
  clear hrow hp hout hy
  go_enter Tryz.func52, Tryz.ntmps52
  go_wp2
  clear u0
  go_loop [5, 6] (fun n i => ∃ k : Nat, 1 ≤ k ∧ k ≤ ns.length ∧ i = .int .i64 k ∧ n = .int .i64 (mnK ns (k - 1))) (fun _ i => ns.length - (intOf i).toNat)
  case atStart => exact ⟨1, Nat.le_refl _, HP.out, rfl, by rw [← HY.out]; rfl⟩
  case round =>
    obtain ⟨k, hk1, hk, rfl, rfl⟩ := hrel
    by_cases hlt : k < ns.length
    · have hkl : (k : Int) < (ns.length : Int) := by omega
      have u1 := HROW.out k hlt
      rw [Nat.mul_one] at u1
      obtain ⟨m, hm⟩ : ∃ m, k = m + 1 := ⟨k - 1, by omega⟩

      subst hm
      obtain ⟨x, hxe⟩ : ∃ x, ns.getD (m + 1) 0 = x := ⟨_, rfl⟩
      obtain ⟨s, hs⟩ : ∃ s, mnK ns m = s := ⟨_, rfl⟩
      have HST := Lib.hid (show mnK ns (m + 1) = if x < s then x else s by rw [← hs, ← hxe]; rfl)
      rw [hxe] at u1
      rw [show m + 1 - 1 = m by omega, hs]
      clear hxe hs
      by_cases hc : x < s
      · have HS2 := Lib.hid (show mnK ns (m + 1) = x by rw [HST.out, if_pos hc])
        go_wp2
        try trivial
        go_round
        case rel => exact ⟨m + 1 + 1, by omega, hlt, by go_num, by rw [show m + 1 + 1 - 1 = m + 1 by omega, HS2.out]⟩
        case measure => simp [intOf]; omega
      · have HS2 := Lib.hid (show mnK ns (m + 1) = s by rw [HST.out, if_neg hc])
        have hc' : decide (x < s) = false := decide_eq_false hc
        go_wp2
        try trivial
        go_round
        case rel => exact ⟨m + 1 + 1, by omega, hlt, by go_num, by rw [show m + 1 + 1 - 1 = m + 1 by omega, HS2.out]⟩
        case measure => simp [intOf]; omega
    · obtain rfl : k = ns.length := by omega
      go_wp2
      go_ret
      exact ⟨by rw [HV.out]; rfl, rfl⟩

set_option maxRecDepth 100000 in
set_option maxHeartbeats 2000000 in
theorem specNumMax_any (A : Option Addr) (c : Nat) (ns : List Int) (w : World) (h : IntsAt w w.heap.size A c ns) (hp : 0 < ns.length) (hout : outB ns = true) :
    Calls Tryz.prog 52 #[.int .i64 9, .slice A ns.length c] w fun e w' => e = .returned (.int .i64 (numV 9 ns)) ∧ w = w' := by
  obtain ⟨_, hlc, hc, hrow⟩ := h
  rcases hrow with hz | ⟨b, off, rfl, hB, hrow⟩
  · omega
  have HP := Lib.hid hp
  have HO := Lib.hid (outB_at hout)
  have u0 := hrow 0 hp
  rw [Nat.zero_mul, Nat.add_zero] at u0
  have h0l : (0 : Int) < (ns.length : Int) := by omega
  obtain ⟨y, hy⟩ : ∃ y, ns.getD 0 0 = y := ⟨_, rfl⟩
  rw [hy] at u0
  have HY := Lib.hid hy
  have HROW := Lib.hid hrow
  have HV := Lib.hid (show numV 9 ns = mxK ns (ns.length - 1) by unfold numV; simp)
  clear hrow hp hout hy
  go_enter Tryz.func52, Tryz.ntmps52
  go_wp2
  clear u0
  go_loop [5, 6] (fun n i => ∃ k : Nat, 1 ≤ k ∧ k ≤ ns.length ∧ i = .int .i64 k ∧ n = .int .i64 (mxK ns (k - 1))) (fun _ i => ns.length - (intOf i).toNat)
  case atStart => exact ⟨1, Nat.le_refl _, HP.out, rfl, by rw [← HY.out]; rfl⟩
  case round =>
    obtain ⟨k, hk1, hk, rfl, rfl⟩ := hrel
    by_cases hlt : k < ns.length
    · have hkl : (k : Int) < (ns.length : Int) := by omega
      have u1 := HROW.out k hlt
      rw [Nat.mul_one] at u1
      obtain ⟨m, hm⟩ : ∃ m, k = m + 1 := ⟨k - 1, by omega⟩

      subst hm
      obtain ⟨x, hxe⟩ : ∃ x, ns.getD (m + 1) 0 = x := ⟨_, rfl⟩
      obtain ⟨s, hs⟩ : ∃ s, mxK ns m = s := ⟨_, rfl⟩
      have HST := Lib.hid (show mxK ns (m + 1) = if s < x then x else s by rw [← hs, ← hxe]; rfl)
      rw [hxe] at u1
      rw [show m + 1 - 1 = m by omega, hs]
      clear hxe hs
      by_cases hc : s < x
      · have HS2 := Lib.hid (show mxK ns (m + 1) = x by rw [HST.out, if_pos hc])
        go_wp2
        try trivial
        go_round
        case rel => exact ⟨m + 1 + 1, by omega, hlt, by go_num, by rw [show m + 1 + 1 - 1 = m + 1 by omega, HS2.out]⟩
        case measure => simp [intOf]; omega
      · have HS2 := Lib.hid (show mxK ns (m + 1) = s by rw [HST.out, if_neg hc])
        have hc' : decide (s < x) = false := decide_eq_false hc
        go_wp2
        try trivial
        go_round
        case rel => exact ⟨m + 1 + 1, by omega, hlt, by go_num, by rw [show m + 1 + 1 - 1 = m + 1 by omega, HS2.out]⟩
        case measure => simp [intOf]; omega
    · obtain rfl : k = ns.length := by omega
      go_wp2
      go_ret
      exact ⟨by rw [HV.out]; rfl, rfl⟩

set_option maxRecDepth 100000 in
set_option maxHeartbeats 2000000 in
theorem specNumTop_any (A : Option Addr) (c : Nat) (ns : List Int) (w : World) (h : IntsAt w w.heap.size A c ns) (hp : 0 < ns.length) (hout : outB ns = true) :
    Calls Tryz.prog 52 #[.int .i64 3, .slice A ns.length c] w fun e w' => e = .returned (.int .i64 (numV 3 ns)) ∧ w = w' := by
  obtain ⟨_, hlc, hc, hrow⟩ := h
  rcases hrow with hz | ⟨b, off, rfl, hB, hrow⟩
  · omega
  have HP := Lib.hid hp
  have HO := Lib.hid (outB_at hout)
  have u0 := hrow 0 hp
  rw [Nat.zero_mul, Nat.add_zero] at u0
  have h0l : (0 : Int) < (ns.length : Int) := by omega
  obtain ⟨y, hy⟩ : ∃ y, ns.getD 0 0 = y := ⟨_, rfl⟩
  rw [hy] at u0
  have HY := Lib.hid hy
  have HROW := Lib.hid hrow
  have HV := Lib.hid (show numV 3 ns = mxK ns (ns.length - 1) by unfold numV; simp)
  clear hrow hp hout hy
  go_enter Tryz.func52, Tryz.ntmps52
  go_wp2
  clear u0
  go_loop [5, 6] (fun n i => ∃ k : Nat, 1 ≤ k ∧ k ≤ ns.length ∧ i = .int .i64 k ∧ n = .int .i64 (mxK ns (k - 1))) (fun _ i => ns.length - (intOf i).toNat)
  case atStart => exact ⟨1, Nat.le_refl _, HP.out, rfl, by rw [← HY.out]; rfl⟩
  case round =>
    obtain ⟨k, hk1, hk, rfl, rfl⟩ := hrel
    by_cases hlt : k < ns.length
    · have hkl : (k : Int) < (ns.length : Int) := by omega
      have u1 := HROW.out k hlt
      rw [Nat.mul_one] at u1
      obtain ⟨m, hm⟩ : ∃ m, k = m + 1 := ⟨k - 1, by omega⟩

      subst hm
      obtain ⟨x, hxe⟩ : ∃ x, ns.getD (m + 1) 0 = x := ⟨_, rfl⟩
      obtain ⟨s, hs⟩ : ∃ s, mxK ns m = s := ⟨_, rfl⟩
      have HST := Lib.hid (show mxK ns (m + 1) = if s < x then x else s by rw [← hs, ← hxe]; rfl)
      rw [hxe] at u1
      rw [show m + 1 - 1 = m by omega, hs]
      clear hxe hs
      by_cases hc : s < x
      · have HS2 := Lib.hid (show mxK ns (m + 1) = x by rw [HST.out, if_pos hc])
        go_wp2
        try trivial
        go_round
        case rel => exact ⟨m + 1 + 1, by omega, hlt, by go_num, by rw [show m + 1 + 1 - 1 = m + 1 by omega, HS2.out]⟩
        case measure => simp [intOf]; omega
      · have HS2 := Lib.hid (show mxK ns (m + 1) = s by rw [HST.out, if_neg hc])
        have hc' : decide (s < x) = false := decide_eq_false hc
        go_wp2
        try trivial
        go_round
        case rel => exact ⟨m + 1 + 1, by omega, hlt, by go_num, by rw [show m + 1 + 1 - 1 = m + 1 by omega, HS2.out]⟩
        case measure => simp [intOf]; omega
    · obtain rfl : k = ns.length := by omega
      go_wp2
      go_ret
      exact ⟨by rw [HV.out]; rfl, rfl⟩

set_option maxRecDepth 100000 in
set_option maxHeartbeats 2000000 in
theorem specNumCnt_any (A : Option Addr) (c : Nat) (ns : List Int) (w : World) (h : IntsAt w w.heap.size A c ns) (hp : 0 < ns.length) (hout : outB ns = true) :
    Calls Tryz.prog 52 #[.int .i64 10, .slice A ns.length c] w fun e w' => e = .returned (.int .i64 (numV 10 ns)) ∧ w = w' := by
  obtain ⟨_, hlc, hc, hrow⟩ := h
  rcases hrow with hz | ⟨b, off, rfl, hB, hrow⟩
  · omega
  have HP := Lib.hid hp
  have HO := Lib.hid (outB_at hout)
  have u0 := hrow 0 hp
  rw [Nat.zero_mul, Nat.add_zero] at u0
  have h0l : (0 : Int) < (ns.length : Int) := by omega
  obtain ⟨y, hy⟩ : ∃ y, ns.getD 0 0 = y := ⟨_, rfl⟩
  rw [hy] at u0
  have HY := Lib.hid hy
  have HROW := Lib.hid hrow
  have HV := Lib.hid (show numV 10 ns = (ns.length : Int) by unfold numV; simp)
  clear hrow hp hout hy
  go_enter Tryz.func52, Tryz.ntmps52
  go_wp2
  clear u0
  go_loop [5, 6] (fun n i => ∃ k : Nat, 1 ≤ k ∧ k ≤ ns.length ∧ i = .int .i64 k ∧ n = .int .i64 (y)) (fun _ i => ns.length - (intOf i).toNat)
  case atStart => exact ⟨1, Nat.le_refl _, HP.out, rfl, by rfl⟩
  case round =>
    obtain ⟨k, hk1, hk, rfl, rfl⟩ := hrel
    by_cases hlt : k < ns.length
    · have hkl : (k : Int) < (ns.length : Int) := by omega
      have u1 := HROW.out k hlt
      rw [Nat.mul_one] at u1
      obtain ⟨m, hm⟩ : ∃ m, k = m + 1 := ⟨k - 1, by omega⟩

      go_wp2
      try trivial
      go_round
      case rel => exact ⟨k + 1, by omega, hlt, by go_num, rfl⟩
      case measure => simp [intOf]; omega
    · obtain rfl : k = ns.length := by omega
      go_wp2
      go_ret
      exact ⟨by rw [HV.out]; rfl, rfl⟩

set_option maxRecDepth 100000 in
set_option maxHeartbeats 2000000 in
theorem specNumFst_any (A : Option Addr) (c : Nat) (ns : List Int) (w : World) (h : IntsAt w w.heap.size A c ns) (hp : 0 < ns.length) (hout : outB ns = true) :
    Calls Tryz.prog 52 #[.int .i64 4, .slice A ns.length c] w fun e w' => e = .returned (.int .i64 (numV 4 ns)) ∧ w = w' := by
  obtain ⟨_, hlc, hc, hrow⟩ := h
  rcases hrow with hz | ⟨b, off, rfl, hB, hrow⟩
  · omega
  have HP := Lib.hid hp
  have HO := Lib.hid (outB_at hout)
  have u0 := hrow 0 hp
  rw [Nat.zero_mul, Nat.add_zero] at u0
  have h0l : (0 : Int) < (ns.length : Int) := by omega
  obtain ⟨y, hy⟩ : ∃ y, ns.getD 0 0 = y := ⟨_, rfl⟩
  rw [hy] at u0
  have HY := Lib.hid hy
  have HROW := Lib.hid hrow
  have HV := Lib.hid (show numV 4 ns = y by unfold numV; simpa using hy)
  clear hrow hp hout hy
  go_enter Tryz.func52, Tryz.ntmps52
  go_wp2
  clear u0
  go_loop [5, 6] (fun n i => ∃ k : Nat, 1 ≤ k ∧ k ≤ ns.length ∧ i = .int .i64 k ∧ n = .int .i64 (y)) (fun _ i => ns.length - (intOf i).toNat)
  case atStart => exact ⟨1, Nat.le_refl _, HP.out, rfl, by rfl⟩
  case round =>
    obtain ⟨k, hk1, hk, rfl, rfl⟩ := hrel
    by_cases hlt : k < ns.length
    · have hkl : (k : Int) < (ns.length : Int) := by omega
      have u1 := HROW.out k hlt
      rw [Nat.mul_one] at u1
      obtain ⟨m, hm⟩ : ∃ m, k = m + 1 := ⟨k - 1, by omega⟩

      go_wp2
      try trivial
      go_round
      case rel => exact ⟨k + 1, by omega, hlt, by go_num, rfl⟩
      case measure => simp [intOf]; omega
    · obtain rfl : k = ns.length := by omega
      go_wp2
      go_ret
      exact ⟨by rw [HV.out]; rfl, rfl⟩

set_option maxRecDepth 100000 in
set_option maxHeartbeats 2000000 in
theorem specNumOne_any (A : Option Addr) (c : Nat) (ns : List Int) (w : World) (h : IntsAt w w.heap.size A c ns) (hp : 0 < ns.length) (hout : outB ns = true) :
    Calls Tryz.prog 52 #[.int .i64 1, .slice A ns.length c] w fun e w' => e = .returned (.int .i64 (numV 1 ns)) ∧ w = w' := by
  obtain ⟨_, hlc, hc, hrow⟩ := h
  rcases hrow with hz | ⟨b, off, rfl, hB, hrow⟩
  · omega
  have HP := Lib.hid hp
  have HO := Lib.hid (outB_at hout)
  have u0 := hrow 0 hp
  rw [Nat.zero_mul, Nat.add_zero] at u0
  have h0l : (0 : Int) < (ns.length : Int) := by omega
  obtain ⟨y, hy⟩ : ∃ y, ns.getD 0 0 = y := ⟨_, rfl⟩
  rw [hy] at u0
  have HY := Lib.hid hy
  have HROW := Lib.hid hrow
  have HV := Lib.hid (show numV 1 ns = y by unfold numV; simpa using hy)
  clear hrow hp hout hy
  go_enter Tryz.func52, Tryz.ntmps52
  go_wp2
  clear u0
  go_loop [5, 6] (fun n i => ∃ k : Nat, 1 ≤ k ∧ k ≤ ns.length ∧ i = .int .i64 k ∧ n = .int .i64 (y)) (fun _ i => ns.length - (intOf i).toNat)
  case atStart => exact ⟨1, Nat.le_refl _, HP.out, rfl, by rfl⟩
  case round =>
    obtain ⟨k, hk1, hk, rfl, rfl⟩ := hrel
    by_cases hlt : k < ns.length
    · have hkl : (k : Int) < (ns.length : Int) := by omega
      have u1 := HROW.out k hlt
      rw [Nat.mul_one] at u1
      obtain ⟨m, hm⟩ : ∃ m, k = m + 1 := ⟨k - 1, by omega⟩

      go_wp2
      try trivial
      go_round
      case rel => exact ⟨k + 1, by omega, hlt, by go_num, rfl⟩
      case measure => simp [intOf]; omega
    · obtain rfl : k = ns.length := by omega
      go_wp2
      go_ret
      exact ⟨by rw [HV.out]; rfl, rfl⟩

set_option maxRecDepth 100000 in
set_option maxHeartbeats 2000000 in
theorem specNumTwo_any (A : Option Addr) (c : Nat) (ns : List Int) (w : World) (h : IntsAt w w.heap.size A c ns) (hp : 0 < ns.length) (hout : outB ns = true) :
    Calls Tryz.prog 52 #[.int .i64 2, .slice A ns.length c] w fun e w' => e = .returned (.int .i64 (numV 2 ns)) ∧ w = w' := by
  obtain ⟨_, hlc, hc, hrow⟩ := h
  rcases hrow with hz | ⟨b, off, rfl, hB, hrow⟩
  · omega
  have HP := Lib.hid hp
  have HO := Lib.hid (outB_at hout)
  have u0 := hrow 0 hp
  rw [Nat.zero_mul, Nat.add_zero] at u0
  have h0l : (0 : Int) < (ns.length : Int) := by omega
  obtain ⟨y, hy⟩ : ∃ y, ns.getD 0 0 = y := ⟨_, rfl⟩
  rw [hy] at u0
  have HY := Lib.hid hy
  have HROW := Lib.hid hrow
  have HV := Lib.hid (show numV 2 ns = y by unfold numV; simpa using hy)
  clear hrow hp hout hy
  go_enter Tryz.func52, Tryz.ntmps52
  go_wp2
  clear u0
  go_loop [5, 6] (fun n i => ∃ k : Nat, 1 ≤ k ∧ k ≤ ns.length ∧ i = .int .i64 k ∧ n = .int .i64 (y)) (fun _ i => ns.length - (intOf i).toNat)
  case atStart => exact ⟨1, Nat.le_refl _, HP.out, rfl, by rfl⟩
  case round =>
    obtain ⟨k, hk1, hk, rfl, rfl⟩ := hrel
    by_cases hlt : k < ns.length
    · have hkl : (k : Int) < (ns.length : Int) := by omega
      have u1 := HROW.out k hlt
      rw [Nat.mul_one] at u1
      obtain ⟨m, hm⟩ : ∃ m, k = m + 1 := ⟨k - 1, by omega⟩

      go_wp2
      try trivial
      go_round
      case rel => exact ⟨k + 1, by omega, hlt, by go_num, rfl⟩
      case measure => simp [intOf]; omega
    · obtain rfl : k = ns.length := by omega
      go_wp2
      go_ret
      exact ⟨by rw [HV.out]; rfl, rfl⟩
end Go.Proofs.YtamfmemdhldmjaaGreatDoor

namespace Go.Proofs.YtamfmemdhldmjaaGreatDoor
open Go.RowKit Sets

/-- The first n cells of block g hold the numbers f 0, f 1, .. -/
def RowIs (w : World) (g : Nat) (f : Nat → Int) (n : Nat) : Prop := ∀ i, i < n → w.cell? ⟨g, i, none⟩ = some (.int .i64 (f i))
theorem RowIs.put {w : World} {g n m o : Nat} {f : Nat → Int} (h : RowIs w g f m) (hb : OwnBlk w g n) (ho : o < n) (x : Int) : RowIs (w.setCell ⟨g, o, none⟩ (.int .i64 x)) g (fun i => if i = o then x else f i) m := by
  intro i hi
  rw [set_at hb ho]
  by_cases e : i = o
  · rw [if_pos e]; simp only [if_pos e]
  · rw [if_neg e, h i hi]; simp only [if_neg e]
theorem RowIs.drewN {w : World} {g n : Nat} {f : Nat → Int} (h : RowIs w g f n) (k : Nat) : RowIs (w.drewN k) g f n := fun i hi => h i hi
theorem OwnBlk.drewN {w : World} {g n : Nat} (h : OwnBlk w g n) (k : Nat) : OwnBlk (w.drewN k) g n := ⟨fun o ho => h.1 o ho, fun o => h.2.1 o, h.2.2⟩
theorem mem_insR {x y : Int} {l : List Int} (h : y ∈ insR x l) : y = x ∨ y ∈ l := by
  unfold insR at h
  rw [List.mem_append, List.mem_cons] at h
  rcases h with h | h | h
  · exact .inr (List.mem_of_mem_take h)
  · exact .inl h
  · exact .inr (List.mem_of_mem_drop h)
theorem mem_srK {ns : List Int} : ∀ k, k ≤ ns.length → ∀ y ∈ srK ns k, y ∈ ns := by
  intro k
  induction k with
  | zero => intro _ y hy; cases hy
  | succ k ih =>
    intro hk y hy
    rcases mem_insR hy with h | h
    · rw [h, List.getD_eq_getElem?_getD, List.getElem?_eq_getElem (by omega)]; exact List.getElem_mem (by omega)
    · exact ih (by omega) y h
theorem row_ints {w : World} {g : Nat} {f : Nat → Int} {ns : List Int} (h : RowIs w g f ns.length) (hf : ∀ i, i < ns.length → f i = ns.getD i 0) : IntRow w g ns ns.length := fun i hi => by rw [h i hi, hf i hi]
/-- the row while x goes down in the first e elements, at place p; what lies behind is as b says -/
structure Down (f : Nat → Int) (l : List Int) (x : Int) (p e : Nat) : Prop where
  left : ∀ i, i < p → f i = l.getD i 0
  right : ∀ i, p < i → i ≤ e → f i = l.getD (i - 1) 0
  pos : posR x l p = posR x l l.length
theorem Down.start {f : Nat → Int} {l : List Int} (x : Int) (h : ∀ i, i < l.length → f i = l.getD i 0) : Down f l x l.length l.length := ⟨h, fun i h1 h2 => by omega, rfl⟩
theorem Down.next {f f' : Nat → Int} {l : List Int} {x : Int} {p e : Nat} (h : Down f l x (p + 1) e) (hx : l.getD p 0 < x) (h1 : f' (p + 1) = l.getD p 0) (h2 : ∀ i, i ≠ p + 1 → i ≠ p → f' i = f i) : Down f' l x p e := by
  refine ⟨fun i hi => ?_, fun i hi1 hi2 => ?_, posR_down h.pos hx⟩
  · rw [h2 i (by omega) (by omega)]; exact h.left i (by omega)
  · by_cases e' : i = p + 1
    · rw [e', h1]; rfl
    · rw [h2 i e' (by omega)]; exact h.right i (by omega) hi2
/-- the place is found: the row with x in it is the longer list -/
theorem Down.done {f : Nat → Int} {l : List Int} {x : Int} {p : Nat} (h : Down f l x p l.length) (hx : p = 0 ∨ ¬ l.getD (p - 1) 0 < x) (hf : f p = x) : ∀ i, i < (insR x l).length → f i = (insR x l).getD i 0 := by
  have hp : posR x l l.length = p := by
    rcases hx with rfl | hx
    · exact h.pos.symm
    · obtain ⟨q, rfl⟩ | rfl : (∃ q, p = q + 1) ∨ p = 0 := by cases p with
        | zero => exact .inr rfl
        | succ q => exact .inl ⟨q, rfl⟩
      · exact posR_stop h.pos hx
      · exact h.pos.symm
  intro i hi
  rw [insR_len] at hi
  rw [insR_at x l p hp]
  by_cases h1 : i < p
  · rw [if_pos h1]; exact h.left i h1
  · rw [if_neg h1]
    by_cases h2 : i = p
    · rw [if_pos h2, h2, hf]
    · rw [if_neg h2]; exact h.right i (by omega) (by omega)

theorem Down.fin {f : Nat → Int} {l : List Int} {x : Int} {p e : Nat} (h : Down f l x p e) (he : l.length = e) (hx : p = 0 ∨ ¬ l.getD (p - 1) 0 < x) : ∀ i, i < e + 1 → (if i = p then x else f i) = (insR x l).getD i 0 := by
  subst he
  have h' : Down (fun i => if i = p then x else f i) l x p l.length := ⟨fun i hi => by simp only [if_neg (show ¬ i = p by omega)]; exact h.left i hi, fun i h1 h2 => by simp only [if_neg (show ¬ i = p by omega)]; exact h.right i h1 h2, h.pos⟩
  intro i hi
  exact h'.done hx (by simp) i (by rw [insR_len]; exact hi)
/-- a store behind which the row but for one place is as f says -/
theorem row_fill {w : World} {g n m p : Nat} {f : Nat → Int} (hb : OwnBlk w g n) (hp : p < n) (h : ∀ i, i < m → i ≠ p → w.cell? ⟨g, i, none⟩ = some (.int .i64 (f i))) (x : Int) : RowIs (w.setCell ⟨g, p, none⟩ (.int .i64 x)) g (fun i => if i = p then x else f i) m := by
  intro i hi
  rw [set_at hb hp]
  by_cases e : i = p
  · rw [if_pos e]; simp only [if_pos e]
  · rw [if_neg e, h i hi e]; simp only [if_neg e]

set_option maxRecDepth 100000 in
set_option maxHeartbeats 4000000 in
theorem implDesc_any (A : Option Addr) (c : Nat) (ns : List Int) (w : World) (h : IntsAt w w.heap.size A c ns) (hn : ns.length ≤ 12) :
    Calls Tryz.prog 98 #[.slice A ns.length c] w fun e w' => ∃ A' c', e = .returned (.slice A' (srK ns ns.length).length c') ∧ OwnN w' w.heap.size A' c' (srK ns ns.length) ∧ Below w.heap.size w w' := by
  obtain ⟨hfit, hlc, hc, hrow⟩ := h
  obtain ⟨i0, hi, hz0, hz1, hz2⟩ := info_parts infoInt
  have hmk := fun W => run_make (P := Tryz.prog) W 26 3 i0 _ Tryz.underlying26 hi hz0 .i64 .i64 ns.length ns.length (by omega) (by omega) (by rw [hz2]; omega) (by omega)
  simp only [Int.toNat_natCast, hz1, Nat.mul_one] at hmk
  have HF := Lib.hid hfit
  clear hi hz0 hz1 hz2 hfit
  go_enter Tryz.func98, Tryz.ntmps98
  go_wp2
  have hown0 := OwnBlk.made w #[.int .i64 0] ns.length 3
  have hb0 : Below w.heap.size w (w.alloc (.cells (madeCells #[Value.int .i64 0] ns.length) 3)) := (Below.refl _ _).alloc (Nat.le_refl _) _
  generalize w.alloc (.cells (madeCells #[Value.int .i64 0] ns.length) 3) = W0 at hown0 hb0 ⊢
  clear hmk
  go_loopw [12] (fun i wr => ∃ k : Nat, k ≤ ns.length ∧ i = .int .i64 k ∧ (∃ f, RowIs wr w.heap.size f k ∧ Hid (∀ i, i < k → f i = (srK ns k).getD i 0)) ∧ OwnBlk wr w.heap.size ns.length ∧ Below w.heap.size w wr) (fun i _ => ns.length - (intOf i).toNat)
  case atStart => exact ⟨0, Nat.zero_le _, rfl, ⟨fun _ => 0, fun i hi => absurd hi (by omega), Lib.hid fun i hi => absurd hi (by omega)⟩, hown0, hb0⟩
  case round =>
    obtain ⟨k, hk, rfl, ⟨f, hr, hf⟩, hown, hb⟩ := hrel
    by_cases hlt : k < ns.length
    · rcases hrow with hz | ⟨b, off, rfl, hB, hrow⟩
      · omega
      · have hkl : (k : Int) < (ns.length : Int) := by omega
        have u1 := hrow k hlt
        rw [Nat.mul_one] at u1
        have d1 := (hb.cell (p := ⟨b, off + k, none⟩) hB).trans u1
        obtain ⟨x, hx⟩ : ∃ x, ns.getD k 0 = x := ⟨_, rfl⟩
        rw [hx] at d1
        have HX := Lib.hid hx
        have HB := Lib.hid hb
        have HR := Lib.hid hr
        have HO := Lib.hid hown
        have HS := Lib.hid (srK_len ns k)
        have HN := Lib.hid (show ns.length ≤ 12 from hn)
        clear u1 hx hrow hb hr hown hc hlc
        go_wp2
        clear d1
        go_loopw [6] (fun q wq => ∃ p : Nat, p ≤ k ∧ q = .int .i64 p ∧ (∃ f', (∀ i, i < k + 1 → i ≠ p → wq.cell? ⟨w.heap.size, i, none⟩ = some (.int .i64 (f' i))) ∧ Hid (Down f' (srK ns k) x p k)) ∧ OwnBlk wq w.heap.size ns.length ∧ Below w.heap.size w wq) (fun q _ => (intOf q).toNat)
        case atStart => exact ⟨k, Nat.le_refl _, rfl, ⟨f, fun i hi hne => HR.out i (by omega), Lib.hid (by have := Down.start (f := f) (l := srK ns k) x (fun i hi => hf.out i (by have := HS.out; omega)); rw [HS.out] at this; exact this)⟩, HO.out, HB.out⟩
        case round =>
          obtain ⟨p, hpk, rfl, ⟨f', hr', hd⟩, hown', hb'⟩ := hrel
          by_cases hp0 : p = 0
          · subst hp0
            have hq : decide ((0 : Int) < ((0 : Nat) : Int)) = false := by simp
            obtain ⟨v0, g0⟩ := hown'.1 0 (by omega)
            have f0 := hown'.2.1 0
            have hfill := Lib.hid (row_fill hown' (by omega) hr' x)
            have HO' := Lib.hid (hown'.set 0 (.int .i64 x))
            have HB' := Lib.hid (hb'.setCell (p := ⟨w.heap.size, 0, none⟩) (Nat.le_refl _) (.int .i64 x))
            have HD := hd
            clear hr' hown' hb'
            go_wp2
            try trivial
            go_roundw
            case rel => exact ⟨k + 1, hlt, by go_num, ⟨_, hfill.out, Lib.hid fun i hi => by
              rw [show srK ns (k + 1) = insR x (srK ns k) by rw [srK, HX.out]]; exact HD.out.fin HS.out (.inl rfl) i hi⟩, HO'.out, HB'.out⟩
            case measure => simp [intOf]; omega
          · obtain ⟨q, rfl⟩ : ∃ q, p = q + 1 := ⟨p - 1, by omega⟩
            have cq := hr' q (by omega) (by omega)
            have hl := hd.out.left q (by omega)
            obtain ⟨y, hy⟩ : ∃ y, f' q = y := ⟨_, rfl⟩
            rw [hy] at cq hl
            have HY := Lib.hid (And.intro hy hl)
            have hq1 : (0 : Int) < (q : Int) + 1 := by omega
            have hq2 : (0 : Int) ≤ (q : Int) := by omega
            have hq3 : (q : Int) < (ns.length : Int) := by omega
            have hq4 : (q : Int) + 1 < (ns.length : Int) := by omega
            have hq5 : (0 : Int) ≤ (q : Int) + 1 := by omega
            have e1 : IntKind.i64.wrap ((q : Int) + 1 - 1) = (q : Int) := by rw [show (q : Int) + 1 - 1 = q by omega]; exact IntWalk.i64_in _ (by have := HN.out; omega)
            have e2 : IntKind.i64.wrap (q : Int) = (q : Int) := IntWalk.i64_in _ (by have := HN.out; omega)
            have e3 : ((q : Int) + 1).toNat = q + 1 := by omega
            obtain ⟨v0, g0⟩ := hown'.1 (q + 1) (by omega)
            have f0 := hown'.2.1 (q + 1)
            have HD := hd
            clear hy hl
            by_cases hlt2 : y < x
            · have hfill := Lib.hid (row_fill hown' (by omega) hr' y)
              have HO' := Lib.hid (hown'.set (q + 1) (.int .i64 y))
              have HB' := Lib.hid (hb'.setCell (p := ⟨w.heap.size, q + 1, none⟩) (Nat.le_refl _) (.int .i64 y))
              clear hr' hown' hb'
              go_wp2
              try trivial
              go_roundw
              case rel => exact ⟨q, by omega, rfl, ⟨fun i => if i = q + 1 then y else f' i, fun i hi _ => hfill.out i hi, Lib.hid (HD.out.next (by rw [← HY.out.2]; exact hlt2) (by rw [if_pos rfl]; exact HY.out.2) (fun i h1 _ => if_neg h1))⟩, HO'.out, HB'.out⟩
              case measure => simp [intOf]
            · have hlt3 : decide (y < x) = false := decide_eq_false hlt2
              have hfill := Lib.hid (row_fill hown' (by omega) hr' x)
              have HO' := Lib.hid (hown'.set (q + 1) (.int .i64 x))
              have HB' := Lib.hid (hb'.setCell (p := ⟨w.heap.size, q + 1, none⟩) (Nat.le_refl _) (.int .i64 x))
              have HL2 := Lib.hid hlt2
              clear hr' hown' hb' hlt2
              go_wp2
              try trivial
              go_roundw
              case rel => exact ⟨k + 1, hlt, by go_num, ⟨_, hfill.out, Lib.hid fun i hi => by
                rw [show srK ns (k + 1) = insR x (srK ns k) by rw [srK, HX.out]]; exact HD.out.fin HS.out (.inr (by rw [show q + 1 - 1 = q by omega, ← HY.out.2]; exact HL2.out)) i hi⟩, HO'.out, HB'.out⟩
              case measure => simp [intOf]; omega
    · obtain rfl : k = ns.length := by omega
      have HL := Lib.hid (srK_len ns ns.length)
      have HRI := Lib.hid (show IntRow wr w.heap.size (srK ns ns.length) (srK ns ns.length).length by rw [HL.out]; intro i hi; rw [hr i hi, hf.out i hi])
      have HOW := Lib.hid (show OwnBlk wr w.heap.size (srK ns ns.length).length by rw [HL.out]; exact hown)
      go_wp2
      go_ret
      refine ⟨some ⟨w.heap.size, 0, none⟩, ns.length, by rw [HL.out]; rfl, ⟨by rw [HL.out]; exact Nat.le_refl _, by omega, fun y hy => HF.out y (mem_srK _ (Nat.le_refl _) y hy), (fun g o s e => by injection e with e; injection e with e1 _; subst e1; exact ⟨Nat.le_refl _, HOW.out.2.2⟩), .inr ⟨_, rfl, HRI.out, HOW.out⟩⟩, hb⟩

/-- the place is found: the row, with x in it, up to there -/
theorem Down.all {f : Nat → Int} {l : List Int} {x : Int} {p e : Nat} (h : Down f l x p e) (he : l.length = e) (hx : p = 0 ∨ ¬ l.getD (p - 1) 0 < x) (hf : f p = x) : ∀ i, i < e + 1 → f i = (insR x l).getD i 0 := by
  subst he
  intro i hi
  exact h.done hx hf i (by rw [insR_len]; exact hi)

set_option maxRecDepth 100000 in
set_option maxHeartbeats 4000000 in
theorem specSort_any (A : Option Addr) (c : Nat) (ns : List Int) (w : World) (h : IntsAt w w.heap.size A c ns) (hp : 0 < ns.length) (hn : ns.length ≤ 12) :
    Calls Tryz.prog 61 #[.slice A ns.length c] w fun e w' => ∃ A' c', e = .returned (.slice A' (srK ns ns.length).length c') ∧ OwnN w' w.heap.size A' c' (srK ns ns.length) ∧ Below w.heap.size w w' := by
  obtain ⟨i0, hi0, hz0, hz1, hz2⟩ := infoI
  obtain ⟨hfit, hlc, hc, hrow⟩ := h
  rcases hrow with hz | ⟨b, off, rfl, hB, hrow⟩
  · omega
  have hE := ownI_empty w
  have hb0 : Below w.heap.size w (w.alloc (.cells #[] 3)) := (Below.refl _ _).alloc (Nat.le_refl _) _
  have HNEW := Lib.hid (ints_cells (w := w.alloc (.cells #[] 3)) (b := b) (o := off) (ns := ns) fun i hi => (hb0.cell (p := ⟨b, off + i * 1, none⟩) hB).trans (hrow i hi))
  have HF := Lib.hid hfit
  have HP := Lib.hid hp
  have HN := Lib.hid hn
  have HLC := Lib.hid (And.intro hlc hc)
  have hl : (intCells ns).length = ns.length * 1 := by simp [intCells]
  clear hfit hp hrow hlc hc
  go_enter Tryz.func61, Tryz.ntmps61
  go_wp2_with (at_builtin; refine wpList_append_own _ rfl (.tmp 7) (.tmp 8) 26 rfl w.heap.size 3 i0 _ 1 8 Tryz.underlying26 hi0 hz0 hz1 hz2 rfl (by decide) _ ([] : List Int).length (intCells []) rfl hE ⟨b, off, none⟩ ns.length c (intCells ns) rfl hl HNEW.out (intCells_one ns) ?hc3 ?hc4 ?hc5 ?_; rotate_right; intro v' w1 hown2 hgrow _; obtain ⟨A2, c2, rfl, hO⟩ := (show OwnI w1 w.heap.size v' ns by unfold OwnI; simpa [intCells] using hown2).form HF.out)
  case hc3 => unfold maxLen; simp; omega
  case hc4 => simp; omega
  case hc5 => simp
  have hb1 := Below.grown (row := (Value.slice (some ⟨w.heap.size, 0, none⟩) 0 0).ownBlock) hb0 hgrow (by simp) (fun k hk => (hE.lt k hk).1)
  clear hown2 hgrow hE hl hi0 hz0 hz1 hz2 hb0
  obtain ⟨hc2a, hc2b, _, hbase, hz | ⟨g, rfl, hr1, ho1⟩⟩ := hO
  · exact absurd hz (by have := HP.out; omega)
  have hgb := (hbase g 0 none rfl).1
  have HG := Lib.hid hgb
  have HC2 := Lib.hid (And.intro hc2a hc2b)
  clear hbase hc2a hc2b hgb
  go_loopw [4] (fun i wr => ∃ k : Nat, 1 ≤ k ∧ k ≤ ns.length ∧ i = .int .i64 k ∧ (∃ f, RowIs wr g f ns.length ∧ Hid ((∀ i, i < k → f i = (srK ns k).getD i 0) ∧ ∀ i, k ≤ i → f i = ns.getD i 0)) ∧ OwnBlk wr g ns.length ∧ Below w.heap.size w wr) (fun i _ => ns.length - (intOf i).toNat)
  case atStart => exact ⟨1, Nat.le_refl _, HP.out, rfl, ⟨fun i => ns.getD i 0, hr1, Lib.hid ⟨fun i hi => by rw [show i = 0 by omega]; rfl, fun i _ => rfl⟩⟩, ho1, hb1⟩
  case round =>
    clear hr1 ho1 hb1
    obtain ⟨k, hk1, hk, rfl, ⟨f, hr, hf⟩, hown, hb⟩ := hrel
    by_cases hlt : k < ns.length
    · have hkl : (k : Int) < (ns.length : Int) := by omega
      obtain ⟨x, hx⟩ : ∃ x, ns.getD k 0 = x := ⟨_, rfl⟩
      have HX := Lib.hid hx
      have HB := Lib.hid hb
      have HR := Lib.hid hr
      have HO := Lib.hid hown
      have HS := Lib.hid (srK_len ns k)
      clear hx hb hr hown
      go_wp2
      go_loopw [5] (fun q wq => ∃ p : Nat, p ≤ k ∧ q = .int .i64 p ∧ (∃ f', RowIs wq g f' ns.length ∧ Hid (Down f' (srK ns k) x p k ∧ f' p = x ∧ ∀ i, k < i → f' i = ns.getD i 0)) ∧ OwnBlk wq g ns.length ∧ Below w.heap.size w wq) (fun q _ => (intOf q).toNat)
      case atStart => exact ⟨k, Nat.le_refl _, rfl, ⟨f, HR.out, Lib.hid ⟨by have := Down.start (f := f) (l := srK ns k) x (fun i hi => hf.out.1 i (by have := HS.out; omega)); rw [HS.out] at this; exact this, (hf.out.2 k (Nat.le_refl _)).trans HX.out, fun i hi => hf.out.2 i (by omega)⟩⟩, HO.out, HB.out⟩
      case round =>
        obtain ⟨p, hpk, rfl, ⟨f', hr', hd⟩, hown', hb'⟩ := hrel
        by_cases hp0 : p = 0
        · subst hp0
          have hq : decide ((0 : Int) < ((0 : Nat) : Int)) = false := by simp
          have HB' := Lib.hid hb'
          have HR' := Lib.hid hr'
          have HO' := Lib.hid hown'
          clear hr' hown' hb'
          go_wp2
          go_quiet (fail)
          go_wp2
          go_roundw
          case rel => exact ⟨k + 1, by omega, hlt, by go_num, ⟨f', HR'.out.drewN _, Lib.hid ⟨fun i hi => by
            rw [show srK ns (k + 1) = insR x (srK ns k) by rw [srK, HX.out]]; exact hd.out.1.all HS.out (.inl rfl) hd.out.2.1 i hi, fun i hi => hd.out.2.2 i hi⟩⟩, HO'.out.drewN _, below_drewN HB'.out _⟩
          case measure => simp [intOf]; omega
        · obtain ⟨q, rfl⟩ : ∃ q, p = q + 1 := ⟨p - 1, by omega⟩
          have cq := hr' q (by omega)
          have cp := hr' (q + 1) (by omega)
          have hl := hd.out.1.left q (by omega)
          obtain ⟨y, hy⟩ : ∃ y, f' q = y := ⟨_, rfl⟩
          rw [hy] at cq hl
          rw [hd.out.2.1] at cp
          have HY := Lib.hid (And.intro hy hl)
          have hq1 : (0 : Int) < (q : Int) + 1 := by omega
          have hq2 : (0 : Int) ≤ (q : Int) := by omega
          have hq3 : (q : Int) < (ns.length : Int) := by omega
          have hq4 : (q : Int) + 1 < (ns.length : Int) := by omega
          have hq5 : (0 : Int) ≤ (q : Int) + 1 := by omega
          have e1 : IntKind.i64.wrap ((q : Int) + 1 - 1) = (q : Int) := by rw [show (q : Int) + 1 - 1 = q by omega]; exact IntWalk.i64_in _ (by have := HN.out; omega)
          have e2 : IntKind.i64.wrap (q : Int) = (q : Int) := IntWalk.i64_in _ (by have := HN.out; omega)
          have e3 : ((q : Int) + 1).toNat = q + 1 := by omega
          have fr0 := hown'.2.1 (q + 1)
          have fr1 := hown'.2.1 q
          clear hy hl
          by_cases hlt2 : y < x
          · have HB' := Lib.hid hb'
            have HR' := Lib.hid hr'
            have HO' := Lib.hid hown'
            have HQ := Lib.hid (And.intro (show q + 1 < ns.length by omega) (show q < ns.length by omega))
            have HL2 := Lib.hid hlt2
            clear hr' hown' hb'
            go_wp2
            go_quiet (fail)
            go_wp2
            go_roundw
            case rel => exact ⟨q, by omega, rfl, ⟨_, ((HR'.out.drewN _).put (HO'.out.drewN _) HQ.out.1 y).put ((HO'.out.drewN _).set (q + 1) _) HQ.out.2 x, Lib.hid ⟨hd.out.1.next (by rw [← HY.out.2]; exact HL2.out) (by simp only [if_neg (show ¬ q + 1 = q by omega), if_true]; exact HY.out.2) (fun i h1 h2 => by simp only [if_neg h2, if_neg h1]), by simp, fun i hi => by simp only [if_neg (show ¬ i = q by omega), if_neg (show ¬ i = q + 1 by omega)]; exact hd.out.2.2 i hi⟩⟩, ((HO'.out.drewN _).set _ _).set _ _, ((below_drewN HB'.out _).setCell (p := ⟨g, q + 1, none⟩) HG.out _).setCell (p := ⟨g, q, none⟩) HG.out _⟩
            case measure => simp [intOf]
          · have hlt3 : decide (y < x) = false := decide_eq_false hlt2
            have HB' := Lib.hid hb'
            have HR' := Lib.hid hr'
            have HO' := Lib.hid hown'
            have HL2 := Lib.hid hlt2
            clear hr' hown' hb' hlt2
            go_wp2
            go_quiet (fail)
            go_wp2
            go_roundw
            case rel => exact ⟨k + 1, by omega, hlt, by go_num, ⟨f', HR'.out.drewN _, Lib.hid ⟨fun i hi => by
              rw [show srK ns (k + 1) = insR x (srK ns k) by rw [srK, HX.out]]; exact hd.out.1.all HS.out (.inr (by rw [show q + 1 - 1 = q by omega, ← HY.out.2]; have := HL2.out; omega)) hd.out.2.1 i hi, fun i hi => hd.out.2.2 i hi⟩⟩, HO'.out.drewN _, below_drewN HB'.out _⟩
            case measure => simp [intOf]; omega
    · obtain rfl : k = ns.length := by omega
      have HL := Lib.hid (srK_len ns ns.length)
      have HRI := Lib.hid (show IntRow wr g (srK ns ns.length) (srK ns ns.length).length by rw [HL.out]; intro i hi; rw [hr i hi, hf.out.1 i hi])
      have HOW := Lib.hid (show OwnBlk wr g (srK ns ns.length).length by rw [HL.out]; exact hown)
      go_wp2
      go_ret
      refine ⟨some ⟨g, 0, none⟩, c2, by rw [HL.out]; rfl, ⟨by rw [HL.out]; exact HC2.out.1, HC2.out.2, fun y hy => HF.out y (mem_srK _ (Nat.le_refl _) y hy), (fun g' o s e => by injection e with e; injection e with e1 _; subst e1; exact ⟨HG.out, HOW.out.2.2⟩), .inr ⟨_, rfl, HRI.out, HOW.out⟩⟩, hb⟩
end Go.Proofs.YtamfmemdhldmjaaGreatDoor

namespace Go.Proofs.YtamfmemdhldmjaaGreatDoor
open Go.RowKit Sets

/-- A call hands back the result r, whose list is its own. -/
def ResN (r : Rs) (w : World) (e : Ending) (w' : World) : Prop := ∃ A' c', e = .returned (.agg #[.int .i64 r.1, .slice A' r.2.length c']) ∧ OwnN w' w.heap.size A' c' r.2 ∧ Below w.heap.size w w'

theorem own_one_box (w : World) (o : Obj) (x : Int) (hx : I64 x) : OwnN ((w.alloc o).alloc (.cells #[.int .i64 x] 3)) (w.heap.size + 1) (some ⟨w.heap.size + 1, 0, none⟩) 1 [x] := by
  have h := ownI_one (w.alloc o) x
  obtain ⟨A, c, e, h2⟩ := h.form (fun y hy => by rw [List.mem_singleton.1 hy]; exact hx)
  have hz : (w.alloc o).heap.size = w.heap.size + 1 := by simp
  rw [hz] at e h2
  injection e with e1 e2 e3
  subst e1 e3
  exact h2
theorem own_nil_box (w : World) (o : Obj) : OwnN ((w.alloc o).alloc (.cells #[] 3)) (w.heap.size + 1) (some ⟨w.heap.size + 1, 0, none⟩) 0 [] :=
  ⟨Nat.le_refl _, by omega, (fun x hx => by cases hx), (fun g o' s e => by injection e with e; injection e with e1 _; subst e1; exact ⟨Nat.le_refl _, by simp⟩), .inl rfl⟩
theorem OwnN.two {V : World} {base c g : Nat} {A : Option Addr} {ns : List Int} (h : OwnN V base A c ns) (hg : g < base) (a b : Value) : OwnN ((V.setCell ⟨g, 0, none⟩ a).setCell ⟨g, 1, none⟩ b) base A c ns := by
  obtain ⟨h1, h2, h3, h4, h5⟩ := h
  refine ⟨h1, h2, h3, fun g' o s e => ⟨(h4 g' o s e).1, by rw [two_size]; exact (h4 g' o s e).2⟩, h5.imp id ?_⟩
  rintro ⟨g', e, hr, ho⟩
  have hgg : g' ≠ g := by have := (h4 g' 0 none e).1; omega
  refine ⟨g', e, fun i hi => by rw [two_other hgg]; exact hr i hi, fun o ho' => by rw [two_other hgg]; exact ho.1 o ho', fun o => by rw [World.frozen?_setCell, World.frozen?_setCell]; exact ho.2.1 o, by rw [two_size]; exact ho.2.2⟩
theorem box_cells (w : World) (x : Int) (A : Option Addr) (n c : Nat) (t : TypeId) (o : Obj) : ((w.alloc (.cells #[.int .i64 x, .slice A n c] t)).alloc o).cell? ⟨w.heap.size, 0, none⟩ = some (.int .i64 x) ∧ ((w.alloc (.cells #[.int .i64 x, .slice A n c] t)).alloc o).cell? ⟨w.heap.size, 1, none⟩ = some (.slice A n c) := by
  have b1 : Below (w.heap.size + 1) (w.alloc (.cells #[.int .i64 x, .slice A n c] t)) ((w.alloc (.cells #[.int .i64 x, .slice A n c] t)).alloc o) := (Below.refl _ _).alloc (by simp) _
  constructor
  · rw [b1.cell (p := ⟨w.heap.size, 0, none⟩) (by simp), World.cell?_alloc_new]; rfl
  · rw [b1.cell (p := ⟨w.heap.size, 1, none⟩) (by simp), World.cell?_alloc_new]; rfl
theorem out_i64 {ns : List Int} (h : outB ns = true) {k : Nat} (hk : k < ns.length) : I64 (ns.getD k 0) := by
  have := (outB_at h).2 k hk
  unfold I64; omega
theorem num_i64 {ns : List Int} (h : outB ns = true) (hp : 0 < ns.length) (p : Int) : I64 (numV p ns) := by
  have ho := outB_at h
  have h1 := smK_bound ho.2 ns.length (Nat.le_refl _)
  obtain ⟨i, hi, e1⟩ := mn_mem (ns := ns) (ns.length - 1) (by omega)
  obtain ⟨j, hj, e2⟩ := mx_mem (ns := ns) (ns.length - 1) (by omega)
  have a1 := ho.2 i (by omega)
  have a2 := ho.2 j (by omega)
  have a3 := ho.2 0 hp
  unfold numV I64
  split
  · omega
  · split
    · omega
    · split
      · rw [e1]; omega
      · split
        · rw [e2]; omega
        · omega


/-- a result that is one number: the end of the walk -/
theorem dec_one {r : Rs} {x : Int} (h : r = (0, [x])) (w : World) (hx : I64 x) : ResN r w (.returned (.agg #[.int .i64 0, .slice (some ⟨w.heap.size + 1, 0, none⟩) 1 1])) ((w.alloc (.cells #[.int .i64 0, .slice (some ⟨w.heap.size + 1, 0, none⟩) 1 1] 29)).alloc (.cells #[.int .i64 x] 3)) := by
  rw [h]
  exact ⟨_, _, rfl, (own_one_box w _ x hx).base (by omega), ((Below.refl _ _).alloc (Nat.le_refl _) _).alloc (by simp) _⟩
theorem dec_nil {r : Rs} {k : Int} (h : r = (k, [])) (w : World) : ResN r w (.returned (.agg #[.int .i64 k, .slice (some ⟨w.heap.size + 1, 0, none⟩) 0 0])) ((w.alloc (.cells #[.int .i64 k, .slice (some ⟨w.heap.size + 1, 0, none⟩) 0 0] 29)).alloc (.cells #[] 3)) := by
  rw [h]
  exact ⟨_, _, rfl, (own_nil_box w _).base (by omega), ((Below.refl _ _).alloc (Nat.le_refl _) _).alloc (by simp) _⟩

theorem box_facts (w : World) (t : TypeId) : (w.alloc (.cells #[.int .i64 0, .slice none 0 0] t)).cell? ⟨w.heap.size, 0, none⟩ = some (.int .i64 0) ∧ (w.alloc (.cells #[.int .i64 0, .slice none 0 0] t)).cell? ⟨w.heap.size, 1, none⟩ = some (.slice none 0 0) ∧ ∀ o, (w.alloc (.cells #[.int .i64 0, .slice none 0 0] t)).frozen? ⟨w.heap.size, o, none⟩ = false :=
  ⟨by rw [World.cell?_alloc_new]; rfl, by rw [World.cell?_alloc_new]; rfl, fun o => World.frozen?_alloc_at _ _ _ _ rfl⟩
theorem cell_old {w V : World} {o : Obj} {k : Nat} {ob : Obj} (b : Below (w.alloc o).heap.size (w.alloc o) V) : (V.alloc ob).cell? ⟨w.heap.size, k, none⟩ = V.cell? ⟨w.heap.size, k, none⟩ :=
  Below.cell (B := V.heap.size) ((Below.refl _ _).alloc (Nat.le_refl _) _) (p := ⟨w.heap.size, k, none⟩) (Nat.lt_of_lt_of_le (by simp) b.size)
theorem own_nil_at (V : World) {base : Nat} (h : base ≤ V.heap.size) : OwnN (V.alloc (.cells #[] 3)) base (some ⟨V.heap.size, 0, none⟩) 0 [] :=
  ⟨Nat.le_refl _, by omega, (fun x hx => by cases hx), (fun g o' s e => by injection e with e; injection e with e1 _; subst e1; exact ⟨h, by simp⟩), .inl rfl⟩
theorem own_one_at (V : World) {base : Nat} (x : Int) (hx : I64 x) (h : base ≤ V.heap.size) : OwnN (V.alloc (.cells #[.int .i64 x] 3)) base (some ⟨V.heap.size, 0, none⟩) 1 [x] := by
  obtain ⟨A, c, e, h2⟩ := (ownI_one V x).form (fun y hy => by rw [List.mem_singleton.1 hy]; exact hx)
  injection e with e1 e2 e3
  subst e1 e3
  exact h2.base h
/-- a result that is stored into its cell: the end of the walk -/
theorem dec_fin {r : Rs} {ms : List Int} {k : Int} {fn : Func} {a : Act} {A : Option Addr} {c : Nat} {w V : World} {x y : Value} (hv : r = (k, ms)) (hb : Below w.heap.size w V) (h0 : V.cell? ⟨w.heap.size, 0, none⟩ = some x) (h1 : V.cell? ⟨w.heap.size, 1, none⟩ = some y)
    (ho : OwnN V (w.heap.size + 1) A c ms) (hd : a.defers = [])
    (hr : ∀ {F : World}, F.cell? ⟨w.heap.size, 0, none⟩ = some (.int .i64 k) → F.cell? ⟨w.heap.size, 1, none⟩ = some (.slice A ms.length c) → (results fn a.tmps).run Tryz.prog F = .ok (.agg #[.int .i64 k, .slice A ms.length c]) F) :
    bodyPost Tryz.prog fn (ResN r w) Exit.ret a ((V.setCell ⟨w.heap.size, 0, none⟩ (.int .i64 k)).setCell ⟨w.heap.size, 1, none⟩ (.slice A ms.length c)) := by
  obtain ⟨k0, k1⟩ := set_two h0 h1 (.int .i64 k) (.slice A ms.length c)
  refine bodyPost_ret (hr k0 k1) hd ?_
  rw [hv]
  exact ⟨A, c, rfl, (ho.two (by omega) _ _).base (by omega), two_below hb (Nat.le_refl _) _ _⟩
/-- the same, where the list's block is laid behind -/
theorem dec_fin2 {r : Rs} {ms : List Int} {k : Int} {fn : Func} {a : Act} {A : Option Addr} {c : Nat} {w V : World} {x y : Value} {ob : Obj} (hv : r = (k, ms)) (hb : Below w.heap.size w V) (hlt : w.heap.size < V.heap.size) (h0 : V.cell? ⟨w.heap.size, 0, none⟩ = some x) (h1 : V.cell? ⟨w.heap.size, 1, none⟩ = some y)
    (ho : OwnN (V.alloc ob) (w.heap.size + 1) A c ms) (hd : a.defers = [])
    (hr : ∀ {F : World}, F.cell? ⟨w.heap.size, 0, none⟩ = some (.int .i64 k) → F.cell? ⟨w.heap.size, 1, none⟩ = some (.slice A ms.length c) → (results fn a.tmps).run Tryz.prog F = .ok (.agg #[.int .i64 k, .slice A ms.length c]) F) :
    bodyPost Tryz.prog fn (ResN r w) Exit.ret a (((V.setCell ⟨w.heap.size, 0, none⟩ (.int .i64 k)).setCell ⟨w.heap.size, 1, none⟩ (.slice A ms.length c)).alloc ob) := by
  have bV : Below V.heap.size V (V.alloc ob) := (Below.refl _ _).alloc (Nat.le_refl _) _
  rw [← World.setCell_alloc_past ob _ _ _ (by simpa [World.setCell] using hlt), ← World.setCell_alloc_past ob _ _ _ hlt]
  exact dec_fin hv (hb.trans (bV.mono (Nat.le_of_lt hlt))) ((bV.cell (p := ⟨w.heap.size, 0, none⟩) hlt).trans h0) ((bV.cell (p := ⟨w.heap.size, 1, none⟩) hlt).trans h1) ho hd hr

set_option maxRecDepth 100000 in
set_option maxHeartbeats 8000000 in
theorem specDec4_any (p : Int) (A : Option Addr) (c : Nat) (ns : List Int) (w : World) (h : IntsAt w w.heap.size A c ns) (hout : outB ns = true) (hp1 : 1 ≤ p) (hp2 : p ≤ 10) :
    Calls Tryz.prog 38 #[.int .i64 p, .slice A ns.length c] w (ResN (dcV p ns) w) := by
  have hbx : Below w.heap.size w (w.alloc (.cells #[.int .i64 0, .slice none 0 0] 29)) := (Below.refl _ _).alloc (Nat.le_refl _) _
  have HI := Lib.hid (h.step hbx)
  have HB := Lib.hid hbx
  have HO := Lib.hid hout
  clear h hbx hout
  by_cases hz : ns.length = 0
  · obtain rfl : ns = [] := List.eq_nil_of_length_eq_zero hz
    clear hz HI HO
    by_cases hp : p = 10
    · subst hp
      have HV := Lib.hid (show dcV 10 [] = (0, [0]) by rfl)
      obtain ⟨k0, k1⟩ := box_cells w 0 (some ⟨w.heap.size + 1, 0, none⟩) 1 1 29 (.cells #[.int .i64 0] 3)
      have K := Lib.hid (And.intro k0 k1)
      clear k0 k1
      go_enter Tryz.func38, Tryz.ntmps38
      go_wp2
      try trivial
      obtain ⟨k0, k1⟩ := K.out
      exact bodyPost_ret (v := .agg #[.int .i64 0, .slice (some ⟨w.heap.size + 1, 0, none⟩) 1 1]) (by simp [results, Tryz.results38, go_sem, k0, k1]) rfl (dec_one HV.out w (by unfold I64; omega))
    · have HV := Lib.hid (show dcV p [] = (1, []) by unfold dcV; simp [hp])
      have hp' : (p == 10) = false := by simp [hp]
      obtain ⟨k0, k1⟩ := box_cells w 1 (some ⟨w.heap.size + 1, 0, none⟩) 0 0 29 (.cells #[] 3)
      have K := Lib.hid (And.intro k0 k1)
      clear k0 k1 hp
      go_enter Tryz.func38, Tryz.ntmps38
      go_wp2
      try trivial
      obtain ⟨k0, k1⟩ := K.out
      exact bodyPost_ret (v := .agg #[.int .i64 1, .slice (some ⟨w.heap.size + 1, 0, none⟩) 0 0]) (by simp [results, Tryz.results38, go_sem, k0, k1]) rfl (dec_nil HV.out w)
  · have hpos : 0 < ns.length := by omega
    have hn0 : ((ns.length : Int) == 0) = false := by simp; intro h; exact hz (by simp [h])
    have HP := Lib.hid hpos
    have dcv : ∀ q : Int, q ≠ 1 → q ≠ 2 → q ≠ 5 → q ≠ 6 → dcV q ns = (0, [numV q ns]) := fun q a1 a2 a3 a4 => by unfold dcV; rw [if_neg hz, if_neg a1, if_neg a2, if_neg a3, if_neg a4]
    have NUM := Lib.hid dcv
    have HZ := Lib.hid hz
    clear hpos hz dcv
    rcases (by omega : p = 1 ∨ p = 2 ∨ p = 3 ∨ p = 4 ∨ p = 5 ∨ p = 6 ∨ p = 7 ∨ p = 8 ∨ p = 9 ∨ p = 10) with rfl | rfl | rfl | rfl | rfl | rfl | rfl | rfl | rfl | rfl
    · by_cases hm : 1 < ns.length
      · have hm' : (1 : Int) < (ns.length : Int) := by omega
        have HV := Lib.hid (show dcV 1 ns = (2, []) by unfold dcV; rw [if_neg HZ.out, if_pos rfl, if_pos hm])
        obtain ⟨k0, k1⟩ := box_cells w 2 (some ⟨w.heap.size + 1, 0, none⟩) 0 0 29 (.cells #[] 3)
        have K := Lib.hid (And.intro k0 k1)
        clear k0 k1 hm
        go_enter Tryz.func38, Tryz.ntmps38
        go_wp2
        try trivial
        obtain ⟨k0, k1⟩ := K.out
        exact bodyPost_ret (v := .agg #[.int .i64 2, .slice (some ⟨w.heap.size + 1, 0, none⟩) 0 0]) (by simp [results, Tryz.results38, go_sem, k0, k1]) rfl (dec_nil HV.out w)
      · have hm' : decide ((1 : Int) < (ns.length : Int)) = false := decide_eq_false (by omega)
        have HV := Lib.hid (show dcV 1 ns = (0, [numV 1 ns]) by unfold dcV; rw [if_neg HZ.out, if_pos rfl, if_neg hm]; unfold numV; simp)
        obtain ⟨x, hx⟩ : ∃ x, numV 1 ns = x := ⟨_, rfl⟩
        have HX := Lib.hid hx
        obtain ⟨k0, k1⟩ := box_cells w 0 (some ⟨w.heap.size + 1, 0, none⟩) 1 1 29 (.cells #[.int .i64 x] 3)
        have K := Lib.hid (And.intro k0 k1)
        clear k0 k1 hx hm
        go_enter Tryz.func38, Tryz.ntmps38
        go_wp2_with (go_at_call 52; refine (specNumOne_any _ _ ns _ HI.out HP.out HO.out).mono ?_; rw [HX.out]; rintro e w' ⟨rfl, rfl⟩)
        obtain ⟨k0, k1⟩ := K.out
        exact bodyPost_ret (v := .agg #[.int .i64 0, .slice (some ⟨w.heap.size + 1, 0, none⟩) 1 1]) (by simp [results, Tryz.results38, go_sem, k0, k1]) rfl (dec_one (by rw [HV.out, HX.out]) w (by rw [← HX.out]; exact num_i64 HO.out HP.out 1))
    · have BOX := Lib.hid (box_facts w 29)
      go_enter Tryz.func38, Tryz.ntmps38
      go_wp2_with fail
      refine (specSame4_any _ _ ns _ HI.out HP.out).mono ?_
      rintro e w1 ⟨rfl, b1⟩
      have B1 := Lib.hid b1
      have HI1 := Lib.hid (HI.out.step b1)
      clear b1
      cases hs : smB ns
      · have HV := Lib.hid (show dcV 2 ns = (2, []) by unfold dcV; rw [if_neg HZ.out, if_neg (by omega), if_pos rfl, if_neg (by rw [hs]; simp)])
        have q0 := (B1.out.cell (p := ⟨w.heap.size, 0, none⟩) (by simp)).trans BOX.out.1
        have q1 := (B1.out.cell (p := ⟨w.heap.size, 1, none⟩) (by simp)).trans BOX.out.2.1
        have f0 := (B1.out.frozen (p := ⟨w.heap.size, 0, none⟩) (by simp)).trans (BOX.out.2.2 0)
        have f1 := (B1.out.frozen (p := ⟨w.heap.size, 1, none⟩) (by simp)).trans (BOX.out.2.2 1)
        clear hs
        have bV : Below w1.heap.size w1 (w1.alloc (.cells #[] 3)) := (Below.refl _ _).alloc (Nat.le_refl _) _
        have hlt : w.heap.size < w1.heap.size := Nat.lt_of_lt_of_le (by simp) B1.out.size
        have Q0 := (bV.cell (p := ⟨w.heap.size, 0, none⟩) hlt).trans q0
        have Q1 := (bV.cell (p := ⟨w.heap.size, 1, none⟩) hlt).trans q1
        have F0 := (bV.frozen (p := ⟨w.heap.size, 0, none⟩) hlt).trans f0
        have F1 := (bV.frozen (p := ⟨w.heap.size, 1, none⟩) hlt).trans f1
        clear bV
        go_wp2
        refine dec_fin2 (x := .int .i64 0) (y := .slice none 0 0) HV.out (V := w1) (HB.out.trans ((B1.out).mono HB.out.size)) hlt q0 q1 (own_nil_at w1 (by have := B1.out.size; simpa using this)) rfl ?_
        intro F k0 k1
        try simp at k0 k1
        simp [results, Tryz.results38, go_sem, k0, k1]
      · have HV := Lib.hid (show dcV 2 ns = (0, [numV 2 ns]) by unfold dcV; rw [if_neg HZ.out, if_neg (by omega), if_pos rfl, if_pos hs]; unfold numV; simp)
        obtain ⟨x, hx⟩ : ∃ x, numV 2 ns = x := ⟨_, rfl⟩
        have HX := Lib.hid hx
        have q0 := (B1.out.cell (p := ⟨w.heap.size, 0, none⟩) (by simp)).trans BOX.out.1
        have q1 := (B1.out.cell (p := ⟨w.heap.size, 1, none⟩) (by simp)).trans BOX.out.2.1
        have f0 := (B1.out.frozen (p := ⟨w.heap.size, 0, none⟩) (by simp)).trans (BOX.out.2.2 0)
        have f1 := (B1.out.frozen (p := ⟨w.heap.size, 1, none⟩) (by simp)).trans (BOX.out.2.2 1)
        clear hs hx
        have bV : Below w1.heap.size w1 (w1.alloc (.cells #[.int .i64 x] 3)) := (Below.refl _ _).alloc (Nat.le_refl _) _
        have hlt : w.heap.size < w1.heap.size := Nat.lt_of_lt_of_le (by simp) B1.out.size
        have Q0 := (bV.cell (p := ⟨w.heap.size, 0, none⟩) hlt).trans q0
        have Q1 := (bV.cell (p := ⟨w.heap.size, 1, none⟩) hlt).trans q1
        have F0 := (bV.frozen (p := ⟨w.heap.size, 0, none⟩) hlt).trans f0
        have F1 := (bV.frozen (p := ⟨w.heap.size, 1, none⟩) hlt).trans f1
        clear bV
        go_wp2_with (go_at_call 52; refine (specNumTwo_any _ _ ns _ HI1.out HP.out HO.out).mono ?_; rw [HX.out]; rintro e w' ⟨rfl, rfl⟩)
        refine dec_fin2 (x := .int .i64 0) (y := .slice none 0 0) (by rw [HV.out, HX.out]) (V := w1) (HB.out.trans ((B1.out).mono HB.out.size)) hlt q0 q1 (own_one_at w1 x (by rw [← HX.out]; exact num_i64 HO.out HP.out 2) (by have := B1.out.size; simpa using this)) rfl ?_
        intro F k0 k1
        try simp at k0 k1
        simp [results, Tryz.results38, go_sem, k0, k1]
    · have HV := Lib.hid (NUM.out 3 (by omega) (by omega) (by omega) (by omega))
      obtain ⟨x, hx⟩ : ∃ x, numV 3 ns = x := ⟨_, rfl⟩
      have HX := Lib.hid hx
      obtain ⟨k0, k1⟩ := box_cells w 0 (some ⟨w.heap.size + 1, 0, none⟩) 1 1 29 (.cells #[.int .i64 x] 3)
      have K := Lib.hid (And.intro k0 k1)
      clear k0 k1 hx
      go_enter Tryz.func38, Tryz.ntmps38
      go_wp2_with (go_at_call 52; refine (specNumTop_any _ _ ns _ HI.out HP.out HO.out).mono ?_; rw [HX.out]; rintro e w' ⟨rfl, rfl⟩)
      obtain ⟨k0, k1⟩ := K.out
      exact bodyPost_ret (v := .agg #[.int .i64 0, .slice (some ⟨w.heap.size + 1, 0, none⟩) 1 1]) (by simp [results, Tryz.results38, go_sem, k0, k1]) rfl (dec_one (by rw [HV.out, HX.out]) w (by rw [← HX.out]; exact num_i64 HO.out HP.out 3))
    · have HV := Lib.hid (NUM.out 4 (by omega) (by omega) (by omega) (by omega))
      obtain ⟨x, hx⟩ : ∃ x, numV 4 ns = x := ⟨_, rfl⟩
      have HX := Lib.hid hx
      obtain ⟨k0, k1⟩ := box_cells w 0 (some ⟨w.heap.size + 1, 0, none⟩) 1 1 29 (.cells #[.int .i64 x] 3)
      have K := Lib.hid (And.intro k0 k1)
      clear k0 k1 hx
      go_enter Tryz.func38, Tryz.ntmps38
      go_wp2_with (go_at_call 52; refine (specNumFst_any _ _ ns _ HI.out HP.out HO.out).mono ?_; rw [HX.out]; rintro e w' ⟨rfl, rfl⟩)
      obtain ⟨k0, k1⟩ := K.out
      exact bodyPost_ret (v := .agg #[.int .i64 0, .slice (some ⟨w.heap.size + 1, 0, none⟩) 1 1]) (by simp [results, Tryz.results38, go_sem, k0, k1]) rfl (dec_one (by rw [HV.out, HX.out]) w (by rw [← HX.out]; exact num_i64 HO.out HP.out 4))
    · have HV := Lib.hid (show dcV 5 ns = (0, ns) by unfold dcV; rw [if_neg HZ.out]; simp)
      have BOX := Lib.hid (box_facts w 29)
      obtain ⟨i0, hi0, hz0, hz1, hz2⟩ := infoI
      have HLN := Lib.hid (outB_at HO.out).1
      obtain ⟨hfit, hlc, hc, hzz | ⟨b, off, rfl, hB2, hrow⟩⟩ := HI.out
      · exact absurd hzz HZ.out
      have hE := ownI_empty (w.alloc (.cells #[.int .i64 0, .slice none 0 0] 29))
      have hb0 : Below (w.alloc (.cells #[.int .i64 0, .slice none 0 0] 29)).heap.size (w.alloc (.cells #[.int .i64 0, .slice none 0 0] 29)) ((w.alloc (.cells #[.int .i64 0, .slice none 0 0] 29)).alloc (.cells #[] 3)) := (Below.refl _ _).alloc (Nat.le_refl _) _
      have HNEW := Lib.hid (ints_cells (w := ((w.alloc (.cells #[.int .i64 0, .slice none 0 0] 29)).alloc (.cells #[] 3))) (b := b) (o := off) (ns := ns) fun i hi => (hb0.cell (p := ⟨b, off + i * 1, none⟩) hB2).trans (hrow i hi))
      have HF := Lib.hid hfit
      have hl : (intCells ns).length = ns.length * 1 := by simp [intCells]
      have hzs : (w.alloc (.cells #[.int .i64 0, .slice none 0 0] 29)).heap.size = w.heap.size + 1 := by simp
      have HZS := Lib.hid hzs
      rw [hzs] at hE hb0
      have hlm : ns.length ≤ 12 := HLN.out
      clear hfit hrow hzs
      go_enter Tryz.func38, Tryz.ntmps38
      go_wp2_with (at_builtin; refine wpList_append_own _ rfl (.tmp 36) (.tmp 37) 26 rfl (w.heap.size + 1) 3 i0 _ 1 8 Tryz.underlying26 hi0 hz0 hz1 hz2 rfl (by decide) _ ([] : List Int).length (intCells []) rfl hE ⟨b, off, none⟩ ns.length c (intCells ns) rfl hl HNEW.out (intCells_one ns) ?hc3 ?hc4 ?hc5 ?_; rotate_right; intro v' w1 hown2 hgrow _; obtain ⟨A2, c2, rfl, hO⟩ := (show OwnI w1 (w.heap.size + 1) v' ns by unfold OwnI; simpa [intCells] using hown2).form HF.out; have hb1 := Below.grown (row := (Value.slice (some ⟨w.heap.size + 1, 0, none⟩) 0 0).ownBlock) hb0 hgrow (by simp) (fun k hk => (hE.lt k hk).1); have q0 := (hb1.cell (p := ⟨w.heap.size, 0, none⟩) (by simp)).trans BOX.out.1; have q1 := (hb1.cell (p := ⟨w.heap.size, 1, none⟩) (by simp)).trans BOX.out.2.1; have f0 := (hb1.frozen (p := ⟨w.heap.size, 0, none⟩) (by simp)).trans (BOX.out.2.2 0); have f1 := (hb1.frozen (p := ⟨w.heap.size, 1, none⟩) (by simp)).trans (BOX.out.2.2 1); have OO := Lib.hid hO; have B1 := Lib.hid hb1; clear hO hb1 hown2 hgrow)
      case hc3 => unfold maxLen; simp; omega
      case hc4 => simp; omega
      case hc5 => simp
      refine dec_fin (x := .int .i64 0) (y := .slice none 0 0) HV.out (V := w1) (HB.out.trans ((B1.out).mono (by omega))) q0 q1 OO.out rfl ?_
      intro F k0 k1
      try simp at k0 k1
      simp [results, Tryz.results38, go_sem, k0, k1]
    · have HV := Lib.hid (show dcV 6 ns = (0, srK ns ns.length) by unfold dcV; rw [if_neg HZ.out]; simp)
      have BOX := Lib.hid (box_facts w 29)
      have HLN := Lib.hid (outB_at HO.out).1
      go_enter Tryz.func38, Tryz.ntmps38
      go_wp2_with fail
      refine (specSort_any _ _ ns _ HI.out HP.out HLN.out).mono ?_
      rintro e w1 ⟨A2, c2, rfl, hO, b1⟩
      have B1 := Lib.hid b1
      have OO := Lib.hid hO
      clear b1 hO
      have q0 := (B1.out.cell (p := ⟨w.heap.size, 0, none⟩) (by simp)).trans BOX.out.1
      have q1 := (B1.out.cell (p := ⟨w.heap.size, 1, none⟩) (by simp)).trans BOX.out.2.1
      have f0 := (B1.out.frozen (p := ⟨w.heap.size, 0, none⟩) (by simp)).trans (BOX.out.2.2 0)
      have f1 := (B1.out.frozen (p := ⟨w.heap.size, 1, none⟩) (by simp)).trans (BOX.out.2.2 1)
      go_wp2
      refine dec_fin (x := .int .i64 0) (y := .slice none 0 0) HV.out (V := w1) (HB.out.trans ((B1.out).mono HB.out.size)) q0 q1 (by have := OO.out; simpa using this) rfl ?_
      intro F k0 k1
      try simp at k0 k1
      simp [results, Tryz.results38, go_sem, k0, k1]
    · have HV := Lib.hid (NUM.out 7 (by omega) (by omega) (by omega) (by omega))
      obtain ⟨x, hx⟩ : ∃ x, numV 7 ns = x := ⟨_, rfl⟩
      have HX := Lib.hid hx
      obtain ⟨k0, k1⟩ := box_cells w 0 (some ⟨w.heap.size + 1, 0, none⟩) 1 1 29 (.cells #[.int .i64 x] 3)
      have K := Lib.hid (And.intro k0 k1)
      clear k0 k1 hx
      go_enter Tryz.func38, Tryz.ntmps38
      go_wp2_with (go_at_call 52; refine (specNumSum_any _ _ ns _ HI.out HP.out HO.out).mono ?_; rw [HX.out]; rintro e w' ⟨rfl, rfl⟩)
      obtain ⟨k0, k1⟩ := K.out
      exact bodyPost_ret (v := .agg #[.int .i64 0, .slice (some ⟨w.heap.size + 1, 0, none⟩) 1 1]) (by simp [results, Tryz.results38, go_sem, k0, k1]) rfl (dec_one (by rw [HV.out, HX.out]) w (by rw [← HX.out]; exact num_i64 HO.out HP.out 7))
    · have HV := Lib.hid (NUM.out 8 (by omega) (by omega) (by omega) (by omega))
      obtain ⟨x, hx⟩ : ∃ x, numV 8 ns = x := ⟨_, rfl⟩
      have HX := Lib.hid hx
      obtain ⟨k0, k1⟩ := box_cells w 0 (some ⟨w.heap.size + 1, 0, none⟩) 1 1 29 (.cells #[.int .i64 x] 3)
      have K := Lib.hid (And.intro k0 k1)
      clear k0 k1 hx
      go_enter Tryz.func38, Tryz.ntmps38
      go_wp2_with (go_at_call 52; refine (specNumMin_any _ _ ns _ HI.out HP.out HO.out).mono ?_; rw [HX.out]; rintro e w' ⟨rfl, rfl⟩)
      obtain ⟨k0, k1⟩ := K.out
      exact bodyPost_ret (v := .agg #[.int .i64 0, .slice (some ⟨w.heap.size + 1, 0, none⟩) 1 1]) (by simp [results, Tryz.results38, go_sem, k0, k1]) rfl (dec_one (by rw [HV.out, HX.out]) w (by rw [← HX.out]; exact num_i64 HO.out HP.out 8))
    · have HV := Lib.hid (NUM.out 9 (by omega) (by omega) (by omega) (by omega))
      obtain ⟨x, hx⟩ : ∃ x, numV 9 ns = x := ⟨_, rfl⟩
      have HX := Lib.hid hx
      obtain ⟨k0, k1⟩ := box_cells w 0 (some ⟨w.heap.size + 1, 0, none⟩) 1 1 29 (.cells #[.int .i64 x] 3)
      have K := Lib.hid (And.intro k0 k1)
      clear k0 k1 hx
      go_enter Tryz.func38, Tryz.ntmps38
      go_wp2_with (go_at_call 52; refine (specNumMax_any _ _ ns _ HI.out HP.out HO.out).mono ?_; rw [HX.out]; rintro e w' ⟨rfl, rfl⟩)
      obtain ⟨k0, k1⟩ := K.out
      exact bodyPost_ret (v := .agg #[.int .i64 0, .slice (some ⟨w.heap.size + 1, 0, none⟩) 1 1]) (by simp [results, Tryz.results38, go_sem, k0, k1]) rfl (dec_one (by rw [HV.out, HX.out]) w (by rw [← HX.out]; exact num_i64 HO.out HP.out 9))
    · have HV := Lib.hid (NUM.out 10 (by omega) (by omega) (by omega) (by omega))
      obtain ⟨x, hx⟩ : ∃ x, numV 10 ns = x := ⟨_, rfl⟩
      have HX := Lib.hid hx
      obtain ⟨k0, k1⟩ := box_cells w 0 (some ⟨w.heap.size + 1, 0, none⟩) 1 1 29 (.cells #[.int .i64 x] 3)
      have K := Lib.hid (And.intro k0 k1)
      clear k0 k1 hx
      go_enter Tryz.func38, Tryz.ntmps38
      go_wp2_with (go_at_call 52; refine (specNumCnt_any _ _ ns _ HI.out HP.out HO.out).mono ?_; rw [HX.out]; rintro e w' ⟨rfl, rfl⟩)
      obtain ⟨k0, k1⟩ := K.out
      exact bodyPost_ret (v := .agg #[.int .i64 0, .slice (some ⟨w.heap.size + 1, 0, none⟩) 1 1]) (by simp [results, Tryz.results38, go_sem, k0, k1]) rfl (dec_one (by rw [HV.out, HX.out]) w (by rw [← HX.out]; exact num_i64 HO.out HP.out 10))
end Go.Proofs.YtamfmemdhldmjaaGreatDoor


namespace Go.Proofs.YtamfmemdhldmjaaGreatDoor
open Go.RowKit Sets

def marksN (k : Int) (n : Nat) : List Int := (List.range n).map fun (i : Nat) => k + (i : Int)
theorem marksN_len (k : Int) (n : Nat) : (marksN k n).length = n := by simp [marksN]
theorem marksN_at {k : Int} {n i : Nat} (hi : i < n) : (marksN k n).getD i 0 = k + i := by
  unfold marksN
  rw [List.getD_eq_getElem?_getD, List.getElem?_map, List.getElem?_range hi]; rfl
theorem marksN_fit {k : Int} {n : Nat} (h0 : 0 ≤ k) (h1 : k ≤ 4194304) (hn : n ≤ 1048576) : ∀ x ∈ marksN k n, I64 x := by
  intro x hx
  obtain ⟨i, hi, rfl⟩ := List.mem_map.1 hx
  have := List.mem_range.1 hi
  unfold I64; omega
/-- A list of the call's own, in a block from lo on and below hi. -/
def OwnR (w : World) (lo hi : Nat) (A : Option Addr) (c : Nat) (ns : List Int) : Prop := OwnN w lo A c ns ∧ (∀ g o s, A = some ⟨g, o, s⟩ → g < hi) ∧ hi ≤ w.heap.size
theorem OwnR.of {w : World} {base : Nat} {A : Option Addr} {c : Nat} {ns : List Int} (h : OwnN w base A c ns) : OwnR w base w.heap.size A c ns := ⟨h, fun g o s e => (h.2.2.2.1 g o s e).2, Nat.le_refl _⟩
theorem OwnR.step {w w' : World} {lo hi : Nat} {A : Option Addr} {c : Nat} {ns : List Int} (h : OwnR w lo hi A c ns) (hb : Below w.heap.size w w') : OwnR w' lo hi A c ns := ⟨h.1.step hb, h.2.1, Nat.le_trans h.2.2 hb.size⟩
theorem OwnR.copy {w : World} {g : Nat} {ns : List Int} (hr : IntRow w g ns ns.length) (ho : OwnBlk w g ns.length) (hf : ∀ x ∈ ns, I64 x) (hn : ns.length ≤ 1048576) : OwnR w g (g + 1) (some ⟨g, 0, none⟩) ns.length ns :=
  ⟨⟨Nat.le_refl _, by omega, hf, (fun g' o s e => by injection e with e; injection e with e1 _; subst e1; exact ⟨Nat.le_refl _, ho.2.2⟩), .inr ⟨g, rfl, hr, ho⟩⟩, (fun g' o s e => by injection e with e; injection e with e1 _; omega), ho.2.2⟩
/-- At most the block of one slice has turned. -/
def Turned (w w' : World) (A : Option Addr) : Prop := ∃ row : Option Nat, (∀ g, row = some g → A = some ⟨g, 0, none⟩) ∧ w.grownBy w' row
theorem Turned.size {w w' : World} {A : Option Addr} (h : Turned w w' A) : w.heap.size ≤ w'.heap.size := by obtain ⟨_, _, hg⟩ := h; exact hg.size
theorem Turned.blk {w w' : World} {A : Option Addr} (h : Turned w w' A) {k : Nat} (hk : k < w.heap.size) (hne : ∀ g, A = some ⟨g, 0, none⟩ → g ≠ k) : w'.heap[k]? = w.heap[k]? := by
  obtain ⟨row, hr, hg⟩ := h
  exact hg.block k hk (fun e => hne k (hr k e.symm) rfl)
theorem Turned.own {w w' : World} {lo hi : Nat} {A A' : Option Addr} {c : Nat} {ns : List Int} (h : Turned w w' A) (ho : OwnR w lo hi A' c ns) (hd : ∀ g, A = some ⟨g, 0, none⟩ → g < lo ∨ hi ≤ g) : OwnR w' lo hi A' c ns := by
  obtain ⟨⟨h1, h2, h3, h4, h5⟩, h6, h7⟩ := ho
  refine ⟨⟨h1, h2, h3, fun g o s e => ⟨(h4 g o s e).1, Nat.lt_of_lt_of_le (h4 g o s e).2 h.size⟩, h5.imp id ?_⟩, h6, Nat.le_trans h7 h.size⟩
  rintro ⟨g, e, hr, hb⟩
  have hk := h.blk hb.2.2 (fun g' e' => by have := hd g' e'; have := h6 g 0 none e; have := (h4 g 0 none e).1; omega)
  exact ⟨g, e, fun i hi => by rw [World.cell?_of_block (a := ⟨g, i, none⟩) hk]; exact hr i hi, fun o ho => by rw [World.cell?_of_block (a := ⟨g, o, none⟩) hk]; exact hb.1 o ho, fun o => by rw [World.frozen?_of_block (a := ⟨g, o, none⟩) hk]; exact hb.2.1 o, Nat.lt_of_lt_of_le hb.2.2 h.size⟩
theorem Turned.rbox {w w' : World} {A A' : Option Addr} {g n c : Nat} {x : Int} (h : Turned w w' A) (hb : RBox w g x A' n c) (hd : ∀ g', A = some ⟨g', 0, none⟩ → g' ≠ g) : RBox w' g x A' n c := by
  have hk := h.blk hb.2.2 hd
  exact ⟨by rw [World.cell?_of_block (a := ⟨g, 0, none⟩) hk]; exact hb.1, by rw [World.cell?_of_block (a := ⟨g, 1, none⟩) hk]; exact hb.2.1, Nat.lt_of_lt_of_le hb.2.2 h.size⟩
theorem Turned.bel {w w' w0 : World} {B : Nat} {A : Option Addr} (h : Turned w w' A) (hb : Below B w0 w) (hB : B ≤ w.heap.size) (hd : ∀ g, A = some ⟨g, 0, none⟩ → B ≤ g) : Below B w0 w' := by
  obtain ⟨row, hr, hg⟩ := h
  exact hb.trans ((Below.refl _ _).grown hg hB (fun k e => hd k (hr k e)))

theorem grownBy_cell {w a : World} {g : Nat} (h : w.grownBy a (some g)) (o : Nat) (v : Value) : w.grownBy (a.setCell ⟨g, o, none⟩ v) (some g) :=
  ⟨h.os, h.tape, h.output, by simpa [World.setCell] using h.size, fun k hk hne => by
    have hkg : k ≠ g := fun e => hne (by rw [e])
    rw [Below.heap_setCell _ _ _ _ hkg]
    exact h.block k hk hne⟩

set_option maxRecDepth 100000 in
set_option maxHeartbeats 2000000 in
theorem markI_any (A : Option Addr) (c : Nat) (ns : List Int) (lo hi : Nat) (k0 : Int) (w : World) (h : OwnR w lo hi A c ns) (hk0 : 0 ≤ k0) (hk1 : k0 ≤ 4194304) (hn : ns.length ≤ 1048576) :
    Calls Tryz.prog 14 #[.slice A ns.length c, .int .i64 k0] w fun e w' => e = .returned (.int .i64 (k0 + ns.length)) ∧ OwnR w' lo hi A c (marksN k0 ns.length) ∧ Turned w w' A := by
  obtain ⟨⟨h1, h2, h3, h4, h5⟩, h6, h7⟩ := h
  obtain ⟨n, hnn⟩ : ∃ n, ns.length = n := ⟨_, rfl⟩
  rw [hnn] at h1 h5 hn ⊢
  have hc9 : n ≤ 9223372036854775807 := by omega
  rcases h5 with hz | ⟨g, rfl, hr, hb⟩
  · subst hz
    have HO := Lib.hid (show OwnR w lo hi A c (marksN k0 0) from ⟨⟨Nat.zero_le _, h2, (fun x hx => by cases hx), h4, .inl rfl⟩, h6, h7⟩)
    clear h1 h2 h3 h4 h6 h7 hnn
    go_enter Tryz.func14, Tryz.ntmps14
    go_wp2
    go_loop [1, 5] (fun q i => q = .int .i64 k0 ∧ i = .int .i64 0) (fun _ _ => 0)
    case atStart => exact ⟨rfl, rfl⟩
    case round =>
      obtain ⟨rfl, rfl⟩ := hrel
      go_wp2
      go_ret
      exact ⟨by simp, HO.out, none, (fun g e => by cases e), World.grownBy.refl _ _⟩
  · have HC := Lib.hid (And.intro h1 (And.intro h2 (And.intro h4 (And.intro h6 h7))))
    clear h1 h2 h3 h4 h6 h7 hnn
    go_enter Tryz.func14, Tryz.ntmps14
    go_wp2
    go_loopw [1, 5] (fun q i wr => ∃ k : Nat, k ≤ n ∧ i = .int .i64 k ∧ q = .int .i64 (k0 + k) ∧ (∀ j, j < k → wr.cell? ⟨g, j, none⟩ = some (.int .i64 (k0 + j))) ∧ OwnBlk wr g n ∧ w.grownBy wr (some g)) (fun _ i _ => n - (intOf i).toNat)
    case atStart => exact ⟨0, Nat.zero_le _, rfl, by simp, (fun j hj => absurd hj (by omega)), hb, World.grownBy.refl w _⟩
    case round =>
      obtain ⟨k, hk, rfl, rfl, hrow, ho, hgr⟩ := hrel
      by_cases hlt : k < n
      · have hkl : (k : Int) < (n : Int) := by omega
        obtain ⟨v0, g0⟩ := ho.1 k hlt
        have f0 := ho.2.1 k
        have HP := Lib.hid (show (∀ j, j < k + 1 → (wr.setCell ⟨g, k, none⟩ (.int .i64 (k0 + k))).cell? ⟨g, j, none⟩ = some (.int .i64 (k0 + j))) ∧ OwnBlk (wr.setCell ⟨g, k, none⟩ (.int .i64 (k0 + k))) g n ∧ w.grownBy (wr.setCell ⟨g, k, none⟩ (.int .i64 (k0 + k))) (some g) from by
          refine ⟨fun j hj => ?_, ho.set k _, grownBy_cell hgr k _⟩
          rw [set_at ho hlt]
          by_cases e : j = k
          · rw [if_pos e, e]
          · rw [if_neg e]; exact hrow j (by omega))
        clear hrow hgr
        go_wp2
        go_roundw
        case rel => exact ⟨k + 1, hlt, by go_num, congrArg (Value.int .i64) (by omega), HP.out.1, HP.out.2.1, HP.out.2.2⟩
        case measure => simp [intOf]; omega
      · obtain rfl : k = n := by omega
        go_wp2
        go_ret
        refine ⟨rfl, ⟨⟨by rw [marksN_len]; exact HC.out.1, HC.out.2.1, marksN_fit hk0 hk1 hn, fun g' o s e => ⟨(HC.out.2.2.1 g' o s e).1, Nat.lt_of_lt_of_le (HC.out.2.2.1 g' o s e).2 hgr.size⟩, .inr ⟨g, rfl, ?_, by rw [marksN_len]; exact ho⟩⟩, HC.out.2.2.2.1, Nat.le_trans HC.out.2.2.2.2 hgr.size⟩, some g, (fun g' e => by injection e with e; rw [e]), hgr⟩
        rw [marksN_len]
        intro i hi
        rw [hrow i hi, marksN_at hi]

set_option maxRecDepth 100000 in
set_option maxHeartbeats 2000000 in
theorem heldI_any (A : Option Addr) (c n : Nat) (k0 : Int) (w : World) (h : IntsAt w w.heap.size A c (marksN k0 n)) (hk0 : 0 ≤ k0) (hk1 : k0 ≤ 4194304) (hn : n ≤ 1048576) :
    Calls Tryz.prog 31 #[.slice A n c, .int .i64 k0] w fun e w' => e = .returned (.int .i64 (k0 + n)) ∧ w = w' := by
  obtain ⟨_, hlc, hc, hrow⟩ := h
  rw [marksN_len] at hlc hrow
  have hc9 : n ≤ 9223372036854775807 := by omega
  go_enter Tryz.func31, Tryz.ntmps31
  go_wp2
  go_loop [1, 5] (fun q i => ∃ k : Nat, k ≤ n ∧ i = .int .i64 k ∧ q = .int .i64 (k0 + k)) (fun _ i => n - (intOf i).toNat)
  case atStart => exact ⟨0, Nat.zero_le _, rfl, by simp⟩
  case round =>
    obtain ⟨k, hk, rfl, rfl⟩ := hrel
    by_cases hlt : k < n
    · rcases hrow with he | ⟨b, off, rfl, hB, hrow⟩
      · omega
      · have hkl : (k : Int) < (n : Int) := by omega
        have c1 := hrow k hlt
        rw [marksN_at hlt, Nat.mul_one] at c1
        have t1 : (k0 + (k : Int) != k0 + (k : Int)) = false := by simp
        go_wp2
        go_round
        case rel => exact ⟨k + 1, hlt, by go_num, congrArg (Value.int .i64) (by omega)⟩
        case measure => simp [intOf]; omega
    · obtain rfl : k = n := by omega
      go_wp2
      go_ret
      exact ⟨rfl, rfl⟩

set_option maxRecDepth 100000 in
theorem markR_any (A : Option Addr) (c : Nat) (x : Int) (ns : List Int) (lo hi : Nat) (k0 : Int) (w : World) (h : OwnR w lo hi A c ns) (hk0 : 0 ≤ k0) (hk1 : k0 ≤ 4194304) (hn : ns.length ≤ 1048576) :
    Calls Tryz.prog 15 #[.agg #[.int .i64 x, .slice A ns.length c], .int .i64 k0] w fun e w' => e = .returned (.int .i64 (k0 + ns.length)) ∧ OwnR w' lo hi A c (marksN k0 ns.length) ∧ ∃ w1, Below w.heap.size w w1 ∧ Turned w1 w' A := by
  have hb : Below w.heap.size w (w.alloc (.cells #[.int .i64 x, .slice A ns.length c] 29)) := (Below.refl _ _).alloc (Nat.le_refl _) _
  have H := Lib.hid (h.step hb)
  have HB := Lib.hid hb
  clear h hb
  go_enter Tryz.func15, Tryz.ntmps15
  go_wp2_with fail
  refine (markI_any A c ns lo hi k0 _ H.out hk0 hk1 hn).mono ?_
  rintro e w1 ⟨rfl, ho, ht⟩
  go_wp2
  go_ret
  exact ⟨rfl, ho, _, HB.out, ht⟩
set_option maxRecDepth 100000 in
theorem heldR_any (A : Option Addr) (c n : Nat) (x : Int) (k0 : Int) (w : World) (h : IntsAt w w.heap.size A c (marksN k0 n)) (hk0 : 0 ≤ k0) (hk1 : k0 ≤ 4194304) (hn : n ≤ 1048576) :
    Calls Tryz.prog 16 #[.agg #[.int .i64 x, .slice A n c], .int .i64 k0] w fun e w' => e = .returned (.int .i64 (k0 + n)) ∧ Below w.heap.size w w' := by
  have hb : Below w.heap.size w (w.alloc (.cells #[.int .i64 x, .slice A n c] 29)) := (Below.refl _ _).alloc (Nat.le_refl _) _
  have H := Lib.hid (h.step hb)
  have HB := Lib.hid hb
  have hq : decide (k0 + (n : Int) < 0) = false := decide_eq_false (by omega)
  clear h hb
  go_enter Tryz.func16, Tryz.ntmps16
  go_wp2_with (go_at_call 31; refine (heldI_any A c n k0 _ H.out hk0 hk1 hn).mono ?_; rintro e w' ⟨rfl, rfl⟩)
  go_ret
  exact ⟨rfl, HB.out⟩
end Go.Proofs.YtamfmemdhldmjaaGreatDoor
