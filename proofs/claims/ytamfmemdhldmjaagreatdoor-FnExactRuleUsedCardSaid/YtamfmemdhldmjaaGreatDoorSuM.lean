/-
  The library's search for an element and its deletion of elements, where the elements are spans without numbers.
-/
import Derived.Test.YtamfmemdhldmjaaGreatDoorRdM
import Derived.Shelf.Abstract
import Derived.Lib.SliceRun
import Derived.Shelf.Spec.SlicesGrow
import Derived.Laws.AppendOwnNone
import Derived.Test.YtamfmemdhldmjaaGreatDoorSh
import Derived.Test.YtamfmemdhldmjaaGreatDoorJoM
import Derived.Shelf.SlSortCmp.WholeK
import Derived.Ground.SlsfProg
import Derived.Test.YtamfmemdhldmjaaGreatDoorPj
import Derived.StillTailTactics
import Derived.Test.YtamfmemdhldmjaaGreatDoorSo
namespace Go.Proofs.YtamfmemdhldmjaaGreatDoor
open Go.RowKit Sets

def IdxRes (xs : List Sp) (e : Ending) : Prop :=
  (e = .returned (.int .i64 (-1)) ∧ ∀ j, j < xs.length → lo xs j ≤ hi xs j) ∨ ∃ k : Nat, k < xs.length ∧ e = .returned (.int .i64 k) ∧ hi xs k < lo xs k ∧ ∀ j, j < k → lo xs j ≤ hi xs j

/-- the spans that have numbers -/
def keptE (xs : List Sp) : List Sp := xs.filter fun x => decide (x.1 ≤ x.2)
theorem keptE_take {xs : List Sp} {k : Nat} (h : k < xs.length) : keptE (xs.take (k + 1)) = if lo xs k ≤ hi xs k then keptE (xs.take k) ++ [(lo xs k, hi xs k)] else keptE (xs.take k) := by
  rw [take_lohi h]
  unfold keptE
  rw [List.filter_append]
  by_cases e : lo xs k ≤ hi xs k
  · rw [if_pos e]
    congr 1
    simp [e]
  · rw [if_neg e]
    simp [e]
theorem keptE_len (xs : List Sp) (k : Nat) : (keptE (xs.take k)).length ≤ k := by
  have := List.length_filter_le (fun x : Sp => decide (x.1 ≤ x.2)) (xs.take k)
  have h2 := List.length_take_le k xs
  unfold keptE
  omega
theorem keptE_all {xs : List Sp} : ∀ k, k ≤ xs.length → (∀ j, j < k → lo xs j ≤ hi xs j) → keptE (xs.take k) = xs.take k
  | 0, _, _ => by simp [keptE]
  | k + 1, hk, h => by
    rw [keptE_take (by omega), if_pos (h k (by omega)), keptE_all k (by omega) fun j hj => h j (by omega), take_lohi (by omega)]
theorem keptE_mem (xs : List Sp) (n : Int) : memS (keptE xs) n ↔ memS xs n := by
  unfold keptE memS
  constructor
  · rintro ⟨x, hx, h⟩
    exact ⟨x, (List.mem_filter.1 hx).1, h⟩
  · rintro ⟨x, hx, h⟩
    exact ⟨x, List.mem_filter.2 ⟨hx, decide_eq_true (by omega)⟩, h⟩

theorem clear_run (w : World) (ty : TypeId) (b o n c : Nat) (hn : 0 < n) (hc : ∀ j, j < n * 2 → ∃ v, w.cell? ⟨b, o + j, none⟩ = some v) (hf : ∀ j, w.frozen? ⟨b, j, none⟩ = false) :
    ∃ zs : List Value, zs.length = n * 2 ∧ (∀ v ∈ zs, v = .int .i64 0) ∧ (Builtin.clear_ #[73] ty #[.slice (some ⟨b, o, none⟩) n c]).run Tryz.prog w = .ok (.tuple #[]) (w.setCells b o zs) := by
  have hlen : (Builtin.zeroCells (Value.agg #[.int .i64 0, .int .i64 0]).cells n).toList.length = n * 2 := by simp [Builtin.zeroCells, Value.cells]
  have hall : ∀ v ∈ (Builtin.zeroCells (Value.agg #[.int .i64 0, .int .i64 0]).cells n).toList, v = .int .i64 0 := by
    intro v hv
    obtain ⟨i, hi, rfl⟩ := List.getElem_of_mem hv
    simp [Builtin.zeroCells, Value.cells]
    have : i % 2 = 0 ∨ i % 2 = 1 := by omega
    rcases this with e | e <;> simp [e]
  refine ⟨_, hlen, hall, ?_⟩
  have hst := run_storeCells_cells (P := Tryz.prog) b o (Builtin.zeroCells (Value.agg #[.int .i64 0, .int .i64 0]).cells n).toList 0 w (by
      intro j hj
      obtain ⟨v, hv⟩ := hc j (by rw [hlen] at hj; exact hj)
      simp [hv]) (by intro j _; exact hf _) (by intro v hv; rw [hall v hv]; rfl)
  simp only [Nat.add_zero] at hst
  obtain ⟨m, rfl⟩ : ∃ m, n = m + 1 := ⟨n - 1, by omega⟩
  simp [Builtin.clear_, run_underlying Tryz.underlying73, Tryz.zeroValue93, hst]

/-- the cells from the k-th span on hold what they held -/
def RestAt (w : World) (g k : Nat) (xs : List Sp) : Prop := ∀ m, k ≤ m → m < xs.length → w.cell? ⟨g, m * 2, none⟩ = some (.int .i64 (lo xs m)) ∧ w.cell? ⟨g, m * 2 + 1, none⟩ = some (.int .i64 (hi xs m))
theorem RestAt.below {w w' : World} {g k B : Nat} {xs : List Sp} (h : RestAt w g k xs) (hb : Below B w w') (hB : g < B) : RestAt w' g k xs :=
  fun m hm hl => ⟨(hb.cell (p := ⟨g, m * 2, none⟩) hB).trans (h m hm hl).1, (hb.cell (p := ⟨g, m * 2 + 1, none⟩) hB).trans (h m hm hl).2⟩
theorem RestAt.put2 {w : World} {g k i : Nat} {xs : List Sp} (h : RestAt w g k xs) (hi : i < k) (a b : Int) (h0 : ∃ v, w.cell? ⟨g, i * 2, none⟩ = some v) (h1 : ∃ v, w.cell? ⟨g, i * 2 + 1, none⟩ = some v) : RestAt (YtamfmemdhldmjaaGreatDoor.put2 w g (i * 2) a b) g k xs := fun m hm hl => by
  rw [put2_cell _ _ _ _ _ _ h0 h1, put2_cell _ _ _ _ _ _ h0 h1, if_neg (by omega), if_neg (by omega), if_neg (by omega), if_neg (by omega)]
  exact h m hm hl
theorem RestAt.mono {w : World} {g k k' : Nat} {xs : List Sp} (h : RestAt w g k xs) (hk : k ≤ k') : RestAt w g k' xs := fun m hm hl => h m (by omega) hl
theorem two_boxes (wr w' : World) (a b : Int) (h : (wr.alloc (.cells #[.int .i64 a, .int .i64 b] 93)).alloc (.cells #[.int .i64 a, .int .i64 b] 93) = w') :
    Below wr.heap.size wr w' ∧ w'.cell? ⟨wr.heap.size, 0, none⟩ = some (.int .i64 a) ∧ w'.cell? ⟨wr.heap.size, 1, none⟩ = some (.int .i64 b) := by
  subst h
  refine ⟨((Below.refl _ _).alloc (Nat.le_refl _) _).alloc (by simp) _, ?_, ?_⟩ <;> (rw [World.cell?_alloc2_first]; rfl)

theorem setCells_below {B g : Nat} {w : World} (hB : B ≤ g) : ∀ (vs : List Value) (o : Nat) (a : World), Below B w a → Below B w (a.setCells g o vs)
  | [], _, _, h => h
  | v :: vs, o, _, h => setCells_below hB vs (o + 1) _ (h.setCell (p := ⟨g, o, none⟩) hB v)
theorem setCells_size (g : Nat) : ∀ (vs : List Value) (o : Nat) (a : World), (a.setCells g o vs).heap.size = a.heap.size
  | [], _, _ => rfl
  | v :: vs, o, a => (setCells_size g vs (o + 1) (a.setCell ⟨g, o, none⟩ v)).trans (by simp [World.setCell])
theorem ownRow_cell {w : World} {g n o : Nat} (h : OwnRow w g n) (ho : o < n * 2) : ∃ v, w.cell? ⟨g, o, none⟩ = some v := h.1 o ho

end Go.Proofs.YtamfmemdhldmjaaGreatDoor

namespace Go.Proofs.YtamfmemdhldmjaaGreatDoor
open Go.RowKit Sets

theorem cellsOf_one (xs : List Sp) : ∀ u ∈ cellsOf xs, u.oneCell' = true := by
  induction xs with
  | nil => intro u hu; cases hu
  | cons x xs ih =>
    intro u hu
    simp only [cellsOf, List.mem_cons] at hu
    rcases hu with rfl | rfl | hu
    · rfl
    · rfl
    · exact ih u hu
theorem reads_cells {w : World} {B c : Nat} {ad : Addr} {xs : List Sp} (h : Reads w B (some ad) c xs) : ∀ (j : Nat) (u : Value), (cellsOf xs)[j]? = some u → w.cell? (ad.add j) = some u := by
  intro j u hu
  have hj : j < (cellsOf xs).length := (List.getElem?_eq_some_iff.1 hu).1
  rw [cellsOf_length] at hj
  rcases h.2.2.2 with rfl | ⟨b, off, e, hB, hrow⟩
  · simp at hj
  · injection e with e
    subst e
    have hadd : (⟨b, off, none⟩ : Addr).add j = ⟨b, off + j, none⟩ := by unfold Addr.add; split <;> simp_all
    rw [hadd]
    obtain ⟨r1, r2⟩ := hrow (j / 2) (by omega)
    obtain ⟨q1, q2⟩ := cellsOf_at xs (j / 2) (by omega)
    have hm : j % 2 = 0 ∨ j % 2 = 1 := by omega
    rcases hm with hm | hm
    · have e : j = j / 2 * 2 := by omega
      rw [e] at hu ⊢
      rw [q1] at hu
      rw [← hu]; exact r1
    · have e : j = j / 2 * 2 + 1 := by omega
      rw [e] at hu ⊢
      rw [q2] at hu
      rw [← hu]; exact r2
theorem OwnS.of_append2 {w : World} {base : Nat} {v : Value} {xs ys : List Sp} (h : w.ownsRow base 93 2 v (xs.length + ys.length) (cellsOf xs ++ cellsOf ys)) : OwnS w base v (xs ++ ys) := by
  unfold OwnS
  rw [cellsOf_append, List.length_append]
  exact h

/-- Lists of spans that lie one after the other in a block. -/
structure LsAt (w : World) (lb : Nat) (L : List (Option Addr × Nat × List Sp)) : Prop where
  cell : ∀ i (h : i < L.length), w.cell? ⟨lb, i, none⟩ = some (.slice L[i].1 L[i].2.2.length L[i].2.1)
  reads : ∀ i (h : i < L.length), Reads w w.heap.size L[i].1 L[i].2.1 L[i].2.2
  nocap : ∀ i (h : i < L.length), L[i].1 = none → L[i].2.1 = 0
  lt : lb < w.heap.size
theorem LsAt.below {w w' : World} {lb : Nat} {L : List (Option Addr × Nat × List Sp)} (h : LsAt w lb L) (hb : Below w.heap.size w w') : LsAt w' lb L :=
  ⟨fun i hi => (hb.cell (p := ⟨lb, i, none⟩) h.lt).trans (h.cell i hi), fun i hi => (h.reads i hi).step hb, h.nocap, Nat.lt_of_lt_of_le h.lt hb.size⟩
def flatL (L : List (Option Addr × Nat × List Sp)) (k : Nat) : List Sp := ((L.take k).map fun x => x.2.2).flatten
theorem flatL_succ {L : List (Option Addr × Nat × List Sp)} {k : Nat} (h : k < L.length) : flatL L (k + 1) = flatL L k ++ L[k].2.2 := by
  unfold flatL
  rw [List.take_succ_eq_append_getElem h, List.map_append, List.flatten_append]
  simp only [List.map_cons, List.map_nil, List.flatten_cons, List.flatten_nil, List.append_nil]
theorem flatL_fits {w : World} {lb : Nat} {L : List (Option Addr × Nat × List Sp)} (h : LsAt w lb L) : ∀ k, k ≤ L.length → Fits (flatL L k)
  | 0, _ => by unfold flatL; intro x hx; simp at hx
  | k + 1, hk => by
    rw [flatL_succ (by omega)]
    intro x hx
    rcases List.mem_append.1 hx with hx | hx
    · exact flatL_fits h k (by omega) x hx
    · exact (h.reads k (by omega)).2.2.1 x hx
theorem flatL_mono (L : List (Option Addr × Nat × List Sp)) : ∀ k, k ≤ L.length → (flatL L k).length ≤ (flatL L L.length).length := by
  intro k hk
  unfold flatL
  rw [List.take_length]
  have h : L = L.take k ++ L.drop k := (List.take_append_drop k L).symm
  calc ((L.take k).map fun x => x.2.2).flatten.length ≤ (((L.take k).map fun x => x.2.2) ++ ((L.drop k).map fun x => x.2.2)).flatten.length := by
        rw [List.flatten_append, List.length_append]; omega
    _ = _ := by rw [← List.map_append, ← h]

end Go.Proofs.YtamfmemdhldmjaaGreatDoor

namespace Go.Proofs.YtamfmemdhldmjaaGreatDoor
open Go.RowKit Sets

def cmpI (x y : Int) : Int := if x < y then -1 else if y < x then 1 else 0
def encSp (x : Sp) : List Value := [.int .i64 x.1, .int .i64 x.2]
def cfSp (x y : Sp) : Int := cmpI x.1 y.1
theorem ltSp (x y : Sp) : Go.Proofs.ltOf cfSp x y = decide (x.1 < y.1) := by
  unfold Go.Proofs.ltOf cfSp cmpI
  by_cases h1 : x.1 < y.1
  · simp [h1]
  · by_cases h2 : y.1 < x.1 <;> simp [h1, h2]
theorem swoSp : Go.Sort.SWO (Go.Proofs.ltOf cfSp) where
  irrefl x := by rw [ltSp]; simp
  trans x y z h1 h2 := by rw [ltSp] at *; simp at *; omega
  ntrans x y z h1 h2 := by rw [ltSp] at *; simp at *; omega

theorem below_sorted {B g : Nat} (w : World) (m : Nat) (d : Array Sp) (os : Array Obj) (hB : B ≤ g) (hg : g < w.heap.size) : RowKit.Below B w (Go.Proofs.sortWorldK encSp 2 w g 0 m d os) := by
  refine ⟨rfl, rfl, rfl, ?_, fun k hk => ?_⟩
  · simp [Go.Proofs.sortWorldK, Go.Sort.grow, Go.Sort.putRowK, Go.Sort.putRow, Go.Sort.mapBlock, Go.Sort.ahead]
  · simp only [Go.Proofs.sortWorldK, Go.Sort.grow, Go.Sort.putRowK, Go.Sort.putRow, Go.Sort.mapBlock, Go.Sort.ahead]
    rw [Array.getElem?_append_left (by simp; omega), Array.getElem?_modify]
    rw [if_neg (by omega)]

theorem holds_of_row {w : World} {g : Nat} {xs : List Sp} (hr : RowAt w g 0 xs) (ho : OwnRow w g xs.length) : Go.Sort.HoldsK encSp 2 w g 0 xs.toArray := by
  intro t ht
  rw [Go.Sort.size_flatK] at ht
  have ht' : t < xs.length * 2 := by simpa using ht
  refine ⟨?_, ho.2.1 _⟩
  rw [Go.Sort.get_flatK _ _ _ _ ht]
  obtain ⟨c1, c2⟩ := hr (t / 2) (by omega)
  have hx : xs.toArray[t / 2]! = xs.getD (t / 2) (0, 0) := by
    rw [List.getD_eq_getElem?_getD]
    have : t / 2 < xs.length := by omega
    simp [this]
  rw [hx]
  have hm : t % 2 = 0 ∨ t % 2 = 1 := by omega
  rcases hm with hm | hm
  · have e : t = t / 2 * 2 := by omega
    rw [hm, show (0 + t) = 0 + t / 2 * 2 by omega, c1]; rfl
  · have e : t = t / 2 * 2 + 1 := by omega
    rw [hm, show (0 + t) = 0 + t / 2 * 2 + 1 by omega, c2]; rfl
theorem row_of_holds {w : World} {g : Nat} {d : Array Sp} (h : Go.Sort.HoldsK encSp 2 w g 0 d) : RowAt w g 0 d.toList := by
  intro i hi
  have hi' : i < d.size := by simpa using hi
  have e : ∀ r, r < 2 → w.cell? ⟨g, 0 + i * 2 + r, none⟩ = some ((encSp d[i]!)[r]!) := fun r hr => by
    have := (h (i * 2 + r) (by rw [Go.Sort.size_flatK]; omega)).1
    rw [Go.Sort.get_flatK _ _ _ _ (by omega), show (i * 2 + r) / 2 = i by omega, show (i * 2 + r) % 2 = r by omega] at this
    rw [Nat.add_assoc]; exact this
  have hx : d[i]! = d.toList.getD i (0, 0) := by
    rw [List.getD_eq_getElem?_getD]
    simp [hi']
  unfold YtamfmemdhldmjaaGreatDoor.lo YtamfmemdhldmjaaGreatDoor.hi
  rw [← hx]
  exact ⟨by have := e 0 (by omega); rw [Nat.add_zero] at this; rw [this]; rfl, by rw [e 1 (by omega)]; rfl⟩

/-- what the sort leaves -/
def SortRes (B g : Nat) (xs : List Sp) (w : World) (e : Ending) (w' : World) : Prop :=
  e = .returned (.tuple #[]) ∧ ∃ ys : List Sp, ys.Perm xs ∧ (∀ i j, i < j → j < ys.length → lo ys i ≤ lo ys j) ∧ RowAt w' g 0 ys ∧ RowKit.Below B w w'
end Go.Proofs.YtamfmemdhldmjaaGreatDoor

namespace Go.Proofs.YtamfmemdhldmjaaGreatDoor
open Go.RowKit Sets

theorem OwnS.cases {w : World} {base : Nat} {v : Value} {xs : List Sp} (h : OwnS w base v xs) :
    (v = .slice none 0 0 ∧ xs = []) ∨ ∃ g cap, v = .slice (some ⟨g, 0, none⟩) xs.length cap ∧ base ≤ g ∧ g < w.heap.size ∧ xs.length ≤ cap ∧ cap ≤ 9223372036854775807 ∧ RowAt w g 0 xs ∧ OwnRow w g xs.length := by
  rcases Nat.eq_zero_or_pos xs.length with hz | hp
  · have he : xs = [] := List.eq_nil_of_length_eq_zero hz
    subst he
    obtain ⟨_, ⟨rfl, _⟩ | ⟨g, cap, cur, rfl, hb, hg, hnc, hcm, hcs, hcur⟩⟩ := h
    · exact .inl ⟨rfl, rfl⟩
    · have hlt := (Array.getElem?_eq_some_iff.1 hg).1
      exact .inr ⟨g, cap, rfl, hb, hlt, hnc, by unfold maxLen at hcm; omega, (fun i hi => absurd hi (by simp)), (fun o ho => absurd ho (by simp)), (fun o => by simp [World.frozen?, hg]), hlt⟩
  · obtain ⟨g, cap, hv, hb, hg, hlc, hcm, hrow, hfr, _⟩ := h.block hp
    refine .inr ⟨g, cap, hv, hb, hg, hlc, hcm, hrow, (fun o ho => ?_), hfr, hg⟩
    obtain ⟨c1, c2⟩ := hrow (o / 2) (by omega)
    rw [Nat.zero_add] at c1 c2
    have hm : o % 2 = 0 ∨ o % 2 = 1 := by omega
    rcases hm with hm | hm
    · exact ⟨_, by rw [show o = o / 2 * 2 by omega]; exact c1⟩
    · exact ⟨_, by rw [show o = o / 2 * 2 + 1 by omega]; exact c2⟩

/-- all ends are numbers -/
def Ends (xs : List Sp) : Prop := ∀ x ∈ xs, -99 ≤ x.1 ∧ x.1 ≤ 99 ∧ -99 ≤ x.2 ∧ x.2 ≤ 99
theorem ends_kept {xs ys : List Sp} (h : Ends xs) (hp : ys.Perm (keptE xs)) : Ends ys := fun x hx => h x (List.mem_filter.1 (hp.mem_iff.1 hx)).1
theorem asc_kept {xs ys : List Sp} (hp : ys.Perm (keptE xs)) (hs : ∀ i j, i < j → j < ys.length → lo ys i ≤ lo ys j) : Asc ys := by
  refine ⟨fun k hk => ?_, hs⟩
  have hm : ys[k] ∈ keptE xs := hp.mem_iff.1 (List.getElem_mem hk)
  have := of_decide_eq_true (List.mem_filter.1 hm).2
  unfold YtamfmemdhldmjaaGreatDoor.lo YtamfmemdhldmjaaGreatDoor.hi
  rw [List.getD_eq_getElem?_getD, List.getElem?_eq_getElem hk]
  exact this
theorem memS_perm {xs ys : List Sp} (hp : ys.Perm xs) (n : Int) : memS ys n ↔ memS xs n := by
  unfold memS
  constructor
  · rintro ⟨x, hx, h⟩; exact ⟨x, hp.mem_iff.1 hx, h⟩
  · rintro ⟨x, hx, h⟩; exact ⟨x, hp.mem_iff.2 hx, h⟩
theorem ends_within {ys : List Sp} (h : Ends ys) : Within ys := fun x hx => by have := h x hx; omega
theorem lohi_within {xs : List Sp} (h : Within xs) {i : Nat} (hi : i < xs.length) : -99 ≤ lo xs i ∧ YtamfmemdhldmjaaGreatDoor.hi xs i ≤ 99 := by
  have := h _ (List.getElem_mem hi)
  unfold YtamfmemdhldmjaaGreatDoor.lo YtamfmemdhldmjaaGreatDoor.hi
  rw [List.getD_eq_getElem?_getD, List.getElem?_eq_getElem hi]
  exact this
theorem joinF_within {ys : List Sp} (ha : Asc ys) (he : Ends ys) (k : Nat) (hk : k ≤ ys.length) : Within (joinF ys k) := fun x hx => by
  obtain ⟨h1, _, h3⟩ := joinF_spec ys ha k hk
  have hle := h1.le x hx
  have hw := ends_within he
  obtain ⟨i, hi, a⟩ := (h3 x.1).1 ⟨x, hx, Int.le_refl _, hle⟩
  obtain ⟨j, hj, b⟩ := (h3 x.2).1 ⟨x, hx, hle, Int.le_refl _⟩
  have e1 := lohi_within hw (show i < ys.length by omega)
  have e2 := lohi_within hw (show j < ys.length by omega)
  omega

def JoinRes (xs : List Sp) (w : World) (e : Ending) (w' : World) : Prop :=
  ∃ (v : Value) (rs : List Sp), e = .returned v ∧ OwnS w' w.heap.size v rs ∧ Norm rs ∧ Within rs ∧ (∀ n, memS rs n ↔ memS xs n) ∧ rs.length ≤ 1000 ∧ Below w.heap.size w w'

theorem stepJ_ext {s : List Sp} {x : Sp} (h : 0 < s.length) (e : x.1 ≤ hi s (s.length - 1) + 1) : stepJ s x = s.set (s.length - 1) (lo s (s.length - 1), max (hi s (s.length - 1)) x.2) := by
  unfold stepJ
  exact if_pos ⟨h, e⟩
theorem stepJ_new {s : List Sp} {x : Sp} (h : ¬ (0 < s.length ∧ x.1 ≤ hi s (s.length - 1) + 1)) : stepJ s x = s ++ [x] := by
  unfold stepJ
  exact if_neg h

theorem cell_new1 (w : World) (a b : Int) : (w.alloc (.cells #[.int .i64 a, .int .i64 b] 93)).cell? ⟨w.heap.size, 0, none⟩ = some (.int .i64 a) := by
  rw [World.cell?_alloc_new]; rfl
theorem cell_new3 (w : World) (a b : Int) : (w.alloc (.cells #[.int .i64 a, .int .i64 b] 93)).cell? ⟨w.heap.size, 1, none⟩ = some (.int .i64 b) := by
  rw [World.cell?_alloc_new]; rfl

end Go.Proofs.YtamfmemdhldmjaaGreatDoor

namespace Go.Proofs.YtamfmemdhldmjaaGreatDoor
open Go.RowKit Sets

theorem flatL_one (A : Option Addr) (c : Nat) (xs : List Sp) : flatL [(A, c, xs)] 1 = xs := by simp [flatL]
theorem flatL_two (A B : Option Addr) (c d : Nat) (xs ys : List Sp) : flatL [(A, c, xs), (B, d, ys)] 2 = xs ++ ys := by simp [flatL]

theorem fits_within {xs : List Sp} (hn : Norm xs) (h : Within xs) : Fits xs := fun x hx => by
  have a := h x hx
  have b := hn.le x hx
  unfold I64
  omega
theorem ends_lim {xs : List Sp} (h : LimAll xs) : Ends xs := fun x hx => by
  obtain ⟨i, hi, rfl⟩ := List.getElem_of_mem hx
  have := (limB_iff _ _).1 (h i hi)
  unfold YtamfmemdhldmjaaGreatDoor.lo YtamfmemdhldmjaaGreatDoor.hi at this
  rw [List.getD_eq_getElem?_getD, List.getElem?_eq_getElem hi] at this
  exact ⟨this.1.1, this.1.2, this.2.1, this.2.2⟩
theorem join_eq {xs rs : List Sp} (h1 : Norm rs) (h2 : Within rs) (h3 : ∀ n, memS rs n ↔ memS xs n) : fromF (flag xs) 199 = rs := eq_fromF rs h1 h2 _ fun j _ => (flag_iff xs j).trans (h3 _).symm

def unionP (xs ys : List Sp) : List Sp := fromF (fun j => flag xs j || flag ys j) 199
def unionB (xs ys : List Sp) : Bool := bothB xs ys && decide ((unionP xs ys).length ≤ 12)
def unionV (xs ys : List Sp) : List Sp := if unionB xs ys = true then unionP xs ys else []
theorem fromF_congr (f g : Nat → Bool) (h : ∀ j, f j = g j) : ∀ k, fromF f k = fromF g k
  | 0 => rfl
  | k + 1 => by simp only [fromF]; rw [fromF_congr f g h k, h k]
theorem flag_or (xs ys : List Sp) : unionP xs ys = fromF (flag (xs ++ ys)) 199 := fromF_congr _ _ (fun j => by unfold flag; rw [haveB_append]) _
theorem ends_valid {xs : List Sp} (h : validB xs = true) : Ends xs := fun x hx => by
  obtain ⟨a, b⟩ := norm_of_valid h
  have := a.le x hx
  have := b x hx
  omega

theorem setOfV_le (xs : List Sp) : (setOfV xs).length ≤ 65536 := by
  unfold setOfV
  split
  · have := fromF_len (flag xs) 199; omega
  · simp
theorem unionV_le (xs ys : List Sp) : (unionV xs ys).length ≤ 65536 := by
  unfold unionV
  split
  · have := fromF_len (fun j => flag xs j || flag ys j) 199; unfold unionP; omega
  · simp
theorem OwnS.form0 {w : World} {base : Nat} {v : Value} {xs : List Sp} (h : OwnS w base v xs) (hf : Fits xs) :
    ∃ A c, v = .slice A xs.length c ∧ Reads w w.heap.size A c xs ∧ (A = none → c = 0) := by
  obtain ⟨A, c, hv, hr, _⟩ := h.form hf
  refine ⟨A, c, hv, hr, fun hA => ?_⟩
  obtain ⟨_, ⟨h2, _⟩ | ⟨g, cap, cur, h2, _⟩⟩ := h
  · rw [h2] at hv
    injection hv with _ _ h3
    exact h3.symm
  · rw [h2, hA] at hv
    injection hv with h3
    cases h3
end Go.Proofs.YtamfmemdhldmjaaGreatDoor
