/-
  The library's search for an element and its deletion of elements, where the elements are spans without numbers.
-/
import Derived.Test.YtajjmdnbmicefabDoorIv
import Derived.Test.YtajjmdnbmicefabDoorGn
import Derived.Test.YtajjmdnbmicefabDoorEq
import Derived.Shelf.Abstract
import Derived.Lib.SliceRun
namespace Go.Proofs.YtajjmdnbmicefabDoor
open Go.RowKit Sets

def IdxRes (xs : List Sp) (e : Ending) : Prop :=
  (e = .returned (.int .i64 (-1)) ∧ ∀ j, j < xs.length → lo xs j ≤ hi xs j) ∨ ∃ k : Nat, k < xs.length ∧ e = .returned (.int .i64 k) ∧ hi xs k < lo xs k ∧ ∀ j, j < k → lo xs j ≤ hi xs j

/-- the spans that have numbers -/
def keptE (xs : List Sp) : List Sp := xs.filter fun x => decide (x.1 ≤ x.2)
theorem keptE_take {xs : List Sp} {k : Nat} (h : k < xs.length) : keptE (xs.take (k + 1)) = if lo xs k ≤ hi xs k then keptE (xs.take k) ++ [(lo xs k, hi xs k)] else keptE (xs.take k) := by
  rw [take_lohi h]
  unfold keptE
  rw [List.filter_append]
  by_cases e : lo xs k ≤ hi xs k
  · rw [if_pos e]
    congr 1
    simp [e]
  · rw [if_neg e]
    simp [e]
theorem keptE_len (xs : List Sp) (k : Nat) : (keptE (xs.take k)).length ≤ k := by
  have := List.length_filter_le (fun x : Sp => decide (x.1 ≤ x.2)) (xs.take k)
  have h2 := List.length_take_le k xs
  unfold keptE
  omega
theorem keptE_all {xs : List Sp} : ∀ k, k ≤ xs.length → (∀ j, j < k → lo xs j ≤ hi xs j) → keptE (xs.take k) = xs.take k
  | 0, _, _ => by simp [keptE]
  | k + 1, hk, h => by
    rw [keptE_take (by omega), if_pos (h k (by omega)), keptE_all k (by omega) fun j hj => h j (by omega), take_lohi (by omega)]
theorem keptE_mem (xs : List Sp) (n : Int) : memS (keptE xs) n ↔ memS xs n := by
  unfold keptE memS
  constructor
  · rintro ⟨x, hx, h⟩
    exact ⟨x, (List.mem_filter.1 hx).1, h⟩
  · rintro ⟨x, hx, h⟩
    exact ⟨x, List.mem_filter.2 ⟨hx, decide_eq_true (by omega)⟩, h⟩

theorem clear_run (w : World) (ty : TypeId) (b o n c : Nat) (hn : 0 < n) (hc : ∀ j, j < n * 2 → ∃ v, w.cell? ⟨b, o + j, none⟩ = some v) (hf : ∀ j, w.frozen? ⟨b, j, none⟩ = false) :
    ∃ zs : List Value, zs.length = n * 2 ∧ (∀ v ∈ zs, v = .int .i64 0) ∧ (Builtin.clear_ #[34] ty #[.slice (some ⟨b, o, none⟩) n c]).run Tryd.prog w = .ok (.tuple #[]) (w.setCells b o zs) := by
  have hlen : (Builtin.zeroCells (Value.agg #[.int .i64 0, .int .i64 0]).cells n).toList.length = n * 2 := by simp [Builtin.zeroCells, Value.cells]
  have hall : ∀ v ∈ (Builtin.zeroCells (Value.agg #[.int .i64 0, .int .i64 0]).cells n).toList, v = .int .i64 0 := by
    intro v hv
    obtain ⟨i, hi, rfl⟩ := List.getElem_of_mem hv
    simp [Builtin.zeroCells, Value.cells]
    have : i % 2 = 0 ∨ i % 2 = 1 := by omega
    rcases this with e | e <;> simp [e]
  refine ⟨_, hlen, hall, ?_⟩
  have hst := run_storeCells_cells (P := Tryd.prog) b o (Builtin.zeroCells (Value.agg #[.int .i64 0, .int .i64 0]).cells n).toList 0 w (by
      intro j hj
      obtain ⟨v, hv⟩ := hc j (by rw [hlen] at hj; exact hj)
      simp [hv]) (by intro j _; exact hf _) (by intro v hv; rw [hall v hv]; rfl)
  simp only [Nat.add_zero] at hst
  obtain ⟨m, rfl⟩ : ∃ m, n = m + 1 := ⟨n - 1, by omega⟩
  simp [Builtin.clear_, run_underlying Tryd.underlying34, Tryd.zeroValue54, hst]

/-- the cells from the k-th span on hold what they held -/
def RestAt (w : World) (g k : Nat) (xs : List Sp) : Prop := ∀ m, k ≤ m → m < xs.length → w.cell? ⟨g, m * 2, none⟩ = some (.int .i64 (lo xs m)) ∧ w.cell? ⟨g, m * 2 + 1, none⟩ = some (.int .i64 (hi xs m))
theorem RestAt.below {w w' : World} {g k B : Nat} {xs : List Sp} (h : RestAt w g k xs) (hb : Below B w w') (hB : g < B) : RestAt w' g k xs :=
  fun m hm hl => ⟨(hb.cell (p := ⟨g, m * 2, none⟩) hB).trans (h m hm hl).1, (hb.cell (p := ⟨g, m * 2 + 1, none⟩) hB).trans (h m hm hl).2⟩
theorem RestAt.put2 {w : World} {g k i : Nat} {xs : List Sp} (h : RestAt w g k xs) (hi : i < k) (a b : Int) (h0 : ∃ v, w.cell? ⟨g, i * 2, none⟩ = some v) (h1 : ∃ v, w.cell? ⟨g, i * 2 + 1, none⟩ = some v) : RestAt (YtajjmdnbmicefabDoor.put2 w g (i * 2) a b) g k xs := fun m hm hl => by
  rw [put2_cell _ _ _ _ _ _ h0 h1, put2_cell _ _ _ _ _ _ h0 h1, if_neg (by omega), if_neg (by omega), if_neg (by omega), if_neg (by omega)]
  exact h m hm hl
theorem RestAt.mono {w : World} {g k k' : Nat} {xs : List Sp} (h : RestAt w g k xs) (hk : k ≤ k') : RestAt w g k' xs := fun m hm hl => h m (by omega) hl
theorem two_boxes (wr w' : World) (a b : Int) (h : (wr.alloc (.cells #[.int .i64 a, .int .i64 b] 54)).alloc (.cells #[.int .i64 a, .int .i64 b] 54) = w') :
    Below wr.heap.size wr w' ∧ w'.cell? ⟨wr.heap.size, 0, none⟩ = some (.int .i64 a) ∧ w'.cell? ⟨wr.heap.size, 1, none⟩ = some (.int .i64 b) := by
  subst h
  refine ⟨((Below.refl _ _).alloc (Nat.le_refl _) _).alloc (by simp) _, ?_, ?_⟩ <;> (rw [World.cell?_alloc2_first]; rfl)

theorem setCells_below {B g : Nat} {w : World} (hB : B ≤ g) : ∀ (vs : List Value) (o : Nat) (a : World), Below B w a → Below B w (a.setCells g o vs)
  | [], _, _, h => h
  | v :: vs, o, _, h => setCells_below hB vs (o + 1) _ (h.setCell (p := ⟨g, o, none⟩) hB v)
theorem setCells_size (g : Nat) : ∀ (vs : List Value) (o : Nat) (a : World), (a.setCells g o vs).heap.size = a.heap.size
  | [], _, _ => rfl
  | v :: vs, o, a => (setCells_size g vs (o + 1) (a.setCell ⟨g, o, none⟩ v)).trans (by simp [World.setCell])
theorem ownRow_cell {w : World} {g n o : Nat} (h : OwnRow w g n) (ho : o < n * 2) : ∃ v, w.cell? ⟨g, o, none⟩ = some v := h.1 o ho

end Go.Proofs.YtajjmdnbmicefabDoor
