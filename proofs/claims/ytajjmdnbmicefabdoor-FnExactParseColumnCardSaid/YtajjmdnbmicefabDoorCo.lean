/-
  The library's growth and concatenation of lists of spans.
-/
import Derived.Shelf.Spec.SlicesGrow
import Derived.Laws.AppendOwnNone
import Derived.Test.YtajjmdnbmicefabDoorSh
import Derived.Test.YtajjmdnbmicefabDoorOw
namespace Go.Proofs.YtajjmdnbmicefabDoor
open Go.RowKit Sets

theorem cellsOf_one (xs : List Sp) : ∀ u ∈ cellsOf xs, u.oneCell' = true := by
  induction xs with
  | nil => intro u hu; cases hu
  | cons x xs ih =>
    intro u hu
    simp only [cellsOf, List.mem_cons] at hu
    rcases hu with rfl | rfl | hu
    · rfl
    · rfl
    · exact ih u hu
theorem reads_cells {w : World} {B c : Nat} {ad : Addr} {xs : List Sp} (h : Reads w B (some ad) c xs) : ∀ (j : Nat) (u : Value), (cellsOf xs)[j]? = some u → w.cell? (ad.add j) = some u := by
  intro j u hu
  have hj : j < (cellsOf xs).length := (List.getElem?_eq_some_iff.1 hu).1
  rw [cellsOf_length] at hj
  rcases h.2.2.2 with rfl | ⟨b, off, e, hB, hrow⟩
  · simp at hj
  · injection e with e
    subst e
    have hadd : (⟨b, off, none⟩ : Addr).add j = ⟨b, off + j, none⟩ := by unfold Addr.add; split <;> simp_all
    rw [hadd]
    obtain ⟨r1, r2⟩ := hrow (j / 2) (by omega)
    obtain ⟨q1, q2⟩ := cellsOf_at xs (j / 2) (by omega)
    have hm : j % 2 = 0 ∨ j % 2 = 1 := by omega
    rcases hm with hm | hm
    · have e : j = j / 2 * 2 := by omega
      rw [e] at hu ⊢
      rw [q1] at hu
      rw [← hu]; exact r1
    · have e : j = j / 2 * 2 + 1 := by omega
      rw [e] at hu ⊢
      rw [q2] at hu
      rw [← hu]; exact r2
theorem OwnS.of_append2 {w : World} {base : Nat} {v : Value} {xs ys : List Sp} (h : w.ownsRow base 54 2 v (xs.length + ys.length) (cellsOf xs ++ cellsOf ys)) : OwnS w base v (xs ++ ys) := by
  unfold OwnS
  rw [cellsOf_append, List.length_append]
  exact h

/-- Lists of spans that lie one after the other in a block. -/
structure LsAt (w : World) (lb : Nat) (L : List (Option Addr × Nat × List Sp)) : Prop where
  cell : ∀ i (h : i < L.length), w.cell? ⟨lb, i, none⟩ = some (.slice L[i].1 L[i].2.2.length L[i].2.1)
  reads : ∀ i (h : i < L.length), Reads w w.heap.size L[i].1 L[i].2.1 L[i].2.2
  nocap : ∀ i (h : i < L.length), L[i].1 = none → L[i].2.1 = 0
  lt : lb < w.heap.size
theorem LsAt.below {w w' : World} {lb : Nat} {L : List (Option Addr × Nat × List Sp)} (h : LsAt w lb L) (hb : Below w.heap.size w w') : LsAt w' lb L :=
  ⟨fun i hi => (hb.cell (p := ⟨lb, i, none⟩) h.lt).trans (h.cell i hi), fun i hi => (h.reads i hi).step hb, h.nocap, Nat.lt_of_lt_of_le h.lt hb.size⟩
def flatL (L : List (Option Addr × Nat × List Sp)) (k : Nat) : List Sp := ((L.take k).map fun x => x.2.2).flatten
theorem flatL_succ {L : List (Option Addr × Nat × List Sp)} {k : Nat} (h : k < L.length) : flatL L (k + 1) = flatL L k ++ L[k].2.2 := by
  unfold flatL
  rw [List.take_succ_eq_append_getElem h, List.map_append, List.flatten_append]
  simp only [List.map_cons, List.map_nil, List.flatten_cons, List.flatten_nil, List.append_nil]
theorem flatL_fits {w : World} {lb : Nat} {L : List (Option Addr × Nat × List Sp)} (h : LsAt w lb L) : ∀ k, k ≤ L.length → Fits (flatL L k)
  | 0, _ => by unfold flatL; intro x hx; simp at hx
  | k + 1, hk => by
    rw [flatL_succ (by omega)]
    intro x hx
    rcases List.mem_append.1 hx with hx | hx
    · exact flatL_fits h k (by omega) x hx
    · exact (h.reads k (by omega)).2.2.1 x hx
theorem flatL_mono (L : List (Option Addr × Nat × List Sp)) : ∀ k, k ≤ L.length → (flatL L k).length ≤ (flatL L L.length).length := by
  intro k hk
  unfold flatL
  rw [List.take_length]
  have h : L = L.take k ++ L.drop k := (List.take_append_drop k L).symm
  calc ((L.take k).map fun x => x.2.2).flatten.length ≤ (((L.take k).map fun x => x.2.2) ++ ((L.drop k).map fun x => x.2.2)).flatten.length := by
        rw [List.flatten_append, List.length_append]; omega
    _ = _ := by rw [← List.map_append, ← h]

end Go.Proofs.YtajjmdnbmicefabDoor
