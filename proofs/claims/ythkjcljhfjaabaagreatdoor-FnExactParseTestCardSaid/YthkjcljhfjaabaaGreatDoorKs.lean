/-
  Rows of texts that a call makes and appends to.
-/
import Derived.Test.YthkjcljhfjaabaaGreatDoorOw
namespace Go.Proofs.YthkjcljhfjaabaaGreatDoor
open Go.RowKit Sets

theorem infoStr : (Tryz.prog.info? 9).map (fun i => (i.zero, i.size, i.bytes)) = some (some (.string ⟨#[]⟩), 1, 16) := by kernel_rfl
theorem own_texts {w : World} {base k : Nat} {v : Value} {ps : List ByteArray} (h : w.ownsRow base 9 1 v k (ps.map Value.string)) (h0 : 0 < k) :
    ∃ bk cp, v = .slice (some ⟨bk, 0, none⟩) k cp ∧ bk < w.heap.size ∧ k ≤ cp ∧ ∀ j x, ps[j]? = some x → w.cell? ⟨bk, 0 + j, none⟩ = some (.string x) := by
  obtain ⟨hl, ⟨rfl, hn⟩ | ⟨g, cap, cur, rfl, hb, hg, hnc, hcm, hcs, hcur⟩⟩ := h
  · omega
  · refine ⟨g, cap, rfl, (Array.getElem?_eq_some_iff.1 hg).1, hnc, fun j x hj => ?_⟩
    have hjl : j < k * 1 := by
      have := (List.getElem?_eq_some_iff.1 hj).1
      rw [List.length_map] at hl
      omega
    have e : (ps.map Value.string)[j]? = some (.string x) := by rw [List.getElem?_map, hj]; rfl
    rw [← hcur, List.getElem?_take_of_lt hjl] at e
    rw [Nat.zero_add]
    simp [World.cell?, hg]
    simpa using e
theorem ownsRow_below {w w' : World} {base k : Nat} {v : Value} {zs : List Value} (h : w.ownsRow base 9 1 v k zs) (hb : Below w.heap.size w w') : w'.ownsRow base 9 1 v k zs := by
  refine ⟨h.1, h.2.imp id ?_⟩
  rintro ⟨g, cap, cur, rfl, hb', hg, r⟩
  exact ⟨g, cap, cur, rfl, hb', by rw [hb.block g (Array.getElem?_eq_some_iff.1 hg).1]; exact hg, r⟩
theorem own_form {w : World} {base k : Nat} {v : Value} {zs : List Value} (h : w.ownsRow base 9 1 v k zs) : ∃ A cp, v = .slice A k cp := by
  obtain ⟨_, ⟨rfl, hn⟩ | ⟨g, cap, cur, rfl, _⟩⟩ := h
  · exact ⟨none, 0, by rw [hn]⟩
  · exact ⟨_, cap, rfl⟩

theorem infoSt : ∃ i0, Tryz.prog.info? 9 = some i0 ∧ i0.zero = some (.string ⟨#[]⟩) ∧ i0.size = 1 ∧ i0.bytes = 16 := info_parts infoStr
/-- v is a slice of the call's own that holds the texts ps -/
def OwnT (w : World) (base : Nat) (v : Value) (ps : List ByteArray) : Prop := w.ownsRow base 9 1 v ps.length (ps.map Value.string)
theorem OwnT.below {w w' : World} {base : Nat} {v : Value} {ps : List ByteArray} (h : OwnT w base v ps) (hb : Below w.heap.size w w') : OwnT w' base v ps := ownsRow_below h hb
theorem OwnT.of_append {w : World} {base : Nat} {v : Value} {ps : List ByteArray} {x : ByteArray} (h : w.ownsRow base 9 1 v (ps.length + 1) (ps.map Value.string ++ [.string x])) : OwnT w base v (ps ++ [x]) := by
  unfold OwnT
  rw [List.map_append, List.length_append]
  exact h
theorem OwnT.lt {w : World} {base : Nat} {v : Value} {ps : List ByteArray} (h : OwnT w base v ps) : ∀ k, v.ownBlock = some k → base ≤ k ∧ k < w.heap.size := World.ownsRow.lt h
/-- a slice of texts: where it lies -/
theorem OwnT.form {w : World} {base : Nat} {v : Value} {ps : List ByteArray} (h : OwnT w base v ps) (h0 : 0 < ps.length) :
    ∃ bk cp, v = .slice (some ⟨bk, 0, none⟩) ps.length cp ∧ base ≤ bk ∧ bk < w.heap.size ∧ ps.length ≤ cp ∧ ∀ j x, ps[j]? = some x → w.cell? ⟨bk, j, none⟩ = some (.string x) := by
  obtain ⟨bk, cp, rfl, h1, h2, h3⟩ := own_texts h h0
  refine ⟨bk, cp, rfl, (h.lt bk rfl).1, h1, h2, fun j x hj => ?_⟩
  have := h3 j x hj
  rwa [Nat.zero_add] at this
theorem own_no_texts (w : World) : OwnT (w.alloc (.cells #[] 9)) w.heap.size (.slice (some ⟨w.heap.size, 0, none⟩) 0 0) [] := World.ownsRow_lit w #[] 0 (Nat.le_refl _) (by decide) rfl
theorem cell_txt (w : World) (g : Nat) (x : ByteArray) (hg : g = w.heap.size) : ∀ (j : Nat) (u : Value), [Value.string x][j]? = some u → (w.alloc (.cells #[.string x] 9)).cell? ((⟨g, 0, none⟩ : Addr).add j) = some u := by
  subst hg
  intro j u hu
  have hadd : (⟨w.heap.size, 0, none⟩ : Addr).add j = ⟨w.heap.size, j, none⟩ := by unfold Addr.add; split <;> simp_all
  rw [hadd, World.cell?_alloc_new]
  simpa using hu
end Go.Proofs.YthkjcljhfjaabaaGreatDoor
