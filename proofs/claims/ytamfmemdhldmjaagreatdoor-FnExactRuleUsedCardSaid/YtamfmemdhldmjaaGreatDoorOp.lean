/-
  An argument that is a slice of spans: it reads as a list of pairs of numbers.
-/
import Derived.Test.YtamfmemdhldmjaaGreatDoorRows
import Derived.Test.YtamfmemdhldmjaaGreatDoorOn
import Derived.Test.YtamfmemdhldmjaaGreatDoorPureM
import Derived.ProofKit
import Derived.OpenShut
import Derived.ChangeOld
import Derived.Deep.SlicePairs
namespace Go.Proofs.YtamfmemdhldmjaaGreatDoor
open Go.ChangeShapes Go.WideShapes Go.ChangeAt Go.RowKit Sets

theorem cellsSpanL : Tryz.prog.cellsOf 120 = 2 := by kernel_rfl
theorem cellsInt : Tryz.prog.cellsOf 3 = 1 := by kernel_rfl

set_option maxRecDepth 100000 in
theorem openSpans {H : Type} {enc : TypeId × Value → H} {W : World} {base : Nat} {v : Value} {d : DataW H} {p : List MemPlace}
    (hv : Value.okWide Tryz.prog W .any base 104 v) (h : DataW.Trod enc Tryz.prog W 0 (fun _ => true) true 104 v d p) :
    ∃ (A : Option Addr) (c : Nat) (xs : List Sp), v = .slice A xs.length c ∧ Reads W W.heap.size A c xs := by
  obtain ⟨a0, len0, cap0, rfl⟩ := okWide_slice Tryz.underlying104 hv
  obtain ⟨fuel, hf⟩ := h
  rcases Go.Deep.open_slice_pairs Tryz.underlying104 Tryz.underlying120 cellsSpanL rfl rfl cellsInt cellsInt hf with ⟨hcs, _⟩ | ⟨x, l, c, m, n, V0, V1, D0, D1, P0, P1, hcs, _, hl, hm, hmm, _, hall⟩
  · simp [Value.cells] at hcs
    obtain ⟨rfl, rfl, rfl⟩ := hcs
    exact ⟨none, 0, [], rfl, by simp, by omega, (fun x hx => by cases hx), .inl rfl⟩
  · simp [Value.cells] at hcs
    obtain ⟨rfl, rfl, rfl⟩ := hcs
    simp only [if_true] at hmm
    subst hmm
    have each : ∀ i, i < m → ∃ q : Int × Int, W.cell? (x.add (i * 2)) = some (.int .i64 q.1) ∧ W.cell? (x.add (i * 2 + 1)) = some (.int .i64 q.2) ∧ I64 q.1 ∧ I64 q.2 := by
      intro i hi
      obtain ⟨h0, h1, t0, t1⟩ := hall i hi
      obtain ⟨a, e0, _, w0⟩ := DataW.trod_int Tryz.underlying3 t0
      obtain ⟨b, e1, _, w1⟩ := DataW.trod_int Tryz.underlying3 t1
      simp only [List.cons.injEq, and_true] at e0 e1
      refine ⟨(a, b), by rw [h0, e0], by rw [h1, e1], ?_, ?_⟩
      · simpa [Lit.wf, IntKind.min, IntKind.max, IntKind.signed, IntKind.bits, I64] using w0
      · simpa [Lit.wf, IntKind.min, IntKind.max, IntKind.signed, IntKind.bits, I64] using w1
    obtain ⟨Q, hQ⟩ := Go.Deep.choose_lt each
    refine ⟨some x, m, (List.range len0).map Q, by simp, by simpa using hl, by unfold maxLen at hm; omega, fun y hy => ?_, ?_⟩
    · obtain ⟨i, hi, rfl⟩ := List.mem_map.1 hy
      have := hQ i (by have := List.mem_range.1 hi; omega)
      exact ⟨this.2.2.1, this.2.2.2⟩
    · rcases Nat.eq_zero_or_pos len0 with rfl | hp
      · exact .inl rfl
      · right
        obtain ⟨b, off, spot⟩ := x
        have h0 := (hQ 0 (by omega)).1
        have hspot : spot = none := by simpa [Addr.add] using World.cell?_spot h0
        subst hspot
        have hb : b < W.heap.size := by
          rcases Nat.lt_or_ge b W.heap.size with h | h
          · exact h
          · exfalso
            simp [Addr.add, World.cell?, Array.getElem?_eq_none h] at h0
        have hadd : ∀ j, Addr.add ⟨b, off, none⟩ j = ⟨b, off + j, none⟩ := by
          intro j; unfold Addr.add; split <;> simp_all
        refine ⟨b, off, rfl, hb, fun i hi => ?_⟩
        have hi' : i < len0 := by simpa using hi
        have h2 := hQ i (by omega)
        rw [hadd, hadd] at h2
        unfold YtamfmemdhldmjaaGreatDoor.lo YtamfmemdhldmjaaGreatDoor.hi
        rw [List.getD_eq_getElem?_getD, List.getElem?_map, List.getElem?_range hi']
        exact ⟨h2.1, by rw [Nat.add_assoc]; exact h2.2.1⟩
end Go.Proofs.YtamfmemdhldmjaaGreatDoor
