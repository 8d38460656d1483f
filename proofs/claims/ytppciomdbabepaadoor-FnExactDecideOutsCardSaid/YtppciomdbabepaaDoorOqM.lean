/-
  Arguments that are tables: slices opened element by element.
-/
import Derived.Test.YtppciomdbabepaaDoorOp
import Derived.Test.YtppciomdbabepaaDoorOc
import Derived.Test.YtppciomdbabepaaDoorUaM
import Derived.Deep.Slices
import Derived.Deep.Strs
import Derived.ChangeSame
import Derived.Test.YtppciomdbabepaaDoorVr
namespace Go.Proofs.YtppciomdbabepaaDoor
open Go.ChangeShapes Go.WideShapes Go.ChangeAt Go.RowKit Sets

theorem spot_none {W : World} {a : Addr} {v : Value} (h : W.cell? a = some v) : a.spot = none := World.cell?_spot h
/-- A slice opened: where its elements lie, each of k cells, and what each reads as. -/
theorem open_elems {H : Type} {enc : TypeId × Value → H} {W : World} {t e : TypeId} {k fuel : Nat} {v : Value} {x : DataW H × List MemPlace} (ht : Tryd.prog.underlying t = some (.slice e)) (hk : Tryd.prog.cellsOf e = k) (hk0 : 0 < k)
    (h : DataW.trod enc Tryd.prog W 0 (fun _ => true) true fuel t [v] = some x) :
    ∃ (A : Option Addr) (len c : Nat), v = .slice A len c ∧ len ≤ c ∧ c ≤ 9223372036854775807 ∧ (len = 0 ∨ ∃ b off, A = some ⟨b, off, none⟩ ∧ b < W.heap.size ∧
      ∀ i, i < len → ∃ (cs : List Value) (n : Nat) (y : DataW H × List MemPlace), cs.length = k ∧ (∀ j, j < k → W.cell? ⟨b, off + i * k + j, none⟩ = cs[j]?) ∧ DataW.trod enc Tryd.prog W 0 (fun _ => true) true n e cs = some y) := by
  rcases Go.Deep.open_slice ht h with ⟨h0, _⟩ | ⟨a, len, cap, m, n, D, Pl, hcs, hb, hl, hm, hmm, _, hx⟩
  · simp only [List.cons.injEq, and_true] at h0
    exact ⟨none, 0, 0, h0, Nat.le_refl _, by omega, .inl rfl⟩
  · simp only [List.cons.injEq, and_true] at hcs
    simp only [if_true] at hmm
    subst hmm
    refine ⟨some a, len, m, hcs, hl, by unfold maxLen at hm; omega, ?_⟩
    rcases Nat.eq_zero_or_pos len with h0 | hp
    · exact .inl h0
    · right
      rw [hk] at hx
      have key : ∀ i, i < m → ∃ (cs : List Value) (y : DataW H × List MemPlace), cs.length = k ∧ (∀ j, j < k → W.cell? (a.add (i * k + j)) = cs[j]?) ∧ DataW.trod enc Tryd.prog W 0 (fun _ => true) true n e cs = some y := by
        intro i hi
        obtain ⟨cs', h1, h2⟩ := hx i hi
        obtain ⟨_, hlen, hcell⟩ := World.cells?_some h1
        refine ⟨cs', _, hlen, fun j hj => ?_, h2⟩
        have := hcell j hj
        rw [Go.Deep.add_add] at this
        exact this
      obtain ⟨b, off, spot⟩ := a
      obtain ⟨cs0, _, g1, g2, _⟩ := key 0 (by omega)
      have h00 := g2 0 hk0
      obtain ⟨v0, hv0⟩ : ∃ v0, cs0[0]? = some v0 := ⟨_, List.getElem?_eq_getElem (by omega)⟩
      rw [hv0] at h00
      have hspot : spot = none := by simpa [Addr.add] using World.cell?_spot h00
      subst hspot
      have hb' : b < W.heap.size := by
        rcases Nat.lt_or_ge b W.heap.size with h | h
        · exact h
        · exfalso
          simp [Addr.add, World.cell?, Array.getElem?_eq_none h] at h00
      have hadd : ∀ j, Addr.add ⟨b, off, none⟩ j = ⟨b, off + j, none⟩ := by
        intro j; unfold Addr.add; split <;> simp_all
      refine ⟨b, off, rfl, hb', fun i hi => ?_⟩
      obtain ⟨cs', y, q1, q2, q3⟩ := key i (by omega)
      exact ⟨cs', n, y, q1, fun j hj => by have := q2 j hj; rw [hadd] at this; rw [Nat.add_assoc]; exact this, q3⟩
theorem cellsBool : Tryd.prog.cellsOf 4 = 1 := by kernel_rfl
theorem getD_map {α : Type} {f : Nat → α} {n i : Nat} {d : α} (hi : i < n) : ((List.range n).map f).getD i d = f i := by
  rw [List.getD_eq_getElem?_getD, List.getElem?_map, List.getElem?_range hi]; rfl
end Go.Proofs.YtppciomdbabepaaDoor

namespace Go.Proofs.YtppciomdbabepaaDoor
open Go.ChangeShapes Go.WideShapes Go.ChangeAt Go.RowKit Sets

theorem openInts {H : Type} {enc : TypeId × Value → H} {W : World} {fuel : Nat} {v : Value} {x : DataW H × List MemPlace} (h : DataW.trod enc Tryd.prog W 0 (fun _ => true) true fuel 22 [v] = some x) :
    ∃ (A : Option Addr) (c : Nat) (ns : List Int), v = .slice A ns.length c ∧ IntsAt W W.heap.size A c ns := by
  obtain ⟨A, len, c, rfl, h1, h2, h3⟩ := open_elems Tryd.underlying22 cellsInt (by omega) h
  rcases h3 with rfl | ⟨b, off, rfl, hb, hall⟩
  · exact ⟨A, c, [], rfl, (fun x hx => by cases hx), h1, h2, .inl rfl⟩
  · have each : ∀ i, i < len → ∃ q : Int, W.cell? ⟨b, off + i * 1, none⟩ = some (.int .i64 q) ∧ I64 q := by
      intro i hi
      obtain ⟨cs, n, y, q1, q2, q3⟩ := hall i hi
      obtain ⟨v0, rfl⟩ : ∃ v0, cs = [v0] := by
        match cs, q1 with
        | [v0], _ => exact ⟨v0, rfl⟩
      obtain ⟨a, e1, _, w1⟩ := DataW.trod_int Tryd.underlying3 q3
      simp only [List.cons.injEq, and_true] at e1
      subst e1
      refine ⟨a, q2 0 (by omega), ?_⟩
      simpa [Lit.wf, IntKind.min, IntKind.max, IntKind.signed, IntKind.bits, I64] using w1
    obtain ⟨Q, hQ⟩ := Go.Deep.choose_lt each
    refine ⟨_, c, (List.range len).map Q, by simp, fun y hy => ?_, by simpa using h1, h2, .inr ⟨b, off, rfl, hb, fun i hi => ?_⟩⟩
    · obtain ⟨i, hi, rfl⟩ := List.mem_map.1 hy
      exact (hQ i (List.mem_range.1 hi)).2
    · have hi' : i < len := by simpa using hi
      simp only [getD_map hi']
      exact (hQ i hi').1
set_option maxRecDepth 100000 in
theorem openIntsT {H : Type} {enc : TypeId × Value → H} {W : World} {base : Nat} {v : Value} {d : DataW H} {p : List MemPlace}
    (hv : Value.okWide Tryd.prog W .any base 22 v) (h : DataW.Trod enc Tryd.prog W 0 (fun _ => true) true 22 v d p) :
    ∃ (A : Option Addr) (c : Nat) (ns : List Int), v = .slice A ns.length c ∧ IntsAt W W.heap.size A c ns := by
  obtain ⟨a0, len0, cap0, rfl⟩ := okWide_slice Tryd.underlying22 hv
  obtain ⟨m, hm⟩ := h
  exact openInts (v := .slice a0 len0 cap0) hm
end Go.Proofs.YtppciomdbabepaaDoor

namespace Go.Proofs.YtppciomdbabepaaDoor
open Go.ChangeShapes Go.WideShapes Go.ChangeAt Go.RowKit Sets

theorem cellsRes : Tryd.prog.cellsOf 32 = 2 := by kernel_rfl
set_option maxRecDepth 100000 in
theorem openRes {H : Type} {enc : TypeId × Value → H} {W : World} {base : Nat} {v : Value} {d : DataW H} {p : List MemPlace}
    (hv : Value.okWide Tryd.prog W .any base 32 v) (h : DataW.Trod enc Tryd.prog W 0 (fun _ => true) true 32 v d p) :
    ∃ (r : Rs), ResAt W W.heap.size v r := by
  obtain ⟨c0, c1, y0, y1, m, rfl, rfl, rfl, hy0, hy1⟩ := Joins.open_agg2 Tryd.underlying32 (by kernel_rfl) cellsRes hv h
  obtain ⟨a, e0, _, _⟩ := DataW.trod_int Tryd.underlying3 hy0
  simp only [List.cons.injEq, and_true] at e0
  subst e0
  obtain ⟨A, c, ns, rfl, k⟩ := openInts hy1
  exact ⟨(a, ns), A, c, rfl, k⟩
end Go.Proofs.YtppciomdbabepaaDoor
