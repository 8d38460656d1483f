/-
  Arguments that are tables: slices opened element by element.
-/
import Derived.Test.YtamfmemdhldmjaaGreatDoorOp
import Derived.Test.YtamfmemdhldmjaaGreatDoorOc
import Derived.Test.YtamfmemdhldmjaaGreatDoorUaM
import Derived.Deep.Slices
import Derived.Deep.Strs
import Derived.ChangeSame
import Derived.Test.YtamfmemdhldmjaaGreatDoorVr
namespace Go.Proofs.YtamfmemdhldmjaaGreatDoor
open Go.ChangeShapes Go.WideShapes Go.ChangeAt Go.RowKit Sets

theorem spot_none {W : World} {a : Addr} {v : Value} (h : W.cell? a = some v) : a.spot = none := World.cell?_spot h
/-- A slice opened: where its elements lie, each of k cells, and what each reads as. -/
theorem open_elems {H : Type} {enc : TypeId × Value → H} {W : World} {t e : TypeId} {k fuel : Nat} {v : Value} {x : DataW H × List MemPlace} (ht : Tryz.prog.underlying t = some (.slice e)) (hk : Tryz.prog.cellsOf e = k) (hk0 : 0 < k)
    (h : DataW.trod enc Tryz.prog W 0 (fun _ => true) true fuel t [v] = some x) :
    ∃ (A : Option Addr) (len c : Nat), v = .slice A len c ∧ len ≤ c ∧ c ≤ 9223372036854775807 ∧ (len = 0 ∨ ∃ b off, A = some ⟨b, off, none⟩ ∧ b < W.heap.size ∧
      ∀ i, i < len → ∃ (cs : List Value) (n : Nat) (y : DataW H × List MemPlace), cs.length = k ∧ (∀ j, j < k → W.cell? ⟨b, off + i * k + j, none⟩ = cs[j]?) ∧ DataW.trod enc Tryz.prog W 0 (fun _ => true) true n e cs = some y) := by
  rcases Go.Deep.open_slice ht h with ⟨h0, _⟩ | ⟨a, len, cap, m, n, D, Pl, hcs, hb, hl, hm, hmm, _, hx⟩
  · simp only [List.cons.injEq, and_true] at h0
    exact ⟨none, 0, 0, h0, Nat.le_refl _, by omega, .inl rfl⟩
  · simp only [List.cons.injEq, and_true] at hcs
    simp only [if_true] at hmm
    subst hmm
    refine ⟨some a, len, m, hcs, hl, by unfold maxLen at hm; omega, ?_⟩
    rcases Nat.eq_zero_or_pos len with h0 | hp
    · exact .inl h0
    · right
      rw [hk] at hx
      have key : ∀ i, i < m → ∃ (cs : List Value) (y : DataW H × List MemPlace), cs.length = k ∧ (∀ j, j < k → W.cell? (a.add (i * k + j)) = cs[j]?) ∧ DataW.trod enc Tryz.prog W 0 (fun _ => true) true n e cs = some y := by
        intro i hi
        obtain ⟨cs', h1, h2⟩ := hx i hi
        obtain ⟨_, hlen, hcell⟩ := World.cells?_some h1
        refine ⟨cs', _, hlen, fun j hj => ?_, h2⟩
        have := hcell j hj
        rw [Go.Deep.add_add] at this
        exact this
      obtain ⟨b, off, spot⟩ := a
      obtain ⟨cs0, _, g1, g2, _⟩ := key 0 (by omega)
      have h00 := g2 0 hk0
      obtain ⟨v0, hv0⟩ : ∃ v0, cs0[0]? = some v0 := ⟨_, List.getElem?_eq_getElem (by omega)⟩
      rw [hv0] at h00
      have hspot : spot = none := by simpa [Addr.add] using World.cell?_spot h00
      subst hspot
      have hb' : b < W.heap.size := by
        rcases Nat.lt_or_ge b W.heap.size with h | h
        · exact h
        · exfalso
          simp [Addr.add, World.cell?, Array.getElem?_eq_none h] at h00
      have hadd : ∀ j, Addr.add ⟨b, off, none⟩ j = ⟨b, off + j, none⟩ := by
        intro j; unfold Addr.add; split <;> simp_all
      refine ⟨b, off, rfl, hb', fun i hi => ?_⟩
      obtain ⟨cs', y, q1, q2, q3⟩ := key i (by omega)
      exact ⟨cs', n, y, q1, fun j hj => by have := q2 j hj; rw [hadd] at this; rw [Nat.add_assoc]; exact this, q3⟩
theorem cellsColL : Tryz.prog.cellsOf 67 = 3 := by kernel_rfl
theorem cellsRuleL : Tryz.prog.cellsOf 60 = 2 := by kernel_rfl
theorem cellsBool : Tryz.prog.cellsOf 4 = 1 := by kernel_rfl
set_option maxRecDepth 100000 in
/-- an element that is a column -/
theorem open_colCells {H : Type} {enc : TypeId × Value → H} {W : World} {n : Nat} {cs : List Value} {y : DataW H × List MemPlace} (hl : cs.length = 3) (h : DataW.trod enc Tryz.prog W 0 (fun _ => true) true n 67 cs = some y) :
    ∃ (c : Co), cs = [.bool c.1, .int .i64 c.2.1, .int .i64 c.2.2] := by
  obtain ⟨y0, y1, y2, n', _, _, g0, g1, g2⟩ := Go.Deep.trod_struct3 Tryz.underlying67 h
  obtain ⟨v0, v1, v2, rfl⟩ : ∃ v0 v1 v2, cs = [v0, v1, v2] := by
    match cs, hl with
    | [v0, v1, v2], _ => exact ⟨v0, v1, v2, rfl⟩
  simp [cellsBool, cellsInt] at g0 g1 g2
  obtain ⟨x, e0, _⟩ := DataW.trod_bool Tryz.underlying4 g0
  obtain ⟨a, e1, _, w1⟩ := DataW.trod_int Tryz.underlying3 g1
  obtain ⟨b, e2, _, w2⟩ := DataW.trod_int Tryz.underlying3 g2
  simp only [List.cons.injEq, and_true] at e0 e1 e2
  subst e0 e1 e2
  exact ⟨(x, a, b), rfl⟩
theorem getD_map {α : Type} {f : Nat → α} {n i : Nat} {d : α} (hi : i < n) : ((List.range n).map f).getD i d = f i := by
  rw [List.getD_eq_getElem?_getD, List.getElem?_map, List.getElem?_range hi]; rfl
theorem openCols {H : Type} {enc : TypeId × Value → H} {W : World} {fuel : Nat} {v : Value} {x : DataW H × List MemPlace} (h : DataW.trod enc Tryz.prog W 0 (fun _ => true) true fuel 22 [v] = some x) :
    ∃ (A : Option Addr) (c : Nat) (cs : List Co), v = .slice A cs.length c ∧ ColsAt W W.heap.size A c cs := by
  obtain ⟨A, len, c, rfl, h1, h2, h3⟩ := open_elems Tryz.underlying22 cellsColL (by omega) h
  rcases h3 with rfl | ⟨b, off, rfl, hb, hall⟩
  · exact ⟨A, c, [], rfl, h1, h2, .inl rfl⟩
  · have each : ∀ i, i < len → ∃ q : Co, W.cell? ⟨b, off + i * 3, none⟩ = some (.bool q.1) ∧ W.cell? ⟨b, off + i * 3 + 1, none⟩ = some (.int .i64 q.2.1) ∧ W.cell? ⟨b, off + i * 3 + 2, none⟩ = some (.int .i64 q.2.2) := by
      intro i hi
      obtain ⟨cs, n, y, q1, q2, q3⟩ := hall i hi
      obtain ⟨q, rfl⟩ := open_colCells q1 q3
      exact ⟨q, q2 0 (by omega), q2 1 (by omega), q2 2 (by omega)⟩
    obtain ⟨Q, hQ⟩ := Go.Deep.choose_lt each
    refine ⟨_, c, (List.range len).map Q, by simp, by simpa using h1, h2, .inr ⟨b, off, rfl, hb, fun i hi => ?_⟩⟩
    have hi' : i < len := by simpa using hi
    simp only [getD_map hi']
    exact hQ i hi'
set_option maxRecDepth 100000 in
theorem openSpansT {H : Type} {enc : TypeId × Value → H} {W : World} {fuel : Nat} {v : Value} {x : DataW H × List MemPlace} (h : DataW.trod enc Tryz.prog W 0 (fun _ => true) true fuel 104 [v] = some x) :
    ∃ (A : Option Addr) (c : Nat) (xs : List Sp), v = .slice A xs.length c ∧ Reads W W.heap.size A c xs := by
  obtain ⟨A, len, c, rfl, h1, h2, h3⟩ := open_elems Tryz.underlying104 cellsSpanL (by omega) h
  rcases h3 with rfl | ⟨b, off, rfl, hb, hall⟩
  · exact ⟨A, c, [], rfl, h1, h2, (fun x hx => by cases hx), .inl rfl⟩
  · have each : ∀ i, i < len → ∃ q : Sp, W.cell? ⟨b, off + i * 2, none⟩ = some (.int .i64 q.1) ∧ W.cell? ⟨b, off + i * 2 + 1, none⟩ = some (.int .i64 q.2) ∧ I64 q.1 ∧ I64 q.2 := by
      intro i hi
      obtain ⟨cs, n, y, q1, q2, q3⟩ := hall i hi
      obtain ⟨y0, y1, n', _, _, g0, g1⟩ := trod_struct2 Tryz.underlying120 q3
      obtain ⟨v0, v1, rfl⟩ : ∃ v0 v1, cs = [v0, v1] := by
        match cs, q1 with
        | [v0, v1], _ => exact ⟨v0, v1, rfl⟩
      simp [cellsInt] at g0 g1
      obtain ⟨a, e1, _, w1⟩ := DataW.trod_int Tryz.underlying3 g0
      obtain ⟨b', e2, _, w2⟩ := DataW.trod_int Tryz.underlying3 g1
      simp only [List.cons.injEq, and_true] at e1 e2
      subst e1 e2
      refine ⟨(a, b'), q2 0 (by omega), q2 1 (by omega), ?_, ?_⟩
      · simpa [Lit.wf, IntKind.min, IntKind.max, IntKind.signed, IntKind.bits, I64] using w1
      · simpa [Lit.wf, IntKind.min, IntKind.max, IntKind.signed, IntKind.bits, I64] using w2
    obtain ⟨Q, hQ⟩ := Go.Deep.choose_lt each
    refine ⟨_, c, (List.range len).map Q, by simp, by simpa using h1, h2, fun y hy => ?_, .inr ⟨b, off, rfl, hb, fun i hi => ?_⟩⟩
    · obtain ⟨i, hi, rfl⟩ := List.mem_map.1 hy
      have := hQ i (List.mem_range.1 hi)
      exact ⟨this.2.2.1, this.2.2.2⟩
    · have hi' : i < len := by simpa using hi
      unfold YtamfmemdhldmjaaGreatDoor.lo YtamfmemdhldmjaaGreatDoor.hi
      rw [getD_map hi']
      exact ⟨(hQ i hi').1, (hQ i hi').2.1⟩
theorem openSets {H : Type} {enc : TypeId × Value → H} {W : World} {fuel : Nat} {v : Value} {x : DataW H × List MemPlace} (h : DataW.trod enc Tryz.prog W 0 (fun _ => true) true fuel 58 [v] = some x) :
    ∃ (A : Option Addr) (c : Nat) (xss : List (List Sp)), v = .slice A xss.length c ∧ SetsAt W W.heap.size A c xss := by
  obtain ⟨A, len, c, rfl, h1, h2, h3⟩ := open_elems Tryz.underlying58 (show Tryz.prog.cellsOf 104 = 1 by kernel_rfl) (by omega) h
  rcases h3 with rfl | ⟨b, off, rfl, hb, hall⟩
  · exact ⟨A, c, [], rfl, h1, h2, .inl rfl⟩
  · have each : ∀ i, i < len → ∃ q : List Sp, ∃ A' c', W.cell? ⟨b, off + i * 1, none⟩ = some (.slice A' q.length c') ∧ Reads W W.heap.size A' c' q := by
      intro i hi
      obtain ⟨cs, n, y, q1, q2, q3⟩ := hall i hi
      obtain ⟨v0, rfl⟩ : ∃ v0, cs = [v0] := by
        match cs, q1 with
        | [v0], _ => exact ⟨v0, rfl⟩
      obtain ⟨A', c', xs, rfl, hr⟩ := openSpansT q3
      exact ⟨xs, A', c', q2 0 (by omega), hr⟩
    obtain ⟨Q, hQ⟩ := Go.Deep.choose_lt each
    refine ⟨_, c, (List.range len).map Q, by simp, by simpa using h1, h2, .inr ⟨b, off, rfl, hb, fun i hi => ?_⟩⟩
    have hi' : i < len := by simpa using hi
    simp only [getD_map hi']
    exact hQ i hi'
set_option maxRecDepth 100000 in
theorem openRules {H : Type} {enc : TypeId × Value → H} {W : World} {fuel : Nat} {v : Value} {x : DataW H × List MemPlace} (h : DataW.trod enc Tryz.prog W 0 (fun _ => true) true fuel 23 [v] = some x) :
    ∃ (A : Option Addr) (c : Nat) (rs : List Rl), v = .slice A rs.length c ∧ RulesAt W W.heap.size A c rs := by
  obtain ⟨A, len, c, rfl, h1, h2, h3⟩ := open_elems Tryz.underlying23 cellsRuleL (by omega) h
  rcases h3 with rfl | ⟨b, off, rfl, hb, hall⟩
  · exact ⟨A, c, [], rfl, h1, h2, .inl rfl⟩
  · have each : ∀ i, i < len → ∃ q : Rl, (∃ A' c', W.cell? ⟨b, off + i * 2, none⟩ = some (.slice A' q.1.length c') ∧ SetsAt W W.heap.size A' c' q.1) ∧ W.cell? ⟨b, off + i * 2 + 1, none⟩ = some (.int .i64 q.2) := by
      intro i hi
      obtain ⟨cs, n, y, q1, q2, q3⟩ := hall i hi
      obtain ⟨y0, y1, n', _, _, g0, g1⟩ := trod_struct2 Tryz.underlying60 q3
      obtain ⟨v0, v1, rfl⟩ : ∃ v0 v1, cs = [v0, v1] := by
        match cs, q1 with
        | [v0, v1], _ => exact ⟨v0, v1, rfl⟩
      simp [cellsInt, show Tryz.prog.cellsOf 58 = 1 by kernel_rfl] at g0 g1
      obtain ⟨A', c', xss, rfl, hr⟩ := openSets g0
      obtain ⟨b', e2, _, w2⟩ := DataW.trod_int Tryz.underlying3 g1
      simp only [List.cons.injEq, and_true] at e2
      subst e2
      exact ⟨(xss, b'), ⟨A', c', q2 0 (by omega), hr⟩, q2 1 (by omega)⟩
    obtain ⟨Q, hQ⟩ := Go.Deep.choose_lt each
    refine ⟨_, c, (List.range len).map Q, by simp, by simpa using h1, h2, .inr ⟨b, off, rfl, hb, fun i hi => ?_⟩⟩
    have hi' : i < len := by simpa using hi
    simp only [getD_map hi']
    exact hQ i hi'
theorem cellsTab : Tryz.prog.cellsOf 25 = 3 := by kernel_rfl
set_option maxRecDepth 100000 in
/-- A given table. -/
theorem openTab {H : Type} {enc : TypeId × Value → H} {W : World} {base : Nat} {v : Value} {d : DataW H} {p : List MemPlace}
    (hv : Value.okWide Tryz.prog W .any base 25 v) (h : DataW.Trod enc Tryz.prog W 0 (fun _ => true) true 25 v d p) :
    ∃ (t : Tb), TabAt W W.heap.size v t := by
  obtain ⟨c0, c1, c2, y0, y1, y2, m, rfl, rfl, rfl, hy0, hy1, hy2⟩ := Joins.open_agg3 Tryz.underlying25 (by kernel_rfl) cellsTab hv h
  obtain ⟨A1, n1, cs, rfl, k1⟩ := openCols hy0
  obtain ⟨a, e1, _, w1⟩ := DataW.trod_int Tryz.underlying3 hy1
  obtain ⟨A2, n2, rs, rfl, k2⟩ := openRules hy2
  simp only [List.cons.injEq, and_true] at e1
  subst e1
  exact ⟨⟨cs, a, rs⟩, A1, n1, A2, n2, rfl, k1, k2⟩
end Go.Proofs.YtamfmemdhldmjaaGreatDoor

namespace Go.Proofs.YtamfmemdhldmjaaGreatDoor
open Go.ChangeShapes Go.WideShapes Go.ChangeAt Go.RowKit Sets

theorem openInts {H : Type} {enc : TypeId × Value → H} {W : World} {fuel : Nat} {v : Value} {x : DataW H × List MemPlace} (h : DataW.trod enc Tryz.prog W 0 (fun _ => true) true fuel 26 [v] = some x) :
    ∃ (A : Option Addr) (c : Nat) (ns : List Int), v = .slice A ns.length c ∧ IntsAt W W.heap.size A c ns := by
  obtain ⟨A, len, c, rfl, h1, h2, h3⟩ := open_elems Tryz.underlying26 cellsInt (by omega) h
  rcases h3 with rfl | ⟨b, off, rfl, hb, hall⟩
  · exact ⟨A, c, [], rfl, (fun x hx => by cases hx), h1, h2, .inl rfl⟩
  · have each : ∀ i, i < len → ∃ q : Int, W.cell? ⟨b, off + i * 1, none⟩ = some (.int .i64 q) ∧ I64 q := by
      intro i hi
      obtain ⟨cs, n, y, q1, q2, q3⟩ := hall i hi
      obtain ⟨v0, rfl⟩ : ∃ v0, cs = [v0] := by
        match cs, q1 with
        | [v0], _ => exact ⟨v0, rfl⟩
      obtain ⟨a, e1, _, w1⟩ := DataW.trod_int Tryz.underlying3 q3
      simp only [List.cons.injEq, and_true] at e1
      subst e1
      refine ⟨a, q2 0 (by omega), ?_⟩
      simpa [Lit.wf, IntKind.min, IntKind.max, IntKind.signed, IntKind.bits, I64] using w1
    obtain ⟨Q, hQ⟩ := Go.Deep.choose_lt each
    refine ⟨_, c, (List.range len).map Q, by simp, fun y hy => ?_, by simpa using h1, h2, .inr ⟨b, off, rfl, hb, fun i hi => ?_⟩⟩
    · obtain ⟨i, hi, rfl⟩ := List.mem_map.1 hy
      exact (hQ i (List.mem_range.1 hi)).2
    · have hi' : i < len := by simpa using hi
      simp only [getD_map hi']
      exact (hQ i hi').1
set_option maxRecDepth 100000 in
theorem openIntsT {H : Type} {enc : TypeId × Value → H} {W : World} {base : Nat} {v : Value} {d : DataW H} {p : List MemPlace}
    (hv : Value.okWide Tryz.prog W .any base 26 v) (h : DataW.Trod enc Tryz.prog W 0 (fun _ => true) true 26 v d p) :
    ∃ (A : Option Addr) (c : Nat) (ns : List Int), v = .slice A ns.length c ∧ IntsAt W W.heap.size A c ns := by
  obtain ⟨a0, len0, cap0, rfl⟩ := okWide_slice Tryz.underlying26 hv
  obtain ⟨m, hm⟩ := h
  exact openInts (v := .slice a0 len0 cap0) hm
end Go.Proofs.YtamfmemdhldmjaaGreatDoor

namespace Go.Proofs.YtamfmemdhldmjaaGreatDoor
open Go.ChangeShapes Go.WideShapes Go.ChangeAt Go.RowKit Sets

end Go.Proofs.YtamfmemdhldmjaaGreatDoor
