/-
  What the listed errors are: three different pointers.
-/
import Derived.Test.YtamfmemdhldmjaaGreatDoorWh
import Derived.Test.YtamfmemdhldmjaaGreatDoorLi0
import Derived.OpenVars
import Derived.Stop.LaidTwo
namespace Go.Proofs.YtamfmemdhldmjaaGreatDoor
open Go.ChangeShapes Go.WideShapes Go.ChangeAt Go.RowKit Go.Stop Sets

theorem starS : "*" ++ "errors.errorString" = "*errors.errorString" := by decide
theorem rowS (u : TypeId) (h : Tryz.prog.typeName? 3 u = some "*errors.errorString") : u = 150 :=
  typeName_ptr_named (nm := "errors.errorString") (by rw [starS]; kernel_rfl) (by kernel_rfl) (by decide) u (by rw [starS]; exact h)
theorem gE1 : Tryz.prog.globalNamed "loop.example/decisiontables/impl.errNone" = some 1 := by kernel_rfl
theorem gE2 : Tryz.prog.globalNamed "loop.example/decisiontables/impl.errConflict" = some 2 := by kernel_rfl
theorem gE3 : Tryz.prog.globalNamed "loop.example/decisiontables/impl.errInvalid" = some 0 := by kernel_rfl
theorem tE1 : (Tryz.prog.globals[1]?).map (·.type) = some 97 := by kernel_rfl
theorem tE2 : (Tryz.prog.globals[2]?).map (·.type) = some 97 := by kernel_rfl
theorem tE3 : (Tryz.prog.globals[0]?).map (·.type) = some 97 := by kernel_rfl
theorem cE : Tryz.prog.cellsOf 178 = 1 := by kernel_rfl
theorem cS : Tryz.prog.cellsOf 9 = 1 := by kernel_rfl
theorem laid_drop2 {P : Program} {x y : String × DataW Unit} {r : List (String × DataW Unit)} {w : World} (h : laidMet P (x :: y :: r) w) : laidMet P (x :: r) w := by
  obtain ⟨ps, hv, hnd, hrows⟩ := h
  obtain ⟨n, d⟩ := x
  obtain ⟨n2, d2⟩ := y
  obtain ⟨g, t, cs, fuel, p, q, h1, h2, h3, h4, ⟨g2, t2, cs2, f2, p2, q2, _, _, _, _, hq, e2⟩, e⟩ := hv
  subst e2
  subst e
  refine ⟨_, ⟨g, t, cs, fuel, p, q2, h1, h2, h3, h4, hq, rfl⟩, List.Nodup.sublist (List.Sublist.append (List.Sublist.refl _) (List.sublist_append_right _ _)) hnd, fun b off hm => hrows b off ?_⟩
  rw [List.mem_append] at hm ⊢
  exact hm.imp id (fun h => List.mem_append_right _ h)
theorem row_grown {W W' : World} {k : Nat} {c : Array Value} {t : TypeId} (h : W.heap[k]? = some (.cells c t (0, 0))) (hb : Below W.heap.size W W') : ∃ c t, W'.heap[k]? = some (.cells c t (0, 0)) :=
  ⟨c, t, by rw [hb.block k (Array.getElem?_eq_some_iff.1 h).1]; exact h⟩
theorem cell_grown {W W' : World} {p : Addr} {v : Value} (h : W.cell? p = some v) (hb : Below W.heap.size W W') : W'.cell? p = some v := by
  have hlt : p.block < W.heap.size := by
    rcases Nat.lt_or_ge p.block W.heap.size with h1 | h1
    · exact h1
    · exfalso
      simp [World.cell?, Array.getElem?_eq_none h1] at h
  exact (hb.cell hlt).trans h
/-- What the row lists of the three errors. -/
theorem ends_of_laid {W : World} {t1 t2 t3 : List UInt8} {r : List (String × DataW Unit)}
    (h : laidMet Tryz.prog (("loop.example/decisiontables/impl.errNone", .iface "*errors.errorString" (.ptr (.agg [.lit (.string t1)]))) :: ("loop.example/decisiontables/impl.errConflict", .iface "*errors.errorString" (.ptr (.agg [.lit (.string t2)]))) :: ("loop.example/decisiontables/impl.errInvalid", .iface "*errors.errorString" (.ptr (.agg [.lit (.string t3)]))) :: r) W) :
    ∃ a1 a2 a3, EndsIs W a1 a2 a3 := by
  obtain ⟨a1, a2, _, _, c1, c2, u1, u2, v1, v2, _, _, _, _, _, _, n12, b1, b2⟩ := laid_sentinels2 h gE1 tE1 gE2 tE2 Tryz.underlying97 rowS Tryz.underlying150 Tryz.underlying178 rfl rfl Tryz.underlying9 cE cS
  obtain ⟨a1', a3, _, _, c1', c3, u1', u3, v1', v3, _, _, _, _, _, _, n13, _, b3⟩ := laid_sentinels2 (laid_drop2 h) gE1 tE1 gE3 tE3 Tryz.underlying97 rowS Tryz.underlying150 Tryz.underlying178 rfl rfl Tryz.underlying9 cE cS
  obtain ⟨a2', a3', _, _, _, _, _, _, v2', v3', _, _, _, _, _, _, n23, _, _⟩ := laid_sentinels2 h.tail gE2 tE2 gE3 tE3 Tryz.underlying97 rowS Tryz.underlying150 Tryz.underlying178 rfl rfl Tryz.underlying9 cE cS
  have e1 : a1 = a1' := by have := v1.symm.trans v1'; simpa using this
  have e2 : a2 = a2' := by have := v2.symm.trans v2'; simpa using this
  have e3 : a3 = a3' := by have := v3.symm.trans v3'; simpa using this
  subst e1 e2 e3
  have k1 : W.cell? ⟨1, 0, none⟩ = some (.iface 150 (.pointer (some a1))) := by simpa using World.var?_cell gE1 v1 0
  have k2 : W.cell? ⟨2, 0, none⟩ = some (.iface 150 (.pointer (some a2))) := by simpa using World.var?_cell gE2 v2 0
  have k3 : W.cell? ⟨0, 0, none⟩ = some (.iface 150 (.pointer (some a3))) := by simpa using World.var?_cell gE3 v3 0
  exact ⟨a1, a2, a3, fun w' hb => cell_grown k1 hb, fun w' hb => cell_grown k2 hb, fun w' hb => cell_grown k3 hb, n12, n13, n23, fun w' hb => row_grown b1 hb, fun w' hb => row_grown b2 hb, fun w' hb => row_grown b3 hb⟩
theorem vars3 {H : Type} {enc : TypeId × Value → H} {W : World} {n1 n2 n3 : String} {sp : Nat → Bool} {gs : List (DataW H)} {q : List MemPlace} (h : DataW.TrodVars enc Tryz.prog W sp [n1, n2, n3] gs q) : ∃ g1 g2 g3, gs = [g1, g2, g3] := by
  match gs, h with
  | [], h => exact h.elim
  | [_], ⟨_, _, _, _, _, _, _, _, _, _, h, _⟩ => exact h.elim
  | [_, _], ⟨_, _, _, _, _, _, _, _, _, _, ⟨_, _, _, _, _, _, _, _, _, _, h, _⟩, _⟩ => exact h.elim
  | [a, b, c], _ => exact ⟨a, b, c, rfl⟩
  | _ :: _ :: _ :: _ :: _, ⟨_, _, _, _, _, _, _, _, _, _, ⟨_, _, _, _, _, _, _, _, _, _, ⟨_, _, _, _, _, _, _, _, _, _, h, _⟩, _⟩, _⟩ => exact h.elim
end Go.Proofs.YtamfmemdhldmjaaGreatDoor
