/-
  Two spans compared by == and !=.
-/
import Derived.Test.YtppciomdbabepaaDoorRd
namespace Go.Proofs.YtppciomdbabepaaDoor
open Go.RowKit Sets

theorem fields_of {l : List Field} {n0 n1 : String} {t0 t1 o0 o1 : Nat} (h : l.map (fun f => (f.name, f.type, f.offset)) = [(n0, t0, o0), (n1, t1, o1)]) :
    ∃ f g, l = [f, g] ∧ f.name = n0 ∧ f.type = t0 ∧ f.offset = o0 ∧ g.name = n1 ∧ g.type = t1 ∧ g.offset = o1 := by
  match l, h with
  | [f, g], h =>
    simp only [List.map_cons, List.map_nil, List.cons.injEq, Prod.mk.injEq, and_true] at h
    exact ⟨f, g, rfl, h.1.1, h.1.2.1, h.1.2.2, h.2.1, h.2.2.1, h.2.2.2⟩

end Go.Proofs.YtppciomdbabepaaDoor
