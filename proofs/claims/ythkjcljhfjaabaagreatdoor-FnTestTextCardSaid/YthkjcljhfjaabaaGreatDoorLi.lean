/-
  What the library's variables hold, from the rows' conditions and the world's shape; a frame for rows that list variables.
-/
import Derived.Test.YthkjcljhfjaabaaGreatDoorRows
import Derived.Test.YthkjcljhfjaabaaGreatDoorOn
import Derived.Test.YthkjcljhfjaabaaGreatDoorTb
import Derived.Handed
import Derived.Lay
import Derived.LaidLaws
import Derived.Lib.LaidTab
import Derived.Stop.LaidErr
import Derived.MakeChecks
import Derived.Shelf.Vars
import Derived.SizedLaws
import Derived.ProofKit
import Derived.OpenShut
import Derived.ChangeOld
namespace Go.Proofs.YthkjcljhfjaabaaGreatDoor
open Go.ChangeShapes Go.WideShapes Go.ChangeAt Go.RowKit Sets

/-- The library's greatest length of a quick search is some number, now and in whatever world grows out of this one. -/
def MaxIs (w : World) : Prop := ∃ m, ∀ w', Below w.heap.size w w' → w'.cell? ⟨0, 0, none⟩ = some (.int .i64 m)
theorem MaxIs.step {w w' : World} (h : MaxIs w) (hb : Below w.heap.size w w') : MaxIs w' :=
  let ⟨m, hm⟩ := h; ⟨m, fun w2 h2 => hm w2 (hb.trans (h2.mono hb.size))⟩
theorem MaxIs.here {w : World} (h : MaxIs w) : ∃ m, w.cell? ⟨0, 0, none⟩ = some (.int .i64 m) :=
  let ⟨m, hm⟩ := h; ⟨m, hm w (Below.refl _ _)⟩
def LibIs (w : World) : Prop := PowIs w ∧ MaxIs w
theorem LibIs.step {w w' : World} (h : LibIs w) (hb : Below w.heap.size w w') : LibIs w' := ⟨h.1.step hb, h.2.step hb⟩
theorem LibIs.stepB {w w' : World} {B : Nat} (h : LibIs w) (hb : Below B w w') (hB : B = w.heap.size) : LibIs w' := h.step (hB ▸ hb)

theorem cell_lt {w : World} {b o : Nat} {v : Value} (h : w.cell? ⟨b, o, none⟩ = some v) : b < w.heap.size := by
  rcases Nat.lt_or_ge b w.heap.size with h1 | h1
  · exact h1
  · exfalso
    simp [World.cell?, Array.getElem?_eq_none h1] at h
theorem maxIs_of_shape {w : World} (h : w.ShapedOpen Tryz.prog) : MaxIs w := by
  obtain ⟨m, hm⟩ := cell_of_shapedOpen_int (g := 0) (t := 3) (zero := #[.int .i64 0]) (k := .i64) h (of_decide_eq_true (by kernel_rfl)) (by kernel_rfl) rfl (by kernel_rfl) (by kernel_rfl) Tryz.underlying3
  exact ⟨m, fun w' hb => (hb.cell (p := ⟨0, 0, none⟩) (cell_lt hm)).trans hm⟩
theorem powTab_eq : (Rows.laid_internal_strconv_uint64pow10 : DataW Unit) = Lib.tabData .u64 Lib.pow10Tab := by kernel_rfl
theorem powIs_of_laid {w : World} {rest : List (String × DataW Unit)} (h : laidMet Tryz.prog (("internal/strconv.uint64pow10", Rows.laid_internal_strconv_uint64pow10) :: rest) w) : PowIs w := by
  rw [powTab_eq] at h
  exact Lib.tabBelow_of_tabIs (Lib.tabIs_of_head (g := 1) (t := 156) (e := 141) (n := 20) (by kernel_rfl) (by kernel_rfl) Tryz.underlying156 Tryz.underlying141 (by kernel_rfl) (by kernel_rfl) h)


set_option maxRecDepth 100000 in
/-- A row's contract, from what the row lists and the world's shape. -/
theorem returns_listed {H : Type} {enc : TypeId × Value → H} {os : Os} {f : FuncId} {fn : Func} {s : ChangeSpec} {laid : List (String × DataW Unit)} (started : os.Started)
    (noInit : Tryz.checked.prog.inits.idxOf? f = none) (hfn : Tryz.checked.prog.funcs[f]? = some fn)
    (hplain : (laid.all fun x => x.2.handleName?.isNone) = true)
    (witness : ∃ (w : World) (tape : Tape) (i : Input), w.os = os ∧ (w.forCall tape i).Shaped Tryz.checked.prog ∧ i.vars = [] ∧ Input.okWide Tryz.checked.prog (w.forCall tape i) .any w.heap.size f i ∧
      ((s.pre enc Tryz.checked.prog fn [] false (w.forCall tape i).memory i.args ∧ laidMetH Tryz.prog laid (w.forCall tape i).memory) ∧ sizedMet enc Tryz.checked.prog fn (OpenSpec.ofChange s) false (w.forCall tape i).memory i.args) ∧ Assume.holds {} Tryz.checked.prog (lone (Frame.enter Tryz.checked.prog f i.args .normal) [] (w.forCall tape i)))
    (contract : ∀ (W : World) (base : Nat) (args : Array Value) (ds gs : List (DataW H)) (before : List MemPlace),
      (∀ (j : Nat) t v, fn.params[j]? = some t → args[j]? = some v → Value.okWide Tryz.prog W .any base t v) →
      DataW.Whole enc Tryz.prog fn.params.toList s.vars false W args.toList ds gs before → laidMet Tryz.prog laid W → W.ShapedOpen Tryz.prog →
      Calls Tryz.prog f args W fun e W' => ∃ v, e = .returned v ∧ s.post enc Tryz.prog fn false true false false W args v W') :
    ReturnsInHanded {} Tryz.checked os f .any (fun w args => (s.pre enc Tryz.prog fn [] false w args ∧ laidMetH Tryz.prog laid w) ∧ sizedMet enc Tryz.prog fn (OpenSpec.ofChange s) false w args) (s.post enc Tryz.prog fn false true false false) := by
  refine returnsInHanded_of_calls own started noInit witness ?_
  intro w tape i _ hsh _ hok hpre _
  obtain ⟨_, _, _, fn', hfn', _, _, _, _, hval⟩ := hok
  obtain rfl : fn' = fn := Option.some.inj (hfn'.symm.trans hfn)
  obtain ⟨⟨⟨ds, gs, before, hw, _⟩, hx⟩, _⟩ := hpre
  rw [MakeChecks.laidMetH_plain _ _ _ hplain] at hx
  refine (contract (w.forCall tape i) w.heap.size i.args ds gs before hval (DataW.Whole.of_heap (w' := w.forCall tape i) (by rfl) hw) (laidMet.of_heap (w := (w.forCall tape i).memory) (w' := w.forCall tape i) (by rfl) hx) hsh).mono fun e W' ⟨v, he, hp⟩ => ?_
  subst he
  exact ChangeSpec.post_blind hp
end Go.Proofs.YthkjcljhfjaabaaGreatDoor
