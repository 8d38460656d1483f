/-
  Results in memory: copies, sizes, equality.
-/
import Derived.Test.YtamfmemdhldmjaaGreatDoorUaM
import Derived.Test.YtamfmemdhldmjaaGreatDoorUgM
namespace Go.Proofs.YtamfmemdhldmjaaGreatDoor
open Go.RowKit Sets

abbrev Rs := Int × List Int
/-- A value that is a result. -/
def ResAt (w : World) (B : Nat) (v : Value) (r : Rs) : Prop := ∃ A c, v = .agg #[.int .i64 r.1, .slice A r.2.length c] ∧ IntsAt w B A c r.2
theorem ResAt.below {w w' : World} {B : Nat} {v : Value} {r : Rs} (h : ResAt w B v r) (hb : Below B w w') : ResAt w' B v r := by
  obtain ⟨A, c, hv, h1⟩ := h
  exact ⟨A, c, hv, h1.below hb⟩
theorem ResAt.mono {w : World} {B B' : Nat} {v : Value} {r : Rs} (h : ResAt w B v r) (hb : B ≤ B') : ResAt w B' v r := by
  obtain ⟨A, c, hv, h1⟩ := h
  exact ⟨A, c, hv, h1.mono hb⟩
theorem ResAt.step {w w' : World} {v : Value} {r : Rs} (h : ResAt w w.heap.size v r) (hb : Below w.heap.size w w') : ResAt w' w'.heap.size v r := (h.below hb).mono hb.size
/-- A block that holds the two cells of a result. -/
def RBox (w : World) (g : Nat) (x : Int) (A : Option Addr) (n c : Nat) : Prop :=
  w.cell? ⟨g, 0, none⟩ = some (.int .i64 x) ∧ w.cell? ⟨g, 1, none⟩ = some (.slice A n c) ∧ g < w.heap.size
theorem RBox.made (w : World) (x : Int) (A : Option Addr) (n c : Nat) (t : TypeId) : RBox (w.alloc (.cells #[.int .i64 x, .slice A n c] t)) w.heap.size x A n c := by
  refine ⟨?_, ?_, by simp⟩ <;> (rw [World.cell?_alloc_new]; rfl)
theorem RBox.step {w w' : World} {g : Nat} {x : Int} {A : Option Addr} {n c : Nat} (h : RBox w g x A n c) (hb : Below w.heap.size w w') : RBox w' g x A n c :=
  ⟨(hb.cell (p := ⟨g, 0, none⟩) h.2.2).trans h.1, (hb.cell (p := ⟨g, 1, none⟩) h.2.2).trans h.2.1, Nat.lt_of_lt_of_le h.2.2 hb.size⟩

def iEq (xs ys : List Int) (k : Nat) : Bool := xs.getD k 0 == ys.getD k 0
def isB (xs ys : List Int) : Bool := decide (xs.length = ys.length) && (List.range xs.length).all (iEq xs ys)
/-- the two results are equal -/
def resB (a b : Rs) : Bool := (a.1 == b.1) && isB a.2 b.2

set_option maxRecDepth 100000 in
theorem eqResult_same (v1 v2 : Value) (r : Rs) (w : World) (h1 : ResAt w w.heap.size v1 r) (h2 : ResAt w w.heap.size v2 r) :
    Calls Tryz.prog 10 #[v1, v2] w fun e w' => e = .returned (.bool true) ∧ Below w.heap.size w w' := by
  obtain ⟨A1, c1, rfl, hI1⟩ := h1
  obtain ⟨A2, c2, rfl, hI2⟩ := h2
  obtain ⟨x, ns⟩ := r
  simp only [] at hI1 hI2 ⊢
  obtain ⟨W, hW⟩ : ∃ W, W = (w.alloc (.cells #[.int .i64 x, .slice A1 ns.length c1] 29)).alloc (.cells #[.int .i64 x, .slice A2 ns.length c2] 29) := ⟨_, rfl⟩
  obtain ⟨x1, x2, bW, zW⟩ := two_blocks w _ _ _ _ W hW
  clear x1 x2 zW
  have BW := Lib.hid bW
  have H1 := Lib.hid hI1
  have H2 := Lib.hid hI2
  clear bW hI1 hI2
  have hxx : (x != x) = false := by simp
  go_enter Tryz.func10, Tryz.ntmps10
  go_wp2_with fail
  rw [← hW]
  clear hW
  refine (eqIntS_same A1 A2 c1 c2 ns _ (H1.out.step BW.out) (H2.out.step BW.out)).mono ?_
  rintro e w1 ⟨rfl, b1⟩
  have B1 := Lib.hid (BW.out.trans (b1.mono BW.out.size))
  clear b1
  go_wp2
  go_ret
  exact ⟨rfl, B1.out⟩

end Go.Proofs.YtamfmemdhldmjaaGreatDoor
