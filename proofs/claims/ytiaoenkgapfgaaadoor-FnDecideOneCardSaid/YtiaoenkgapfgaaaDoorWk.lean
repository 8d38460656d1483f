/-
  Marks of lists of numbers, and what they leave.
-/
import Derived.Test.YtiaoenkgapfgaaaDoorWe

namespace Go.Proofs.YtiaoenkgapfgaaaDoor
open Go.RowKit Sets

def marksN (k : Int) (n : Nat) : List Int := (List.range n).map fun (i : Nat) => k + (i : Int)
theorem marksN_len (k : Int) (n : Nat) : (marksN k n).length = n := by simp [marksN]
theorem marksN_at {k : Int} {n i : Nat} (hi : i < n) : (marksN k n).getD i 0 = k + i := by
  unfold marksN
  rw [List.getD_eq_getElem?_getD, List.getElem?_map, List.getElem?_range hi]; rfl
theorem marksN_fit {k : Int} {n : Nat} (h0 : 0 ≤ k) (h1 : k ≤ 4194304) (hn : n ≤ 1048576) : ∀ x ∈ marksN k n, I64 x := by
  intro x hx
  obtain ⟨i, hi, rfl⟩ := List.mem_map.1 hx
  have := List.mem_range.1 hi
  unfold I64; omega
/-- A list of the call's own, in a block from lo on and below hi. -/
def OwnR (w : World) (lo hi : Nat) (A : Option Addr) (c : Nat) (ns : List Int) : Prop := OwnN w lo A c ns ∧ (∀ g o s, A = some ⟨g, o, s⟩ → g < hi) ∧ hi ≤ w.heap.size
theorem OwnR.of {w : World} {base : Nat} {A : Option Addr} {c : Nat} {ns : List Int} (h : OwnN w base A c ns) : OwnR w base w.heap.size A c ns := ⟨h, fun g o s e => (h.2.2.2.1 g o s e).2, Nat.le_refl _⟩
theorem OwnR.step {w w' : World} {lo hi : Nat} {A : Option Addr} {c : Nat} {ns : List Int} (h : OwnR w lo hi A c ns) (hb : Below w.heap.size w w') : OwnR w' lo hi A c ns := ⟨h.1.step hb, h.2.1, Nat.le_trans h.2.2 hb.size⟩
theorem OwnR.copy {w : World} {g : Nat} {ns : List Int} (hr : IntRow w g ns ns.length) (ho : OwnBlk w g ns.length) (hf : ∀ x ∈ ns, I64 x) (hn : ns.length ≤ 1048576) : OwnR w g (g + 1) (some ⟨g, 0, none⟩) ns.length ns :=
  ⟨⟨Nat.le_refl _, by omega, hf, (fun g' o s e => by injection e with e; injection e with e1 _; subst e1; exact ⟨Nat.le_refl _, ho.2.2⟩), .inr ⟨g, rfl, hr, ho⟩⟩, (fun g' o s e => by injection e with e; injection e with e1 _; omega), ho.2.2⟩
/-- At most the block of one slice has turned. -/
def Turned (w w' : World) (A : Option Addr) : Prop := ∃ row : Option Nat, (∀ g, row = some g → A = some ⟨g, 0, none⟩) ∧ w.grownBy w' row
theorem Turned.size {w w' : World} {A : Option Addr} (h : Turned w w' A) : w.heap.size ≤ w'.heap.size := by obtain ⟨_, _, hg⟩ := h; exact hg.size
theorem Turned.blk {w w' : World} {A : Option Addr} (h : Turned w w' A) {k : Nat} (hk : k < w.heap.size) (hne : ∀ g, A = some ⟨g, 0, none⟩ → g ≠ k) : w'.heap[k]? = w.heap[k]? := by
  obtain ⟨row, hr, hg⟩ := h
  exact hg.block k hk (fun e => hne k (hr k e.symm) rfl)
theorem Turned.own {w w' : World} {lo hi : Nat} {A A' : Option Addr} {c : Nat} {ns : List Int} (h : Turned w w' A) (ho : OwnR w lo hi A' c ns) (hd : ∀ g, A = some ⟨g, 0, none⟩ → g < lo ∨ hi ≤ g) : OwnR w' lo hi A' c ns := by
  obtain ⟨⟨h1, h2, h3, h4, h5⟩, h6, h7⟩ := ho
  refine ⟨⟨h1, h2, h3, fun g o s e => ⟨(h4 g o s e).1, Nat.lt_of_lt_of_le (h4 g o s e).2 h.size⟩, h5.imp id ?_⟩, h6, Nat.le_trans h7 h.size⟩
  rintro ⟨g, e, hr, hb⟩
  have hk := h.blk hb.2.2 (fun g' e' => by have := hd g' e'; have := h6 g 0 none e; have := (h4 g 0 none e).1; omega)
  exact ⟨g, e, fun i hi => by rw [World.cell?_of_block (a := ⟨g, i, none⟩) hk]; exact hr i hi, fun o ho => by rw [World.cell?_of_block (a := ⟨g, o, none⟩) hk]; exact hb.1 o ho, fun o => by rw [World.frozen?_of_block (a := ⟨g, o, none⟩) hk]; exact hb.2.1 o, Nat.lt_of_lt_of_le hb.2.2 h.size⟩
theorem Turned.rbox {w w' : World} {A A' : Option Addr} {g n c : Nat} {x : Int} (h : Turned w w' A) (hb : RBox w g x A' n c) (hd : ∀ g', A = some ⟨g', 0, none⟩ → g' ≠ g) : RBox w' g x A' n c := by
  have hk := h.blk hb.2.2 hd
  exact ⟨by rw [World.cell?_of_block (a := ⟨g, 0, none⟩) hk]; exact hb.1, by rw [World.cell?_of_block (a := ⟨g, 1, none⟩) hk]; exact hb.2.1, Nat.lt_of_lt_of_le hb.2.2 h.size⟩
theorem Turned.bel {w w' w0 : World} {B : Nat} {A : Option Addr} (h : Turned w w' A) (hb : Below B w0 w) (hB : B ≤ w.heap.size) (hd : ∀ g, A = some ⟨g, 0, none⟩ → B ≤ g) : Below B w0 w' := by
  obtain ⟨row, hr, hg⟩ := h
  exact hb.trans ((Below.refl _ _).grown hg hB (fun k e => hd k (hr k e)))

theorem grownBy_cell {w a : World} {g : Nat} (h : w.grownBy a (some g)) (o : Nat) (v : Value) : w.grownBy (a.setCell ⟨g, o, none⟩ v) (some g) :=
  ⟨h.os, h.tape, h.output, by simpa [World.setCell] using h.size, fun k hk hne => by
    have hkg : k ≠ g := fun e => hne (by rw [e])
    rw [Below.heap_setCell _ _ _ _ hkg]
    exact h.block k hk hne⟩

end Go.Proofs.YtiaoenkgapfgaaaDoor
