/-
  A range over an iterator that keeps its place in a box of its own: what the caller owes, and what it gets.
-/
import Derived.Test.YthkjcljhfjaabaaGreatDoorIt
namespace Go.Proofs.YthkjcljhfjaabaaGreatDoor
open Go.RowKit

/-- what a step of the iterator leaves: block b may have turned, new blocks may have come -/
def StabB {β : Type} (b : Nat) (J : β → World → Prop) : Prop := ∀ s A B, J s A → A.grownBy B (some b) → J s B
/-- the blocks from lo on, below hi, lie as they lay -/
def KeepsB (lo hi : Nat) (A B : World) : Prop := A.heap.size ≤ B.heap.size ∧ ∀ k, lo ≤ k → k < hi → B.heap[k]? = A.heap[k]?
theorem KeepsB.refl (lo hi : Nat) (A : World) : KeepsB lo hi A A := ⟨Nat.le_refl _, fun _ _ _ => rfl⟩
theorem KeepsB.trans {lo hi : Nat} {A B C : World} (h : KeepsB lo hi A B) (k : KeepsB lo hi B C) : KeepsB lo hi A C :=
  ⟨Nat.le_trans h.1 k.1, fun i h1 h2 => (k.2 i h1 h2).trans (h.2 i h1 h2)⟩
theorem KeepsB.put {lo hi l : Nat} (A : World) (o : Obj) (h : hi ≤ l) : KeepsB lo hi A (A.putObj l o) := ⟨by simp, fun _ _ h2 => World.putObj_heap_other (by omega)⟩
theorem KeepsB.below {lo hi : Nat} {A B : World} (h : Below A.heap.size A B) (hh : hi ≤ A.heap.size) : KeepsB lo hi A B := ⟨h.size, fun k _ h2 => h.block k (by omega)⟩
theorem KeepsB.cell {lo hi k o : Nat} {A B : World} (h : KeepsB lo hi A B) (h1 : lo ≤ k) (h2 : k < hi) : B.cell? ⟨k, o, none⟩ = A.cell? ⟨k, o, none⟩ := World.cell?_of_block (w := A) (h.2 k h1 h2)
theorem KeepsB.frozen {lo hi k o : Nat} {A B : World} (h : KeepsB lo hi A B) (h1 : lo ≤ k) (h2 : k < hi) : B.frozen? ⟨k, o, none⟩ = A.frozen? ⟨k, o, none⟩ := World.frozen?_of_block (w := A) (h.2 k h1 h2)

/-- the iterator's promise: it hands over what Sa says, unless a round says 'no more' -/
def SeqBox {α : Type} (F : Fence) (n : Nat) (P : Program) (g : Nat) (lb : Array Value) (encs : α → Array Value) (lo hi b : Nat) (Sa Sp : List α → Prop) (w : World) : Prop :=
  ∀ (l : Nat) (J Jx : List α → World → Prop) (W : World), KeepsB lo hi w W → StabB b J → StabB b Jx →
    (∀ pre x W1, J pre W1 → Sp (pre ++ [x]) → YieldAt F (n - 1) P l (encs x) W1 fun e W' =>
      (e = .returned (.bool true) ∧ J (pre ++ [x]) W' ∧ KeepsB lo hi W1 W') ∨ (e = .returned (.bool false) ∧ Jx (pre ++ [x]) W')) →
    J [] W →
    CallsIn F n P g (#[.func (.yield l) #[] #[]] ++ lb) W fun e W' => (∃ v, e = .returned v) ∧ ((∃ xs, Sa xs ∧ J xs W') ∨ (∃ pre, Sp pre ∧ Jx pre W'))

/-- how a round may end -/
def boxPost {α : Type} (lo hi : Nat) (I Ix : List α → World → Prop) (xs : List α) (W : World) : Exit → Act → World → Prop
  | .normal, _, W' => KeepsOthers W W' ∧ KeepsB lo hi W W' ∧ I xs W'
  | .ret, _, W' => KeepsOthers W W' ∧ Ix xs W'
  | _, _, _ => False

/-- the two blocks that the statement lays for itself -/
def Books (K : Nat) (r : Loop) (W : World) : Prop := W.heap[K + 1]? = some (.loop r) ∧ W.heap[K]? = some (.deferred (some []))
theorem Books.stab {K b : Nat} {r : Loop} {A B : World} (h : Books K r A) (hg : A.grownBy B (some b)) (hb : b < K) : Books K r B := by
  obtain ⟨h1, h2⟩ := h
  have l1 := (Array.getElem?_eq_some_iff.1 h1).1
  exact ⟨(hg.block _ l1 (by simp; omega)).trans h1, (hg.block _ (by omega) (by simp; omega)).trans h2⟩
theorem Books.others {K : Nat} {r : Loop} {A B : World} (h : Books K r A) (k : KeepsOthers A B) : Books K r B := ⟨k.same _ _ h.1 rfl, k.same _ _ h.2 rfl⟩
theorem Books.put {K : Nat} {r : Loop} {A : World} (h : Books K r A) (r' : Loop) : Books K r' (A.putObj (K + 1) (.loop r')) :=
  ⟨World.putObj_heap_same (Array.getElem?_eq_some_iff.1 h.1).1, (World.putObj_heap_other (by omega)).trans h.2⟩
theorem Books.new (w : World) (r : Loop) : Books w.heap.size r ((w.alloc (.deferred (some []))).alloc (.loop r)) := by
  have h := World.alloc_heap_new (w.alloc (.deferred (some []))) (.loop r)
  rw [World.size_alloc] at h
  exact ⟨h, (Below.heap_alloc _ _ _ (by simp)).trans (World.alloc_heap_new w _)⟩

variable {F : Fence} {n : Nat} {P : Program}

set_option maxHeartbeats 1000000 in
theorem rangeFunc_box {α : Type} {g : Operand} {ps : Array Tmp} {assign body : Code} {Q : Exit → Act → World → Prop} {a : Act} {w : World}
    (hro : F.round = none) (h1 : 1 ≤ n) {gf : Nat} {lb : Array Value} (hg : a.eval g = .func (.func gf) #[] lb) (hFg : F.fn gf) (eg : ∀ args w, (callFunc gf args).run P w = .ok (.enter gf args) w)
    {encs : α → Array Value} {lo hi b : Nat} {Sa Sp : List α → Prop} (hseq : SeqBox F (n - 1) P gf lb encs lo hi b Sa Sp w) (hhi : hi ≤ w.heap.size) (hb : b < w.heap.size) (hps : ∀ x, (encs x).size = ps.size)
    (I Ix : List α → World → Prop) (hI : OwnFrom w.heap.size I) (hIx : OwnFrom w.heap.size Ix) (hIb : StabB b I) (hIxb : StabB b Ix) (h0 : I [] w) (a₁ : α → Act)
    (hassign : ∀ (l : Nat) (x : α) (W : World) (K : Act → World → Prop), K (a₁ x) W →
      assign.wpIn (F.inRound l) (n - 1 - 1) P (Exit.then K (fun _ _ _ => False)) { tmps := (ps.zip (encs x)).foldl (fun t (p, v) => t.setIfInBounds p v) a.tmps, defers := [] } W)
    (hbody : ∀ (l : Nat) (pre : List α) (x : α) (W : World), I pre W → Sp (pre ++ [x]) → w.heap.size ≤ W.heap.size → body.wpIn (F.inRound l) (n - 1 - 1) P (boxPost lo hi I Ix (pre ++ [x]) W) (a₁ x) W)
    (hdone : ∀ (D : Nat) (xs : List α) (W : World), w.heap.size ≤ D → Sa xs → I xs W → W.heap[D]? = some (.deferred (some [])) → Q .normal { a with defers := { target := .collected D, args := #[] } :: a.defers } W)
    (hstop : ∀ (D : Nat) (pre : List α) (W : World), w.heap.size ≤ D → Sp pre → Ix pre W → W.heap[D]? = some (.deferred (some [])) → Code.ret.wpIn F n P Q { a with defers := { target := .collected D, args := #[] } :: a.defers } W) :
    (Code.rangeFunc g ps assign body).wpIn F n P Q a w := by
  refine wpIn_rangeFunc fun fn hfn => ?_
  rw [hro]
  have hE := run_enterLoop_outer (P := P) (w := w) fn a.tmps ps assign body
  have hB := Books.new w { state := .ready, pending := none, fn, tmps := a.tmps, params := ps, assign, body, defers := w.heap.size }
  have hI1 := hI.alloc (.loop { state := .ready, pending := none, fn, tmps := a.tmps, params := ps, assign, body, defers := w.heap.size }) (hI.alloc (.deferred (some [])) h0)
  have hK1 : KeepsB lo hi w ((w.alloc (.deferred (some []))).alloc (.loop { state := .ready, pending := none, fn, tmps := a.tmps, params := ps, assign, body, defers := w.heap.size })) :=
    KeepsB.below (((Below.refl _ w).alloc (Nat.le_refl _) _).alloc (by simp) _) hhi
  generalize (w.alloc (.deferred (some []))).alloc (.loop { state := .ready, pending := none, fn, tmps := a.tmps, params := ps, assign, body, defers := w.heap.size }) = W1 at hE hB hI1 hK1
  refine ⟨w.heap.size + 1, _, W1, { target := .fn (.func gf) lb, args := #[.func (.yield (w.heap.size + 1)) #[] #[]] }, W1, gf, #[.func (.yield (w.heap.size + 1)) #[] #[]] ++ lb, W1, hE, ?_, ?_, ?_, fun _ => h1, ?_⟩
  · simp only [resolve, hg]
    simp [go_sem]
  · intro f' hf'
    simp [Target.leads] at hf'
    subst hf'
    exact hFg
  · simp [invoke, go_sem, eg]
  · refine (hseq (w.heap.size + 1)
      (fun pre W => (I pre W ∧ w.heap.size ≤ W.heap.size) ∧ Books w.heap.size { state := .ready, pending := none, fn, tmps := a.tmps, params := ps, assign, body, defers := w.heap.size } W)
      (fun pre W => Ix pre W ∧ Books w.heap.size { state := .done, pending := some .ret, fn, tmps := a.tmps, params := ps, assign, body, defers := w.heap.size } W)
      W1 hK1 (fun s A B hs hg => ⟨⟨hIb s A B hs.1.1 hg, Nat.le_trans hs.1.2 hg.size⟩, hs.2.stab hg hb⟩) (fun s A B hs hg => ⟨hIxb s A B hs.1 hg, hs.2.stab hg hb⟩) ?_ ⟨⟨hI1, hK1.1⟩, hB⟩).mono ?_
    · rintro pre x W ⟨⟨hi0, hsz⟩, hk⟩ hlen
      refine ⟨fn, _, assign, body, run_yield (P := P) (args := encs x) hk.1 (hps x), roundIn_of_wpIn hfn (hassign _ x W _ ⟨_, run_beginRound hk.1 rfl, ?_⟩)⟩
      have hk2 := hk.put { state := .busy, pending := none, fn, tmps := a.tmps, params := ps, assign, body, defers := w.heap.size }
      have kb2 : KeepsB lo hi W (W.putObj (w.heap.size + 1) (.loop { state := .busy, pending := none, fn, tmps := a.tmps, params := ps, assign, body, defers := w.heap.size })) := KeepsB.put W _ (by omega)
      have hi2 := hI.putObj (.loop { state := .busy, pending := none, fn, tmps := a.tmps, params := ps, assign, body, defers := w.heap.size }) hi0 (by omega : w.heap.size ≤ w.heap.size + 1) hk.1 rfl
      refine wpIn_mono (hbody _ pre x _ hi2 hlen (Nat.le_trans hsz kb2.1)) ?_
      rintro e a3 W3 hp
      cases e with
      | normal =>
        obtain ⟨ho, hkb, hi3⟩ := hp
        have hk3 := hk2.others ho
        exact ⟨_, _, run_endRound none hk3.1, .inl ⟨rfl, ⟨⟨hI.putObj _ hi3 (by omega) hk3.1 rfl, by rw [World.putObj_size]; exact Nat.le_trans hsz (Nat.le_trans kb2.1 hkb.1)⟩, hk3.put _⟩, (kb2.trans hkb).trans (KeepsB.put W3 _ (by omega))⟩⟩
      | ret =>
        obtain ⟨ho, hi3⟩ := hp
        have hk3 := hk2.others ho
        exact ⟨_, _, run_endRound (some .ret) hk3.1, .inr ⟨rfl, hIx.putObj _ hi3 (by omega) hk3.1 rfl, hk3.put _⟩⟩
      | exit id => exact hp.elim
      | goto t => exact hp.elim
      | panic ch => exact hp.elim
      | outgrown => exact hp.elim
    · rintro e W2 ⟨⟨v, rfl⟩, ⟨xs, hS, ⟨hi2, _⟩, hk⟩ | ⟨pre, hSp, hi2, hk⟩⟩
      · exact ⟨none, _, run_endLoop hk.1 (by simp), hdone _ xs _ (Nat.le_refl _) hS (hI.putObj _ hi2 (by omega) hk.1 rfl) ((World.putObj_heap_other (by omega)).trans hk.2)⟩
      · exact ⟨some .ret, _, run_endLoop hk.1 (by simp), hstop _ pre _ (Nat.le_refl _) hSp (hIx.putObj _ hi2 (by omega) hk.1 rfl) ((World.putObj_heap_other (by omega)).trans hk.2)⟩
end Go.Proofs.YthkjcljhfjaabaaGreatDoor
