/-
  A range over an iterator that keeps its place in a box of its own: what the caller owes, and what it gets.
-/
import Derived.Test.YthkjcljhfjaabaaGreatDoorIt
import Derived.Test.YthkjcljhfjaabaaGreatDoorKgM
import Derived.Test.YthkjcljhfjaabaaGreatDoorSh
namespace Go.Proofs.YthkjcljhfjaabaaGreatDoor
open Go.RowKit

/-- what a step of the iterator leaves: block b may have turned, new blocks may have come -/
def StabB {β : Type} (b : Nat) (J : β → World → Prop) : Prop := ∀ s A B, J s A → A.grownBy B (some b) → J s B
/-- the blocks from lo on, below hi, lie as they lay -/
def KeepsB (lo hi : Nat) (A B : World) : Prop := A.heap.size ≤ B.heap.size ∧ ∀ k, lo ≤ k → k < hi → B.heap[k]? = A.heap[k]?
theorem KeepsB.refl (lo hi : Nat) (A : World) : KeepsB lo hi A A := ⟨Nat.le_refl _, fun _ _ _ => rfl⟩
theorem KeepsB.trans {lo hi : Nat} {A B C : World} (h : KeepsB lo hi A B) (k : KeepsB lo hi B C) : KeepsB lo hi A C :=
  ⟨Nat.le_trans h.1 k.1, fun i h1 h2 => (k.2 i h1 h2).trans (h.2 i h1 h2)⟩
theorem KeepsB.put {lo hi l : Nat} (A : World) (o : Obj) (h : hi ≤ l) : KeepsB lo hi A (A.putObj l o) := ⟨by simp, fun _ _ h2 => World.putObj_heap_other (by omega)⟩
theorem KeepsB.below {lo hi : Nat} {A B : World} (h : Below A.heap.size A B) (hh : hi ≤ A.heap.size) : KeepsB lo hi A B := ⟨h.size, fun k _ h2 => h.block k (by omega)⟩
theorem KeepsB.cell {lo hi k o : Nat} {A B : World} (h : KeepsB lo hi A B) (h1 : lo ≤ k) (h2 : k < hi) : B.cell? ⟨k, o, none⟩ = A.cell? ⟨k, o, none⟩ := World.cell?_of_block (w := A) (h.2 k h1 h2)
theorem KeepsB.frozen {lo hi k o : Nat} {A B : World} (h : KeepsB lo hi A B) (h1 : lo ≤ k) (h2 : k < hi) : B.frozen? ⟨k, o, none⟩ = A.frozen? ⟨k, o, none⟩ := World.frozen?_of_block (w := A) (h.2 k h1 h2)

/-- the iterator's promise: it hands over what Sa says, unless a round says 'no more' -/
def SeqBox {α : Type} (F : Fence) (n : Nat) (P : Program) (g : Nat) (lb : Array Value) (encs : α → Array Value) (lo hi b : Nat) (Sa Sp : List α → Prop) (w : World) : Prop :=
  ∀ (l : Nat) (J Jx : List α → World → Prop) (W : World), KeepsB lo hi w W → StabB b J → StabB b Jx →
    (∀ pre x W1, J pre W1 → Sp (pre ++ [x]) → YieldAt F (n - 1) P l (encs x) W1 fun e W' =>
      (e = .returned (.bool true) ∧ J (pre ++ [x]) W' ∧ KeepsB lo hi W1 W') ∨ (e = .returned (.bool false) ∧ Jx (pre ++ [x]) W')) →
    J [] W →
    CallsIn F n P g (#[.func (.yield l) #[] #[]] ++ lb) W fun e W' => (∃ v, e = .returned v) ∧ ((∃ xs, Sa xs ∧ J xs W') ∨ (∃ pre, Sp pre ∧ Jx pre W'))

/-- how a round may end -/
def boxPost {α : Type} (lo hi : Nat) (I Ix : List α → World → Prop) (xs : List α) (W : World) : Exit → Act → World → Prop
  | .normal, _, W' => KeepsOthers W W' ∧ KeepsB lo hi W W' ∧ I xs W'
  | .ret, _, W' => KeepsOthers W W' ∧ Ix xs W'
  | _, _, _ => False

/-- the two blocks that the statement lays for itself -/
def Books (K : Nat) (r : Loop) (W : World) : Prop := W.heap[K + 1]? = some (.loop r) ∧ W.heap[K]? = some (.deferred (some []))
theorem Books.stab {K b : Nat} {r : Loop} {A B : World} (h : Books K r A) (hg : A.grownBy B (some b)) (hb : b < K) : Books K r B := by
  obtain ⟨h1, h2⟩ := h
  have l1 := (Array.getElem?_eq_some_iff.1 h1).1
  exact ⟨(hg.block _ l1 (by simp; omega)).trans h1, (hg.block _ (by omega) (by simp; omega)).trans h2⟩
theorem Books.others {K : Nat} {r : Loop} {A B : World} (h : Books K r A) (k : KeepsOthers A B) : Books K r B := ⟨k.same _ _ h.1 rfl, k.same _ _ h.2 rfl⟩
theorem Books.put {K : Nat} {r : Loop} {A : World} (h : Books K r A) (r' : Loop) : Books K r' (A.putObj (K + 1) (.loop r')) :=
  ⟨World.putObj_heap_same (Array.getElem?_eq_some_iff.1 h.1).1, (World.putObj_heap_other (by omega)).trans h.2⟩
theorem Books.new (w : World) (r : Loop) : Books w.heap.size r ((w.alloc (.deferred (some []))).alloc (.loop r)) := by
  have h := World.alloc_heap_new (w.alloc (.deferred (some []))) (.loop r)
  rw [World.size_alloc] at h
  exact ⟨h, (Below.heap_alloc _ _ _ (by simp)).trans (World.alloc_heap_new w _)⟩

variable {F : Fence} {n : Nat} {P : Program}

set_option maxHeartbeats 1000000 in
theorem rangeFunc_box {α : Type} {g : Operand} {ps : Array Tmp} {assign body : Code} {Q : Exit → Act → World → Prop} {a : Act} {w : World}
    (hro : F.round = none) (h1 : 1 ≤ n) {gf : Nat} {lb : Array Value} (hg : a.eval g = .func (.func gf) #[] lb) (hFg : F.fn gf) (eg : ∀ args w, (callFunc gf args).run P w = .ok (.enter gf args) w)
    {encs : α → Array Value} {lo hi b : Nat} {Sa Sp : List α → Prop} (hseq : SeqBox F (n - 1) P gf lb encs lo hi b Sa Sp w) (hhi : hi ≤ w.heap.size) (hb : b < w.heap.size) (hps : ∀ x, (encs x).size = ps.size)
    (I Ix : List α → World → Prop) (hI : OwnFrom w.heap.size I) (hIx : OwnFrom w.heap.size Ix) (hIb : StabB b I) (hIxb : StabB b Ix) (h0 : I [] w) (a₁ : α → Act)
    (hassign : ∀ (l : Nat) (x : α) (W : World) (K : Act → World → Prop), K (a₁ x) W →
      assign.wpIn (F.inRound l) (n - 1 - 1) P (Exit.then K (fun _ _ _ => False)) { tmps := (ps.zip (encs x)).foldl (fun t (p, v) => t.setIfInBounds p v) a.tmps, defers := [] } W)
    (hbody : ∀ (l : Nat) (pre : List α) (x : α) (W : World), I pre W → Sp (pre ++ [x]) → w.heap.size ≤ W.heap.size → body.wpIn (F.inRound l) (n - 1 - 1) P (boxPost lo hi I Ix (pre ++ [x]) W) (a₁ x) W)
    (hdone : ∀ (D : Nat) (xs : List α) (W : World), w.heap.size ≤ D → Sa xs → I xs W → W.heap[D]? = some (.deferred (some [])) → Q .normal { a with defers := { target := .collected D, args := #[] } :: a.defers } W)
    (hstop : ∀ (D : Nat) (pre : List α) (W : World), w.heap.size ≤ D → Sp pre → Ix pre W → W.heap[D]? = some (.deferred (some [])) → Code.ret.wpIn F n P Q { a with defers := { target := .collected D, args := #[] } :: a.defers } W) :
    (Code.rangeFunc g ps assign body).wpIn F n P Q a w := by
  refine wpIn_rangeFunc fun fn hfn => ?_
  rw [hro]
  have hE := run_enterLoop_outer (P := P) (w := w) fn a.tmps ps assign body
  have hB := Books.new w { state := .ready, pending := none, fn, tmps := a.tmps, params := ps, assign, body, defers := w.heap.size }
  have hI1 := hI.alloc (.loop { state := .ready, pending := none, fn, tmps := a.tmps, params := ps, assign, body, defers := w.heap.size }) (hI.alloc (.deferred (some [])) h0)
  have hK1 : KeepsB lo hi w ((w.alloc (.deferred (some []))).alloc (.loop { state := .ready, pending := none, fn, tmps := a.tmps, params := ps, assign, body, defers := w.heap.size })) :=
    KeepsB.below (((Below.refl _ w).alloc (Nat.le_refl _) _).alloc (by simp) _) hhi
  generalize (w.alloc (.deferred (some []))).alloc (.loop { state := .ready, pending := none, fn, tmps := a.tmps, params := ps, assign, body, defers := w.heap.size }) = W1 at hE hB hI1 hK1
  refine ⟨w.heap.size + 1, _, W1, { target := .fn (.func gf) lb, args := #[.func (.yield (w.heap.size + 1)) #[] #[]] }, W1, gf, #[.func (.yield (w.heap.size + 1)) #[] #[]] ++ lb, W1, hE, ?_, ?_, ?_, fun _ => h1, ?_⟩
  · simp only [resolve, hg]
    simp [go_sem]
  · intro f' hf'
    simp [Target.leads] at hf'
    subst hf'
    exact hFg
  · simp [invoke, go_sem, eg]
  · refine (hseq (w.heap.size + 1)
      (fun pre W => (I pre W ∧ w.heap.size ≤ W.heap.size) ∧ Books w.heap.size { state := .ready, pending := none, fn, tmps := a.tmps, params := ps, assign, body, defers := w.heap.size } W)
      (fun pre W => Ix pre W ∧ Books w.heap.size { state := .done, pending := some .ret, fn, tmps := a.tmps, params := ps, assign, body, defers := w.heap.size } W)
      W1 hK1 (fun s A B hs hg => ⟨⟨hIb s A B hs.1.1 hg, Nat.le_trans hs.1.2 hg.size⟩, hs.2.stab hg hb⟩) (fun s A B hs hg => ⟨hIxb s A B hs.1 hg, hs.2.stab hg hb⟩) ?_ ⟨⟨hI1, hK1.1⟩, hB⟩).mono ?_
    · rintro pre x W ⟨⟨hi0, hsz⟩, hk⟩ hlen
      refine ⟨fn, _, assign, body, run_yield (P := P) (args := encs x) hk.1 (hps x), roundIn_of_wpIn hfn (hassign _ x W _ ⟨_, run_beginRound hk.1 rfl, ?_⟩)⟩
      have hk2 := hk.put { state := .busy, pending := none, fn, tmps := a.tmps, params := ps, assign, body, defers := w.heap.size }
      have kb2 : KeepsB lo hi W (W.putObj (w.heap.size + 1) (.loop { state := .busy, pending := none, fn, tmps := a.tmps, params := ps, assign, body, defers := w.heap.size })) := KeepsB.put W _ (by omega)
      have hi2 := hI.putObj (.loop { state := .busy, pending := none, fn, tmps := a.tmps, params := ps, assign, body, defers := w.heap.size }) hi0 (by omega : w.heap.size ≤ w.heap.size + 1) hk.1 rfl
      refine wpIn_mono (hbody _ pre x _ hi2 hlen (Nat.le_trans hsz kb2.1)) ?_
      rintro e a3 W3 hp
      cases e with
      | normal =>
        obtain ⟨ho, hkb, hi3⟩ := hp
        have hk3 := hk2.others ho
        exact ⟨_, _, run_endRound none hk3.1, .inl ⟨rfl, ⟨⟨hI.putObj _ hi3 (by omega) hk3.1 rfl, by rw [World.putObj_size]; exact Nat.le_trans hsz (Nat.le_trans kb2.1 hkb.1)⟩, hk3.put _⟩, (kb2.trans hkb).trans (KeepsB.put W3 _ (by omega))⟩⟩
      | ret =>
        obtain ⟨ho, hi3⟩ := hp
        have hk3 := hk2.others ho
        exact ⟨_, _, run_endRound (some .ret) hk3.1, .inr ⟨rfl, hIx.putObj _ hi3 (by omega) hk3.1 rfl, hk3.put _⟩⟩
      | exit id => exact hp.elim
      | goto t => exact hp.elim
      | panic ch => exact hp.elim
      | outgrown => exact hp.elim
    · rintro e W2 ⟨⟨v, rfl⟩, ⟨xs, hS, ⟨hi2, _⟩, hk⟩ | ⟨pre, hSp, hi2, hk⟩⟩
      · exact ⟨none, _, run_endLoop hk.1 (by simp), hdone _ xs _ (Nat.le_refl _) hS (hI.putObj _ hi2 (by omega) hk.1 rfl) ((World.putObj_heap_other (by omega)).trans hk.2)⟩
      · exact ⟨some .ret, _, run_endLoop hk.1 (by simp), hstop _ pre _ (Nat.le_refl _) hSp (hIx.putObj _ hi2 (by omega) hk.1 rfl) ((World.putObj_heap_other (by omega)).trans hk.2)⟩
end Go.Proofs.YthkjcljhfjaabaaGreatDoor

namespace Go.Proofs.YthkjcljhfjaabaaGreatDoor
open Go.RowKit Go.Shelf Sets
attribute [local go_sem] Oper.semAt_some

theorem ext_head (s : ByteArray) (p q : Bs) (h : s.data.toList = p ++ q) : (s.extract 0 p.length).data.toList = p := by
  rw [extL, h]
  simp
theorem ext_tail (s : ByteArray) (c : UInt8) (p q : Bs) (h : s.data.toList = p ++ c :: q) : (s.extract (p.length + 1) s.size).data.toList = q := by
  rw [extL, Lib.size_eq, h]
  have : (p ++ c :: q).drop (p.length + 1) = q := by rw [← List.drop_drop, List.drop_left]; rfl
  rw [this, List.take_of_length_le]
  simp
  omega
/-- what the iterator has yet to hand over, in its box -/
def restOf (w : World) (g : Nat) : Nat := match w.cell? ⟨g, 0, none⟩ with
  | some (.string r) => r.size
  | _ => 0
theorem restOf_eq {w : World} {g : Nat} {r : ByteArray} (h : w.cell? ⟨g, 0, none⟩ = some (.string r)) : restOf w g = r.size := by
  unfold restOf
  rw [h]
/-- the iterator between two rounds -/
def ItS (g : Nat) (c : UInt8) (t : Bs) (m : Nat) (J : List ByteArray → World → Prop) (wr : World) : Prop :=
  ∃ (pre : List ByteArray) (r : ByteArray), splitG c t = bytesOf pre ++ splitG c r.data.toList ∧ r.size ≤ m ∧ J pre wr ∧ wr.cell? ⟨g, 0, none⟩ = some (.string r) ∧ wr.cell? ⟨g + 1, 0, none⟩ = some (.string ⟨#[c]⟩) ∧
    wr.cell? ⟨g + 2, 0, none⟩ = some (.int .i64 0) ∧ wr.frozen? ⟨g, 0, none⟩ = false

set_option maxRecDepth 100000 in
set_option maxHeartbeats 2000000 in
theorem iter_in (n : Nat) (hn : 1 ≤ n) (l g : Nat) (c : UInt8) (s0 : ByteArray) (J Jx : List ByteArray → World → Prop) (W : World) (hJ : StabB g J) (hs0 : s0.size ≤ 2000000)
    (hY : ∀ pre x W, J pre W → (∃ q, bytesOf (pre ++ [x]) ++ q = splitG c s0.data.toList) → YieldAt Fence.wide (n - 1) Tryz.prog l #[.string x] W fun e W' =>
      (e = .returned (.bool true) ∧ J (pre ++ [x]) W' ∧ KeepsB g (g + 3) W W') ∨ (e = .returned (.bool false) ∧ Jx (pre ++ [x]) W'))
    (h0 : J [] W) (k0 : W.cell? ⟨g, 0, none⟩ = some (.string s0)) (k1 : W.cell? ⟨g + 1, 0, none⟩ = some (.string ⟨#[c]⟩)) (k2 : W.cell? ⟨g + 2, 0, none⟩ = some (.int .i64 0)) (kf : W.frozen? ⟨g, 0, none⟩ = false) :
    CallsIn Fence.wide n Tryz.prog 120 #[.func (.yield l) #[] #[], .pointer (some ⟨g + 1, 0, none⟩), .pointer (some ⟨g, 0, none⟩), .pointer (some ⟨g + 2, 0, none⟩)] W fun e W' => (∃ v, e = .returned v) ∧
      ((∃ xs, bytesOf xs = splitG c s0.data.toList ∧ J xs W') ∨ (∃ pre, (∃ q, bytesOf pre ++ q = splitG c s0.data.toList) ∧ Jx pre W')) := by
  refine callsIn_of_wp Tryz.func120 rfl trivial ?_ rfl
  simp only [Tryz.ntmps120, List.size_toArray, List.length_cons, List.length_nil, Nat.reduceAdd, Nat.reduceSub, Array.replicate_succ, Array.replicate_zero, List.push_toArray, List.append_toArray, List.nil_append, List.cons_append]
  gi_wp2
  gi_loopw [7] (fun _ wr => ItS g c s0.data.toList s0.size J wr) (fun _ wr => restOf wr g)
  case atStart => exact ⟨[], s0, rfl, Nat.le_refl _, h0, k0, k1, k2, kf⟩
  case round =>
    obtain ⟨pre, r, hsp, hrs, hJs, c0, c1, c2, cf⟩ := hrel
    have HSP := Lib.hid hsp
    have hrx : r.size ≤ 9223372036854775807 := by omega
    clear hsp k0 k1 k2 kf h0
    gi_wp2_with fail
    refine ⟨trivial, (callsIn_wide.2 (Tryz.strings_Index_one r c _)).mono ?_⟩
    rcases indexG c r.data.toList with ⟨hi, hno⟩ | ⟨p, q, hpq, hno, hi⟩
    · have HNO := Lib.hid (splitG_plain c r.data.toList hno)
      clear hno
      rw [hi]
      rintro e w1 ⟨rfl, rfl⟩
      obtain ⟨fn, tmps, assign, body, hy, hR⟩ := hY pre r _ hJs ⟨[], by rw [bytesOf_snoc, HSP.out, HNO.out, List.append_nil]⟩
      clear hi
      gi_wp2
      refine hR.mono ?_
      rintro e W3 (⟨rfl, hJ3, hk3⟩ | ⟨rfl, hJx3⟩)
      · gi_wp2
        go_end0
        exact ⟨⟨_, rfl⟩, .inl ⟨_, by rw [bytesOf_snoc, HSP.out, HNO.out], hJ3⟩⟩
      · gi_wp2
        go_end0
        exact ⟨⟨_, rfl⟩, .inr ⟨_, ⟨[], by rw [bytesOf_snoc, HSP.out, HNO.out, List.append_nil]⟩, hJx3⟩⟩
    · have hsz : p.length + 1 ≤ r.size := by rw [Lib.size_eq, hpq]; simp
      have e1 : (p.length : Int) ≤ (r.size : Int) := by omega
      have e2 : ((p.length : Int) + 1) ≤ (r.size : Int) := by omega
      have hx := ext_head r p (c :: q) hpq
      have ht := ext_tail r c p q hpq
      have hcut := splitG_cut c p q hno
      have HS := Lib.hid (show splitG c s0.data.toList = bytesOf pre ++ (p :: splitG c q) by rw [HSP.out, hpq, hcut])
      rw [hi]
      clear hi hno hcut hpq
      rintro e w1 ⟨rfl, rfl⟩
      have hneg : ¬ ((p.length : Int) < 0) := by omega
      generalize p.length = m at *
      have HX := Lib.hid hx
      have HT := Lib.hid ht
      obtain ⟨fn, tmps, assign, body, hy, hR⟩ := hY pre (r.extract 0 m) _ hJs ⟨splitG c q, by rw [bytesOf_snoc, HX.out, HS.out, List.append_assoc]; rfl⟩
      clear hx ht
      gi_wp2

      refine hR.mono ?_
      rintro e W3 (⟨rfl, hJ3, hk3⟩ | ⟨rfl, hJx3⟩)
      · have d0 := (hk3.cell (o := 0) (k := g) (by omega) (by omega)).trans c0
        have d1 := (hk3.cell (o := 0) (k := g + 1) (by omega) (by omega)).trans c1
        have d2 := (hk3.cell (o := 0) (k := g + 2) (by omega) (by omega)).trans c2
        have df := (hk3.frozen (o := 0) (k := g) (by omega) (by omega)).trans cf
        gi_wp2
        go_roundw
        case rel =>
          have hg := grownBy_setCell' W3 g (.string (r.extract (m + 1) r.size))
          refine ⟨pre ++ [r.extract 0 m], r.extract (m + 1) r.size, ?_, ?_, hJ _ _ _ hJ3 hg, World.cell?_setCell_same' _ _ _ (by rw [d0]; rfl), ?_, ?_, ?_⟩
          · rw [bytesOf_snoc, HX.out, HT.out, HS.out, List.append_assoc]; rfl
          · simp; omega
          · exact (hg.cell d1 (by simp))
          · exact (hg.cell d2 (by simp))
          · rw [World.frozen?_setCell]; exact df
        case measure =>
          rw [restOf_eq (World.cell?_setCell_same' _ _ _ (by rw [d0]; rfl)), restOf_eq c0]
          simp; omega
      · gi_wp2
        refine bodyPost_ret (results_none rfl _ _ _) rfl ?_
        exact ⟨⟨_, rfl⟩, .inr ⟨_, ⟨splitG c q, by rw [bytesOf_snoc, HX.out, HS.out, List.append_assoc]; rfl⟩, hJx3⟩⟩

theorem splitSeq_in (n : Nat) (s t : ByteArray) (k : Int) (w : World) :
    CallsIn Fence.wide n Tryz.prog 106 #[.string s, .string t, .int .i64 k] w fun e w' => e = .returned (.func (.func 120) #[] #[.pointer (some ⟨w.heap.size + 1, 0, none⟩), .pointer (some ⟨w.heap.size, 0, none⟩), .pointer (some ⟨w.heap.size + 2, 0, none⟩)]) ∧
      w' = ((w.alloc (.cells #[.string s] 9)).alloc (.cells #[.string t] 9)).alloc (.cells #[.int .i64 k] 3) := by
  refine callsIn_of_wp Tryz.func106 rfl trivial ?_ rfl
  simp only [Tryz.ntmps106, List.size_toArray, List.length_cons, List.length_nil, Nat.reduceAdd, Nat.reduceSub, Array.replicate_succ, Array.replicate_zero, List.push_toArray, List.append_toArray, List.nil_append, List.cons_append]
  gi_wp2
  go_ret
  exact ⟨rfl, rfl⟩
theorem SplitSeq_in (n : Nat) (s t : ByteArray) (w : World) :
    CallsIn Fence.wide n Tryz.prog 78 #[.string s, .string t] w fun e w' => e = .returned (.func (.func 120) #[] #[.pointer (some ⟨w.heap.size + 1, 0, none⟩), .pointer (some ⟨w.heap.size, 0, none⟩), .pointer (some ⟨w.heap.size + 2, 0, none⟩)]) ∧
      w' = ((w.alloc (.cells #[.string s] 9)).alloc (.cells #[.string t] 9)).alloc (.cells #[.int .i64 0] 3) := by
  refine callsIn_of_wp Tryz.func78 rfl trivial ?_ rfl
  simp only [Tryz.ntmps78, List.size_toArray, List.length_cons, List.length_nil, Nat.reduceAdd, Nat.reduceSub, Array.replicate_succ, Array.replicate_zero, List.push_toArray, List.append_toArray, List.nil_append, List.cons_append]
  gi_wp2_with fail
  refine ⟨trivial, fun h => (by cases h), (splitSeq_in _ s t 0 w).mono ?_⟩
  rintro e w1 ⟨rfl, rfl⟩
  gi_wp2
  go_ret
  exact ⟨rfl, rfl⟩

theorem three_cells (w : World) (s t : ByteArray) (k : Int) (t1 t2 t3 : TypeId) :
    (((w.alloc (.cells #[.string s] t1)).alloc (.cells #[.string t] t2)).alloc (.cells #[.int .i64 k] t3)).cell? ⟨w.heap.size, 0, none⟩ = some (.string s) ∧
    (((w.alloc (.cells #[.string s] t1)).alloc (.cells #[.string t] t2)).alloc (.cells #[.int .i64 k] t3)).cell? ⟨w.heap.size + 1, 0, none⟩ = some (.string t) ∧
    (((w.alloc (.cells #[.string s] t1)).alloc (.cells #[.string t] t2)).alloc (.cells #[.int .i64 k] t3)).cell? ⟨w.heap.size + 2, 0, none⟩ = some (.int .i64 k) ∧
    (((w.alloc (.cells #[.string s] t1)).alloc (.cells #[.string t] t2)).alloc (.cells #[.int .i64 k] t3)).frozen? ⟨w.heap.size, 0, none⟩ = false := by
  obtain ⟨a0, af⟩ := cell_newS w (.string s) t1
  have a1 := cell_allocS (.cells #[.string t] t2) a0
  have b0 := (cell_newS (w.alloc (.cells #[.string s] t1)) (.string t) t2).1
  have c0 := (cell_newS ((w.alloc (.cells #[.string s] t1)).alloc (.cells #[.string t] t2)) (.int .i64 k) t3).1
  rw [World.size_alloc] at b0
  rw [World.size_alloc, World.size_alloc] at c0
  exact ⟨cell_allocS _ a1, cell_allocS _ b0, c0, frozen_allocS _ a1 (frozen_allocS _ a0 af)⟩

/-- the iterator, as a range over it takes it -/
theorem pieces_box (n : Nat) (hn : 1 ≤ n) (s : ByteArray) (c : UInt8) (hs : s.size ≤ 2000000) (w w1 : World) (hb : Below w1.heap.size (((w.alloc (.cells #[.string s] 9)).alloc (.cells #[.string ⟨#[c]⟩] 9)).alloc (.cells #[.int .i64 0] 3)) w1) (h3 : w1.heap.size = w.heap.size + 3) :
    SeqBox Fence.wide n Tryz.prog 120 #[.pointer (some ⟨w.heap.size + 1, 0, none⟩), .pointer (some ⟨w.heap.size, 0, none⟩), .pointer (some ⟨w.heap.size + 2, 0, none⟩)] (fun x : ByteArray => #[Value.string x]) w.heap.size (w.heap.size + 3) w.heap.size
      (fun xs => bytesOf xs = splitG c s.data.toList) (fun pre => ∃ q, bytesOf pre ++ q = splitG c s.data.toList) w1 := by
  intro l J Jx W hW hJ _ hY h0
  obtain ⟨a0, a1, a2, af⟩ := three_cells w s ⟨#[c]⟩ 0 9 9 3
  have f0 := (hb.cell (p := ⟨w.heap.size, 0, none⟩) (by simp only; omega)).trans a0
  have f1 := (hb.cell (p := ⟨w.heap.size + 1, 0, none⟩) (by simp only; omega)).trans a1
  have f2 := (hb.cell (p := ⟨w.heap.size + 2, 0, none⟩) (by simp only; omega)).trans a2
  have ff := (hb.frozen (p := ⟨w.heap.size, 0, none⟩) (by simp only; omega)).trans af
  exact iter_in n hn l w.heap.size c s J Jx W hJ hs hY h0 ((hW.cell (by omega) (by omega)).trans f0) ((hW.cell (by omega) (by omega)).trans f1) ((hW.cell (by omega) (by omega)).trans f2) ((hW.frozen (by omega) (by omega)).trans ff)
end Go.Proofs.YthkjcljhfjaabaaGreatDoor
