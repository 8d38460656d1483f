/-
  The iterator over the pieces of a text that is cut at a byte.
-/
import Derived.Test.YthkjcljhfjaabaaGreatDoorKb
import Derived.Test.YthkjcljhfjaabaaGreatDoorKg
import Derived.Test.YthkjcljhfjaabaaGreatDoorSh
namespace Go.Proofs.YthkjcljhfjaabaaGreatDoor
open Go.RowKit Go.Shelf Sets
attribute [local go_sem] Oper.semAt_some

theorem ext_head (s : ByteArray) (p q : Bs) (h : s.data.toList = p ++ q) : (s.extract 0 p.length).data.toList = p := by
  rw [extL, h]
  simp
theorem ext_tail (s : ByteArray) (c : UInt8) (p q : Bs) (h : s.data.toList = p ++ c :: q) : (s.extract (p.length + 1) s.size).data.toList = q := by
  rw [extL, Lib.size_eq, h]
  have : (p ++ c :: q).drop (p.length + 1) = q := by rw [← List.drop_drop, List.drop_left]; rfl
  rw [this, List.take_of_length_le]
  simp
  omega
/-- what the iterator has yet to hand over, in its box -/
def restOf (w : World) (g : Nat) : Nat := match w.cell? ⟨g, 0, none⟩ with
  | some (.string r) => r.size
  | _ => 0
theorem restOf_eq {w : World} {g : Nat} {r : ByteArray} (h : w.cell? ⟨g, 0, none⟩ = some (.string r)) : restOf w g = r.size := by
  unfold restOf
  rw [h]
/-- the iterator between two rounds -/
def ItS (g : Nat) (c : UInt8) (t : Bs) (m : Nat) (J : List ByteArray → World → Prop) (wr : World) : Prop :=
  ∃ (pre : List ByteArray) (r : ByteArray), splitG c t = bytesOf pre ++ splitG c r.data.toList ∧ r.size ≤ m ∧ J pre wr ∧ wr.cell? ⟨g, 0, none⟩ = some (.string r) ∧ wr.cell? ⟨g + 1, 0, none⟩ = some (.string ⟨#[c]⟩) ∧
    wr.cell? ⟨g + 2, 0, none⟩ = some (.int .i64 0) ∧ wr.frozen? ⟨g, 0, none⟩ = false

set_option maxRecDepth 100000 in
set_option maxHeartbeats 2000000 in
theorem iter_in (n : Nat) (hn : 1 ≤ n) (l g : Nat) (c : UInt8) (s0 : ByteArray) (J Jx : List ByteArray → World → Prop) (W : World) (hJ : StabB g J) (hs0 : s0.size ≤ 2000000)
    (hY : ∀ pre x W, J pre W → (∃ q, bytesOf (pre ++ [x]) ++ q = splitG c s0.data.toList) → YieldAt Fence.wide (n - 1) Tryz.prog l #[.string x] W fun e W' =>
      (e = .returned (.bool true) ∧ J (pre ++ [x]) W' ∧ KeepsB g (g + 3) W W') ∨ (e = .returned (.bool false) ∧ Jx (pre ++ [x]) W'))
    (h0 : J [] W) (k0 : W.cell? ⟨g, 0, none⟩ = some (.string s0)) (k1 : W.cell? ⟨g + 1, 0, none⟩ = some (.string ⟨#[c]⟩)) (k2 : W.cell? ⟨g + 2, 0, none⟩ = some (.int .i64 0)) (kf : W.frozen? ⟨g, 0, none⟩ = false) :
    CallsIn Fence.wide n Tryz.prog 120 #[.func (.yield l) #[] #[], .pointer (some ⟨g + 1, 0, none⟩), .pointer (some ⟨g, 0, none⟩), .pointer (some ⟨g + 2, 0, none⟩)] W fun e W' => (∃ v, e = .returned v) ∧
      ((∃ xs, bytesOf xs = splitG c s0.data.toList ∧ J xs W') ∨ (∃ pre, (∃ q, bytesOf pre ++ q = splitG c s0.data.toList) ∧ Jx pre W')) := by
  refine callsIn_of_wp Tryz.func120 rfl trivial ?_ rfl
  simp only [Tryz.ntmps120, List.size_toArray, List.length_cons, List.length_nil, Nat.reduceAdd, Nat.reduceSub, Array.replicate_succ, Array.replicate_zero, List.push_toArray, List.append_toArray, List.nil_append, List.cons_append]
  gi_wp2
  gi_loopw [7] (fun _ wr => ItS g c s0.data.toList s0.size J wr) (fun _ wr => restOf wr g)
  case atStart => exact ⟨[], s0, rfl, Nat.le_refl _, h0, k0, k1, k2, kf⟩
  case round =>
    obtain ⟨pre, r, hsp, hrs, hJs, c0, c1, c2, cf⟩ := hrel
    have HSP := Lib.hid hsp
    have hrx : r.size ≤ 9223372036854775807 := by omega
    clear hsp k0 k1 k2 kf h0
    gi_wp2_with fail
    refine ⟨trivial, (callsIn_wide.2 (Tryz.strings_Index_one r c _)).mono ?_⟩
    rcases indexG c r.data.toList with ⟨hi, hno⟩ | ⟨p, q, hpq, hno, hi⟩
    · have HNO := Lib.hid (splitG_plain c r.data.toList hno)
      clear hno
      rw [hi]
      rintro e w1 ⟨rfl, rfl⟩
      obtain ⟨fn, tmps, assign, body, hy, hR⟩ := hY pre r _ hJs ⟨[], by rw [bytesOf_snoc, HSP.out, HNO.out, List.append_nil]⟩
      clear hi
      gi_wp2
      refine hR.mono ?_
      rintro e W3 (⟨rfl, hJ3, hk3⟩ | ⟨rfl, hJx3⟩)
      · gi_wp2
        go_end0
        exact ⟨⟨_, rfl⟩, .inl ⟨_, by rw [bytesOf_snoc, HSP.out, HNO.out], hJ3⟩⟩
      · gi_wp2
        go_end0
        exact ⟨⟨_, rfl⟩, .inr ⟨_, ⟨[], by rw [bytesOf_snoc, HSP.out, HNO.out, List.append_nil]⟩, hJx3⟩⟩
    · have hsz : p.length + 1 ≤ r.size := by rw [Lib.size_eq, hpq]; simp
      have e1 : (p.length : Int) ≤ (r.size : Int) := by omega
      have e2 : ((p.length : Int) + 1) ≤ (r.size : Int) := by omega
      have hx := ext_head r p (c :: q) hpq
      have ht := ext_tail r c p q hpq
      have hcut := splitG_cut c p q hno
      have HS := Lib.hid (show splitG c s0.data.toList = bytesOf pre ++ (p :: splitG c q) by rw [HSP.out, hpq, hcut])
      rw [hi]
      clear hi hno hcut hpq
      rintro e w1 ⟨rfl, rfl⟩
      have hneg : ¬ ((p.length : Int) < 0) := by omega
      generalize p.length = m at *
      have HX := Lib.hid hx
      have HT := Lib.hid ht
      obtain ⟨fn, tmps, assign, body, hy, hR⟩ := hY pre (r.extract 0 m) _ hJs ⟨splitG c q, by rw [bytesOf_snoc, HX.out, HS.out, List.append_assoc]; rfl⟩
      clear hx ht
      gi_wp2

      refine hR.mono ?_
      rintro e W3 (⟨rfl, hJ3, hk3⟩ | ⟨rfl, hJx3⟩)
      · have d0 := (hk3.cell (o := 0) (k := g) (by omega) (by omega)).trans c0
        have d1 := (hk3.cell (o := 0) (k := g + 1) (by omega) (by omega)).trans c1
        have d2 := (hk3.cell (o := 0) (k := g + 2) (by omega) (by omega)).trans c2
        have df := (hk3.frozen (o := 0) (k := g) (by omega) (by omega)).trans cf
        gi_wp2
        go_roundw
        case rel =>
          have hg := grownBy_setCell' W3 g (.string (r.extract (m + 1) r.size))
          refine ⟨pre ++ [r.extract 0 m], r.extract (m + 1) r.size, ?_, ?_, hJ _ _ _ hJ3 hg, World.cell?_setCell_same' _ _ _ (by rw [d0]; rfl), ?_, ?_, ?_⟩
          · rw [bytesOf_snoc, HX.out, HT.out, HS.out, List.append_assoc]; rfl
          · simp; omega
          · exact (hg.cell d1 (by simp))
          · exact (hg.cell d2 (by simp))
          · rw [World.frozen?_setCell]; exact df
        case measure =>
          rw [restOf_eq (World.cell?_setCell_same' _ _ _ (by rw [d0]; rfl)), restOf_eq c0]
          simp; omega
      · gi_wp2
        refine bodyPost_ret (results_none rfl _ _ _) rfl ?_
        exact ⟨⟨_, rfl⟩, .inr ⟨_, ⟨splitG c q, by rw [bytesOf_snoc, HX.out, HS.out, List.append_assoc]; rfl⟩, hJx3⟩⟩

theorem splitSeq_in (n : Nat) (s t : ByteArray) (k : Int) (w : World) :
    CallsIn Fence.wide n Tryz.prog 106 #[.string s, .string t, .int .i64 k] w fun e w' => e = .returned (.func (.func 120) #[] #[.pointer (some ⟨w.heap.size + 1, 0, none⟩), .pointer (some ⟨w.heap.size, 0, none⟩), .pointer (some ⟨w.heap.size + 2, 0, none⟩)]) ∧
      w' = ((w.alloc (.cells #[.string s] 9)).alloc (.cells #[.string t] 9)).alloc (.cells #[.int .i64 k] 3) := by
  refine callsIn_of_wp Tryz.func106 rfl trivial ?_ rfl
  simp only [Tryz.ntmps106, List.size_toArray, List.length_cons, List.length_nil, Nat.reduceAdd, Nat.reduceSub, Array.replicate_succ, Array.replicate_zero, List.push_toArray, List.append_toArray, List.nil_append, List.cons_append]
  gi_wp2
  go_ret
  exact ⟨rfl, rfl⟩
theorem SplitSeq_in (n : Nat) (s t : ByteArray) (w : World) :
    CallsIn Fence.wide n Tryz.prog 78 #[.string s, .string t] w fun e w' => e = .returned (.func (.func 120) #[] #[.pointer (some ⟨w.heap.size + 1, 0, none⟩), .pointer (some ⟨w.heap.size, 0, none⟩), .pointer (some ⟨w.heap.size + 2, 0, none⟩)]) ∧
      w' = ((w.alloc (.cells #[.string s] 9)).alloc (.cells #[.string t] 9)).alloc (.cells #[.int .i64 0] 3) := by
  refine callsIn_of_wp Tryz.func78 rfl trivial ?_ rfl
  simp only [Tryz.ntmps78, List.size_toArray, List.length_cons, List.length_nil, Nat.reduceAdd, Nat.reduceSub, Array.replicate_succ, Array.replicate_zero, List.push_toArray, List.append_toArray, List.nil_append, List.cons_append]
  gi_wp2_with fail
  refine ⟨trivial, fun h => (by cases h), (splitSeq_in _ s t 0 w).mono ?_⟩
  rintro e w1 ⟨rfl, rfl⟩
  gi_wp2
  go_ret
  exact ⟨rfl, rfl⟩

theorem three_cells (w : World) (s t : ByteArray) (k : Int) (t1 t2 t3 : TypeId) :
    (((w.alloc (.cells #[.string s] t1)).alloc (.cells #[.string t] t2)).alloc (.cells #[.int .i64 k] t3)).cell? ⟨w.heap.size, 0, none⟩ = some (.string s) ∧
    (((w.alloc (.cells #[.string s] t1)).alloc (.cells #[.string t] t2)).alloc (.cells #[.int .i64 k] t3)).cell? ⟨w.heap.size + 1, 0, none⟩ = some (.string t) ∧
    (((w.alloc (.cells #[.string s] t1)).alloc (.cells #[.string t] t2)).alloc (.cells #[.int .i64 k] t3)).cell? ⟨w.heap.size + 2, 0, none⟩ = some (.int .i64 k) ∧
    (((w.alloc (.cells #[.string s] t1)).alloc (.cells #[.string t] t2)).alloc (.cells #[.int .i64 k] t3)).frozen? ⟨w.heap.size, 0, none⟩ = false := by
  obtain ⟨a0, af⟩ := cell_newS w (.string s) t1
  have a1 := cell_allocS (.cells #[.string t] t2) a0
  have b0 := (cell_newS (w.alloc (.cells #[.string s] t1)) (.string t) t2).1
  have c0 := (cell_newS ((w.alloc (.cells #[.string s] t1)).alloc (.cells #[.string t] t2)) (.int .i64 k) t3).1
  rw [World.size_alloc] at b0
  rw [World.size_alloc, World.size_alloc] at c0
  exact ⟨cell_allocS _ a1, cell_allocS _ b0, c0, frozen_allocS _ a1 (frozen_allocS _ a0 af)⟩

/-- the iterator, as a range over it takes it -/
theorem pieces_box (n : Nat) (hn : 1 ≤ n) (s : ByteArray) (c : UInt8) (hs : s.size ≤ 2000000) (w w1 : World) (hb : Below w1.heap.size (((w.alloc (.cells #[.string s] 9)).alloc (.cells #[.string ⟨#[c]⟩] 9)).alloc (.cells #[.int .i64 0] 3)) w1) (h3 : w1.heap.size = w.heap.size + 3) :
    SeqBox Fence.wide n Tryz.prog 120 #[.pointer (some ⟨w.heap.size + 1, 0, none⟩), .pointer (some ⟨w.heap.size, 0, none⟩), .pointer (some ⟨w.heap.size + 2, 0, none⟩)] (fun x : ByteArray => #[Value.string x]) w.heap.size (w.heap.size + 3) w.heap.size
      (fun xs => bytesOf xs = splitG c s.data.toList) (fun pre => ∃ q, bytesOf pre ++ q = splitG c s.data.toList) w1 := by
  intro l J Jx W hW hJ _ hY h0
  obtain ⟨a0, a1, a2, af⟩ := three_cells w s ⟨#[c]⟩ 0 9 9 3
  have f0 := (hb.cell (p := ⟨w.heap.size, 0, none⟩) (by simp only; omega)).trans a0
  have f1 := (hb.cell (p := ⟨w.heap.size + 1, 0, none⟩) (by simp only; omega)).trans a1
  have f2 := (hb.cell (p := ⟨w.heap.size + 2, 0, none⟩) (by simp only; omega)).trans a2
  have ff := (hb.frozen (p := ⟨w.heap.size, 0, none⟩) (by simp only; omega)).trans af
  exact iter_in n hn l w.heap.size c s J Jx W hJ hs hY h0 ((hW.cell (by omega) (by omega)).trans f0) ((hW.cell (by omega) (by omega)).trans f1) ((hW.cell (by omega) (by omega)).trans f2) ((hW.frozen (by omega) (by omega)).trans ff)
end Go.Proofs.YthkjcljhfjaabaaGreatDoor
