/-
  The iterator over the numbers of a set, and the program's and the model's containment of sets.
-/
import Derived.Test.YtamfmemdhldmjaaGreatDoorJoM
import Derived.RangeFuncNested
import Derived.RangeFuncBound
import Derived.RangeFuncCalls
import Derived.RangeFuncLeaves
import Derived.Shelf.Abstract
import Derived.Shelf.RegionOpen
import Derived.OwnWalkIn
import Derived.TacticsInMore
import Derived.LoopNIn
import Derived.LoopIn
namespace Go.Proofs.YtamfmemdhldmjaaGreatDoor
open Go.RowKit Go.Shelf Sets
attribute [local go_sem] Oper.semAt_some

/-- Every cell that holds a value holds it still. -/
def KeepsC (W W' : World) : Prop := ∀ p v, W.cell? p = some v → W'.cell? p = some v
theorem KeepsC.refl (W : World) : KeepsC W W := fun _ _ h => h
theorem KeepsC.trans {A B C : World} (h : KeepsC A B) (k : KeepsC B C) : KeepsC A C := fun p v hp => k p v (h p v hp)
theorem KeepsC.put {w : World} (W : World) (l : Nat) (o o' : Obj) (_ : w.heap.size ≤ l) (h : W.heap[l]? = some o) (hc : o.isCells = false) (_ : o.isWalk = false) : KeepsC W (W.putObj l o') :=
  fun _ _ hp => cell_kept hp (grownBy_putObj' W l o') (fun r e => by cases e; exact ⟨o, h, hc⟩)
theorem KeepsC.below {W W' : World} (h : Below W.heap.size W W') : KeepsC W W' := fun p _ hp => (h.cell (p := p) (by obtain ⟨o, ho, _⟩ := cells_of_cell hp; exact (Array.getElem?_eq_some_iff.1 ho).1)).trans hp
theorem KeepsC.alloc {W W' : World} (h : KeepsC W W') (o : Obj) : KeepsC W (W'.alloc o) := h.trans (KeepsC.below ((Below.refl _ W').alloc (Nat.le_refl _) o))
theorem keepsOthers_below {W W' : World} (h : Below W.heap.size W W') : KeepsOthers W W' := ⟨h.size, fun k _ hk _ => (h.block k (Array.getElem?_eq_some_iff.1 hk).1).trans hk⟩
theorem RowAt.keepC {W W' : World} {b off : Nat} {xs : List Sp} (hr : RowAt W b off xs) (h : KeepsC W W') : RowAt W' b off xs := fun i hi => ⟨h _ _ (hr i hi).1, h _ _ (hr i hi).2⟩

def numsAt (xs : List Sp) (k : Nat) (pre : List Int) : Prop := ∀ y, y ∈ pre ↔ memS (xs.take k) y
def numsIn (xs : List Sp) (k : Nat) (m : Int) (pre : List Int) : Prop := ∀ y, y ∈ pre ↔ (memS (xs.take k) y ∨ (lo xs k ≤ y ∧ y < m))
theorem numsAt_zero (xs : List Sp) : numsAt xs 0 [] := fun y => by
  rw [List.take_zero]
  exact ⟨(fun h => by cases h), fun h => absurd h (memS_nil y)⟩
theorem numsIn_start {xs : List Sp} {k : Nat} {pre : List Int} (h : numsAt xs k pre) : numsIn xs k (lo xs k) pre := fun y => by
  rw [h y]
  constructor
  · exact .inl
  · rintro (h | h)
    · exact h
    · omega
theorem numsIn_snoc {xs : List Sp} {k : Nat} {m : Int} {pre : List Int} (h : numsIn xs k m pre) (hm : lo xs k ≤ m) : numsIn xs k (m + 1) (pre ++ [m]) := fun y => by
  rw [List.mem_append, h y, List.mem_singleton]
  constructor
  · rintro ((h | h) | h)
    · exact .inl h
    · exact .inr ⟨h.1, by omega⟩
    · exact .inr ⟨by omega, by omega⟩
  · rintro (h | h)
    · exact .inl (.inl h)
    · by_cases e : y = m
      · exact .inr e
      · exact .inl (.inr ⟨h.1, by omega⟩)
theorem numsIn_end {xs : List Sp} {k : Nat} {m : Int} {pre : List Int} (h : numsIn xs k m pre) (hk : k < xs.length) (hm : m = hi xs k + 1) : numsAt xs (k + 1) pre := fun y => by
  rw [h y, take_lohi hk, memS_append, memS_cons]
  have := memS_nil y
  constructor
  · rintro (h | h)
    · exact .inl h
    · exact .inr (.inl ⟨h.1, by show y ≤ hi xs k; omega⟩)
  · rintro (h | h | h)
    · exact .inl h
    · exact .inr ⟨h.1, by have h2 : y ≤ hi xs k := h.2; omega⟩
    · exact absurd h this
theorem memS_take {xs : List Sp} {k : Nat} {y : Int} (h : memS (xs.take k) y) : memS xs y := by
  obtain ⟨x, hx, h⟩ := h
  exact ⟨x, List.mem_of_mem_take hx, h⟩
theorem numsIn_mem {xs : List Sp} {k : Nat} {m : Int} {pre : List Int} (h : numsIn xs k m pre) (hk : k < xs.length) (hm : m ≤ hi xs k + 1) : ∀ y ∈ pre, memS xs y := by
  intro y hy
  rcases (h y).1 hy with h | h
  · exact memS_take h
  · refine ⟨(lo xs k, hi xs k), ?_, h.1, by show y ≤ hi xs k; omega⟩
    have := take_lohi hk
    exact List.mem_of_mem_take (i := k + 1) (by rw [this]; exact List.mem_append.2 (.inr (List.mem_singleton.2 rfl)))

/-- what the iterator needs to know of the numbers -/
def Plain (xs : List Sp) : Prop := xs.length ≤ 12 ∧ ∀ k, k < xs.length → -99 ≤ lo xs k ∧ lo xs k ≤ hi xs k ∧ hi xs k ≤ 99
theorem plain_of_valid {xs : List Sp} (h : validB xs = true) : Plain xs := by
  obtain ⟨h1, h2⟩ := (validB_iff xs).1 h
  exact ⟨h1, fun k hk => by have := h2 k hk; unfold YtamfmemdhldmjaaGreatDoor.lo YtamfmemdhldmjaaGreatDoor.hi; exact ⟨this.1, this.2.2.1, this.2.1⟩⟩

theorem cell_newS (W : World) (v : Value) (t : TypeId) : (W.alloc (.cells #[v] t)).cell? ⟨W.heap.size, 0, none⟩ = some v ∧ (W.alloc (.cells #[v] t)).frozen? ⟨W.heap.size, 0, none⟩ = false :=
  ⟨by rw [World.cell?_alloc_new]; rfl, World.frozen?_alloc_at _ _ _ _ rfl⟩
theorem cell_allocS {W : World} {a : Addr} {v : Value} (o : Obj) (h : W.cell? a = some v) : (W.alloc o).cell? a = some v := cell_kept h (World.grownBy_alloc W o none) (fun r e => by cases e)
theorem frozen_allocS {W : World} {a : Addr} {v : Value} (o : Obj) (h : W.cell? a = some v) (hf : W.frozen? a = false) : (W.alloc o).frozen? a = false := (frozen_kept h (World.grownBy_alloc W o none) (fun r e => by cases e)).trans hf
theorem cell_new2 (w : World) (a b : Int) : (w.alloc (.cells #[.int .i64 a, .int .i64 b] 93)).cell? ⟨w.heap.size, 1, none⟩ = some (.int .i64 b) := by
  rw [World.cell?_alloc_new]; rfl

set_option maxRecDepth 100000 in
set_option maxHeartbeats 2000000 in
theorem nums1_in (F : Fence) (n : Nat) (h7 : F.fn 108) (hro : F.round = none) (hn : 1 ≤ n) (l Bs : Nat) (A : Option Addr) (c B : Nat) (xs : List Sp) (hp : Plain xs) (J Jx : List Int → World → Prop)
    (W : World) (hJ : AbidesFrom W.heap.size J)
    (hY : ∀ pre x W, J pre W → pre.length < 12 * 199 → YieldAt F (n - 1) Tryz.prog l #[.int .i64 x] W fun e W' =>
      (e = .returned (.bool true) ∧ J (pre ++ [x]) W' ∧ KeepsC W W') ∨ (e = .returned (.bool false) ∧ Jx (pre ++ [x]) W'))
    (hBs : W.cell? ⟨Bs, 0, none⟩ = some (.slice A xs.length c)) (h : Reads W B A c xs) (h0 : J [] W) :
    CallsIn F n Tryz.prog 108 #[.func (.yield l) #[] #[], .pointer (some ⟨Bs, 0, none⟩)] W fun e W' => (∃ v, e = .returned v) ∧
      ((∃ ys, numsAt xs xs.length ys ∧ J ys W') ∨ (∃ pre, (∀ y ∈ pre, memS xs y) ∧ Jx pre W')) := by
  obtain ⟨hlc, hc, hfit, hrow⟩ := h
  refine callsIn_of_wp Tryz.func108 rfl h7 ?_ hro
  simp only [Tryz.ntmps108, List.size_toArray, List.length_cons, List.length_nil, Nat.reduceAdd, Nat.reduceSub, Array.replicate_succ, Array.replicate_zero, List.push_toArray, List.append_toArray, List.nil_append, List.cons_append]
  gi_wp2
  gi_loopw [8] (fun i wr => ∃ (k : Nat) (pre : List Int), k ≤ xs.length ∧ i = .int .i64 k ∧ numsAt xs k pre ∧ pre.length ≤ k * 199 ∧ J pre wr ∧ KeepsC W wr) (fun i _ => xs.length - (intOf i).toNat)
  case atStart => exact ⟨0, [], Nat.zero_le _, rfl, numsAt_zero xs, Nat.le_refl _, h0, KeepsC.refl _⟩
  case round =>
    obtain ⟨k, pre, hk, rfl, hnum, hpl, hJs, hkp⟩ := hrel
    by_cases hlt : k < xs.length
    · rcases hrow with rfl | ⟨b, off, rfl, hB, hrow⟩
      · simp at hlt
      · have hkl : (k : Int) < (xs.length : Int) := by omega
        obtain ⟨c1, c2⟩ := (hrow.keepC hkp) k hlt
        obtain ⟨p1, p2, p3⟩ := hp.2 k hlt
        have hp12 := hp.1
        gi_wp2
        have n1 := cell_new2 wr (lo xs k) (hi xs k)
        have hJ1 : J pre (wr.alloc (.cells #[.int .i64 (lo xs k), .int .i64 (hi xs k)] 93)) := hJ pre wr _ none hJs (World.grownBy_alloc wr _ none) (fun r e => by cases e)
        have hk1 := hkp.alloc (.cells #[.int .i64 (lo xs k), .int .i64 (hi xs k)] 93)
        gi_loopw [5] (fun m wi => ∃ (mm : Int) (pr : List Int), m = .int .i64 mm ∧ lo xs k ≤ mm ∧ mm ≤ hi xs k + 1 ∧ numsIn xs k mm pr ∧ (pr.length : Int) ≤ k * 199 + (mm - lo xs k) ∧ J pr wi ∧ KeepsC W wi ∧ wi.cell? ⟨wr.heap.size, 1, none⟩ = some (.int .i64 (hi xs k))) (fun m _ => (hi xs k + 1 - intOf m).toNat)
        case atStart => exact ⟨lo xs k, pre, rfl, Int.le_refl _, by omega, numsIn_start hnum, by omega, hJ1, hk1, n1⟩
        case round =>
          obtain ⟨mm, pr, rfl, m1, m2, hin, hpr, hJi, hki, n2⟩ := hrel
          by_cases hm : mm ≤ hi xs k
          · obtain ⟨fn, tmps, assign, body, hy, hR⟩ := hY pr mm _ hJi (by omega)
            gi_wp2
            refine hR.mono ?_
            rintro e W3 (⟨rfl, hJ3, hk3⟩ | ⟨rfl, hJx3⟩)
            · gi_wp2
              go_roundw
              case rel => exact ⟨mm + 1, pr ++ [mm], by go_num, by omega, by omega, numsIn_snoc hin m1, by simp; omega, hJ3, hki.trans hk3, hk3 _ _ n2⟩
              case measure => simp [intOf]; omega
            · gi_wp2
              refine bodyPost_ret (results_none rfl _ _ _) rfl ?_
              exact ⟨⟨_, rfl⟩, .inr ⟨_, numsIn_mem (numsIn_snoc hin m1) hlt (by omega), hJx3⟩⟩
          · obtain rfl : mm = hi xs k + 1 := by omega
            gi_wp2
            go_roundw
            case rel => exact ⟨k + 1, pr, by omega, by go_num, numsIn_end hin hlt rfl, by omega, hJi, hki⟩
            case measure => simp [intOf]; omega
    · obtain rfl : k = xs.length := by omega
      gi_wp2
      go_end0
      exact ⟨⟨_, rfl⟩, .inl ⟨_, hnum, hJs⟩⟩

theorem numbersOf_in (F : Fence) (n : Nat) (h5 : F.fn 105) (hro : F.round = none) (A : Option Addr) (len cap : Nat) (w : World) :
    CallsIn F n Tryz.prog 105 #[.slice A len cap] w fun e w' => e = .returned (.func (.func 108) #[] #[.pointer (some ⟨w.heap.size, 0, none⟩)]) ∧ w' = w.alloc (.cells #[.slice A len cap] 73) := by
  refine callsIn_of_wp Tryz.func105 rfl h5 ?_ hro
  simp only [Tryz.ntmps105, List.size_toArray, List.length_cons, List.length_nil, Nat.reduceAdd, Nat.reduceSub, Array.replicate_succ, Array.replicate_zero, List.push_toArray, List.append_toArray, List.nil_append, List.cons_append]
  gi_wp2
  go_ret
  exact ⟨rfl, rfl⟩

theorem nums_stops (F : Fence) (n : Nat) (h7 : F.fn 108) (hro : F.round = none) (hn : 1 ≤ n) (Bs : Nat) (A : Option Addr) (c : Nat) (xs : List Sp) (hp : Plain xs) (w : World) (hBs : Bs < w.heap.size)
    (hc : w.cell? ⟨Bs, 0, none⟩ = some (.slice A xs.length c)) (h : Reads w w.heap.size A c xs) :
    SeqStopsK F n Tryz.prog 108 #[.pointer (some ⟨Bs, 0, none⟩)] (fun x : Int => #[Value.int .i64 x]) KeepsC (fun ys => numsAt xs xs.length ys) (fun pre => ∀ y ∈ pre, memS xs y) (12 * 199) w :=
  fun l J Jx W hW hJ _ hY h0 => nums1_in F n h7 hro hn l Bs A c w.heap.size xs hp J Jx W hJ hY ((hW.cell (p := ⟨Bs, 0, none⟩) hBs).trans hc) (h.below hW) h0

def withinB (xs ys : List Sp) : Bool := bothB xs ys && decide (minusP xs ys = [])
theorem minus_nil {xs ys : List Sp} (h1 : validB xs = true) (h2 : validB ys = true) : minusP xs ys = [] ↔ ∀ n, memS xs n → memS ys n := by
  obtain ⟨n1, w1⟩ := norm_of_valid h1
  obtain ⟨n2, w2⟩ := norm_of_valid h2
  obtain ⟨m1, m2, m3⟩ := minusP_spec xs ys n1 w1 n2 w2
  constructor
  · intro h n hn
    by_cases hy : memS ys n
    · exact hy
    · have := (m3 n).2 ⟨hn, hy⟩
      rw [h] at this
      exact absurd this (memS_nil n)
  · intro h
    cases hm : minusP xs ys with
    | nil => rfl
    | cons z zs =>
      have hz := m1.le z (by rw [hm]; exact List.mem_cons_self)
      have h4 := (m3 z.1).1 (by rw [hm, memS_cons]; exact .inl ⟨Int.le_refl _, hz⟩)
      exact absurd (h _ h4.1) h4.2

set_option maxRecDepth 100000 in
set_option maxHeartbeats 2000000 in
theorem implWithin_any (A1 A2 : Option Addr) (c1 c2 : Nat) (xs ys : List Sp) (w : World) (h1 : Reads w w.heap.size A1 c1 xs) (h2 : Reads w w.heap.size A2 c2 ys) :
    Calls Tryz.prog 89 #[.slice A1 xs.length c1, .slice A2 ys.length c2] w fun e w' => e = .returned (.bool (withinB xs ys)) ∧ Below w.heap.size w w' := by
  have H1 := Lib.hid h1
  have H2 := Lib.hid h2
  clear h1 h2
  refine (callsIn_wide (n := 6)).1 ?_
  refine callsIn_of_wp_marks Tryz.func89 rfl trivial ?_ rfl
  simp only [Tryz.ntmps89, List.size_toArray, List.length_cons, List.length_nil, Nat.reduceAdd, Nat.reduceSub, Array.replicate_succ, Array.replicate_zero, List.push_toArray, List.append_toArray, List.nil_append, List.cons_append]
  have c0 := cell_newS w (.slice A2 ys.length c2) 73
  have d0 := cell_newS (w.alloc (.cells #[.slice A2 ys.length c2] 73)) (.bool false) 4
  rw [World.size_alloc] at d0
  have e0 := cell_allocS (.cells #[.bool false] 4) c0.1
  have b0 : Below w.heap.size w ((w.alloc (.cells #[.slice A2 ys.length c2] 73)).alloc (.cells #[.bool false] 4)) := ((Below.refl _ w).alloc (Nat.le_refl _) _).alloc (by simp) _
  gi_wp2_with fail
  obtain ⟨W0, hW0⟩ : ∃ W0 : World, (w.alloc (.cells #[.slice A2 ys.length c2] 73)).alloc (.cells #[.bool false] 4) = W0 := ⟨_, rfl⟩
  have hs0 : W0.heap.size = w.heap.size + 2 := by rw [← hW0]; simp
  rw [hW0] at b0 d0 e0 ⊢
  clear hW0 c0
  obtain ⟨dc, df⟩ := d0
  have K1 := Lib.hid (H1.out.step b0)
  have K2 := Lib.hid (H2.out.step b0)
  refine ⟨trivial, (callsIn_wide.2 (implValid_any _ _ xs _ K1.out)).mono ?_⟩
  rintro e w1 ⟨rfl, b1⟩
  have g1 := (b1.cell (p := ⟨w.heap.size, 0, none⟩) (by show w.heap.size < W0.heap.size; omega)).trans e0
  have g2 := (b1.cell (p := ⟨w.heap.size + 1, 0, none⟩) (by show w.heap.size + 1 < W0.heap.size; omega)).trans dc
  have g3 := (b1.frozen (p := ⟨w.heap.size + 1, 0, none⟩) (by show w.heap.size + 1 < W0.heap.size; omega)).trans df
  have b01 := b0.trans (b1.mono b0.size)
  have G1 := Lib.hid (K1.out.step b1)
  have G2 := Lib.hid (K2.out.step b1)
  cases hv1 : validB xs
  · have hm : Hid (withinB xs ys = false) := Lib.hid (by unfold withinB bothB; rw [hv1]; rfl)
    gi_wp2
    refine ⟨trivial, ?_⟩
    gi_wp2
    have hcr := World.cell?_setCell_same' w1 ⟨w.heap.size + 1, 0, none⟩ (.bool false) (by rw [g2]; rfl)
    refine ⟨.bool false, ?_, by rw [hm.out], b01.setCell (p := ⟨w.heap.size + 1, 0, none⟩) (by simp) _⟩
    simp [results, Tryz.f89, go_sem, hcr]
  · gi_wp2_with fail
    refine ⟨trivial, (callsIn_wide.2 (implValid_any _ _ ys _ G2.out)).mono ?_⟩
    rintro e w2 ⟨rfl, b2⟩
    have f1 := (b2.cell (p := ⟨w.heap.size, 0, none⟩) (by have := b1.size; show w.heap.size < w1.heap.size; omega)).trans g1
    have f2 := (b2.cell (p := ⟨w.heap.size + 1, 0, none⟩) (by have := b1.size; show w.heap.size + 1 < w1.heap.size; omega)).trans g2
    have f3 := (b2.frozen (p := ⟨w.heap.size + 1, 0, none⟩) (by have := b1.size; show w.heap.size + 1 < w1.heap.size; omega)).trans g3
    have b02 := b01.trans (b2.mono b01.size)
    have F1 := Lib.hid (G1.out.step b2)
    have F2 := Lib.hid (G2.out.step b2)
    clear g1 g2 g3
    cases hv2 : validB ys
    · have hm : Hid (withinB xs ys = false) := Lib.hid (by unfold withinB bothB; rw [hv2, Bool.and_false]; rfl)
      gi_wp2
      have hcr := World.cell?_setCell_same' w2 ⟨w.heap.size + 1, 0, none⟩ (.bool false) (by rw [f2]; rfl)
      refine ⟨.bool false, ?_, by rw [hm.out], b02.setCell (p := ⟨w.heap.size + 1, 0, none⟩) (by simp) _⟩
      simp [results, Tryz.f89, go_sem, hcr]
    · have hw := Lib.hid (minus_nil hv1 hv2)
      have hp := Lib.hid (plain_of_valid hv1)
      gi_wp2_with fail
      refine ⟨trivial, (numbersOf_in _ _ trivial rfl _ _ _ _).mono ?_⟩
      rintro e w3 ⟨rfl, rfl⟩
      gi_wp2
      have hm : Hid (withinB xs ys = decide (minusP xs ys = [])) := Lib.hid (by unfold withinB bothB; rw [hv1, hv2]; rfl)
      have k0 := (cell_newS w2 (.slice A1 xs.length c1) 73).1
      have k1 := cell_allocS (.cells #[.slice A1 xs.length c1] 73) f1
      have k2 := cell_allocS (.cells #[.slice A1 xs.length c1] 73) f2
      have k3 := frozen_allocS (.cells #[.slice A1 xs.length c1] 73) f2 f3
      have b03 := b02.alloc b02.size (.cells #[.slice A1 xs.length c1] 73)
      have hs2 : w.heap.size + 2 ≤ w2.heap.size := by have := b1.size; have := b2.size; omega
      have L1 := Lib.hid (F1.out.step ((Below.refl _ _).alloc (Nat.le_refl _) (.cells #[.slice A1 xs.length c1] 73)))
      refine wpIn_rangeFunc_ownF rfl (by omega) (gf := 108) (lb := #[.pointer (some ⟨w2.heap.size, 0, none⟩)]) rfl trivial (enters_of Tryz.func108 (by kernel_rfl) rfl)
        (nums_stops Fence.wide (6 - 1) trivial rfl (by omega) w2.heap.size A1 c1 xs hp.out _ (by simp) k0 L1.out) KeepsC.trans KeepsC.put (Below.refl _ _) (fun _ => rfl)
        (fun pre W => ((∀ y ∈ pre, memS ys y) ∧ W.cell? ⟨w.heap.size, 0, none⟩ = some (.slice A2 ys.length c2) ∧ W.cell? ⟨w.heap.size + 1, 0, none⟩ = some (.bool false) ∧ W.frozen? ⟨w.heap.size + 1, 0, none⟩ = false) ∧ Below w.heap.size w W)
        (fun c pre W => (c = .ret ∧ (∃ y ∈ pre, ¬ memS ys y) ∧ W.cell? ⟨w.heap.size + 1, 0, none⟩ = some (.bool false)) ∧ Below w.heap.size w W)
        (OwnFrom.and (Own.from (fun s A B row hs hg hr => ⟨hs.1, cell_kept hs.2.1 hg hr, cell_kept hs.2.2.1 hg hr, (frozen_kept hs.2.2.1 hg hr).trans hs.2.2.2⟩) _) (ownFrom_below (Nat.le_refl _) (by simp; omega)))
        (fun c => OwnFrom.and (Own.from (fun s A B row hs hg hr => ⟨hs.1, hs.2.1, cell_kept hs.2.2 hg hr⟩) _) (ownFrom_below (Nat.le_refl _) (by simp; omega)))
        ⟨⟨(fun y hy => by cases hy), k1, k2, k3⟩, b03⟩
        (fun x => { tmps := #[.slice A1 xs.length c1, .slice A2 ys.length c2, undef, .pointer (some ⟨w.heap.size, 0, none⟩), .pointer (some ⟨w.heap.size + 1, 0, none⟩), .int .i64 x, .slice A1 xs.length c1, .bool true, .bool false, .bool false, .slice A2 ys.length c2, .bool true, .bool false, .bool false, .slice A1 xs.length c1, .func (.func 108) #[] #[.pointer (some ⟨w2.heap.size, 0, none⟩)], .int .i64 x, undef, undef, undef, undef], defers := [] }) ?assign ?body ?done ?stop
      case assign =>
        intro l x W K hK
        gi_wp2
        exact hK
      case body =>
        rintro l pre x W ⟨⟨hall, hcb, hcr, hfr⟩, hB⟩ _
        have R2 := Lib.hid (H2.out.step hB)
        gi_wp2_with fail
        refine ⟨trivial, (CallsIn.inRound l (callsIn_wide.2 (implHave_any _ _ ys x W R2.out))).mono ?_⟩
        rintro e w4 ⟨rfl, b4⟩
        have kc := KeepsC.below b4
        have m1 := kc _ _ hcb
        have m2 := kc _ _ hcr
        have m3 := (b4.frozen (p := ⟨w.heap.size + 1, 0, none⟩) (by obtain ⟨o, ho, _⟩ := cells_of_cell hcr; exact (Array.getElem?_eq_some_iff.1 ho).1)).trans hfr
        have hB4 := hB.trans (b4.mono hB.size)
        have ko := keepsOthers_below b4
        clear hcb hcr hfr
        cases hb : haveB ys x
        · have hno := Lib.hid (fun h => by have := (haveB_iff ys x).2 h; rw [hb] at this; exact absurd this (by decide) : ¬ memS ys x)
          clear hb
          gi_wp2
          exact ⟨ko.trans (KeepsOthers.setCell _ _ _), ⟨rfl, ⟨x, List.mem_append.2 (.inr (List.mem_singleton.2 rfl)), hno.out⟩, World.cell?_setCell_same' _ _ _ (by rw [m2]; rfl)⟩, hB4.setCell (p := ⟨w.heap.size + 1, 0, none⟩) (by simp) _⟩
        · have hyes := Lib.hid ((haveB_iff ys x).1 hb)
          clear hb
          gi_wp2
          exact ⟨ko, kc, ⟨(fun y hy => (List.mem_append.1 hy).elim (hall y) fun e => by rw [List.mem_singleton.1 e]; exact hyes.out), m1, m2, m3⟩, hB4⟩
      case done =>
        rintro D ys' W hD hnum ⟨⟨hall, _, hcr, hfr⟩, hB⟩ hK
        have hres : withinB xs ys = true := by
          rw [hm.out]
          refine decide_eq_true (hw.out.2 fun n hn => hall n ((hnum n).2 ?_))
          rw [List.take_length]; exact hn
        gi_wp2
        have hK' := (KeepsOthers.setCell W ⟨w.heap.size + 1, 0, none⟩ (.bool true)).same D _ hK rfl
        refine ⟨by simp, .inl ⟨_, _, rfl, run_takeDeferred hK', ?_⟩⟩
        have hc5 := cell_kept (World.cell?_setCell_same' W ⟨w.heap.size + 1, 0, none⟩ (.bool true) (by rw [hcr]; rfl)) (grownBy_putObj' _ D (.deferred none)) (fun r e => by cases e; exact ⟨_, hK', rfl⟩)
        refine ⟨.bool true, ?_, by rw [hres], (hB.setCell (p := ⟨w.heap.size + 1, 0, none⟩) (by simp) _).trans (belowK_b (w := w) (Nat.le_refl _) _ D _ _ (by simp at hD; omega) hK' rfl rfl)⟩
        simp [results, Tryz.f89, go_sem, hc5]
      case stop =>
        rintro D c pre W hD hpre ⟨⟨rfl, ⟨y, hy, hn⟩, hcr⟩, hB⟩ hK
        have hres : withinB xs ys = false := by
          rw [hm.out]
          exact decide_eq_false fun h => hn (hw.out.1 h y (hpre y hy))
        gi_wp2
        refine ⟨by simp, .inl ⟨_, _, rfl, run_takeDeferred hK, ?_⟩⟩
        have hc5 := cell_kept hcr (grownBy_putObj' _ D (.deferred none)) (fun r e => by cases e; exact ⟨_, hK, rfl⟩)
        refine ⟨.bool false, ?_, by rw [hres], hB.trans (belowK_b (w := w) (Nat.le_refl _) W D _ _ (by simp at hD; omega) hK rfl rfl)⟩
        simp [results, Tryz.f89, go_sem, hc5]

set_option maxRecDepth 100000 in
set_option maxHeartbeats 1000000 in
theorem specWithin_any (A1 A2 : Option Addr) (c1 c2 : Nat) (xs ys : List Sp) (w : World) (h1 : Reads w w.heap.size A1 c1 xs) (h2 : Reads w w.heap.size A2 c2 ys) :
    Calls Tryz.prog 85 #[.slice A1 xs.length c1, .slice A2 ys.length c2] w fun e w' => e = .returned (.bool (withinB xs ys)) ∧ Below w.heap.size w w' := by
  have H1 := Lib.hid h1
  have H2 := Lib.hid h2
  clear h1 h2
  go_enter Tryz.func85, Tryz.ntmps85
  go_wp2_with fail
  refine (toBelow (specValid_any _ _ xs w.heap.size _ H1.out)).mono ?_
  rintro e w1 ⟨rfl, b1⟩
  have G1 := Lib.hid (H1.out.step b1)
  have G2 := Lib.hid (H2.out.step b1)
  cases hv1 : validB xs
  · have hm : Hid (withinB xs ys = false) := Lib.hid (by unfold withinB bothB; rw [hv1]; rfl)
    go_wp2
    go_ret
    exact ⟨by rw [hm.out]; rfl, b1⟩
  · go_wp2_with fail
    refine (toBelow (specValid_any _ _ ys w1.heap.size _ G2.out)).mono ?_
    rintro e w2 ⟨rfl, b2⟩
    have b02 := b1.trans (b2.mono b1.size)
    have F1 := Lib.hid (G1.out.step b2)
    have F2 := Lib.hid (G2.out.step b2)
    cases hv2 : validB ys
    · have hm : Hid (withinB xs ys = false) := Lib.hid (by unfold withinB bothB; rw [hv2, Bool.and_false]; rfl)
      go_wp2
      go_ret
      exact ⟨by rw [hm.out]; rfl, b02⟩
    · have hm : Hid (withinB xs ys = decide (minusP xs ys = [])) := Lib.hid (by unfold withinB bothB; rw [hv1, hv2]; rfl)
      have hj := Lib.hid (join_minus hv1 hv2)
      go_wp2_with fail
      refine (join_any _ _ _ _ xs ys false true _ F1.out F2.out).mono ?_
      unfold OwnRes
      rw [hj.out]
      rintro e w3 ⟨v, rfl, hown, hf, b3⟩
      have b03 := b02.trans (b3.mono b02.size)
      obtain ⟨A4, c4, hv4, r4, _⟩ := hown.form hf
      subst hv4
      clear r4
      cases hml : minusP xs ys with
      | nil =>
        rw [hml] at hm
        go_wp2
        go_ret
        exact ⟨by rw [hm.out]; rfl, b03⟩
      | cons z zs =>
        rw [hml] at hm
        go_wp2
        go_ret
        exact ⟨by rw [hm.out]; rfl, b03⟩
end Go.Proofs.YtamfmemdhldmjaaGreatDoor
