/-
  The cell of an input: the program.
-/
import Derived.Test.YtamfmemdhldmjaaHl
import Derived.StillTailTactics
import Derived.Shelf.Abstract
namespace Go.Proofs.Ytamfmemdhldmjaa
open Go.RowKit Sets

set_option maxRecDepth 100000 in
set_option maxHeartbeats 2000000 in
theorem numFn_any (a b y : Int) (k : Nat) (A2 : Option Addr) (c2 : Nat) (ns : List Int) (g3 g6 : Nat) (w : World) (h3 : w.cell? ⟨g3, 0, none⟩ = some (.slice A2 ns.length c2)) (h6 : w.cell? ⟨g6, 0, none⟩ = some (.int .i64 k)) (z3 : g3 < w.heap.size) (z6 : g6 < w.heap.size) (hN : IntsAt w w.heap.size A2 c2 ns) (hk : k < ns.length) (hy : ns.getD k 0 = y) :
    Calls Try.prog 107 #[.agg #[.int .i64 a, .int .i64 b], .pointer (some ⟨g3, 0, none⟩), .pointer (some ⟨g6, 0, none⟩)] w fun e w' => e = .returned (.bool (decide (a ≤ y) && decide (y ≤ b))) ∧ Below w.heap.size w w' := by
  obtain ⟨b2, off2, rfl, hB2, q3⟩ := int_read hN hk
  rw [hy] at q3
  have hb0 : Below w.heap.size w (w.alloc (.cells #[.int .i64 a, .int .i64 b] 78)) := (Below.refl _ _).alloc (Nat.le_refl _) _
  have c0 : (w.alloc (.cells #[.int .i64 a, .int .i64 b] 78)).cell? ⟨w.heap.size, 0, none⟩ = some (.int .i64 a) := by rw [World.cell?_alloc_new]; rfl
  have c1 : (w.alloc (.cells #[.int .i64 a, .int .i64 b] 78)).cell? ⟨w.heap.size, 1, none⟩ = some (.int .i64 b) := by rw [World.cell?_alloc_new]; rfl
  have d3 := (hb0.cell (p := ⟨g3, 0, none⟩) z3).trans h3
  have d6 := (hb0.cell (p := ⟨g6, 0, none⟩) z6).trans h6
  have d2 := (hb0.cell (p := ⟨b2, off2 + k, none⟩) hB2).trans q3
  have hkl : (k : Int) < (ns.length : Int) := by omega
  have HB := Lib.hid hb0
  clear hN h3 h6 q3 hb0 hy hk
  go_enter Try.func107, Try.ntmps107
  go_wp2
  generalize (w.alloc (.cells #[.int .i64 a, .int .i64 b] 78)) = W at HB c0 c1 d2 d3 d6 ⊢
  go_still_tail 5, (by kernel_rfl)
  change wpList _ _ _ _ _ W.drew
  have hbd := Lib.hid HB.out.drew
  generalize W.drew = W2 at hbd ⊢
  clear c0 c1 d2 d3 d6
  go_wp2_with fail
  refine (spanHas_any a b y W2).mono ?_
  rintro e w2 ⟨rfl, b2'⟩
  obtain ⟨r, hr⟩ : ∃ r, (decide (a ≤ y) && decide (y ≤ b)) = r := ⟨_, rfl⟩
  have HR := Lib.hid hr
  rw [hr]
  clear hr
  go_wp2
  go_ret
  exact ⟨by rw [HR.out]; rfl, hbd.out.trans (b2'.mono hbd.out.size)⟩

set_option maxRecDepth 100000 in
set_option maxHeartbeats 4000000 in
theorem idxFn_any (A : Option Addr) (c : Nat) (xs : List Sp) (y : Int) (p k : Nat) (A2 : Option Addr) (c2 : Nat) (ns : List Int) (g3 g6 : Nat) (w : World) (h : Reads w w.heap.size A c xs) (hp : IsPos xs y p) (hbf : ∀ m, m < p → hi xs m < y) (h3 : w.cell? ⟨g3, 0, none⟩ = some (.slice A2 ns.length c2)) (h6 : w.cell? ⟨g6, 0, none⟩ = some (.int .i64 k)) (z3 : g3 < w.heap.size) (z6 : g6 < w.heap.size) (hN : IntsAt w w.heap.size A2 c2 ns) (hk : k < ns.length) (hy : ns.getD k 0 = y) :
    Calls Try.prog 106 #[.slice A xs.length c, .func (.func 107) #[] #[.pointer (some ⟨g3, 0, none⟩), .pointer (some ⟨g6, 0, none⟩)]] w fun e w' => e = .returned (.int .i64 p) ∧ Below w.heap.size w w' := by
  have eg : ∀ args w, (callFunc 107 args).run Try.prog w = .ok (.enter 107 args) w := enters_of Try.func107 (by kernel_rfl) rfl
  have HF := Lib.hid (fun (a b : Int) (wr : World) (hb : Below w.heap.size w wr) => numFn_any a b y k A2 c2 ns g3 g6 wr ((hb.cell (p := ⟨g3, 0, none⟩) z3).trans h3) ((hb.cell (p := ⟨g6, 0, none⟩) z6).trans h6) (Nat.lt_of_lt_of_le z3 hb.size) (Nat.lt_of_lt_of_le z6 hb.size) ((hN.below hb).mono hb.size) hk hy)
  obtain ⟨hlc, hc, hfit, hrow⟩ := h
  have HP := Lib.hid hp
  have HPL := hp.1
  have HBF := Lib.hid hbf
  clear hfit hp hbf h3 h6 z3 z6 hN hk hy
  go_enter Try.func106, Try.ntmps106
  go_wp2
  go_loopw [8] (fun i wr => ∃ m : Nat, m ≤ p ∧ i = .int .i64 m ∧ Below w.heap.size w wr) (fun i _ => p - (intOf i).toNat)
  case atStart => exact ⟨0, Nat.zero_le _, rfl, Below.refl _ _⟩
  case round =>
    obtain ⟨m, hm, rfl, hb⟩ := hrel
    have hml : (m : Int) < (xs.length : Int) := by omega
    rcases hrow with rfl | ⟨b, off, rfl, hB, hrow⟩
    · simp at hml; omega
    obtain ⟨d1, d2⟩ := (hrow.below hb hB) m (by omega)
    have HT := HF.out (lo xs m) (hi xs m) wr hb
    have HBB := Lib.hid hb
    by_cases hmp : m < p
    · have hv : (decide (lo xs m ≤ y) && decide (y ≤ hi xs m)) = false := by
        have := HBF.out m hmp
        rw [decide_eq_false (show ¬ y ≤ hi xs m by omega), Bool.and_false]
      rw [hv] at HT
      have HC := Lib.hid HT
      have HMP := Lib.hid hmp
      generalize lo xs m = x1 at d1 HC
      generalize hi xs m = x2 at d2 HC
      clear hv HT hrow hb
      go_wp2_with (go_at_fn 107; refine HC.out.mono ?_; rintro e w' ⟨rfl, hb3⟩)
      go_roundw
      case rel => exact ⟨m + 1, HMP.out, by go_num, HBB.out.trans (hb3.mono HBB.out.size)⟩
      case measure => simp [intOf]; omega
    · obtain rfl : m = p := by omega
      have hv : (decide (lo xs m ≤ y) && decide (y ≤ hi xs m)) = true := by
        rw [decide_eq_true HP.out.2.1, decide_eq_true HP.out.2.2]; rfl
      rw [hv] at HT
      have HC := Lib.hid HT
      generalize lo xs m = x1 at d1 HC
      generalize hi xs m = x2 at d2 HC
      clear hv HT hrow hb
      go_wp2_with (go_at_fn 107; refine HC.out.mono ?_; rintro e w' ⟨rfl, hb3⟩)
      go_ret
      exact ⟨rfl, HBB.out.trans (hb3.mono HBB.out.size)⟩
end Go.Proofs.Ytamfmemdhldmjaa
