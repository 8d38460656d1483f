/-
  Contracts of the functions that only read sets: both programs' checks, searches, sizes.
-/
import Derived.Test.YtamfmemdhldmjaaGreatDoorProg
import Derived.Test.YtamfmemdhldmjaaGreatDoorPureM
import Derived.WalkKit
import Derived.BigQuiet
import Derived.Deep.QuietTactic
import Derived.WalkLawsBesides
import Derived.WalkSpells
import Derived.Lib.Hide
import Derived.Outline
import Derived.Laws.MakeOwn
import Derived.StillTailTactics
namespace Go.Proofs.YtamfmemdhldmjaaGreatDoor
open Go.RowKit Sets

theorem below_drewN {B : Nat} {a w : World} (h : Below B a w) (n : Nat) : Below B a (w.drewN n) := ⟨h.os, h.tape, h.output, h.size, h.block⟩

set_option maxRecDepth 100000 in
set_option maxHeartbeats 1000000 in
theorem specValid_any (A : Option Addr) (c : Nat) (xs : List Sp) (B : Nat) (w : World) (h : Reads w B A c xs) :
    Calls Tryz.prog 102 #[.slice A xs.length c] w fun e w' => e = .returned (.bool (validB xs)) ∧ ∃ n, w' = w.drewN n := by
  obtain ⟨hlc, hc, hfit, hrow⟩ := h
  go_enter Tryz.func102, Tryz.ntmps102
  go_wp2
  go_loopw [3] (fun i wr => ∃ k : Nat, k ≤ xs.length ∧ k ≤ 13 ∧ i = .int .i64 k ∧ (∀ j, j < k → okAt xs j) ∧ ∃ n, wr = w.drewN n) (fun i _ => xs.length - (intOf i).toNat)
  case atStart => exact ⟨0, Nat.zero_le _, by omega, rfl, fun j hj => absurd hj (by omega), 0, rfl⟩
  case round =>
    obtain ⟨k, hk, hk13, rfl, hok, nd, hnd⟩ := hrel
    by_cases hlt : k < xs.length ∧ k ≤ 12
    · obtain ⟨hlt, hk12⟩ := hlt
      rcases hrow with rfl | ⟨b, off, rfl, hB, hrow⟩
      · simp at hlt
      · have hkl : (k : Int) < (xs.length : Int) := by omega
        have hkl' : (k : Int) ≤ 12 := by omega
        have hrow' : RowAt wr b off xs := hrow.keep fun o => by rw [hnd]; rfl
        obtain ⟨c1, c2⟩ := hrow' k hlt
        have Hnd := Lib.hid hnd
        clear hnd
        by_cases t1 : lo xs k < -99
        · go_wp2
          go_quiet (fail)
          go_wp2
          go_ret
          refine ⟨?_, _, by rw [Hnd.out]; exact World.drewN_drewN _ _ _⟩
          rw [(validB_no xs).2 (fun h => by have := (h.2 k hlt).1; unfold lo at t1; omega)]; rfl
        · have t1' : decide (lo xs k < -99) = false := by simpa using t1
          by_cases t2 : 99 < hi xs k
          · go_wp2
            go_quiet (fail)
            go_wp2
            go_ret
            refine ⟨?_, _, by rw [Hnd.out]; exact World.drewN_drewN _ _ _⟩
            rw [(validB_no xs).2 (fun h => by have := (h.2 k hlt).2.1; unfold hi at t2; omega)]; rfl
          · have t2' : decide (99 < hi xs k) = false := by simpa using t2
            by_cases t3 : hi xs k < lo xs k
            · go_wp2
              go_quiet (fail)
              go_wp2
              go_ret
              refine ⟨?_, _, by rw [Hnd.out]; exact World.drewN_drewN _ _ _⟩
              rw [(validB_no xs).2 (fun h => by have := (h.2 k hlt).2.2.1; unfold hi lo at t3; omega)]; rfl
            · have t3' : decide (hi xs k < lo xs k) = false := by simpa using t3
              by_cases t4 : 0 < k
              · have hk1 : (1 : Int) ≤ (k : Int) := by omega
                have hk2 : (0 : Int) ≤ (k : Int) - 1 := by omega
                have hk3 : (k : Int) - 1 < (xs.length : Int) := by omega
                obtain ⟨_, d2⟩ := hrow' (k - 1) (by omega)
                have p1 : hi xs (k - 1) ≤ 99 := (hok (k - 1) (by omega)).2.1
                have p2 : lo xs (k - 1) ≤ hi xs (k - 1) := (hok (k - 1) (by omega)).2.2.1
                have p3 : -99 ≤ lo xs (k - 1) := (hok (k - 1) (by omega)).1
                have e1 : IntKind.i64.wrap ((k : Int) - 1) = (k : Int) - 1 := IntWalk.i64_in _ (by omega)
                have e2 : ((k : Int) - 1).toNat = k - 1 := by omega
                have e3 : IntKind.i64.wrap (hi xs (k - 1) + 1) = hi xs (k - 1) + 1 := IntWalk.i64_in _ (by omega)
                by_cases t5 : lo xs k ≤ hi xs (k - 1) + 1
                · go_wp2
                  go_quiet (fail)
                  go_wp2
                  go_ret
                  refine ⟨?_, _, by rw [Hnd.out]; exact World.drewN_drewN _ _ _⟩
                  rw [(validB_no xs).2 (fun h => by have := (h.2 k hlt).2.2.2 t4; unfold hi lo at t5; omega)]; rfl
                · go_wp2
                  go_quiet (fail)
                  go_wp2
                  go_roundw
                  case rel => exact ⟨k + 1, hlt, by omega, by go_num, (fun j hj => by
                      rcases Nat.lt_or_ge j k with h | h
                      · exact hok j h
                      · obtain rfl : j = k := by omega
                        unfold lo hi at *
                        exact ⟨by omega, by omega, by omega, fun _ => by omega⟩), _, by rw [Hnd.out]; exact World.drewN_drewN _ _ _⟩
                  case measure => simp [intOf]; omega
              · have hk1 : decide (0 < k) = false := by simpa using t4
                go_wp2
                go_quiet (fail)
                go_wp2
                go_roundw
                case rel => exact ⟨k + 1, hlt, by omega, by go_num, (fun j hj => by
                    rcases Nat.lt_or_ge j k with h | h
                    · exact hok j h
                    · obtain rfl : j = k := by omega
                      unfold lo hi at *
                      exact ⟨by omega, by omega, by omega, fun h => absurd h t4⟩), _, by rw [Hnd.out]; exact World.drewN_drewN _ _ _⟩
                case measure => simp [intOf]; omega
    · have hv : validB xs = decide ((xs.length : Int) ≤ 12) := by
        by_cases h12 : xs.length ≤ 12
        · rw [(validB_iff xs).2 ⟨h12, fun j hj => hok j (by omega)⟩]; symm; simp; omega
        · rw [(validB_no xs).2 (fun h => h12 h.1)]; symm; simp; omega
      have Hv := Lib.hid hv
      have Hnd := Lib.hid hnd
      clear hv hnd
      by_cases hlt' : k < xs.length
      all_goals
        go_wp2
        go_ret
        exact ⟨by rw [Hv.out]; rfl, _, Hnd.out⟩

end Go.Proofs.YtamfmemdhldmjaaGreatDoor

namespace Go.Proofs.YtamfmemdhldmjaaGreatDoor
open Go.RowKit Sets

def isNumB (n : Int) : Bool := decide (-99 ≤ n) && decide (n ≤ 99)

set_option maxRecDepth 100000 in
theorem isNumber_any (n : Int) (w : World) : Calls Tryz.prog 88 #[.int .i64 n] w fun e w' => e = .returned (.bool (isNumB n)) ∧ w = w' := by
  unfold isNumB
  go_enter Tryz.func88, Tryz.ntmps88
  go_wp2
  all_goals go_ret
  all_goals refine ⟨?_, rfl⟩
  all_goals simp [*]
  all_goals omega

def limB (lo hi : Int) : Bool := isNumB lo && isNumB hi
theorem limB_iff (lo hi : Int) : limB lo hi = true ↔ (-99 ≤ lo ∧ lo ≤ 99) ∧ -99 ≤ hi ∧ hi ≤ 99 := by simp [limB, isNumB]

set_option maxRecDepth 100000 in
theorem inLimits_any (lo hi : Int) (w : World) : Calls Tryz.prog 77 #[.agg #[.int .i64 lo, .int .i64 hi]] w fun e w' => e = .returned (.bool (limB lo hi)) ∧ w.alloc (.cells #[.int .i64 lo, .int .i64 hi] 93) = w' := by
  go_enter Tryz.func77, Tryz.ntmps77
  unfold limB
  cases h1 : isNumB lo
  all_goals
    have H := Lib.hid h1
    clear h1
    go_wp2_with (go_at_call 88; refine (isNumber_any _ _).mono ?_; rintro e w' ⟨rfl, rfl⟩; try rw [H.out])
  all_goals go_ret
  all_goals exact ⟨rfl, rfl⟩

set_option maxRecDepth 100000 in
theorem empty_any (lo hi : Int) (w : World) : Calls Tryz.prog 78 #[.agg #[.int .i64 lo, .int .i64 hi]] w fun e w' => e = .returned (.bool (decide (hi < lo))) ∧ w.alloc (.cells #[.int .i64 lo, .int .i64 hi] 93) = w' := by
  go_enter Tryz.func78, Tryz.ntmps78
  go_wp2
  go_ret
  exact ⟨rfl, rfl⟩

theorem below3 {B : Nat} {w a : World} (h : Below B w a) (hB : B ≤ a.heap.size) (o1 o2 o3 : Obj) : Below B w (((a.alloc o1).alloc o2).alloc o3) :=
  ((h.alloc hB _).alloc (by simp; omega) _).alloc (by simp; omega) _
theorem below2 {B : Nat} {w a : World} (h : Below B w a) (hB : B ≤ a.heap.size) (o1 o2 : Obj) : Below B w ((a.alloc o1).alloc o2) :=
  (h.alloc hB _).alloc (by simp; omega) _

set_option maxRecDepth 100000 in
theorem implValid_any (A : Option Addr) (c : Nat) (xs : List Sp) (w : World) (h : Reads w w.heap.size A c xs) :
    Calls Tryz.prog 104 #[.slice A xs.length c] w fun e w' => e = .returned (.bool (validB xs)) ∧ Below w.heap.size w w' := by
  obtain ⟨hlc, hc, hfit, hrow⟩ := h
  by_cases hlen : 12 < xs.length
  · have hv := Lib.hid ((validB_no xs).2 (fun h => by have := h.1; omega))
    go_enter Tryz.func104, Tryz.ntmps104
    go_wp2
    go_ret
    exact ⟨by rw [hv.out]; rfl, Below.refl _ _⟩
  · have hd1 : decide ((12 : Int) < (xs.length : Int)) = false := by simp; omega
    go_enter Tryz.func104, Tryz.ntmps104
    go_wp2
    go_loopw [10] (fun i wr => ∃ k : Nat, k ≤ xs.length ∧ i = .int .i64 k ∧ (∀ j, j < k → okAt xs j) ∧ Below w.heap.size w wr) (fun i _ => xs.length - (intOf i).toNat)
    case atStart => exact ⟨0, Nat.zero_le _, rfl, fun j hj => absurd hj (by omega), Below.refl _ _⟩
    case round =>
      obtain ⟨k, hk, rfl, hok, hb⟩ := hrel
      by_cases hlt : k < xs.length
      · rcases hrow with rfl | ⟨b, off, rfl, hB, hrow⟩
        · simp at hlt
        · obtain ⟨c1, c2⟩ := (hrow.below hb hB) k hlt
          have hbw : b < wr.heap.size := by have := hb.size; omega
          have hbw1 : b < wr.heap.size + 1 := by omega
          have hbw2 : b < wr.heap.size + 1 + 1 := by omega
          have hkl : (k : Int) < (xs.length : Int) := by omega
          cases hL : limB (lo xs k) (hi xs k)
          · go_wp2_with (first | (go_at_call 77; refine (inLimits_any _ _ _).mono ?_; rintro e w1 ⟨rfl, rfl⟩) | (go_at_call 78; refine (empty_any _ _ _).mono ?_; rintro e w2 ⟨rfl, rfl⟩))
            go_ret
            refine ⟨?_, below2 hb hb.size _ _⟩
            rw [(validB_no xs).2 (fun h => ?_)]
            · rfl
            · have ho := h.2 k hlt
              have o1 := ho.1; have o2 := ho.2.1; have o3 := ho.2.2.1
              rw [(limB_iff (lo xs k) (hi xs k)).2 (by unfold lo hi; omega)] at hL
              cases hL
          · by_cases hem : hi xs k < lo xs k
            · go_wp2_with (first | (go_at_call 77; refine (inLimits_any _ _ _).mono ?_; rintro e w1 ⟨rfl, rfl⟩) | (go_at_call 78; refine (empty_any _ _ _).mono ?_; rintro e w2 ⟨rfl, rfl⟩))
              go_ret
              refine ⟨?_, below3 hb hb.size _ _ _⟩
              rw [(validB_no xs).2 (fun h => ?_)]
              · rfl
              · have := (h.2 k hlt).2.2.1; unfold lo hi at hem; omega
            · by_cases hk0 : 0 < k
              · have hk1 : (1 : Int) ≤ (k : Int) := by omega
                have hk2 : (0 : Int) ≤ (k : Int) - 1 := by omega
                have hk3 : (k : Int) - 1 < (xs.length : Int) := by omega
                have hk4 := Lib.hid (show k < 9223372036854775807 by omega)
                obtain ⟨d1, d2⟩ := (hrow.below hb hB) (k - 1) (by omega)
                have hpre := (hok (k - 1) (by omega)).2.1
                have hpre0 := (hok (k - 1) (by omega)).2.2.1
                have hpre1 := (hok (k - 1) (by omega)).1
                change hi xs (k - 1) ≤ 99 at hpre
                change lo xs (k - 1) ≤ hi xs (k - 1) at hpre0
                change -99 ≤ lo xs (k - 1) at hpre1
                by_cases hgap : lo xs k < hi xs (k - 1) + 2
                · go_wp2_with (first | (go_at_call 77; refine (inLimits_any _ _ _).mono ?_; rintro e w1 ⟨rfl, rfl⟩) | (go_at_call 78; refine (empty_any _ _ _).mono ?_; rintro e w2 ⟨rfl, rfl⟩))
                  have e1 : IntKind.i64.wrap ((k : Int) - 1) = (k : Int) - 1 := IntWalk.i64_in _ (by have := hk4.out; omega)
                  have e2 : ((k : Int) - 1).toNat = k - 1 := by omega
                  have e3 : IntKind.i64.wrap (hi xs (k - 1) + 2) = hi xs (k - 1) + 2 := IntWalk.i64_in _ (by omega)
                  go_quiet (fail)
                  go_wp2
                  go_ret
                  refine ⟨?_, below_drewN (below3 hb hb.size _ _ _) _⟩
                  rw [(validB_no xs).2 (fun h => ?_)]
                  · rfl
                  · have := (h.2 k hlt).2.2.2 hk0; unfold lo hi at hgap; omega
                · go_wp2_with (first | (go_at_call 77; refine (inLimits_any _ _ _).mono ?_; rintro e w1 ⟨rfl, rfl⟩) | (go_at_call 78; refine (empty_any _ _ _).mono ?_; rintro e w2 ⟨rfl, rfl⟩))
                  have e1 : IntKind.i64.wrap ((k : Int) - 1) = (k : Int) - 1 := IntWalk.i64_in _ (by have := hk4.out; omega)
                  have e2 : ((k : Int) - 1).toNat = k - 1 := by omega
                  have e3 : IntKind.i64.wrap (hi xs (k - 1) + 2) = hi xs (k - 1) + 2 := IntWalk.i64_in _ (by omega)
                  go_quiet (fail)
                  go_wp2
                  go_roundw
                  case rel => exact ⟨k + 1, hlt, by go_num, (fun j hj => by
                    rcases Nat.lt_or_ge j k with h | h
                    · exact hok j h
                    · obtain rfl : j = k := by omega
                      have hl := (limB_iff _ _).1 hL
                      unfold lo hi at hl hem hgap
                      exact ⟨by omega, by omega, by omega, fun _ => by omega⟩), below_drewN (below3 hb hb.size _ _ _) _⟩
                  case measure => simp [intOf]; omega
              · have hk1 : decide (0 < k) = false := by simpa using hk0
                go_wp2_with (first | (go_at_call 77; refine (inLimits_any _ _ _).mono ?_; rintro e w1 ⟨rfl, rfl⟩) | (go_at_call 78; refine (empty_any _ _ _).mono ?_; rintro e w2 ⟨rfl, rfl⟩))
                go_quiet (fail)
                go_wp2
                go_roundw
                case rel => exact ⟨k + 1, hlt, by go_num, (fun j hj => by
                  rcases Nat.lt_or_ge j k with h | h
                  · exact hok j h
                  · obtain rfl : j = k := by omega
                    have hl := (limB_iff _ _).1 hL
                    unfold lo hi at hl hem
                    exact ⟨by omega, by omega, by omega, fun h => absurd h hk0⟩), below_drewN (below3 hb hb.size _ _ _) _⟩
                case measure => simp [intOf]; omega
      · go_wp2
        go_ret
        refine ⟨?_, hb⟩
        rw [(validB_iff xs).2 ⟨by omega, fun j hj => hok j (by omega)⟩]
        rfl
end Go.Proofs.YtamfmemdhldmjaaGreatDoor

namespace Go.Proofs.YtamfmemdhldmjaaGreatDoor
open Go.RowKit Sets

theorem infoSpan : (Tryz.prog.info? 93).map (fun i => (i.zero, i.size, i.bytes)) = some (some (.agg #[.int .i64 0, .int .i64 0]), 2, 16) := by kernel_rfl

/-- A block of the call's own: n spans, none frozen. -/
def OwnRow (w : World) (g n : Nat) : Prop := (∀ o, o < n * 2 → ∃ v, w.cell? ⟨g, o, none⟩ = some v) ∧ (∀ o, w.frozen? ⟨g, o, none⟩ = false) ∧ g < w.heap.size
theorem OwnRow.below {w w' : World} {B g n : Nat} (h : OwnRow w g n) (hb : Below B w w') (hB : g < B) : OwnRow w' g n :=
  ⟨fun o ho => by rw [hb.cell (p := ⟨g, o, none⟩) hB]; exact h.1 o ho, fun o => by rw [hb.frozen (p := ⟨g, o, none⟩) hB]; exact h.2.1 o, Nat.lt_of_lt_of_le h.2.2 hb.size⟩

/-- The two stores of a span at place k. -/
def put2 (w : World) (g o : Nat) (a b : Int) : World := (w.setCell ⟨g, o, none⟩ (.int .i64 a)).setCell ⟨g, o + 1, none⟩ (.int .i64 b)
theorem put2_cell (w : World) (g o : Nat) (a b : Int) (o' : Nat) (h0 : ∃ v, w.cell? ⟨g, o, none⟩ = some v) (h1 : ∃ v, w.cell? ⟨g, o + 1, none⟩ = some v) :
    (put2 w g o a b).cell? ⟨g, o', none⟩ = if o' = o then some (.int .i64 a) else if o' = o + 1 then some (.int .i64 b) else w.cell? ⟨g, o', none⟩ := by
  obtain ⟨v0, h0⟩ := h0
  obtain ⟨v1, h1⟩ := h1
  have hne : (⟨g, o, none⟩ : Addr) ≠ ⟨g, o + 1, none⟩ := by intro h; injection h with _ h; omega
  unfold put2
  by_cases e0 : o' = o
  · subst e0
    rw [if_pos rfl, World.cell?_setCell_other _ _ _ _ hne.symm]
    exact World.cell?_setCell_same' _ _ _ (by rw [h0]; rfl)
  · rw [if_neg e0]
    by_cases e1 : o' = o + 1
    · subst e1
      rw [if_pos rfl]
      refine World.cell?_setCell_same' _ _ _ ?_
      rw [World.cell?_setCell_other _ _ _ _ hne, h1]; rfl
    · rw [if_neg e1, World.cell?_setCell_other _ _ _ _ (fun h => by injection h with _ h; omega), World.cell?_setCell_other _ _ _ _ (fun h => by injection h with _ h; omega)]
theorem put2_below {B : Nat} {w a : World} (h : Below B w a) (g o : Nat) (x y : Int) (hB : B ≤ g) : Below B w (put2 a g o x y) := (h.setCell (p := ⟨g, o, none⟩) hB _).setCell (p := ⟨g, o + 1, none⟩) hB _
theorem put2_own {w : World} {g n o : Nat} (h : OwnRow w g n) (a b : Int) (h0 : ∃ v, w.cell? ⟨g, o, none⟩ = some v) (h1 : ∃ v, w.cell? ⟨g, o + 1, none⟩ = some v) : OwnRow (put2 w g o a b) g n := by
  refine ⟨fun o' ho => ?_, fun o' => ?_, ?_⟩
  · rw [put2_cell w g o a b o' h0 h1]
    split
    · exact ⟨_, rfl⟩
    · split
      · exact ⟨_, rfl⟩
      · exact h.1 o' ho
  · unfold put2
    rw [World.frozen?_setCell, World.frozen?_setCell]; exact h.2.1 o'
  · have := h.2.2
    simpa [put2, World.setCell] using this
theorem put2_row {w : World} {g k : Nat} {ys : List Sp} (h : RowAt w g 0 ys) (hk : k = ys.length) (a b : Int) (h0 : ∃ v, w.cell? ⟨g, k * 2, none⟩ = some v) (h1 : ∃ v, w.cell? ⟨g, k * 2 + 1, none⟩ = some v) :
    RowAt (put2 w g (k * 2) a b) g 0 (ys ++ [(a, b)]) := by
  subst hk
  intro i hi
  rw [put2_cell _ _ _ _ _ _ h0 h1, put2_cell _ _ _ _ _ _ h0 h1]
  simp only [List.length_append, List.length_cons, List.length_nil] at hi
  unfold YtamfmemdhldmjaaGreatDoor.lo YtamfmemdhldmjaaGreatDoor.hi
  rcases Nat.lt_or_ge i ys.length with hlt | hge
  · have := h i hlt
    unfold YtamfmemdhldmjaaGreatDoor.lo YtamfmemdhldmjaaGreatDoor.hi at this
    rw [if_neg (by omega), if_neg (by omega), if_neg (by omega), if_neg (by omega), List.getD_eq_getElem?_getD, List.getElem?_append_left hlt, ← List.getD_eq_getElem?_getD]
    exact this
  · obtain rfl : i = ys.length := by omega
    rw [if_pos (by omega), if_neg (by omega), if_pos (by omega)]
    simp

theorem toBelow {P : Program} {f : FuncId} {args : Array Value} {w : World} {v : Ending} (h : Calls P f args w fun e w' => e = v ∧ ∃ n, w' = w.drewN n) : Calls P f args w fun e w' => e = v ∧ Below w.heap.size w w' :=
  h.mono fun _ _ ⟨he, n, hn⟩ => ⟨he, by rw [hn]; exact below_drewN (Below.refl _ _) n⟩
theorem sameBelow {P : Program} {f : FuncId} {args : Array Value} {w : World} {v : Ending} (h : Calls P f args w fun e w' => e = v ∧ w = w') : Calls P f args w fun e w' => e = v ∧ Below w.heap.size w w' :=
  h.mono fun _ _ ⟨he, hn⟩ => ⟨he, by rw [← hn]; exact Below.refl _ _⟩
theorem Reads.step {w w' : World} {A : Option Addr} {c : Nat} {xs : List Sp} (h : Reads w w.heap.size A c xs) (hb : Below w.heap.size w w') : Reads w' w'.heap.size A c xs := (h.below hb).mono hb.size
theorem Reads.of_own {w : World} {g : Nat} {xs : List Sp} (hr : RowAt w g 0 xs) (ho : OwnRow w g xs.length) (hf : Fits xs) (hn : xs.length ≤ 1048576) : Reads w w.heap.size (some ⟨g, 0, none⟩) xs.length xs :=
  ⟨Nat.le_refl _, by omega, hf, .inr ⟨g, 0, rfl, ho.2.2, hr⟩⟩

end Go.Proofs.YtamfmemdhldmjaaGreatDoor

namespace Go.Proofs.YtamfmemdhldmjaaGreatDoor
open Go.RowKit Sets

theorem fieldsSpan : (Tryz.prog.fieldsOf 93).toList.map (fun f => (f.name, f.type, f.offset)) = [("Lo", 3, 0), ("Hi", 3, 1)] := by kernel_rfl
theorem structSpan : Tryz.prog.underlying 93 = some (.struct (Tryz.prog.fieldsOf 93)) := by kernel_rfl
theorem stoodSpan : Tryz.prog.stoodInHeld 93 = false := by kernel_rfl
theorem fields_of {l : List Field} {n0 n1 : String} {t0 t1 o0 o1 : Nat} (h : l.map (fun f => (f.name, f.type, f.offset)) = [(n0, t0, o0), (n1, t1, o1)]) :
    ∃ f g, l = [f, g] ∧ f.name = n0 ∧ f.type = t0 ∧ f.offset = o0 ∧ g.name = n1 ∧ g.type = t1 ∧ g.offset = o1 := by
  match l, h with
  | [f, g], h =>
    simp only [List.map_cons, List.map_nil, List.cons.injEq, Prod.mk.injEq, and_true] at h
    exact ⟨f, g, rfl, h.1.1, h.1.2.1, h.1.2.2, h.2.1, h.2.2.1, h.2.2.2⟩

theorem run_neq_span (a b c d : Int) (w : World) :
    (binOp .neq 93 (.agg #[.int .i64 a, .int .i64 b]) (.agg #[.int .i64 c, .int .i64 d])).run Tryz.prog w = .ok (.bool (!((a == c) && (b == d)))) w := by
  obtain ⟨f, g, hfs, hn0, ht0, ho0, hn1, ht1, ho1⟩ := fields_of fieldsSpan
  have hu : Tryz.prog.underlying 3 = some (.int .i64) := Tryz.underlying3
  simp only [binOp]
  simp only [Op.equal, Op.maxDepth]
  rw [Sem.run_bind]
  rw [show (10000 : Nat) = 9999 + 1 from rfl, run_equalIn_struct w 9999 _ _ _ structSpan stoodSpan, hfs]
  simp [Op.eqFields, hn0, ht0, ho0, hn1, ht1, ho1, part]
  rw [show (9999 : Nat) = 9998 + 1 from rfl, run_equalIn_int w 9998 _ _ _ a c hu]
  simp only [Result.andThen_ok]
  rw [run_equalIn_int w 9998 _ _ _ b d hu]
  cases a == c <;> cases b == d <;> rfl
end Go.Proofs.YtamfmemdhldmjaaGreatDoor

namespace Go.Proofs.YtamfmemdhldmjaaGreatDoor
open Go.RowKit Sets

set_option maxRecDepth 100000 in
theorem specHas1_any (A : Option Addr) (c : Nat) (xs : List Sp) (n : Int) (B : Nat) (w : World) (h : Reads w B A c xs) :
    Calls Tryz.prog 73 #[.slice A xs.length c, .int .i64 n] w fun e w' => e = .returned (.bool (haveB xs n)) ∧ w = w' := by
  obtain ⟨hlc, hc, hfit, hrow⟩ := h
  go_enter Tryz.func73, Tryz.ntmps73
  go_wp2
  go_loop [5] (fun i => ∃ k : Nat, k ≤ xs.length ∧ i = .int .i64 k ∧ (∀ j, j < k → ¬ (lo xs j ≤ n ∧ n ≤ hi xs j))) (fun i => xs.length - (intOf i).toNat)
  case atStart => exact ⟨0, Nat.zero_le _, rfl, fun j hj => absurd hj (by omega)⟩
  case round =>
    obtain ⟨k, hk, rfl, hno⟩ := hrel
    by_cases hlt : k < xs.length
    · rcases hrow with rfl | ⟨b, off, rfl, hB, hrow⟩
      · simp at hlt
      · have hkl : (k : Int) < (xs.length : Int) := by omega
        obtain ⟨c1, c2⟩ := hrow k hlt
        go_wp2
        all_goals first
          | (go_ret; exact ⟨by rw [have_yes hlt ‹_› ‹_›]; rfl, rfl⟩)
          | (go_round
             case rel => exact ⟨k + 1, hlt, by go_num, fun j hj => by
               rcases Nat.lt_or_ge j k with h | h
               · exact hno j h
               · obtain rfl : j = k := by omega
                 omega⟩
             case measure => simp [intOf]; omega)
    · have hv := Lib.hid (have_no (xs := xs) (n := n) fun j hj => hno j (by omega))
      go_wp2
      go_ret
      exact ⟨by rw [hv.out]; rfl, rfl⟩

set_option maxRecDepth 100000 in
theorem spanHas_any (a b n : Int) (w : World) : Calls Tryz.prog 67 #[.agg #[.int .i64 a, .int .i64 b], .int .i64 n] w fun e w' => e = .returned (.bool (decide (a ≤ n) && decide (n ≤ b))) ∧ Below w.heap.size w w' := by
  by_cases h1 : a ≤ n <;> by_cases h2 : n ≤ b
  all_goals
    have d1 := decide_eq_true_iff (p := a ≤ n)
    clear d1
    go_enter Tryz.func67, Tryz.ntmps67
    go_wp2
    try trivial
    go_ret
    exact ⟨by simp [h1, h2], (Below.refl _ _).alloc (Nat.le_refl _) _⟩
set_option maxRecDepth 100000 in
theorem implHave_any (A : Option Addr) (c : Nat) (xs : List Sp) (n : Int) (w : World) (h : Reads w w.heap.size A c xs) :
    Calls Tryz.prog 44 #[.slice A xs.length c, .int .i64 n] w fun e w' => e = .returned (.bool (haveB xs n)) ∧ Below w.heap.size w w' := by
  obtain ⟨hlc, hc, hfit, hrow⟩ := h
  go_enter Tryz.func44, Tryz.ntmps44
  go_wp2
  go_loopw [9] (fun i wr => ∃ k : Nat, k ≤ xs.length ∧ i = .int .i64 k ∧ Hid (∀ j, j < k → ¬ (lo xs j ≤ n ∧ n ≤ hi xs j)) ∧ Below w.heap.size w wr) (fun i _ => xs.length - (intOf i).toNat)
  case atStart => exact ⟨0, Nat.zero_le _, rfl, Lib.hid (fun j hj => absurd hj (by omega)), Below.refl _ _⟩
  case round =>
    obtain ⟨k, hk, rfl, hno, hb⟩ := hrel
    by_cases hlt : k < xs.length
    · rcases hrow with rfl | ⟨b, off, rfl, hB, hrow⟩
      · simp at hlt
      · have hkl : (k : Int) < (xs.length : Int) := by omega
        obtain ⟨c1, c2⟩ := (hrow.below hb hB) k hlt
        have HB := Lib.hid (hb.alloc hb.size (.cells #[.int .i64 (lo xs k), .int .i64 (hi xs k)] 93))
        have HLT := Lib.hid hlt
        have HR := Lib.hid hrow
        clear hb hrow
        obtain ⟨t, ht⟩ : ∃ t, (decide (lo xs k ≤ n) && decide (n ≤ hi xs k)) = t := ⟨_, rfl⟩
        have HT := Lib.hid ht
        clear ht
        go_wp2_with fail
        refine (spanHas_any _ _ _ _).mono ?_
        rw [HT.out]
        rintro e w1 ⟨rfl, b1⟩
        have HB1 := Lib.hid (HB.out.trans (b1.mono HB.out.size))
        clear b1
        cases t
        · go_wp2
          go_roundw
          case rel => exact ⟨k + 1, hlt, by go_num, Lib.hid (fun j hj => by
               rcases Nat.lt_or_ge j k with h | h
               · exact hno.out j h
               · obtain rfl : j = k := by omega
                 have := HT.out
                 simp at this
                 omega), HB1.out⟩
          case measure => simp [intOf]; omega
        · have hv := Lib.hid (show haveB xs n = true by have := HT.out; simp at this; exact have_yes HLT.out this.1 this.2)
          go_wp2
          go_ret
          exact ⟨by rw [hv.out]; rfl, HB1.out⟩
    · have hv := Lib.hid (have_no (xs := xs) (n := n) fun j hj => hno.out j (by omega))
      go_wp2
      go_ret
      exact ⟨by rw [hv.out]; rfl, hb⟩

/-- What SetHas answers. -/
def hasB (xs : List Sp) (n : Int) : Bool := validB xs && haveB xs n

end Go.Proofs.YtamfmemdhldmjaaGreatDoor

namespace Go.Proofs.YtamfmemdhldmjaaGreatDoor
open Go.RowKit Sets

end Go.Proofs.YtamfmemdhldmjaaGreatDoor

namespace Go.Proofs.YtamfmemdhldmjaaGreatDoor
open Go.RowKit Sets

def sizeV (xs : List Sp) : Int := if validB xs = true then sizeS xs else 0
theorem sizeV_no {xs : List Sp} (h : validB xs = false) : sizeV xs = 0 := by unfold sizeV; rw [h]; rfl
theorem sizeV_yes {xs : List Sp} (h : validB xs = true) : sizeV xs = sizeS xs := by unfold sizeV; rw [if_pos h]
/-- The size of the first k spans. -/
def sizeK (xs : List Sp) (k : Nat) : Int := sizeS (xs.take k)
theorem sizeS_append (s t : List Sp) : sizeS (s ++ t) = sizeS s + sizeS t := by
  induction s with
  | nil => simp [sizeS]
  | cons x s ih => simp only [List.cons_append, sizeS, ih]; omega
theorem sizeK_succ (xs : List Sp) (k : Nat) (h : k < xs.length) : sizeK xs (k + 1) = sizeK xs k + (hi xs k - lo xs k + 1) := by
  unfold sizeK lo hi
  rw [List.take_succ_eq_append_getElem h, sizeS_append, List.getD_eq_getElem?_getD, List.getElem?_eq_getElem h]
  simp [sizeS]
theorem sizeK_all (xs : List Sp) : sizeK xs xs.length = sizeS xs := by unfold sizeK; rw [List.take_length]
theorem valid_at {xs : List Sp} (h : validB xs = true) {k : Nat} (hk : k < xs.length) : -99 ≤ lo xs k ∧ lo xs k ≤ hi xs k ∧ hi xs k ≤ 99 := by
  have := ((validB_iff xs).1 h).2 k hk
  exact ⟨this.1, this.2.2.1, this.2.1⟩
theorem valid_len {xs : List Sp} (h : validB xs = true) : xs.length ≤ 12 := ((validB_iff xs).1 h).1
theorem sizeK_bound {xs : List Sp} (h : validB xs = true) (k : Nat) (hk : k ≤ xs.length) : 0 ≤ sizeK xs k ∧ sizeK xs k ≤ 2388 := by
  have hv := (valid_iff xs).1 ((validB_iff xs).1 h)
  have hn : Norm (xs.take k) := (norm_of_append (s := xs.take k) (t := xs.drop k) (by rw [List.take_append_drop]; exact hv.2.1)).1
  have hb := sizeS_bound (xs.take k) hn (fun x hx => hv.2.2 x (List.mem_of_mem_take hx))
  have : (xs.take k).length ≤ 12 := by rw [List.length_take]; have := hv.1; omega
  unfold sizeK
  omega

end Go.Proofs.YtamfmemdhldmjaaGreatDoor

namespace Go.Proofs.YtamfmemdhldmjaaGreatDoor
open Go.RowKit Sets

def firstB (xs : List Sp) : Bool := validB xs && decide (0 < xs.length)
def firstV (xs : List Sp) : Int := if firstB xs = true then lo xs 0 else 0

end Go.Proofs.YtamfmemdhldmjaaGreatDoor

namespace Go.Proofs.YtamfmemdhldmjaaGreatDoor
open Go.RowKit Sets

set_option maxRecDepth 100000 in
theorem eqSpan_any (a b c d : Int) (w : World) : Calls Tryz.prog 101 #[.agg #[.int .i64 a, .int .i64 b], .agg #[.int .i64 c, .int .i64 d]] w fun e w' =>
    e = .returned (.bool ((a == c) && (b == d))) ∧ (w.alloc (.cells #[.int .i64 a, .int .i64 b] 93)).alloc (.cells #[.int .i64 c, .int .i64 d] 93) = w' := by
  go_enter Tryz.func101, Tryz.ntmps101
  cases h1 : a == c <;> cases h2 : b == d
  all_goals
    have g1 : (a != c) = !(a == c) := rfl
    have g2 : (b != d) = !(b == d) := rfl
    go_wp2
    go_ret
    exact ⟨rfl, rfl⟩

set_option maxRecDepth 100000 in
theorem eqSpanS_any (A1 A2 : Option Addr) (c1 c2 : Nat) (xs ys : List Sp) (w : World) (h1 : Reads w w.heap.size A1 c1 xs) (h2 : Reads w w.heap.size A2 c2 ys) :
    Calls Tryz.prog 84 #[.slice A1 xs.length c1, .slice A2 ys.length c2] w fun e w' => e = .returned (.bool (sameB xs ys)) ∧ Below w.heap.size w w' := by
  by_cases hl : xs.length = ys.length
  · obtain ⟨hlc, hc, hfit, hrow⟩ := h1
    obtain ⟨hlc2, hcc2, hfit2, hrow2⟩ := h2
    have hne : ((xs.length : Int) != (ys.length : Int)) = false := by simp [hl]
    have HL := Lib.hid hl
    clear hl
    go_enter Tryz.func84, Tryz.ntmps84
    go_wp2
    go_loopw [5] (fun i wr => ∃ k : Nat, k ≤ xs.length ∧ i = .int .i64 k ∧ (∀ j, j < k → lo xs j = lo ys j ∧ hi xs j = hi ys j) ∧ Below w.heap.size w wr) (fun i _ => xs.length - (intOf i).toNat)
    case atStart => exact ⟨0, Nat.zero_le _, rfl, fun j hj => absurd hj (by omega), Below.refl _ _⟩
    case round =>
      obtain ⟨k, hk, rfl, hsame, hb⟩ := hrel
      by_cases hlt : k < xs.length
      · rcases hrow with rfl | ⟨b, off, rfl, hB, hrow⟩
        · simp at hlt
        · rcases hrow2 with rfl | ⟨b2, off2, rfl, hB2, hrow2⟩
          · have := HL.out; simp at this hlt; simp [this] at hlt
          · have hkl : (k : Int) < (xs.length : Int) := by omega
            have hkl2 : (k : Int) < (ys.length : Int) := by have := HL.out; omega
            obtain ⟨c1, c2⟩ := (hrow.below hb hB) k hlt
            obtain ⟨d1, d2⟩ := (hrow2.below hb hB2) k (by omega)
            have Hs := Lib.hid hsame
            clear hsame
            go_wp2
            go_still_tail 8, (by kernel_rfl)
            change wpList _ _ _ _ _ wr.drew
            have hb2 : Below w.heap.size w wr.drew := hb.drew
            generalize wr.drew = w2 at hb2 ⊢
            cases hc : ((lo xs k == lo ys k) && (hi xs k == hi ys k))
            · have hv := Lib.hid (same_no (xs := xs) (ys := ys) (j := k) (by simp only [Bool.and_eq_false_iff, beq_eq_false_iff_ne] at hc; exact hc))
              have HC := Lib.hid hc
              clear hc
              go_wp2_with (go_at_call 101; refine (eqSpan_any _ _ _ _ _).mono ?_; rw [HC.out]; rintro e w' ⟨rfl, rfl⟩)
              go_ret
              exact ⟨by rw [hv.out]; rfl, (hb2.alloc hb2.size _).alloc (by have := hb2.size; simp; omega) _⟩
            · have HC := Lib.hid hc
              clear hc
              go_wp2_with (go_at_call 101; refine (eqSpan_any _ _ _ _ _).mono ?_; rw [HC.out]; rintro e w' ⟨rfl, rfl⟩)
              go_roundw
              case rel => exact ⟨k + 1, hlt, by go_num, (fun j hj => by
                 rcases Nat.lt_or_ge j k with h | h
                 · exact Hs.out j h
                 · obtain rfl : j = k := by omega
                   have h1 := HC.out
                   simpa using h1), (hb2.alloc hb2.size _).alloc (by have := hb2.size; simp; omega) _⟩
              case measure => simp [intOf]; omega
      · have hv := Lib.hid (same_yes HL.out fun j hj => hsame j (by omega))
        go_wp2
        go_ret
        exact ⟨by rw [hv.out]; rfl, hb⟩
  · have hne : ((xs.length : Int) != (ys.length : Int)) = true := by simp; omega
    have hv := Lib.hid (same_no_len hl)
    clear hl
    go_enter Tryz.func84, Tryz.ntmps84
    go_wp2
    go_ret
    exact ⟨by rw [hv.out]; rfl, Below.refl _ _⟩
end Go.Proofs.YtamfmemdhldmjaaGreatDoor

namespace Go.Proofs.YtamfmemdhldmjaaGreatDoor
open Go.RowKit Sets

set_option maxRecDepth 100000 in
theorem szSpanS_any (A : Option Addr) (n c : Nat) (left : Int) (w : World) (hn : n ≤ 9223372036854775807) (h1 : -1 ≤ left) (h2 : left ≤ 1048576) :
    Calls Tryz.prog 74 #[.slice A n c, .int .i64 left] w fun e w' => e = .returned (.int .i64 (if left < n then -1 else left - n)) ∧ w = w' := by
  go_enter Tryz.func74, Tryz.ntmps74
  by_cases hlt : left < n
  · rw [if_pos hlt]
    have h3 : left - (n : Int) < 0 := by omega
    go_wp2
    go_ret
    exact ⟨rfl, rfl⟩
  · rw [if_neg hlt]
    have h3 : 0 ≤ left - (n : Int) := by omega
    go_wp2
    go_ret
    exact ⟨rfl, rfl⟩

set_option maxRecDepth 100000 in
theorem toSpan_any (a b : Int) (w : World) : Calls Tryz.prog 87 #[.agg #[.int .i64 a, .int .i64 b]] w fun e w' =>
    e = .returned (.agg #[.int .i64 a, .int .i64 b]) ∧ Below w.heap.size w w' := by
  go_enter Tryz.func87, Tryz.ntmps87
  go_wp2
  refine bodyPost_ret (v := .agg #[.int .i64 a, .int .i64 b]) (by simp [results, Tryz.results87, go_sem]) rfl ⟨rfl, ?_⟩
  exact ((((Below.refl _ _).alloc (Nat.le_refl _) _).alloc (by simp) _).alloc (by simp; omega) _)

set_option maxRecDepth 100000 in
theorem toSpanS_any (A : Option Addr) (c : Nat) (xs : List Sp) (w : World) (h : Reads w w.heap.size A c xs) (hn : xs.length ≤ 1048576) :
    Calls Tryz.prog 76 #[.slice A xs.length c] w fun e w' => e = .returned (.slice (some ⟨w.heap.size, 0, none⟩) xs.length xs.length) ∧
      RowAt w' w.heap.size 0 xs ∧ OwnRow w' w.heap.size xs.length ∧ Below w.heap.size w w' := by
  obtain ⟨hlc, hc, hfit, hrow⟩ := h
  obtain ⟨i0, hi, hz0, hz1, hz2⟩ := info_parts infoSpan
  have hmk := fun W => run_make (P := Tryz.prog) W 73 93 i0 _ Tryz.underlying73 hi hz0 .i64 .i64 xs.length xs.length (by omega) (by omega) (by rw [hz2]; omega) (by omega)
  simp only [Int.toNat_natCast, hz1] at hmk
  clear hi hz0 hz1 hz2
  go_enter Tryz.func76, Tryz.ntmps76
  go_wp2
  obtain ⟨W0, hW0⟩ : ∃ W0 : World, w.alloc (.cells (madeCells #[Value.int .i64 0, .int .i64 0] (xs.length * 2)) 93) = W0 := ⟨_, rfl⟩
  have hown0 : OwnRow W0 w.heap.size xs.length := by
    rw [← hW0]
    refine ⟨fun o ho => ?_, fun o => ?_, by simp⟩
    · rw [World.cell?_alloc_new]
      exact ⟨_, Array.getElem?_eq_getElem (by rw [size_madeCells]; exact ho)⟩
    · exact World.frozen?_alloc_at _ _ _ _ rfl
  have hb0 : Below w.heap.size w W0 := by rw [← hW0]; exact (Below.refl _ _).alloc (Nat.le_refl _) _
  rw [hW0]
  clear hW0 hmk
  go_loopw [4] (fun i wr => ∃ k : Nat, k ≤ xs.length ∧ i = .int .i64 k ∧ RowAt wr w.heap.size 0 (xs.take k) ∧ OwnRow wr w.heap.size xs.length ∧ Below w.heap.size w wr) (fun i _ => xs.length - (intOf i).toNat)
  case atStart => exact ⟨0, Nat.zero_le _, rfl, fun i hi => absurd hi (by simp), hown0, hb0⟩
  case round =>
    obtain ⟨k, hk, rfl, hdone, hown, hb⟩ := hrel
    by_cases hlt : k < xs.length
    · rcases hrow with rfl | ⟨b, off, rfl, hB, hrow⟩
      · simp at hlt
      · have hkl : (k : Int) < (xs.length : Int) := by omega
        obtain ⟨c1, c2⟩ := (hrow.below hb hB) k hlt
        go_wp2_with (go_at_call 87; refine (toSpan_any _ _ _).mono ?_; rintro e w1 ⟨rfl, hb1⟩; have hown1 := hown.below hb1 hown.2.2; obtain ⟨v0, g0⟩ := hown1.1 (k * 2) (by omega); obtain ⟨v1, g1⟩ := hown1.1 (k * 2 + 1) (by omega); have f0 := hown1.2.1 (k * 2); have f1 := hown1.2.1 (k * 2 + 1))
        have hp0 := put2_row (k := k) (ys := xs.take k) (hdone.below hb1 hown.2.2) (by rw [List.length_take]; omega) (lo xs k) (hi xs k) ⟨_, g0⟩ ⟨_, g1⟩
        have hp1 := put2_own hown1 (lo xs k) (hi xs k) ⟨_, g0⟩ ⟨_, g1⟩
        have hp2 := put2_below (hb.trans (hb1.mono hb.size)) w.heap.size (k * 2) (lo xs k) (hi xs k) (Nat.le_refl _)
        rw [← take_lohi hlt] at hp0
        go_roundw
        case rel => exact ⟨k + 1, hlt, by go_num, hp0, hp1, hp2⟩
        case measure => simp [intOf]; omega
    · go_wp2
      go_ret
      exact ⟨rfl, by rw [List.take_of_length_le (by omega)] at hdone; exact hdone, hown, hb⟩
end Go.Proofs.YtamfmemdhldmjaaGreatDoor
