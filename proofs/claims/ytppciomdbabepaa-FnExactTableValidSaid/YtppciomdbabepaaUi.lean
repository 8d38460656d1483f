/-
  Tables that are valid: the model.
-/
import Derived.Test.YtppciomdbabepaaUh
import Derived.Test.YtppciomdbabepaaTj
namespace Go.Proofs.Ytppciomdbabepaa
open Go.RowKit Sets

def tAt (cs : List Co) (xss : List (List Sp)) (i : Nat) : Bool := isT (cs.getD i (false, 0, 0)).1 (cs.getD i (false, 0, 0)).2.1 (cs.getD i (false, 0, 0)).2.2 (xss.getD i [])
def ruleB (cs : List Co) (xss : List (List Sp)) (x : Int) : Bool := decide (xss.length = cs.length) && (decide (0 ≤ x) && (decide (x ≤ 99) && (List.range cs.length).all (tAt cs xss)))
theorem all_yes {n : Nat} {p : Nat → Bool} (h : ∀ i, i < n → p i = true) : (List.range n).all p = true := List.all_eq_true.2 fun i hi => h i (List.mem_range.1 hi)
theorem all_no {n k : Nat} {p : Nat → Bool} (hk : k < n) (h : p k = false) : (List.range n).all p = false := by
  cases e : (List.range n).all p
  · rfl
  · have := List.all_eq_true.1 e k (List.mem_range.2 hk)
    rw [h] at this; cases this

set_option maxRecDepth 100000 in
set_option maxHeartbeats 1000000 in
theorem specRule_any (A1 A2 : Option Addr) (c1 c2 : Nat) (cs : List Co) (xss : List (List Sp)) (x : Int) (w : World) (h1 : ColsAt w w.heap.size A1 c1 cs) (h2 : SetsAt w w.heap.size A2 c2 xss) :
    Calls Try.prog 42 #[.slice A1 cs.length c1, .agg #[.slice A2 xss.length c2, .int .i64 x]] w fun e w' => e = .returned (.bool (ruleB cs xss x)) ∧ Below w.heap.size w w' := by
  have hb0 : Below w.heap.size w (w.alloc (.cells #[.slice A2 xss.length c2, .int .i64 x] 65)) := (Below.refl _ _).alloc (Nat.le_refl _) _
  have p0 : (w.alloc (.cells #[.slice A2 xss.length c2, .int .i64 x] 65)).cell? ⟨w.heap.size, 0, none⟩ = some (.slice A2 xss.length c2) := by rw [World.cell?_alloc_new]; rfl
  have p1 : (w.alloc (.cells #[.slice A2 xss.length c2, .int .i64 x] 65)).cell? ⟨w.heap.size, 1, none⟩ = some (.int .i64 x) := by rw [World.cell?_alloc_new]; rfl
  have hz0 : (w.alloc (.cells #[.slice A2 xss.length c2, .int .i64 x] 65)).heap.size = w.heap.size + 1 := by simp
  obtain ⟨hlc, hc, hrow⟩ := h1
  obtain ⟨hlc2, hcc2, hrow2⟩ := h2
  by_cases hl : xss.length = cs.length
  · have hne : ((xss.length : Int) != (cs.length : Int)) = false := by simp [hl]
    have HL := Lib.hid hl
    clear hl
    by_cases hx0 : x < 0
    · have hv := Lib.hid (show ruleB cs xss x = false by unfold ruleB; rw [decide_eq_false (show ¬ 0 ≤ x by omega)]; simp)
      go_enter Try.func42, Try.ntmps42
      go_wp2
      go_ret
      exact ⟨by rw [hv.out]; rfl, hb0⟩
    · by_cases hx1 : 99 < x
      · have hv := Lib.hid (show ruleB cs xss x = false by unfold ruleB; rw [decide_eq_false (show ¬ x ≤ 99 by omega)]; simp)
        have hx0' : 0 ≤ x := by omega
        go_enter Try.func42, Try.ntmps42
        go_wp2
        go_ret
        exact ⟨by rw [hv.out]; rfl, hb0⟩
      · have hx0' : 0 ≤ x := by omega
        have hx1' : x ≤ 99 := by omega
        have hv := Lib.hid (show ruleB cs xss x = (List.range cs.length).all (tAt cs xss) by unfold ruleB; rw [decide_eq_true HL.out, decide_eq_true hx0', decide_eq_true hx1']; simp)
        go_enter Try.func42, Try.ntmps42
        go_wp2
        generalize w.alloc (.cells #[.slice A2 xss.length c2, .int .i64 x] 65) = W at hb0 p0 p1 hz0 ⊢
        go_loopw [5] (fun i wr => ∃ k : Nat, k ≤ cs.length ∧ i = .int .i64 k ∧ Hid (∀ j, j < k → tAt cs xss j = true) ∧ Below W.heap.size W wr) (fun i _ => cs.length - (intOf i).toNat)
        case atStart => exact ⟨0, Nat.zero_le _, rfl, Lib.hid (fun i hi => absurd hi (by omega)), Below.refl _ _⟩
        case round =>
          obtain ⟨k, hk, rfl, hall, hb⟩ := hrel
          have hbw := hb0.trans (hb.mono hb0.size)
          by_cases hlt : k < cs.length
          · rcases hrow with hz | ⟨b, off, rfl, hB, hrow⟩
            · omega
            · rcases hrow2 with hz | ⟨b2, off2, rfl, hB2, hrow2⟩
              · have := HL.out; omega
              · have hkl : (k : Int) < (cs.length : Int) := by omega
                have hkl2 : (k : Int) < (xss.length : Int) := by have := HL.out; omega
                obtain ⟨u1, u2, u3⟩ := hrow k hlt
                obtain ⟨A'', c'', v1, v2⟩ := hrow2 k (by have := HL.out; omega)
                rw [Nat.mul_one] at v1
                have d0 := (hb.cell (p := ⟨w.heap.size, 0, none⟩) (by simp only; omega)).trans p0
                have d1 := (hbw.cell (p := ⟨b, off + k * 3, none⟩) hB).trans u1
                have d2 := (hbw.cell (p := ⟨b, off + k * 3 + 1, none⟩) hB).trans u2
                have d3 := (hbw.cell (p := ⟨b, off + k * 3 + 2, none⟩) hB).trans u3
                have e1 := (hbw.cell (p := ⟨b2, off2 + k, none⟩) hB2).trans v1
                have V2 := Lib.hid (((v2.below hbw).mono hbw.size).below (Below.refl wr.heap.size wr).drew)
                obtain ⟨ht, HT⟩ : ∃ t, Hid (tAt cs xss k = t) := ⟨_, Lib.hid rfl⟩
                obtain ⟨⟨L, a, b'⟩, hv'⟩ : ∃ v, cs.getD k (false, 0, 0) = v := ⟨_, rfl⟩
                obtain ⟨xs, hxs⟩ : ∃ xs, xss.getD k [] = xs := ⟨_, rfl⟩
                have HI := Lib.hid (show isT L a b' xs = ht by rw [← HT.out]; unfold tAt; rw [hv', hxs])
                rw [hv'] at d1 d2 d3
                rw [hxs] at e1 V2
                simp only [] at d1 d2 d3
                have HBW := Lib.hid hbw
                clear u1 u2 u3 v1 v2 hv' hxs hrow hrow2 hbw hne
                go_wp2
                go_still_tail 9, (by kernel_rfl)
                change wpList _ _ _ _ _ wr.drew
                have hb2 : Below W.heap.size W wr.drew := hb.drew
                have hz2 : wr.drew.heap.size = wr.heap.size := rfl
                rw [← hz2] at V2
                generalize wr.drew = w2 at hb2 V2 ⊢
                clear hz2
                cases ht
                · go_wp2_with (go_at_call 73; refine (specIn_any L a b' _ _ xs _ V2.out).mono ?_; rw [HI.out]; rintro e w' ⟨rfl, hb3⟩)
                  go_ret
                  exact ⟨by rw [hv.out, all_no hlt HT.out]; rfl, hb0.trans ((hb2.trans (hb3.mono hb2.size)).mono hb0.size)⟩
                · go_wp2_with (go_at_call 73; refine (specIn_any L a b' _ _ xs _ V2.out).mono ?_; rw [HI.out]; rintro e w' ⟨rfl, hb3⟩)
                  go_roundw
                  case rel =>
                    refine ⟨k + 1, hlt, by go_num, Lib.hid (fun i hi => ?_), hb2.trans (hb3.mono hb2.size)⟩
                    by_cases e : i = k
                    · rw [e]; exact HT.out
                    · exact hall.out i (by omega)
                  case measure => simp [intOf]; omega
          · obtain rfl : k = cs.length := by omega
            go_wp2
            go_ret
            exact ⟨by rw [hv.out, all_yes hall.out]; rfl, hbw⟩
  · have hne : ((xss.length : Int) != (cs.length : Int)) = true := by simp; omega
    have hv := Lib.hid (show ruleB cs xss x = false by unfold ruleB; rw [decide_eq_false hl]; rfl)
    clear hl
    go_enter Try.func42, Try.ntmps42
    go_wp2
    go_ret
    exact ⟨by rw [hv.out]; rfl, hb0⟩
end Go.Proofs.Ytppciomdbabepaa
