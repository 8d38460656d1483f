/-
  Contracts of the functions that only read sets: searches, equality, sizes.
-/
import Derived.Test.YtiaoenkgapfgaaaDoorRd
import Derived.Test.YtiaoenkgapfgaaaDoorIv
import Derived.Test.YtiaoenkgapfgaaaDoorEq
namespace Go.Proofs.YtiaoenkgapfgaaaDoor
open Go.RowKit Sets

set_option maxRecDepth 100000 in
theorem implHave_any (A : Option Addr) (c : Nat) (xs : List Sp) (n : Int) (w : World) (h : Reads w w.heap.size A c xs) :
    Calls Tryd.prog 103 #[.slice A xs.length c, .int .i64 n] w fun e w' => e = .returned (.bool (haveB xs n)) ∧ Below w.heap.size w w' := by
  obtain ⟨hlc, hc, hfit, hrow⟩ := h
  go_enter Tryd.func103, Tryd.ntmps103
  go_wp2
  go_loopw [9] (fun i wr => ∃ k : Nat, k ≤ xs.length ∧ i = .int .i64 k ∧ (∀ j, j < k → ¬ (lo xs j ≤ n ∧ n ≤ hi xs j)) ∧ Below w.heap.size w wr) (fun i _ => xs.length - (intOf i).toNat)
  case atStart => exact ⟨0, Nat.zero_le _, rfl, fun j hj => absurd hj (by omega), Below.refl _ _⟩
  case round =>
    obtain ⟨k, hk, rfl, hno, hb⟩ := hrel
    by_cases hlt : k < xs.length
    · rcases hrow with rfl | ⟨b, off, rfl, hB, hrow⟩
      · simp at hlt
      · have hkl : (k : Int) < (xs.length : Int) := by omega
        obtain ⟨c1, c2⟩ := (hrow.below hb hB) k hlt
        go_wp2
        all_goals first
          | (go_ret; exact ⟨by rw [have_yes hlt ‹_› ‹_›]; rfl, hb.alloc hb.size _⟩)
          | (go_roundw
             case rel => exact ⟨k + 1, hlt, by go_num, (fun j hj => by
               rcases Nat.lt_or_ge j k with h | h
               · exact hno j h
               · obtain rfl : j = k := by omega
                 omega), hb.alloc hb.size _⟩
             case measure => simp [intOf]; omega)
    · have hv := Lib.hid (have_no (xs := xs) (n := n) fun j hj => hno j (by omega))
      go_wp2
      go_ret
      exact ⟨by rw [hv.out]; rfl, hb⟩

/-- What SetHas answers. -/
def hasB (xs : List Sp) (n : Int) : Bool := validB xs && haveB xs n

set_option maxRecDepth 100000 in
theorem implHas_any (A : Option Addr) (c : Nat) (xs : List Sp) (n : Int) (w : World) (h : Reads w w.heap.size A c xs) :
    Calls Tryd.prog 86 #[.slice A xs.length c, .int .i64 n] w fun e w' => e = .returned (.bool (hasB xs n)) ∧ Below w.heap.size w w' := by
  have H := Lib.hid h
  clear h
  unfold hasB
  go_enter Tryd.func86, Tryd.ntmps86
  cases hv : validB xs
  all_goals
    go_wp2_with (first | (go_at_call 102; refine (implValid_any _ _ _ _ H.out).mono ?_; rintro e w1 ⟨rfl, hb1⟩; have H1 := Lib.hid ((H.out.below hb1).mono hb1.size)) | (go_at_call 103; refine (implHave_any _ _ _ _ _ H1.out).mono ?_; rintro e w2 ⟨rfl, hb2⟩))
    go_ret
    first | exact ⟨rfl, hb1⟩ | exact ⟨rfl, hb1.trans (hb2.mono hb1.size)⟩

set_option maxRecDepth 100000 in
theorem slicesEqual_any (A1 A2 : Option Addr) (c1 c2 : Nat) (xs ys : List Sp) (B1 B2 : Nat) (w : World) (h1 : Reads w B1 A1 c1 xs) (h2 : Reads w B2 A2 c2 ys) :
    Calls Tryd.prog 105 #[.slice A1 xs.length c1, .slice A2 ys.length c2] w fun e w' => e = .returned (.bool (sameB xs ys)) ∧ ∃ n, w' = w.drewN n := by
  by_cases hl : xs.length = ys.length
  · obtain ⟨hlc, hc, hfit, hrow⟩ := h1
    obtain ⟨hlc2, hcc2, hfit2, hrow2⟩ := h2
    have hne : ((xs.length : Int) != (ys.length : Int)) = false := by simp [hl]
    have HL := Lib.hid hl
    clear hl
    go_enter Tryd.func105, Tryd.ntmps105
    go_wp2
    go_loopw [13] (fun i wr => ∃ k : Nat, k ≤ xs.length ∧ i = .int .i64 k ∧ (∀ j, j < k → lo xs j = lo ys j ∧ hi xs j = hi ys j) ∧ ∃ n, wr = w.drewN n) (fun i _ => xs.length - (intOf i).toNat)
    case atStart => exact ⟨0, Nat.zero_le _, rfl, fun j hj => absurd hj (by omega), 0, rfl⟩
    case round =>
      obtain ⟨k, hk, rfl, hsame, nd, hnd⟩ := hrel
      by_cases hlt : k < xs.length
      · rcases hrow with rfl | ⟨b, off, rfl, hB, hrow⟩
        · simp at hlt
        · rcases hrow2 with rfl | ⟨b2, off2, rfl, hB2, hrow2⟩
          · have := HL.out; simp at this hlt; simp [this] at hlt
          · have hkl : (k : Int) < (xs.length : Int) := by omega
            have hkl2 : (k : Int) < (ys.length : Int) := by have := HL.out; omega
            obtain ⟨c1, c2⟩ := (hrow.keep (w' := wr) fun o => by rw [hnd]; rfl) k hlt
            obtain ⟨d1, d2⟩ := (hrow2.keep (w' := wr) fun o => by rw [hnd]; rfl) k (by omega)
            have Hnd := Lib.hid hnd
            have Hs := Lib.hid hsame
            have hcmp := fun w => run_neq_span (lo xs k) (hi xs k) (lo ys k) (hi ys k) w
            clear hnd hsame
            go_wp2
            go_quiet (fail)
            go_wp2
            all_goals first
              | (go_ret; exact ⟨by rw [same_no (j := k) (by rename_i h; simpa using h)]; rfl, _, by rw [Hnd.out]; exact World.drewN_drewN _ _ _⟩)
              | (go_roundw
                 case rel => exact ⟨k + 1, hlt, by go_num, (fun j hj => by
                   rcases Nat.lt_or_ge j k with h | h
                   · exact Hs.out j h
                   · obtain rfl : j = k := by omega
                     have h1 : (!lo xs j == lo ys j) = false ∧ (!hi xs j == hi ys j) = false := by assumption
                     simpa using h1), _, by rw [Hnd.out]; exact World.drewN_drewN _ _ _⟩
                 case measure => simp [intOf]; omega)
      · have hv := Lib.hid (same_yes HL.out fun j hj => hsame j (by omega))
        have Hnd := Lib.hid hnd
        clear hnd
        go_wp2
        go_ret
        exact ⟨by rw [hv.out]; rfl, _, Hnd.out⟩
  · have hne : ((xs.length : Int) != (ys.length : Int)) = true := by simp; omega
    have hv := Lib.hid (same_no_len hl)
    clear hl
    go_enter Tryd.func105, Tryd.ntmps105
    go_wp2
    go_ret
    exact ⟨by rw [hv.out]; rfl, 0, rfl⟩

set_option maxRecDepth 100000 in
theorem implSame_any (A1 A2 : Option Addr) (c1 c2 : Nat) (xs ys : List Sp) (B1 B2 : Nat) (w : World) (h1 : Reads w B1 A1 c1 xs) (h2 : Reads w B2 A2 c2 ys) :
    Calls Tryd.prog 89 #[.slice A1 xs.length c1, .slice A2 ys.length c2] w fun e w' => e = .returned (.bool (sameB xs ys)) ∧ ∃ n, w' = w.drewN n := by
  go_enter Tryd.func89, Tryd.ntmps89
  have H1 := Lib.hid h1
  have H2 := Lib.hid h2
  clear h1 h2
  go_wp2_with (go_at_call 105; refine (slicesEqual_any _ _ _ _ _ _ B1 B2 _ H1.out H2.out).mono ?_; rintro e w1 ⟨rfl, n1, rfl⟩)
  go_ret
  exact ⟨rfl, _, rfl⟩
end Go.Proofs.YtiaoenkgapfgaaaDoor

namespace Go.Proofs.YtiaoenkgapfgaaaDoor
open Go.RowKit Sets

set_option maxRecDepth 100000 in
theorem specSame_any (A1 A2 : Option Addr) (c1 c2 : Nat) (xs ys : List Sp) (B1 B2 : Nat) (w : World) (h1 : Reads w B1 A1 c1 xs) (h2 : Reads w B2 A2 c2 ys) :
    Calls Tryd.prog 97 #[.slice A1 xs.length c1, .slice A2 ys.length c2] w fun e w' => e = .returned (.bool (sameB xs ys)) ∧ ∃ n, w' = w.drewN n := by
  by_cases hl : xs.length = ys.length
  · obtain ⟨hlc, hc, hfit, hrow⟩ := h1
    obtain ⟨hlc2, hcc2, hfit2, hrow2⟩ := h2
    have hne : ((xs.length : Int) != (ys.length : Int)) = false := by simp [hl]
    have HL := Lib.hid hl
    clear hl
    go_enter Tryd.func97, Tryd.ntmps97
    go_wp2
    go_loopw [5] (fun i wr => ∃ k : Nat, k ≤ xs.length ∧ i = .int .i64 k ∧ (∀ j, j < k → lo xs j = lo ys j ∧ hi xs j = hi ys j) ∧ ∃ n, wr = w.drewN n) (fun i _ => xs.length - (intOf i).toNat)
    case atStart => exact ⟨0, Nat.zero_le _, rfl, fun j hj => absurd hj (by omega), 0, rfl⟩
    case round =>
      obtain ⟨k, hk, rfl, hsame, nd, hnd⟩ := hrel
      by_cases hlt : k < xs.length
      · rcases hrow with rfl | ⟨b, off, rfl, hB, hrow⟩
        · simp at hlt
        · rcases hrow2 with rfl | ⟨b2, off2, rfl, hB2, hrow2⟩
          · have := HL.out; simp at this hlt; simp [this] at hlt
          · have hkl : (k : Int) < (xs.length : Int) := by omega
            have hkl2 : (k : Int) < (ys.length : Int) := by have := HL.out; omega
            obtain ⟨c1, c2⟩ := (hrow.keep (w' := wr) fun o => by rw [hnd]; rfl) k hlt
            obtain ⟨d1, d2⟩ := (hrow2.keep (w' := wr) fun o => by rw [hnd]; rfl) k (by omega)
            have Hnd := Lib.hid hnd
            have Hs := Lib.hid hsame
            have hcmp := fun w => run_neq_span (lo xs k) (hi xs k) (lo ys k) (hi ys k) w
            clear hnd hsame
            go_wp2
            go_quiet (fail)
            go_wp2
            all_goals first
              | (go_ret; exact ⟨by rw [same_no (j := k) (by rename_i h; simpa using h)]; rfl, _, by rw [Hnd.out]; exact World.drewN_drewN _ _ _⟩)
              | (go_roundw
                 case rel => exact ⟨k + 1, hlt, by go_num, (fun j hj => by
                   rcases Nat.lt_or_ge j k with h | h
                   · exact Hs.out j h
                   · obtain rfl : j = k := by omega
                     have h1 : (!lo xs j == lo ys j) = false ∧ (!hi xs j == hi ys j) = false := by assumption
                     simpa using h1), _, by rw [Hnd.out]; exact World.drewN_drewN _ _ _⟩
                 case measure => simp [intOf]; omega)
      · have hv := Lib.hid (same_yes HL.out fun j hj => hsame j (by omega))
        have Hnd := Lib.hid hnd
        clear hnd
        go_wp2
        go_ret
        exact ⟨by rw [hv.out]; rfl, _, Hnd.out⟩
  · have hne : ((xs.length : Int) != (ys.length : Int)) = true := by simp; omega
    have hv := Lib.hid (same_no_len hl)
    clear hl
    go_enter Tryd.func97, Tryd.ntmps97
    go_wp2
    go_ret
    exact ⟨by rw [hv.out]; rfl, 0, rfl⟩


end Go.Proofs.YtiaoenkgapfgaaaDoor
