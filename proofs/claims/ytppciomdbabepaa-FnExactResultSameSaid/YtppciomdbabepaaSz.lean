/-
  Contracts of the sizes of sets, in both programs.
-/
import Derived.Test.YtppciomdbabepaaRdM
namespace Go.Proofs.Ytppciomdbabepaa
open Go.RowKit Sets

def sizeV (xs : List Sp) : Int := if validB xs = true then sizeS xs else 0
theorem sizeV_no {xs : List Sp} (h : validB xs = false) : sizeV xs = 0 := by unfold sizeV; rw [h]; rfl
theorem sizeV_yes {xs : List Sp} (h : validB xs = true) : sizeV xs = sizeS xs := by unfold sizeV; rw [if_pos h]
/-- The size of the first k spans. -/
def sizeK (xs : List Sp) (k : Nat) : Int := sizeS (xs.take k)
theorem sizeS_append (s t : List Sp) : sizeS (s ++ t) = sizeS s + sizeS t := by
  induction s with
  | nil => simp [sizeS]
  | cons x s ih => simp only [List.cons_append, sizeS, ih]; omega
theorem sizeK_succ (xs : List Sp) (k : Nat) (h : k < xs.length) : sizeK xs (k + 1) = sizeK xs k + (hi xs k - lo xs k + 1) := by
  unfold sizeK lo hi
  rw [List.take_succ_eq_append_getElem h, sizeS_append, List.getD_eq_getElem?_getD, List.getElem?_eq_getElem h]
  simp [sizeS]
theorem sizeK_all (xs : List Sp) : sizeK xs xs.length = sizeS xs := by unfold sizeK; rw [List.take_length]
theorem valid_at {xs : List Sp} (h : validB xs = true) {k : Nat} (hk : k < xs.length) : -99 ≤ lo xs k ∧ lo xs k ≤ hi xs k ∧ hi xs k ≤ 99 := by
  have := ((validB_iff xs).1 h).2 k hk
  exact ⟨this.1, this.2.2.1, this.2.1⟩
theorem valid_len {xs : List Sp} (h : validB xs = true) : xs.length ≤ 12 := ((validB_iff xs).1 h).1
theorem sizeK_bound {xs : List Sp} (h : validB xs = true) (k : Nat) (hk : k ≤ xs.length) : 0 ≤ sizeK xs k ∧ sizeK xs k ≤ 2388 := by
  have hv := (valid_iff xs).1 ((validB_iff xs).1 h)
  have hn : Norm (xs.take k) := (norm_of_append (s := xs.take k) (t := xs.drop k) (by rw [List.take_append_drop]; exact hv.2.1)).1
  have hb := sizeS_bound (xs.take k) hn (fun x hx => hv.2.2 x (List.mem_of_mem_take hx))
  have : (xs.take k).length ≤ 12 := by rw [List.length_take]; have := hv.1; omega
  unfold sizeK
  omega

set_option maxRecDepth 100000 in
theorem implSize_any (A : Option Addr) (c : Nat) (xs : List Sp) (w : World) (h : Reads w w.heap.size A c xs) :
    Calls Try.prog 61 #[.slice A xs.length c] w fun e w' => e = .returned (.int .i64 (sizeV xs)) ∧ Below w.heap.size w w' := by
  have H := Lib.hid h
  obtain ⟨hlc, hc, hfit, hrow⟩ := h
  cases hv : validB xs
  · have hs := Lib.hid (sizeV_no hv)
    have HV := Lib.hid hv
    clear hv
    go_enter Try.func61, Try.ntmps61
    go_wp2_with (go_at_call 85; refine (implValid_any _ _ _ _ H.out).mono ?_; rw [HV.out]; rintro e w1 ⟨rfl, hb1⟩)
    go_ret
    exact ⟨by rw [hs.out]; rfl, hb1⟩
  · have hs := Lib.hid (sizeV_yes hv)
    have HV := Lib.hid hv
    clear hv
    go_enter Try.func61, Try.ntmps61
    go_wp2_with (go_at_call 85; refine (implValid_any _ _ _ _ H.out).mono ?_; rw [HV.out]; rintro e w1 ⟨rfl, hb1⟩)
    go_loopw [3, 11] (fun s i wr => ∃ k : Nat, k ≤ xs.length ∧ i = .int .i64 k ∧ s = .int .i64 (sizeK xs k) ∧ Below w.heap.size w wr) (fun _ i _ => xs.length - (intOf i).toNat)
    case atStart => exact ⟨0, Nat.zero_le _, rfl, rfl, hb1⟩
    case round =>
      obtain ⟨k, hk, rfl, rfl, hb⟩ := hrel
      by_cases hlt : k < xs.length
      · rcases hrow with rfl | ⟨b, off, rfl, hB, hrow⟩
        · simp at hlt
        · have hkl : (k : Int) < (xs.length : Int) := by omega
          obtain ⟨c1, c2⟩ := (hrow.below hb hB) k hlt
          obtain ⟨v1, v2, v3⟩ := valid_at HV.out hlt
          obtain ⟨s1, s2⟩ := sizeK_bound HV.out k hk
          have HS := Lib.hid (sizeK_succ xs k hlt)
          go_wp2
          go_roundw
          case rel => exact ⟨k + 1, hlt, by go_num, by rw [HS.out], hb.alloc hb.size _⟩
          case measure => simp [intOf]; omega
      · obtain rfl : k = xs.length := by omega
        have HS := Lib.hid (sizeK_all xs)
        go_wp2
        go_ret
        exact ⟨by rw [hs.out, ← HS.out]; rfl, hb⟩

end Go.Proofs.Ytppciomdbabepaa
