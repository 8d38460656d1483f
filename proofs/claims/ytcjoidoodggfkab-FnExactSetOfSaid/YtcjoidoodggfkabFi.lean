/-
  Contracts of the least numbers of sets, in both programs.
-/
import Derived.Test.YtcjoidoodggfkabSz
namespace Go.Proofs.Ytcjoidoodggfkab
open Go.RowKit Sets

def firstB (xs : List Sp) : Bool := validB xs && decide (0 < xs.length)
def firstV (xs : List Sp) : Int := if firstB xs = true then lo xs 0 else 0

theorem implFirst_any (A : Option Addr) (c : Nat) (xs : List Sp) (w : World) (h : Reads w w.heap.size A c xs) :
    Calls Try.prog 37 #[.slice A xs.length c] w fun e w' => e = .returned (.tuple #[.int .i64 (firstV xs), .bool (firstB xs)]) ∧ Below w.heap.size w w' := by
  have H := Lib.hid h
  obtain ⟨hlc, hc, hfit, hrow⟩ := h
  cases hv : validB xs
  · have hs : Hid (firstV xs = 0 ∧ firstB xs = false) := Lib.hid (by unfold firstV firstB; rw [hv]; exact ⟨rfl, rfl⟩)
    have HV := Lib.hid hv
    clear hv
    go_enter Try.func37, Try.ntmps37
    go_wp2_with (go_at_call 16; refine (implValid_any _ _ _ _ H.out).mono ?_; rw [HV.out]; rintro e w1 ⟨rfl, hb1⟩)
    go_ret2
    exact ⟨by rw [hs.out.1, hs.out.2]; rfl, hb1⟩
  · rcases hrow with rfl | ⟨b, off, rfl, hB, hrow⟩
    · have hs : Hid (firstV [] = 0 ∧ firstB [] = false) := Lib.hid ⟨rfl, rfl⟩
      have HV := Lib.hid hv
      clear hv
      go_enter Try.func37, Try.ntmps37
      go_wp2_with (go_at_call 16; refine (implValid_any _ _ [] _ H.out).mono ?_; rw [HV.out]; rintro e w1 ⟨rfl, hb1⟩)
      go_ret2
      exact ⟨by rw [hs.out.1, hs.out.2]; rfl, hb1⟩
    · by_cases hl : 0 < xs.length
      · have hs : Hid (firstV xs = lo xs 0 ∧ firstB xs = true) := Lib.hid (by unfold firstV firstB; rw [hv, decide_eq_true hl]; exact ⟨rfl, rfl⟩)
        have HV := Lib.hid hv
        clear hv
        have hne : ((xs.length : Int) == 0) = false := beq_eq_false_iff_ne.2 (by omega)
        have hp : (0 : Int) < (xs.length : Int) := by omega
        go_enter Try.func37, Try.ntmps37
        go_wp2_with (go_at_call 16; refine (implValid_any _ _ _ _ H.out).mono ?_; rw [HV.out]; rintro e w1 ⟨rfl, hb1⟩; obtain ⟨c1, c2⟩ := (hrow.below hb1 hB) 0 hl; simp only [Nat.zero_mul, Nat.add_zero] at c1 c2)
        go_ret2
        exact ⟨by rw [hs.out.1, hs.out.2]; rfl, hb1⟩
      · have hs : Hid (firstV xs = 0 ∧ firstB xs = false) := Lib.hid (by unfold firstV firstB; rw [decide_eq_false hl]; simp)
        have HV := Lib.hid hv
        clear hv
        have hne : ((xs.length : Int) == 0) = true := beq_iff_eq.2 (by omega)
        go_enter Try.func37, Try.ntmps37
        go_wp2_with (go_at_call 16; refine (implValid_any _ _ _ _ H.out).mono ?_; rw [HV.out]; rintro e w1 ⟨rfl, hb1⟩)
        go_ret2
        exact ⟨by rw [hs.out.1, hs.out.2]; rfl, hb1⟩

theorem specFirst_any (A : Option Addr) (c : Nat) (xs : List Sp) (B : Nat) (w : World) (h : Reads w B A c xs) :
    Calls Try.prog 36 #[.slice A xs.length c] w fun e w' => e = .returned (.tuple #[.int .i64 (firstV xs), .bool (firstB xs)]) ∧ ∃ n, w' = w.drewN n := by
  have H := Lib.hid h
  obtain ⟨hlc, hc, hfit, hrow⟩ := h
  cases hv : validB xs
  · have hs : Hid (firstV xs = 0 ∧ firstB xs = false) := Lib.hid (by unfold firstV firstB; rw [hv]; exact ⟨rfl, rfl⟩)
    have HV := Lib.hid hv
    clear hv
    go_enter Try.func36, Try.ntmps36
    go_wp2_with (go_at_call 14; refine (specValid_any _ _ _ B _ H.out).mono ?_; rw [HV.out]; rintro e w1 ⟨rfl, n1, rfl⟩)
    go_ret2
    exact ⟨by rw [hs.out.1, hs.out.2]; rfl, _, rfl⟩
  · rcases hrow with rfl | ⟨b, off, rfl, hB, hrow⟩
    · have hs : Hid (firstV [] = 0 ∧ firstB [] = false) := Lib.hid ⟨rfl, rfl⟩
      have HV := Lib.hid hv
      clear hv
      go_enter Try.func36, Try.ntmps36
      go_wp2_with (go_at_call 14; refine (specValid_any _ _ [] B _ H.out).mono ?_; rw [HV.out]; rintro e w1 ⟨rfl, n1, rfl⟩)
      go_ret2
      exact ⟨by rw [hs.out.1, hs.out.2]; rfl, _, rfl⟩
    · by_cases hl : 0 < xs.length
      · have hs : Hid (firstV xs = lo xs 0 ∧ firstB xs = true) := Lib.hid (by unfold firstV firstB; rw [hv, decide_eq_true hl]; exact ⟨rfl, rfl⟩)
        have HV := Lib.hid hv
        clear hv
        have hne : ((xs.length : Int) == 0) = false := beq_eq_false_iff_ne.2 (by omega)
        have hp : (0 : Int) < (xs.length : Int) := by omega
        obtain ⟨c1, c2⟩ := hrow 0 hl
        simp only [Nat.zero_mul, Nat.add_zero] at c1 c2
        go_enter Try.func36, Try.ntmps36
        go_wp2_with (go_at_call 14; refine (specValid_any _ _ _ B _ H.out).mono ?_; rw [HV.out]; rintro e w1 ⟨rfl, n1, rfl⟩)
        go_ret2
        exact ⟨by rw [hs.out.1, hs.out.2]; rfl, _, rfl⟩
      · have hs : Hid (firstV xs = 0 ∧ firstB xs = false) := Lib.hid (by unfold firstV firstB; rw [decide_eq_false hl]; simp)
        have HV := Lib.hid hv
        clear hv
        have hne : ((xs.length : Int) == 0) = true := beq_iff_eq.2 (by omega)
        go_enter Try.func36, Try.ntmps36
        go_wp2_with (go_at_call 14; refine (specValid_any _ _ _ B _ H.out).mono ?_; rw [HV.out]; rintro e w1 ⟨rfl, n1, rfl⟩)
        go_ret2
        exact ⟨by rw [hs.out.1, hs.out.2]; rfl, _, rfl⟩
end Go.Proofs.Ytcjoidoodggfkab
