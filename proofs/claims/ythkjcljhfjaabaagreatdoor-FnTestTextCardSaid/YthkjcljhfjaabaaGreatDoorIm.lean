/-
  Contracts of the program's meet and difference of sets.
-/
import Derived.Test.YthkjcljhfjaabaaGreatDoorMe
import Derived.Test.YthkjcljhfjaabaaGreatDoorOt
namespace Go.Proofs.YthkjcljhfjaabaaGreatDoor
open Go.RowKit Sets

def bothB (xs ys : List Sp) : Bool := validB xs && validB ys
def meetV (xs ys : List Sp) : List Sp := if bothB xs ys = true then meetP xs ys else []
def minusB (xs ys : List Sp) : Bool := bothB xs ys && decide ((minusP xs ys).length ≤ 12)
def minusV (xs ys : List Sp) : List Sp := if minusB xs ys = true then minusP xs ys else []

set_option maxRecDepth 100000 in
theorem asSet_any (A : Option Addr) (n c : Nat) (w : World) (hn : n ≤ 9223372036854775807) :
    Calls Tryz.prog 68 #[.slice A n c] w fun e w' => e = .returned (.tuple #[if n ≤ 12 then .slice A n c else .slice none 0 0, .bool (decide (n ≤ 12))]) ∧ w = w' := by
  go_enter Tryz.func68, Tryz.ntmps68
  by_cases h : n ≤ 12
  · rw [if_pos h, decide_eq_true h]
    have h1 : ¬ ((12 : Int) < (n : Int)) := by omega
    go_wp2
    go_ret2
    exact ⟨rfl, rfl⟩
  · rw [if_neg h, decide_eq_false h]
    have h1 : ((12 : Int) < (n : Int)) := by omega
    go_wp2
    go_ret2
    exact ⟨rfl, rfl⟩

def OwnRes (base : Nat) (xs : List Sp) (w : World) (e : Ending) (w' : World) : Prop := ∃ v, e = .returned v ∧ OwnS w' base v xs ∧ Fits xs ∧ Below w.heap.size w w'
def OwnRes2 (base : Nat) (xs : List Sp) (ok : Bool) (w : World) (e : Ending) (w' : World) : Prop := ∃ v, e = .returned (.tuple #[v, .bool ok]) ∧ OwnS w' base v xs ∧ Fits xs ∧ Below w.heap.size w w'

theorem fits_nil : Fits [] := fun x hx => by cases hx

set_option maxRecDepth 100000 in
theorem implMeet_any (A1 A2 : Option Addr) (c1 c2 : Nat) (xs ys : List Sp) (w : World) (h1 : Reads w w.heap.size A1 c1 xs) (h2 : Reads w w.heap.size A2 c2 ys) :
    Calls Tryz.prog 32 #[.slice A1 xs.length c1, .slice A2 ys.length c2] w (OwnRes w.heap.size (meetV xs ys) w) := by
  have H1 := Lib.hid h1
  have H2 := Lib.hid h2
  clear h1 h2
  go_enter Tryz.func32, Tryz.ntmps32
  go_wp2_with fail
  refine (implValid_any _ _ xs _ H1.out).mono ?_
  rintro e w1 ⟨rfl, b1⟩
  have G1 := Lib.hid (H1.out.step b1)
  have G2 := Lib.hid (H2.out.step b1)
  cases hv1 : validB xs
  · have hm : Hid (meetV xs ys = []) := Lib.hid (by unfold meetV bothB; rw [hv1]; rfl)
    go_wp2
    go_ret
    unfold OwnRes
    rw [hm.out]
    exact ⟨_, rfl, OwnS.nil _ _, fits_nil, b1⟩
  · go_wp2_with fail
    refine (implValid_any _ _ ys _ G2.out).mono ?_
    rintro e w2 ⟨rfl, b2⟩
    have b02 := b1.trans (b2.mono b1.size)
    have F1 := Lib.hid (G1.out.step b2)
    have F2 := Lib.hid (G2.out.step b2)
    cases hv2 : validB ys
    · have hm : Hid (meetV xs ys = []) := Lib.hid (by unfold meetV bothB; rw [hv2, Bool.and_false]; rfl)
      go_wp2
      go_ret
      unfold OwnRes
      rw [hm.out]
      exact ⟨_, rfl, OwnS.nil _ _, fits_nil, b02⟩
    · have hm : Hid (meetV xs ys = meetP xs ys) := Lib.hid (by unfold meetV bothB; rw [hv1, hv2]; rfl)
      have l1 := valid_len hv1
      have l2 := valid_len hv2
      go_wp2_with fail
      refine (meetSpans_any _ _ _ _ xs ys _ F1.out F2.out (by omega)).mono ?_
      rintro e w3 ⟨v, rfl, hown, hf, b3⟩
      go_wp2
      go_ret
      unfold OwnRes
      rw [hm.out]
      exact ⟨_, rfl, hown.mono b02.size, hf, b02.trans (b3.mono b02.size)⟩

set_option maxRecDepth 100000 in
theorem implMinus_any (A1 A2 : Option Addr) (c1 c2 : Nat) (xs ys : List Sp) (w : World) (h1 : Reads w w.heap.size A1 c1 xs) (h2 : Reads w w.heap.size A2 c2 ys) :
    Calls Tryz.prog 40 #[.slice A1 xs.length c1, .slice A2 ys.length c2] w (OwnRes2 w.heap.size (minusV xs ys) (minusB xs ys) w) := by
  have H1 := Lib.hid h1
  have H2 := Lib.hid h2
  clear h1 h2
  go_enter Tryz.func40, Tryz.ntmps40
  go_wp2_with fail
  refine (implValid_any _ _ xs _ H1.out).mono ?_
  rintro e w1 ⟨rfl, b1⟩
  have G1 := Lib.hid (H1.out.step b1)
  have G2 := Lib.hid (H2.out.step b1)
  cases hv1 : validB xs
  · have hk : Hid (minusB xs ys = false) := Lib.hid (by unfold minusB bothB; rw [hv1]; rfl)
    have hm : Hid (minusV xs ys = []) := Lib.hid (by unfold minusV; rw [hk.out]; rfl)
    go_wp2
    go_ret2
    unfold OwnRes2
    rw [hm.out, hk.out]
    exact ⟨_, rfl, OwnS.nil _ _, fits_nil, b1⟩
  · go_wp2_with fail
    refine (implValid_any _ _ ys _ G2.out).mono ?_
    rintro e w2 ⟨rfl, b2⟩
    have b02 := b1.trans (b2.mono b1.size)
    have F1 := Lib.hid (G1.out.step b2)
    have F2 := Lib.hid (G2.out.step b2)
    cases hv2 : validB ys
    · have hk : Hid (minusB xs ys = false) := Lib.hid (by unfold minusB bothB; rw [hv2, Bool.and_false]; rfl)
      have hm : Hid (minusV xs ys = []) := Lib.hid (by unfold minusV; rw [hk.out]; rfl)
      go_wp2
      go_ret2
      unfold OwnRes2
      rw [hm.out, hk.out]
      exact ⟨_, rfl, OwnS.nil _ _, fits_nil, b02⟩
    · have l1 := valid_len hv1
      have l2 := valid_len hv2
      have lo2 := otherP_len ys (-99)
      have HV2 := Lib.hid hv2
      have hk : Hid (minusB xs ys = decide ((minusP xs ys).length ≤ 12)) := Lib.hid (by unfold minusB bothB; rw [hv1, hv2]; rfl)
      go_wp2_with fail
      refine (otherSpans_any _ _ ys _ F2.out HV2.out).mono ?_
      rintro e w3 ⟨v3, rfl, hown3, hf3, b3⟩
      obtain ⟨A3, c3, hv3, r3, _⟩ := hown3.form hf3
      subst hv3
      have R3 := Lib.hid r3
      clear r3
      have E1 := Lib.hid (F1.out.step b3)
      go_wp2_with fail
      refine (meetSpans_any _ _ _ _ xs (otherP (-99) ys) _ E1.out R3.out (by omega)).mono ?_
      rintro e w4 ⟨v4, rfl, hown4, hf4, b4⟩
      have b03 := b02.trans (b3.mono b02.size)
      have b04 := b03.trans (b4.mono b03.size)
      obtain ⟨A4, c4, hv4, r4, _⟩ := hown4.form hf4
      subst hv4
      have hl4 := r4.1
      have hc4 := r4.2.1
      clear r4
      by_cases h12 : (minusP xs ys).length ≤ 12
      · have hm : Hid (minusV xs ys = minusP xs ys) := Lib.hid (by unfold minusV; rw [hk.out, decide_eq_true h12]; rfl)
        have hk2 := Lib.hid (hk.out.trans (decide_eq_true h12))
        have hk3 : Hid ((meetP xs (otherP (-99) ys)).length ≤ 12) := Lib.hid h12
        go_wp2_with fail
        refine (asSet_any _ _ _ _ (by omega)).mono ?_
        rw [if_pos hk3.out, decide_eq_true hk3.out]
        rintro e w5 ⟨rfl, rfl⟩
        go_wp2
        go_ret2
        unfold OwnRes2
        rw [hm.out, hk2.out]
        exact ⟨_, rfl, hown4.mono b03.size, hf4, b04⟩
      · have hk2 := Lib.hid (hk.out.trans (decide_eq_false h12))
        have hm : Hid (minusV xs ys = []) := Lib.hid (by unfold minusV; rw [hk2.out]; rfl)
        have hk3 : Hid (¬ (meetP xs (otherP (-99) ys)).length ≤ 12) := Lib.hid h12
        go_wp2_with fail
        refine (asSet_any _ _ _ _ (by omega)).mono ?_
        rw [if_neg hk3.out, decide_eq_false hk3.out]
        rintro e w5 ⟨rfl, rfl⟩
        go_wp2
        go_ret2
        unfold OwnRes2
        rw [hm.out, hk2.out]
        exact ⟨_, rfl, OwnS.nil _ _, fits_nil, b04⟩
theorem meetV_len (xs ys : List Sp) : (meetV xs ys).length ≤ 65536 := by
  unfold meetV
  split
  · rename_i h
    unfold bothB at h
    rw [Bool.and_eq_true] at h
    have := valid_len h.1; have := valid_len h.2; have := meetP_len xs ys
    omega
  · simp
theorem minusV_len (xs ys : List Sp) : (minusV xs ys).length ≤ 65536 := by
  unfold minusV
  split
  · rename_i h
    unfold minusB at h
    rw [Bool.and_eq_true] at h
    have := of_decide_eq_true h.2
    omega
  · simp
end Go.Proofs.YthkjcljhfjaabaaGreatDoor
