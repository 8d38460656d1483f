/-
  Contracts of the texts of spans and of sets of the model, and of both programs' tests of sets.
-/
import Derived.Test.YtamfmemdhldmjaaGreatDoorTg
import Derived.Test.YtamfmemdhldmjaaGreatDoorTpM
import Derived.Test.YtamfmemdhldmjaaGreatDoorIt
import Derived.Test.YtamfmemdhldmjaaGreatDoorRdM
namespace Go.Proofs.YtamfmemdhldmjaaGreatDoor
open Go.RowKit Go.Sort Sets

theorem SpAt.box (w : World) (a b : Int) (t : TypeId) : (w.alloc (.cells #[.int .i64 a, .int .i64 b] t)).cell? ⟨w.heap.size, 0, none⟩ = some (.int .i64 a) ∧ (w.alloc (.cells #[.int .i64 a, .int .i64 b] t)).cell? ⟨w.heap.size, 1, none⟩ = some (.int .i64 b) := by
  refine ⟨?_, ?_⟩ <;> (rw [World.cell?_alloc_new]; rfl)

set_option maxRecDepth 100000 in
theorem specIn_any (L : Bool) (a b : Int) (A : Option Addr) (c : Nat) (xs : List Sp) (w : World) (h : Reads w w.heap.size A c xs) :
    Calls Tryz.prog 75 #[colV L a b, .slice A xs.length c] w fun e w' => e = .returned (.bool (isT L a b xs)) ∧ Below w.heap.size w w' := by
  have b0 : Below w.heap.size w (w.alloc (.cells #[.bool L, .int .i64 a, .int .i64 b] 65)) := (Below.refl _ w).alloc (Nat.le_refl _) _
  obtain ⟨k0, k1, k2⟩ := ColAt.box w L a b 65
  have H0 := Lib.hid ((h.below b0).mono b0.size)
  clear h
  cases hc : colB L a b
  · have hv : Hid (isT L a b xs = false) := Lib.hid (by unfold isT; rw [hc]; rfl)
    have HC := Lib.hid hc
    clear hc
    go_enter Tryz.func75, Tryz.ntmps75
    go_wp2_with fail
    refine (specCol_b L a b _).mono ?_
    rw [HC.out]
    rintro e w1 ⟨rfl, b1⟩
    go_wp2
    go_ret
    exact ⟨by rw [hv.out]; rfl, b0.trans (b1.mono b0.size)⟩
  · have hv : Hid (isT L a b xs = withinB xs (colS L a b)) := Lib.hid (by unfold isT; rw [hc]; rfl)
    have HC := Lib.hid hc
    clear hc
    go_enter Tryz.func75, Tryz.ntmps75
    go_wp2_with fail
    refine (specCol_b L a b _).mono ?_
    rw [HC.out]
    rintro e w1 ⟨rfl, b1⟩
    obtain ⟨g0, g1, g2⟩ := ColAt.below (g := w.heap.size) ⟨k0, k1, k2⟩ b1 (by simp)
    have B1 := b0.trans (b1.mono b0.size)
    have H1 := Lib.hid ((H0.out.below b1).mono b1.size)
    clear k0 k1 k2
    go_wp2_with fail
    refine (specColSet_any L a b _).mono ?_
    rintro e w2 ⟨v, rfl, hown, hfit, b2⟩
    obtain ⟨A2, c2, rfl, hr2, _⟩ := hown.form hfit
    have B2 := B1.trans (b2.mono B1.size)
    have H2 := Lib.hid ((H1.out.below b2).mono b2.size)
    have R2 := Lib.hid hr2
    clear hown hfit hr2
    generalize hcs : colS L a b = cs at hv R2
    clear hcs
    go_wp2_with fail
    refine (specWithin_any _ _ _ _ xs cs _ H2.out R2.out).mono ?_
    rintro e w3 ⟨rfl, b3⟩
    have B3 := B2.trans (b3.mono B2.size)
    go_wp2
    go_ret
    exact ⟨by rw [hv.out]; rfl, B3⟩

set_option maxRecDepth 100000 in
theorem implIn_any (L : Bool) (a b : Int) (A : Option Addr) (c : Nat) (xs : List Sp) (w : World) (h : Reads w w.heap.size A c xs) :
    Calls Tryz.prog 80 #[colV L a b, .slice A xs.length c] w fun e w' => e = .returned (.bool (isT L a b xs)) ∧ Below w.heap.size w w' := by
  have b0 : Below w.heap.size w (w.alloc (.cells #[.bool L, .int .i64 a, .int .i64 b] 65)) := (Below.refl _ w).alloc (Nat.le_refl _) _
  obtain ⟨k0, k1, k2⟩ := ColAt.box w L a b 65
  have H0 := Lib.hid ((h.below b0).mono b0.size)
  clear h
  cases hc : colB L a b
  · have hv : Hid (isT L a b xs = false) := Lib.hid (by unfold isT; rw [hc]; rfl)
    have HC := Lib.hid hc
    clear hc
    go_enter Tryz.func80, Tryz.ntmps80
    go_wp2_with fail
    refine (implCol_any L a b _).mono ?_
    rw [HC.out]
    rintro e w1 ⟨rfl, b1⟩
    go_wp2
    go_ret
    exact ⟨by rw [hv.out]; rfl, b0.trans (b1.mono b0.size)⟩
  · have hv : Hid (isT L a b xs = withinB xs (colS L a b)) := Lib.hid (by unfold isT; rw [hc]; rfl)
    have HC := Lib.hid hc
    clear hc
    go_enter Tryz.func80, Tryz.ntmps80
    go_wp2_with fail
    refine (implCol_any L a b _).mono ?_
    rw [HC.out]
    rintro e w1 ⟨rfl, b1⟩
    obtain ⟨g0, g1, g2⟩ := ColAt.below (g := w.heap.size) ⟨k0, k1, k2⟩ b1 (by simp)
    have B1 := b0.trans (b1.mono b0.size)
    have H1 := Lib.hid ((H0.out.below b1).mono b1.size)
    clear k0 k1 k2
    go_wp2_with fail
    refine (implColSet_any L a b _).mono ?_
    rintro e w2 ⟨v, rfl, hown, hfit, b2⟩
    obtain ⟨A2, c2, rfl, hr2, _⟩ := hown.form hfit
    have B2 := B1.trans (b2.mono B1.size)
    have H2 := Lib.hid ((H1.out.below b2).mono b2.size)
    have R2 := Lib.hid hr2
    clear hown hfit hr2
    generalize hcs : colS L a b = cs at hv R2
    clear hcs
    go_wp2_with fail
    refine (implWithin_any _ _ _ _ xs cs _ H2.out R2.out).mono ?_
    rintro e w3 ⟨rfl, b3⟩
    have B3 := B2.trans (b3.mono B2.size)
    go_wp2
    go_ret
    exact ⟨by rw [hv.out]; rfl, B3⟩
end Go.Proofs.YtamfmemdhldmjaaGreatDoor
