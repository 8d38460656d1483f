/-
  The walk of FnDecideOuts.
-/
import Derived.Test.YtiaoenkgapfgaaaDoorXa
namespace Go.Proofs.YtiaoenkgapfgaaaDoor
open Go.RowKit Sets

set_option maxRecDepth 100000 in
set_option maxHeartbeats 8000000 in
theorem decideOuts_walk (A : Option Addr) (n c : Nat) (z : Nat → Int) (w : World) (h : Bytes w A n c z) (z1 z2 z3 : Addr) (hE : EndsIs w z1 z2 z3) :
    Calls Tryd.prog 3 #[.slice A n c] w fun e w' => e = .returned (.bool true) ∧ Below w.heap.size w w' := by
  have hnc := h.1
  have hc := h.2.1
  have H := Lib.hid h
  have E := Lib.hid hE
  clear h hE
  have B := Lib.hid (Below.refl w.heap.size w)
  by_cases hn : 1048576 < n
  · have hn1 : (1048576 : Int) < (n : Int) := by omega
    go_enter Tryd.func3, Tryd.ntmps3
    go_wp2
    go_ret
    exact ⟨rfl, Below.refl _ _⟩
  have hn1 : decide ((1048576 : Int) < (n : Int)) = false := decide_eq_false (by omega)
  go_enter Tryd.func3, Tryd.ntmps3
  go_wp2_with fail
  refine (drawDO_any A n c z w H.out).mono ?_
  rintro e w1 ⟨p, A1, c1, ns, rfl, hO, hl, b1⟩
  replace B := Lib.hid (B.out.trans (b1.mono B.out.size))
  have O := Lib.hid (OwnR.of hO)
  have HL := Lib.hid hl
  clear hO hl b1 hn hn1 hnc hc
  have HC := do_cases p ns
  obtain ⟨⟨rc, rl⟩, hr⟩ : ∃ r : Rs, doV p ns = r := ⟨_, rfl⟩
  rw [hr] at HC
  simp only [] at HC
  have HR := Lib.hid hr
  clear hr
  rcases HC with ⟨h1, h2⟩ | ⟨h1, h2, h3, h4⟩ | ⟨h1, h2, h3⟩ | ⟨h1, ⟨h2, h3⟩ | ⟨h2, h4, h3⟩⟩
  · subst h1 h2
    go_wp2_with fail
    refine (implDO_any z1 z2 z3 p _ _ ns w1 (E.out.step B.out) O.out.1.ints).mono ?_
    rw [HR.out]
    rintro e w2 ⟨AG0, cG0, rfl, oo, b⟩
    replace O := Lib.hid (O.out.step b)
    replace B := Lib.hid (B.out.trans (b.mono B.out.size))
    have G0 := Lib.hid (OwnR.of oo)
    simp only [] at G0 ⊢
    clear oo b
    have bz : Below w2.heap.size w2 (w2.alloc (.cells #[.int .i64 3, .slice AG0 ([] : List Int).length cG0] 27)) := (Below.refl _ _).alloc (Nat.le_refl _) _
    replace O := Lib.hid (O.out.step bz)
    replace G0 := Lib.hid (G0.out.step bz)
    replace B := Lib.hid (B.out.trans (bz.mono B.out.size))
    have Z0 : Hid (RBox (w2.alloc (.cells #[.int .i64 3, .slice AG0 ([] : List Int).length cG0] 27)) w2.heap.size 3 AG0 ([] : List Int).length cG0) := Lib.hid (RBox.made _ _ _ _ _ _)
    clear bz
    obtain ⟨p00, p01, p02⟩ := Z0.out
    clear p02
    go_upto_region 5 with fail
    clear p00 p01
    generalize (w2.alloc (.cells #[.int .i64 3, .slice AG0 ([] : List Int).length cG0] 27)) = w3 at O G0 Z0 B ⊢
    have bd : Below w3.heap.size w3 w3.drew := (Below.refl _ _).drew
    replace O := Lib.hid (O.out.step bd)
    replace G0 := Lib.hid (G0.out.step bd)
    replace Z0 := Lib.hid (Z0.out.step bd)
    replace B := Lib.hid (B.out.trans (bd.mono B.out.size))
    clear bd
    obtain ⟨x0, x1, x2⟩ := Z0.out
    have HZX := Lib.hid x2
    clear x2
    go_region_held3 (fun w' => w'.cell? ⟨w2.heap.size, 0, none⟩ = some (.int .i64 3) ∧ w'.cell? ⟨w2.heap.size, 1, none⟩ = some (.slice AG0 ([] : List Int).length cG0)) (first | exact ⟨x0, x1⟩ | exact ⟨(Below.cell b8 (p := ⟨w2.heap.size, 0, none⟩) HZX7.out).trans x0, (Below.cell b8 (p := ⟨w2.heap.size, 1, none⟩) HZX7.out).trans x1⟩) (first
      | (go_at_call 11; refine (specDO_any p _ _ ns _ O.out.1.ints).mono ?_; rw [HR.out]; rintro e w70 ⟨A7, c7, rfl, oo7, b7⟩; have O := Lib.hid (O.out.step b7); have G0 := Lib.hid (G0.out.step b7); have Z0 := Lib.hid (Z0.out.step b7); have B := Lib.hid (B.out.trans (b7.mono B.out.size)); have Q7 := Lib.hid (OwnR.of oo7); simp only [] at Q7 ⊢; have x0 : w70.cell? ⟨w2.heap.size, 0, none⟩ = some (.int .i64 3) := (b7.cell (p := ⟨w2.heap.size, 0, none⟩) HZX.out).trans x0; have x1 : w70.cell? ⟨w2.heap.size, 1, none⟩ = some (.slice AG0 ([] : List Int).length cG0) := (b7.cell (p := ⟨w2.heap.size, 1, none⟩) HZX.out).trans x1; have HZX7 := Lib.hid (Nat.lt_of_lt_of_le HZX.out b7.size); clear oo7 b7)
      | (go_at_call 10; refine (implRS_any _ (3, ([] : List Int)) _ (3, ([] : List Int)) _ G0.out.res Q7.out.res).mono ?_; rw [resB_self]; rintro e w80 ⟨rfl, b8⟩; have B8 := Lib.hid b8))
    clear x0 x1 HZX HZX7 Q7
    replace O := Lib.hid (O.out.step B8.out)
    replace G0 := Lib.hid (G0.out.step B8.out)
    replace Z0 := Lib.hid (Z0.out.step B8.out)
    replace B := Lib.hid (B.out.trans (B8.out.mono B.out.size))
    clear B8
    obtain ⟨p00, p01, p02⟩ := Z0.out
    clear p02
    clear p00 p01
    obtain ⟨p00, p01, p02⟩ := Z0.out
    clear p02
    go_upto_region 6 with fail
    clear p00 p01
    have bd : Below w80.heap.size w80 w80.drew := (Below.refl _ _).drew
    replace O := Lib.hid (O.out.step bd)
    replace G0 := Lib.hid (G0.out.step bd)
    replace Z0 := Lib.hid (Z0.out.step bd)
    replace B := Lib.hid (B.out.trans (bd.mono B.out.size))
    clear bd
    obtain ⟨x0, x1, x2⟩ := Z0.out
    have HZX := Lib.hid x2
    clear x2
    go_region_held3 (fun w' => w'.cell? ⟨w2.heap.size, 0, none⟩ = some (.int .i64 3) ∧ w'.cell? ⟨w2.heap.size, 1, none⟩ = some (.slice AG0 ([] : List Int).length cG0)) (first | exact ⟨x0, x1⟩ | exact ⟨(Below.cell b8 (p := ⟨w2.heap.size, 0, none⟩) HZX7.out).trans x0, (Below.cell b8 (p := ⟨w2.heap.size, 1, none⟩) HZX7.out).trans x1⟩) (first
      | (go_at_call 11; refine (specDO_any p _ _ ns _ O.out.1.ints).mono ?_; rw [HR.out]; rintro e w70 ⟨A7, c7, rfl, oo7, b7⟩; have O := Lib.hid (O.out.step b7); have G0 := Lib.hid (G0.out.step b7); have Z0 := Lib.hid (Z0.out.step b7); have B := Lib.hid (B.out.trans (b7.mono B.out.size)); have Q7 := Lib.hid (OwnR.of oo7); simp only [] at Q7 ⊢; have x0 : w70.cell? ⟨w2.heap.size, 0, none⟩ = some (.int .i64 3) := (b7.cell (p := ⟨w2.heap.size, 0, none⟩) HZX.out).trans x0; have x1 : w70.cell? ⟨w2.heap.size, 1, none⟩ = some (.slice AG0 ([] : List Int).length cG0) := (b7.cell (p := ⟨w2.heap.size, 1, none⟩) HZX.out).trans x1; have HZX7 := Lib.hid (Nat.lt_of_lt_of_le HZX.out b7.size); clear oo7 b7)
      | (go_at_call 10; refine (implRS_any _ (3, ([] : List Int)) _ (3, ([] : List Int)) _ G0.out.res Q7.out.res).mono ?_; rw [resB_self]; rintro e w80 ⟨rfl, b8⟩; have B8 := Lib.hid b8))
    clear x0 x1 HZX HZX7 Q7
    replace O := Lib.hid (O.out.step B8.out)
    replace G0 := Lib.hid (G0.out.step B8.out)
    replace Z0 := Lib.hid (Z0.out.step B8.out)
    replace B := Lib.hid (B.out.trans (B8.out.mono B.out.size))
    clear B8
    obtain ⟨p00, p01, p02⟩ := Z0.out
    clear p02
    go_wp2
    all_goals try trivial
    go_ret
    exact ⟨rfl, B.out⟩
  · subst h1 h2
    have g1 : decide (2 < p) = false := decide_eq_false (by omega)
    have g2 : decide ((ns.length : Int) < 2) = false := decide_eq_false (by omega)
    go_wp2_with fail
    refine (implDO_any z1 z2 z3 p _ _ ns w1 (E.out.step B.out) O.out.1.ints).mono ?_
    rw [HR.out]
    rintro e w2 ⟨AG0, cG0, rfl, oo, b⟩
    replace O := Lib.hid (O.out.step b)
    replace B := Lib.hid (B.out.trans (b.mono B.out.size))
    have G0 := Lib.hid (OwnR.of oo)
    simp only [] at G0 ⊢
    clear oo b
    have bz : Below w2.heap.size w2 (w2.alloc (.cells #[.int .i64 2, .slice AG0 ([] : List Int).length cG0] 27)) := (Below.refl _ _).alloc (Nat.le_refl _) _
    replace O := Lib.hid (O.out.step bz)
    replace G0 := Lib.hid (G0.out.step bz)
    replace B := Lib.hid (B.out.trans (bz.mono B.out.size))
    have Z0 : Hid (RBox (w2.alloc (.cells #[.int .i64 2, .slice AG0 ([] : List Int).length cG0] 27)) w2.heap.size 2 AG0 ([] : List Int).length cG0) := Lib.hid (RBox.made _ _ _ _ _ _)
    clear bz
    obtain ⟨p00, p01, p02⟩ := Z0.out
    clear p02
    go_upto_region 5 with fail
    clear p00 p01
    generalize (w2.alloc (.cells #[.int .i64 2, .slice AG0 ([] : List Int).length cG0] 27)) = w3 at O G0 Z0 B ⊢
    have bd : Below w3.heap.size w3 w3.drew := (Below.refl _ _).drew
    replace O := Lib.hid (O.out.step bd)
    replace G0 := Lib.hid (G0.out.step bd)
    replace Z0 := Lib.hid (Z0.out.step bd)
    replace B := Lib.hid (B.out.trans (bd.mono B.out.size))
    clear bd
    obtain ⟨x0, x1, x2⟩ := Z0.out
    have HZX := Lib.hid x2
    clear x2
    go_region_held3 (fun w' => w'.cell? ⟨w2.heap.size, 0, none⟩ = some (.int .i64 2) ∧ w'.cell? ⟨w2.heap.size, 1, none⟩ = some (.slice AG0 ([] : List Int).length cG0)) (first | exact ⟨x0, x1⟩ | exact ⟨(Below.cell b8 (p := ⟨w2.heap.size, 0, none⟩) HZX7.out).trans x0, (Below.cell b8 (p := ⟨w2.heap.size, 1, none⟩) HZX7.out).trans x1⟩) (first
      | (go_at_call 11; refine (specDO_any p _ _ ns _ O.out.1.ints).mono ?_; rw [HR.out]; rintro e w70 ⟨A7, c7, rfl, oo7, b7⟩; have O := Lib.hid (O.out.step b7); have G0 := Lib.hid (G0.out.step b7); have Z0 := Lib.hid (Z0.out.step b7); have B := Lib.hid (B.out.trans (b7.mono B.out.size)); have Q7 := Lib.hid (OwnR.of oo7); simp only [] at Q7 ⊢; have x0 : w70.cell? ⟨w2.heap.size, 0, none⟩ = some (.int .i64 2) := (b7.cell (p := ⟨w2.heap.size, 0, none⟩) HZX.out).trans x0; have x1 : w70.cell? ⟨w2.heap.size, 1, none⟩ = some (.slice AG0 ([] : List Int).length cG0) := (b7.cell (p := ⟨w2.heap.size, 1, none⟩) HZX.out).trans x1; have HZX7 := Lib.hid (Nat.lt_of_lt_of_le HZX.out b7.size); clear oo7 b7)
      | (go_at_call 10; refine (implRS_any _ (2, ([] : List Int)) _ (2, ([] : List Int)) _ G0.out.res Q7.out.res).mono ?_; rw [resB_self]; rintro e w80 ⟨rfl, b8⟩; have B8 := Lib.hid b8))
    clear x0 x1 HZX HZX7 Q7
    replace O := Lib.hid (O.out.step B8.out)
    replace G0 := Lib.hid (G0.out.step B8.out)
    replace Z0 := Lib.hid (Z0.out.step B8.out)
    replace B := Lib.hid (B.out.trans (B8.out.mono B.out.size))
    clear B8
    obtain ⟨p00, p01, p02⟩ := Z0.out
    clear p02
    go_wp2
    all_goals try trivial
    go_ret
    exact ⟨rfl, B.out⟩
  · subst h1
    have g1 : ((ns.length : Int) == 0) = true := beq_iff_eq.2 (by omega)
    have g2 : (p != 10) = true := by simp [h3]
    clear h2 h3
    go_wp2_with fail
    refine (implDO_any z1 z2 z3 p _ _ ns w1 (E.out.step B.out) O.out.1.ints).mono ?_
    rw [HR.out]
    rintro e w2 ⟨AG0, cG0, rfl, oo, b⟩
    replace O := Lib.hid (O.out.step b)
    replace B := Lib.hid (B.out.trans (b.mono B.out.size))
    have G0 := Lib.hid (OwnR.of oo)
    simp only [] at G0 ⊢
    clear oo b
    have bz : Below w2.heap.size w2 (w2.alloc (.cells #[.int .i64 1, .slice AG0 rl.length cG0] 27)) := (Below.refl _ _).alloc (Nat.le_refl _) _
    replace O := Lib.hid (O.out.step bz)
    replace G0 := Lib.hid (G0.out.step bz)
    replace B := Lib.hid (B.out.trans (bz.mono B.out.size))
    have Z0 : Hid (RBox (w2.alloc (.cells #[.int .i64 1, .slice AG0 rl.length cG0] 27)) w2.heap.size 1 AG0 rl.length cG0) := Lib.hid (RBox.made _ _ _ _ _ _)
    clear bz
    obtain ⟨p00, p01, p02⟩ := Z0.out
    clear p02
    go_upto_region 5 with fail
    clear p00 p01
    generalize (w2.alloc (.cells #[.int .i64 1, .slice AG0 rl.length cG0] 27)) = w3 at O G0 Z0 B ⊢
    have bd : Below w3.heap.size w3 w3.drew := (Below.refl _ _).drew
    replace O := Lib.hid (O.out.step bd)
    replace G0 := Lib.hid (G0.out.step bd)
    replace Z0 := Lib.hid (Z0.out.step bd)
    replace B := Lib.hid (B.out.trans (bd.mono B.out.size))
    clear bd
    obtain ⟨x0, x1, x2⟩ := Z0.out
    have HZX := Lib.hid x2
    clear x2
    go_region_held3 (fun w' => w'.cell? ⟨w2.heap.size, 0, none⟩ = some (.int .i64 1) ∧ w'.cell? ⟨w2.heap.size, 1, none⟩ = some (.slice AG0 rl.length cG0)) (first | exact ⟨x0, x1⟩ | exact ⟨(Below.cell b8 (p := ⟨w2.heap.size, 0, none⟩) HZX7.out).trans x0, (Below.cell b8 (p := ⟨w2.heap.size, 1, none⟩) HZX7.out).trans x1⟩) (first
      | (go_at_call 11; refine (specDO_any p _ _ ns _ O.out.1.ints).mono ?_; rw [HR.out]; rintro e w70 ⟨A7, c7, rfl, oo7, b7⟩; have O := Lib.hid (O.out.step b7); have G0 := Lib.hid (G0.out.step b7); have Z0 := Lib.hid (Z0.out.step b7); have B := Lib.hid (B.out.trans (b7.mono B.out.size)); have Q7 := Lib.hid (OwnR.of oo7); simp only [] at Q7 ⊢; have x0 : w70.cell? ⟨w2.heap.size, 0, none⟩ = some (.int .i64 1) := (b7.cell (p := ⟨w2.heap.size, 0, none⟩) HZX.out).trans x0; have x1 : w70.cell? ⟨w2.heap.size, 1, none⟩ = some (.slice AG0 rl.length cG0) := (b7.cell (p := ⟨w2.heap.size, 1, none⟩) HZX.out).trans x1; have HZX7 := Lib.hid (Nat.lt_of_lt_of_le HZX.out b7.size); clear oo7 b7)
      | (go_at_call 10; refine (implRS_any _ (1, rl) _ (1, rl) _ G0.out.res Q7.out.res).mono ?_; rw [resB_self]; rintro e w80 ⟨rfl, b8⟩; have B8 := Lib.hid b8))
    clear x0 x1 HZX HZX7 Q7
    replace O := Lib.hid (O.out.step B8.out)
    replace G0 := Lib.hid (G0.out.step B8.out)
    replace Z0 := Lib.hid (Z0.out.step B8.out)
    replace B := Lib.hid (B.out.trans (B8.out.mono B.out.size))
    clear B8
    obtain ⟨p00, p01, p02⟩ := Z0.out
    clear p02
    go_wp2
    all_goals try trivial
    go_ret
    exact ⟨rfl, B.out⟩
  · subst h1
    have g1 : ((rl.length : Int) == (ns.length : Int)) = true := beq_iff_eq.2 (by omega)
    have G := Lib.hid h2
    clear h3 h2
    go_wp2_with fail
    refine (implDO_any z1 z2 z3 p _ _ ns w1 (E.out.step B.out) O.out.1.ints).mono ?_
    rw [HR.out]
    rintro e w2 ⟨AG0, cG0, rfl, oo, b⟩
    replace O := Lib.hid (O.out.step b)
    replace B := Lib.hid (B.out.trans (b.mono B.out.size))
    have G0 := Lib.hid (OwnR.of oo)
    simp only [] at G0 ⊢
    clear oo b
    have bz : Below w2.heap.size w2 (w2.alloc (.cells #[.int .i64 0, .slice AG0 rl.length cG0] 27)) := (Below.refl _ _).alloc (Nat.le_refl _) _
    replace O := Lib.hid (O.out.step bz)
    replace G0 := Lib.hid (G0.out.step bz)
    replace B := Lib.hid (B.out.trans (bz.mono B.out.size))
    have Z0 : Hid (RBox (w2.alloc (.cells #[.int .i64 0, .slice AG0 rl.length cG0] 27)) w2.heap.size 0 AG0 rl.length cG0) := Lib.hid (RBox.made _ _ _ _ _ _)
    clear bz
    obtain ⟨p00, p01, p02⟩ := Z0.out
    clear p02
    go_upto_region 5 with fail
    clear p00 p01
    generalize (w2.alloc (.cells #[.int .i64 0, .slice AG0 rl.length cG0] 27)) = w3 at O G0 Z0 B ⊢
    have bd : Below w3.heap.size w3 w3.drew := (Below.refl _ _).drew
    replace O := Lib.hid (O.out.step bd)
    replace G0 := Lib.hid (G0.out.step bd)
    replace Z0 := Lib.hid (Z0.out.step bd)
    replace B := Lib.hid (B.out.trans (bd.mono B.out.size))
    clear bd
    obtain ⟨x0, x1, x2⟩ := Z0.out
    have HZX := Lib.hid x2
    clear x2
    go_region_held3 (fun w' => w'.cell? ⟨w2.heap.size, 0, none⟩ = some (.int .i64 0) ∧ w'.cell? ⟨w2.heap.size, 1, none⟩ = some (.slice AG0 rl.length cG0)) (first | exact ⟨x0, x1⟩ | exact ⟨(Below.cell b8 (p := ⟨w2.heap.size, 0, none⟩) HZX7.out).trans x0, (Below.cell b8 (p := ⟨w2.heap.size, 1, none⟩) HZX7.out).trans x1⟩) (first
      | (go_at_call 11; refine (specDO_any p _ _ ns _ O.out.1.ints).mono ?_; rw [HR.out]; rintro e w70 ⟨A7, c7, rfl, oo7, b7⟩; have O := Lib.hid (O.out.step b7); have G0 := Lib.hid (G0.out.step b7); have Z0 := Lib.hid (Z0.out.step b7); have B := Lib.hid (B.out.trans (b7.mono B.out.size)); have Q7 := Lib.hid (OwnR.of oo7); simp only [] at Q7 ⊢; have x0 : w70.cell? ⟨w2.heap.size, 0, none⟩ = some (.int .i64 0) := (b7.cell (p := ⟨w2.heap.size, 0, none⟩) HZX.out).trans x0; have x1 : w70.cell? ⟨w2.heap.size, 1, none⟩ = some (.slice AG0 rl.length cG0) := (b7.cell (p := ⟨w2.heap.size, 1, none⟩) HZX.out).trans x1; have HZX7 := Lib.hid (Nat.lt_of_lt_of_le HZX.out b7.size); clear oo7 b7)
      | (go_at_call 10; refine (implRS_any _ (0, rl) _ (0, rl) _ G0.out.res Q7.out.res).mono ?_; rw [resB_self]; rintro e w80 ⟨rfl, b8⟩; have B8 := Lib.hid b8))
    clear x0 x1 HZX HZX7 Q7
    replace O := Lib.hid (O.out.step B8.out)
    replace G0 := Lib.hid (G0.out.step B8.out)
    replace Z0 := Lib.hid (Z0.out.step B8.out)
    replace B := Lib.hid (B.out.trans (B8.out.mono B.out.size))
    clear B8
    rcases G.out with rfl | rfl
    · skip
      obtain ⟨p00, p01, p02⟩ := Z0.out
      clear p02
      go_wp2
      all_goals try trivial
      go_ret
      exact ⟨rfl, B.out⟩
    · skip
      obtain ⟨p00, p01, p02⟩ := Z0.out
      clear p02
      go_wp2
      all_goals try trivial
      go_ret
      exact ⟨rfl, B.out⟩
  · subst h1
    have g1 : ((rl.length : Int) == 1) = true := beq_iff_eq.2 (by omega)
    have g2 : (p == 5) = false := by simp [h2]
    have g3 : (p == 6) = false := by simp [h4]
    clear h2 h4 h3
    go_wp2_with fail
    refine (implDO_any z1 z2 z3 p _ _ ns w1 (E.out.step B.out) O.out.1.ints).mono ?_
    rw [HR.out]
    rintro e w2 ⟨AG0, cG0, rfl, oo, b⟩
    replace O := Lib.hid (O.out.step b)
    replace B := Lib.hid (B.out.trans (b.mono B.out.size))
    have G0 := Lib.hid (OwnR.of oo)
    simp only [] at G0 ⊢
    clear oo b
    have bz : Below w2.heap.size w2 (w2.alloc (.cells #[.int .i64 0, .slice AG0 rl.length cG0] 27)) := (Below.refl _ _).alloc (Nat.le_refl _) _
    replace O := Lib.hid (O.out.step bz)
    replace G0 := Lib.hid (G0.out.step bz)
    replace B := Lib.hid (B.out.trans (bz.mono B.out.size))
    have Z0 : Hid (RBox (w2.alloc (.cells #[.int .i64 0, .slice AG0 rl.length cG0] 27)) w2.heap.size 0 AG0 rl.length cG0) := Lib.hid (RBox.made _ _ _ _ _ _)
    clear bz
    obtain ⟨p00, p01, p02⟩ := Z0.out
    clear p02
    go_upto_region 5 with fail
    clear p00 p01
    generalize (w2.alloc (.cells #[.int .i64 0, .slice AG0 rl.length cG0] 27)) = w3 at O G0 Z0 B ⊢
    have bd : Below w3.heap.size w3 w3.drew := (Below.refl _ _).drew
    replace O := Lib.hid (O.out.step bd)
    replace G0 := Lib.hid (G0.out.step bd)
    replace Z0 := Lib.hid (Z0.out.step bd)
    replace B := Lib.hid (B.out.trans (bd.mono B.out.size))
    clear bd
    obtain ⟨x0, x1, x2⟩ := Z0.out
    have HZX := Lib.hid x2
    clear x2
    go_region_held3 (fun w' => w'.cell? ⟨w2.heap.size, 0, none⟩ = some (.int .i64 0) ∧ w'.cell? ⟨w2.heap.size, 1, none⟩ = some (.slice AG0 rl.length cG0)) (first | exact ⟨x0, x1⟩ | exact ⟨(Below.cell b8 (p := ⟨w2.heap.size, 0, none⟩) HZX7.out).trans x0, (Below.cell b8 (p := ⟨w2.heap.size, 1, none⟩) HZX7.out).trans x1⟩) (first
      | (go_at_call 11; refine (specDO_any p _ _ ns _ O.out.1.ints).mono ?_; rw [HR.out]; rintro e w70 ⟨A7, c7, rfl, oo7, b7⟩; have O := Lib.hid (O.out.step b7); have G0 := Lib.hid (G0.out.step b7); have Z0 := Lib.hid (Z0.out.step b7); have B := Lib.hid (B.out.trans (b7.mono B.out.size)); have Q7 := Lib.hid (OwnR.of oo7); simp only [] at Q7 ⊢; have x0 : w70.cell? ⟨w2.heap.size, 0, none⟩ = some (.int .i64 0) := (b7.cell (p := ⟨w2.heap.size, 0, none⟩) HZX.out).trans x0; have x1 : w70.cell? ⟨w2.heap.size, 1, none⟩ = some (.slice AG0 rl.length cG0) := (b7.cell (p := ⟨w2.heap.size, 1, none⟩) HZX.out).trans x1; have HZX7 := Lib.hid (Nat.lt_of_lt_of_le HZX.out b7.size); clear oo7 b7)
      | (go_at_call 10; refine (implRS_any _ (0, rl) _ (0, rl) _ G0.out.res Q7.out.res).mono ?_; rw [resB_self]; rintro e w80 ⟨rfl, b8⟩; have B8 := Lib.hid b8))
    clear x0 x1 HZX HZX7 Q7
    replace O := Lib.hid (O.out.step B8.out)
    replace G0 := Lib.hid (G0.out.step B8.out)
    replace Z0 := Lib.hid (Z0.out.step B8.out)
    replace B := Lib.hid (B.out.trans (B8.out.mono B.out.size))
    clear B8
    obtain ⟨p00, p01, p02⟩ := Z0.out
    clear p02
    go_wp2
    all_goals try trivial
    go_ret
    exact ⟨rfl, B.out⟩
end Go.Proofs.YtiaoenkgapfgaaaDoor
