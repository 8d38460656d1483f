/-
  The walk of FnDecideOne.
-/
import Derived.Test.YtiaoenkgapfgaaaDoorXa
namespace Go.Proofs.YtiaoenkgapfgaaaDoor
open Go.RowKit Sets

set_option maxRecDepth 100000 in
set_option maxHeartbeats 8000000 in
theorem decideOne_walk (A : Option Addr) (n c : Nat) (z : Nat → Int) (w : World) (h : Bytes w A n c z) (z1 z2 z3 : Addr) (hE : EndsIs w z1 z2 z3) :
    Calls Tryd.prog 5 #[.slice A n c] w fun e w' => e = .returned (.bool true) ∧ Below w.heap.size w w' := by
  have hnc := h.1
  have hc := h.2.1
  have H := Lib.hid h
  have E := Lib.hid hE
  clear h hE
  have B := Lib.hid (Below.refl w.heap.size w)
  by_cases hn : 1048576 < n
  · have hn1 : (1048576 : Int) < (n : Int) := by omega
    go_enter Tryd.func5, Tryd.ntmps5
    go_wp2
    go_ret
    exact ⟨rfl, Below.refl _ _⟩
  have hn1 : decide ((1048576 : Int) < (n : Int)) = false := decide_eq_false (by omega)
  go_enter Tryd.func5, Tryd.ntmps5
  go_wp2_with fail
  refine (drawDO_any A n c z w H.out).mono ?_
  rintro e w1 ⟨p, A1, c1, ns, rfl, hO, hl, b1⟩
  replace B := Lib.hid (B.out.trans (b1.mono B.out.size))
  have O := Lib.hid (OwnR.of hO)
  have HL := Lib.hid hl
  clear hO hl b1 hn hn1 hnc hc
  have HC := do_cases p ns
  obtain ⟨⟨rc, rl⟩, hr⟩ : ∃ r : Rs, doV p ns = r := ⟨_, rfl⟩
  rw [hr] at HC
  simp only [] at HC
  have HR := Lib.hid hr
  have H3 := Lib.hid (show rc = 3 → rl = [] by intro h; rcases HC with ⟨_, h2⟩ | ⟨h1, _⟩ | ⟨h1, _⟩ | ⟨h1, _⟩ <;> first | exact h2 | omega)
  clear hr HC
  by_cases h3 : rc = 3
  · subst h3
    go_wp2_with fail
    refine (implDO_any z1 z2 z3 p _ _ ns w1 (E.out.step B.out) O.out.1.ints).mono ?_
    rw [HR.out]
    rintro e w2 ⟨AG0, cG0, rfl, oo, b⟩
    replace O := Lib.hid (O.out.step b)
    replace B := Lib.hid (B.out.trans (b.mono B.out.size))
    have G0 := Lib.hid (OwnR.of oo)
    simp only [] at G0 ⊢
    clear oo b
    have bz : Below w2.heap.size w2 (w2.alloc (.cells #[.int .i64 3, .slice AG0 rl.length cG0] 27)) := (Below.refl _ _).alloc (Nat.le_refl _) _
    replace O := Lib.hid (O.out.step bz)
    replace G0 := Lib.hid (G0.out.step bz)
    replace B := Lib.hid (B.out.trans (bz.mono B.out.size))
    have Z0 : Hid (RBox (w2.alloc (.cells #[.int .i64 3, .slice AG0 rl.length cG0] 27)) w2.heap.size 3 AG0 rl.length cG0) := Lib.hid (RBox.made _ _ _ _ _ _)
    clear bz
    obtain ⟨p00, p01, p02⟩ := Z0.out
    clear p02
    go_upto_region 5 with fail
    clear p00 p01
    generalize (w2.alloc (.cells #[.int .i64 3, .slice AG0 rl.length cG0] 27)) = w3 at O G0 Z0 B ⊢
    have bd : Below w3.heap.size w3 w3.drew := (Below.refl _ _).drew
    replace O := Lib.hid (O.out.step bd)
    replace G0 := Lib.hid (G0.out.step bd)
    replace Z0 := Lib.hid (Z0.out.step bd)
    replace B := Lib.hid (B.out.trans (bd.mono B.out.size))
    clear bd
    obtain ⟨x0, x1, x2⟩ := Z0.out
    have HZX := Lib.hid x2
    clear x2
    refine wp_region_noPanic ?_
    refine wp_region_held_drew (S := fun w' => w'.cell? ⟨w2.heap.size, 0, none⟩ = some (.int .i64 3) ∧ w'.cell? ⟨w2.heap.size, 1, none⟩ = some (.slice AG0 rl.length cG0)) (by kernel_rfl) (by exact ⟨x0, x1⟩) (fun hHeld => ?_)
    refine wpAnyH_take (i := 0) (v := ?_) rfl (by kernel_rfl) (by kernel_rfl) (by kernel_rfl) (fun _ _ _ h => h) (Or.inl ⟨by rfl, ?_⟩) (by assumption) ?_
    rotate_left 1
    · (intro w' hSw; (try dsimp only at hSw); go_simp <;> with_reducible rfl)
    try simp only [Act.put, List.setIfInBounds_toArray, List.set_cons_zero, List.set_cons_succ]
    refine wpAnyH_take (i := 1) (v := ?_) rfl (by kernel_rfl) (by kernel_rfl) (by kernel_rfl) (fun _ _ _ h => h) (Or.inl ⟨by rfl, ?_⟩) (by assumption) ?_
    rotate_left 1
    · (intro w' hSw; (try dsimp only at hSw); go_simp <;> with_reducible rfl)
    try simp only [Act.put, List.setIfInBounds_toArray, List.set_cons_zero, List.set_cons_succ]
    refine wpAnyH_take (i := 2) (v := ?_) rfl (by kernel_rfl) (by kernel_rfl) (by kernel_rfl) (fun _ _ _ h => h) (Or.inl ⟨by rfl, ?_⟩) (by assumption) ?_
    rotate_left 1
    · (intro w' hSw; (try dsimp only at hSw); go_simp <;> with_reducible rfl)
    try simp only [Act.put, List.setIfInBounds_toArray, List.set_cons_zero, List.set_cons_succ]
    refine wpAnyH_ready (rs := [3]) (by kernel_rfl) (by simp) ?_
    refine AllReadyH.cons rfl (fun K hK => ?_) AllReadyH.nil
    go_simp
    (go_at_call 11; refine (specDO_any p _ _ ns _ O.out.1.ints).mono ?_; rw [HR.out]; rintro e w70 ⟨A7, c7, rfl, oo7, b7⟩; have O := Lib.hid (O.out.step b7); have G0 := Lib.hid (G0.out.step b7); have Z0 := Lib.hid (Z0.out.step b7); have B := Lib.hid (B.out.trans (b7.mono B.out.size)); have Q7 := Lib.hid (OwnR.of oo7); simp only [] at Q7 ⊢; have x0 : w70.cell? ⟨w2.heap.size, 0, none⟩ = some (.int .i64 3) := (b7.cell (p := ⟨w2.heap.size, 0, none⟩) HZX.out).trans x0; have x1 : w70.cell? ⟨w2.heap.size, 1, none⟩ = some (.slice AG0 rl.length cG0) := (b7.cell (p := ⟨w2.heap.size, 1, none⟩) HZX.out).trans x1; have HZX7 := Lib.hid (Nat.lt_of_lt_of_le HZX.out b7.size); clear oo7 b7)
    try (go_wp2_with fail)
    refine hK.out _ _ (by first | exact ⟨x0, x1⟩ | exact ⟨(Below.cell b8 (p := ⟨w2.heap.size, 0, none⟩) HZX7.out).trans x0, (Below.cell b8 (p := ⟨w2.heap.size, 1, none⟩) HZX7.out).trans x1⟩) (fun hHeld => ?_)
    clear hK K
    try simp only [Act.put, List.setIfInBounds_toArray, List.set_cons_zero, List.set_cons_succ]
    refine wpAnyH_ready (rs := [4]) (by kernel_rfl) (by simp) ?_
    refine AllReadyH.cons rfl (fun K hK => ?_) AllReadyH.nil
    go_simp
    (go_at_call 10; refine (implRS_any _ (3, rl) _ (3, rl) _ G0.out.res Q7.out.res).mono ?_; rw [resB_self]; rintro e w80 ⟨rfl, b8⟩; have B8 := Lib.hid b8)
    try (go_wp2_with fail)
    refine hK.out _ _ (by first | exact ⟨x0, x1⟩ | exact ⟨(Below.cell b8 (p := ⟨w2.heap.size, 0, none⟩) HZX7.out).trans x0, (Below.cell b8 (p := ⟨w2.heap.size, 1, none⟩) HZX7.out).trans x1⟩) (fun hHeld => ?_)
    clear hK K
    try simp only [Act.put, List.setIfInBounds_toArray, List.set_cons_zero, List.set_cons_succ]
    refine wpAnyH_take (i := 5) (v := ?_) rfl (by kernel_rfl) (by kernel_rfl) (by kernel_rfl) (fun _ _ _ h => h) (Or.inl ⟨by rfl, ?_⟩) (by assumption) ?_
    rotate_left 1
    · (intro w' hSw; (try dsimp only at hSw); go_simp <;> with_reducible rfl)
    try simp only [Act.put, List.setIfInBounds_toArray, List.set_cons_zero, List.set_cons_succ]
    refine wpAnyH_take (i := 6) (v := ?_) rfl (by kernel_rfl) (by kernel_rfl) (by kernel_rfl) (fun _ _ _ h => h) (Or.inl ⟨by rfl, ?_⟩) (by assumption) ?_
    rotate_left 1
    · (intro w' hSw; (try dsimp only at hSw); go_simp <;> with_reducible rfl)
    try simp only [Act.put, List.setIfInBounds_toArray, List.set_cons_zero, List.set_cons_succ]
    refine wpAnyH_take (i := 7) (v := ?_) rfl (by kernel_rfl) (by kernel_rfl) (by kernel_rfl) (fun _ _ _ h => h) (Or.inl ⟨by rfl, ?_⟩) (by assumption) ?_
    rotate_left 1
    · (intro w' hSw; (try dsimp only at hSw); go_simp <;> with_reducible rfl)
    try simp only [Act.put, List.setIfInBounds_toArray, List.set_cons_zero, List.set_cons_succ]
    refine wpAnyH_take (i := 8) (v := ?_) rfl (by kernel_rfl) (by kernel_rfl) (by kernel_rfl) (fun _ _ _ h => h) (Or.inl ⟨by rfl, ?_⟩) (by assumption) ?_
    rotate_left 1
    · (intro w' hSw; (try dsimp only at hSw); go_simp <;> with_reducible rfl)
    try simp only [Act.put, List.setIfInBounds_toArray, List.set_cons_zero, List.set_cons_succ]
    refine wpAnyH_take (i := 9) (v := ?_) rfl (by kernel_rfl) (by kernel_rfl) (by kernel_rfl) (fun _ _ _ h => h) (Or.inl ⟨by rfl, ?_⟩) (by assumption) ?_
    rotate_left 1
    · (intro w' hSw; (try dsimp only at hSw); go_simp <;> with_reducible rfl)
    try simp only [Act.put, List.setIfInBounds_toArray, List.set_cons_zero, List.set_cons_succ]
    refine wpAnyH_take (i := 10) (v := ?_) rfl (by kernel_rfl) (by kernel_rfl) (by kernel_rfl) (fun _ _ _ h => h) (Or.inl ⟨by rfl, ?_⟩) (by assumption) ?_
    rotate_left 1
    · (intro w' hSw; (try dsimp only at hSw); go_simp <;> with_reducible rfl)
    try simp only [Act.put, List.setIfInBounds_toArray, List.set_cons_zero, List.set_cons_succ]
    refine wpAnyH_take (i := 11) (v := ?_) rfl (by kernel_rfl) (by kernel_rfl) (by kernel_rfl) (fun _ _ _ h => h) (Or.inl ⟨by rfl, ?_⟩) (by assumption) ?_
    rotate_left 1
    · (intro w' hSw; (try dsimp only at hSw); go_simp <;> with_reducible rfl)
    try simp only [Act.put, List.setIfInBounds_toArray, List.set_cons_zero, List.set_cons_succ]
    refine wpAnyH_ready (rs := [12]) (by kernel_rfl) (by simp) ?_
    refine AllReadyH.cons rfl (fun K hK => ?_) AllReadyH.nil
    go_simp
    refine hK.out _ _ hHeld (fun hHeld => ?_)
    clear hK K
    try simp only [Act.put, List.setIfInBounds_toArray, List.set_cons_zero, List.set_cons_succ]
    refine wpAnyH_ready (rs := [13]) (by kernel_rfl) (by simp) ?_
    refine AllReadyH.cons rfl (fun K hK => ?_) AllReadyH.nil
    refine Eq.mpr (if_neg Bool.false_ne_true) ?_
    refine hK.out _ _ hHeld (fun hHeld => ?_)
    clear hK K
    try simp only [Act.put, List.setIfInBounds_toArray, List.set_cons_zero, List.set_cons_succ]
    refine wpAnyH_ready (rs := [14]) (by kernel_rfl) (by simp) ?_
    refine AllReadyH.cons rfl (fun K hK => ?_) AllReadyH.nil
    go_simp
    refine hK.out _ _ hHeld (fun hHeld => ?_)
    clear hK K
    try simp only [Act.put, List.setIfInBounds_toArray, List.set_cons_zero, List.set_cons_succ]
    refine wpAnyH_take (i := 15) (v := ?_) rfl (by kernel_rfl) (by kernel_rfl) (by kernel_rfl) (fun _ _ _ h => h) (Or.inl ⟨by rfl, ?_⟩) (by assumption) ?_
    rotate_left 1
    · (intro w' hSw; (try dsimp only at hSw); go_simp <;> with_reducible rfl)
    try simp only [Act.put, List.setIfInBounds_toArray, List.set_cons_zero, List.set_cons_succ]
    refine wpAnyH_done (by kernel_rfl) ?_ _
    refine NoPanic.normal ?_
    clear x0 x1 HZX HZX7 Q7
    replace O := Lib.hid (O.out.step B8.out)
    replace G0 := Lib.hid (G0.out.step B8.out)
    replace Z0 := Lib.hid (Z0.out.step B8.out)
    replace B := Lib.hid (B.out.trans (B8.out.mono B.out.size))
    clear B8
    obtain ⟨p00, p01, p02⟩ := Z0.out
    clear p02
    go_upto_region 6 with fail
    clear p00 p01
    have bd : Below w80.heap.size w80 w80.drew := (Below.refl _ _).drew
    replace O := Lib.hid (O.out.step bd)
    replace G0 := Lib.hid (G0.out.step bd)
    replace Z0 := Lib.hid (Z0.out.step bd)
    replace B := Lib.hid (B.out.trans (bd.mono B.out.size))
    clear bd
    obtain ⟨x0, x1, x2⟩ := Z0.out
    have HZX := Lib.hid x2
    clear x2
    go_region_held3 (fun w' => w'.cell? ⟨w2.heap.size, 0, none⟩ = some (.int .i64 3) ∧ w'.cell? ⟨w2.heap.size, 1, none⟩ = some (.slice AG0 rl.length cG0)) (first | exact ⟨x0, x1⟩ | exact ⟨(Below.cell b8 (p := ⟨w2.heap.size, 0, none⟩) HZX7.out).trans x0, (Below.cell b8 (p := ⟨w2.heap.size, 1, none⟩) HZX7.out).trans x1⟩) (first
      | (go_at_call 11; refine (specDO_any p _ _ ns _ O.out.1.ints).mono ?_; rw [HR.out]; rintro e w70 ⟨A7, c7, rfl, oo7, b7⟩; have O := Lib.hid (O.out.step b7); have G0 := Lib.hid (G0.out.step b7); have Z0 := Lib.hid (Z0.out.step b7); have B := Lib.hid (B.out.trans (b7.mono B.out.size)); have Q7 := Lib.hid (OwnR.of oo7); simp only [] at Q7 ⊢; have x0 : w70.cell? ⟨w2.heap.size, 0, none⟩ = some (.int .i64 3) := (b7.cell (p := ⟨w2.heap.size, 0, none⟩) HZX.out).trans x0; have x1 : w70.cell? ⟨w2.heap.size, 1, none⟩ = some (.slice AG0 rl.length cG0) := (b7.cell (p := ⟨w2.heap.size, 1, none⟩) HZX.out).trans x1; have HZX7 := Lib.hid (Nat.lt_of_lt_of_le HZX.out b7.size); clear oo7 b7)
      | (go_at_call 10; refine (implRS_any _ (3, rl) _ (3, rl) _ G0.out.res Q7.out.res).mono ?_; rw [resB_self]; rintro e w80 ⟨rfl, b8⟩; have B8 := Lib.hid b8))
    clear x0 x1 HZX HZX7 Q7
    replace O := Lib.hid (O.out.step B8.out)
    replace G0 := Lib.hid (G0.out.step B8.out)
    replace Z0 := Lib.hid (Z0.out.step B8.out)
    replace B := Lib.hid (B.out.trans (B8.out.mono B.out.size))
    clear B8
    obtain ⟨p00, p01, p02⟩ := Z0.out
    clear p02
    go_wp2
    all_goals try trivial
    go_ret
    exact ⟨rfl, B.out⟩
  by_cases hz0 : ns.length = 0
  · have g1 : (rc == 3) = false := by simp [h3]
    have g2 : ((ns.length : Int) == 0) = true := beq_iff_eq.2 (by omega)
    clear h3 hz0
    go_wp2_with fail
    refine (implDO_any z1 z2 z3 p _ _ ns w1 (E.out.step B.out) O.out.1.ints).mono ?_
    rw [HR.out]
    rintro e w2 ⟨AG0, cG0, rfl, oo, b⟩
    replace O := Lib.hid (O.out.step b)
    replace B := Lib.hid (B.out.trans (b.mono B.out.size))
    have G0 := Lib.hid (OwnR.of oo)
    simp only [] at G0 ⊢
    clear oo b
    have bz : Below w2.heap.size w2 (w2.alloc (.cells #[.int .i64 rc, .slice AG0 rl.length cG0] 27)) := (Below.refl _ _).alloc (Nat.le_refl _) _
    replace O := Lib.hid (O.out.step bz)
    replace G0 := Lib.hid (G0.out.step bz)
    replace B := Lib.hid (B.out.trans (bz.mono B.out.size))
    have Z0 : Hid (RBox (w2.alloc (.cells #[.int .i64 rc, .slice AG0 rl.length cG0] 27)) w2.heap.size rc AG0 rl.length cG0) := Lib.hid (RBox.made _ _ _ _ _ _)
    clear bz
    obtain ⟨p00, p01, p02⟩ := Z0.out
    clear p02
    go_upto_region 5 with fail
    clear p00 p01
    generalize (w2.alloc (.cells #[.int .i64 rc, .slice AG0 rl.length cG0] 27)) = w3 at O G0 Z0 B ⊢
    have bd : Below w3.heap.size w3 w3.drew := (Below.refl _ _).drew
    replace O := Lib.hid (O.out.step bd)
    replace G0 := Lib.hid (G0.out.step bd)
    replace Z0 := Lib.hid (Z0.out.step bd)
    replace B := Lib.hid (B.out.trans (bd.mono B.out.size))
    clear bd
    obtain ⟨x0, x1, x2⟩ := Z0.out
    have HZX := Lib.hid x2
    clear x2
    go_region_held3 (fun w' => w'.cell? ⟨w2.heap.size, 0, none⟩ = some (.int .i64 rc) ∧ w'.cell? ⟨w2.heap.size, 1, none⟩ = some (.slice AG0 rl.length cG0)) (first | exact ⟨x0, x1⟩ | exact ⟨(Below.cell b8 (p := ⟨w2.heap.size, 0, none⟩) HZX7.out).trans x0, (Below.cell b8 (p := ⟨w2.heap.size, 1, none⟩) HZX7.out).trans x1⟩) (first
      | (go_at_call 11; refine (specDO_any p _ _ ns _ O.out.1.ints).mono ?_; rw [HR.out]; rintro e w70 ⟨A7, c7, rfl, oo7, b7⟩; have O := Lib.hid (O.out.step b7); have G0 := Lib.hid (G0.out.step b7); have Z0 := Lib.hid (Z0.out.step b7); have B := Lib.hid (B.out.trans (b7.mono B.out.size)); have Q7 := Lib.hid (OwnR.of oo7); simp only [] at Q7 ⊢; have x0 : w70.cell? ⟨w2.heap.size, 0, none⟩ = some (.int .i64 rc) := (b7.cell (p := ⟨w2.heap.size, 0, none⟩) HZX.out).trans x0; have x1 : w70.cell? ⟨w2.heap.size, 1, none⟩ = some (.slice AG0 rl.length cG0) := (b7.cell (p := ⟨w2.heap.size, 1, none⟩) HZX.out).trans x1; have HZX7 := Lib.hid (Nat.lt_of_lt_of_le HZX.out b7.size); clear oo7 b7)
      | (go_at_call 10; refine (implRS_any _ (rc, rl) _ (rc, rl) _ G0.out.res Q7.out.res).mono ?_; rw [resB_self]; rintro e w80 ⟨rfl, b8⟩; have B8 := Lib.hid b8))
    clear x0 x1 HZX HZX7 Q7
    replace O := Lib.hid (O.out.step B8.out)
    replace G0 := Lib.hid (G0.out.step B8.out)
    replace Z0 := Lib.hid (Z0.out.step B8.out)
    replace B := Lib.hid (B.out.trans (B8.out.mono B.out.size))
    clear B8
    obtain ⟨p00, p01, p02⟩ := Z0.out
    clear p02
    go_upto_region 6 with fail
    clear p00 p01
    have bd : Below w80.heap.size w80 w80.drew := (Below.refl _ _).drew
    replace O := Lib.hid (O.out.step bd)
    replace G0 := Lib.hid (G0.out.step bd)
    replace Z0 := Lib.hid (Z0.out.step bd)
    replace B := Lib.hid (B.out.trans (bd.mono B.out.size))
    clear bd
    obtain ⟨x0, x1, x2⟩ := Z0.out
    have HZX := Lib.hid x2
    clear x2
    go_region_held3 (fun w' => w'.cell? ⟨w2.heap.size, 0, none⟩ = some (.int .i64 rc) ∧ w'.cell? ⟨w2.heap.size, 1, none⟩ = some (.slice AG0 rl.length cG0)) (first | exact ⟨x0, x1⟩ | exact ⟨(Below.cell b8 (p := ⟨w2.heap.size, 0, none⟩) HZX7.out).trans x0, (Below.cell b8 (p := ⟨w2.heap.size, 1, none⟩) HZX7.out).trans x1⟩) (first
      | (go_at_call 11; refine (specDO_any p _ _ ns _ O.out.1.ints).mono ?_; rw [HR.out]; rintro e w70 ⟨A7, c7, rfl, oo7, b7⟩; have O := Lib.hid (O.out.step b7); have G0 := Lib.hid (G0.out.step b7); have Z0 := Lib.hid (Z0.out.step b7); have B := Lib.hid (B.out.trans (b7.mono B.out.size)); have Q7 := Lib.hid (OwnR.of oo7); simp only [] at Q7 ⊢; have x0 : w70.cell? ⟨w2.heap.size, 0, none⟩ = some (.int .i64 rc) := (b7.cell (p := ⟨w2.heap.size, 0, none⟩) HZX.out).trans x0; have x1 : w70.cell? ⟨w2.heap.size, 1, none⟩ = some (.slice AG0 rl.length cG0) := (b7.cell (p := ⟨w2.heap.size, 1, none⟩) HZX.out).trans x1; have HZX7 := Lib.hid (Nat.lt_of_lt_of_le HZX.out b7.size); clear oo7 b7)
      | (go_at_call 10; refine (implRS_any _ (rc, rl) _ (rc, rl) _ G0.out.res Q7.out.res).mono ?_; rw [resB_self]; rintro e w80 ⟨rfl, b8⟩; have B8 := Lib.hid b8))
    clear x0 x1 HZX HZX7 Q7
    replace O := Lib.hid (O.out.step B8.out)
    replace G0 := Lib.hid (G0.out.step B8.out)
    replace Z0 := Lib.hid (Z0.out.step B8.out)
    replace B := Lib.hid (B.out.trans (B8.out.mono B.out.size))
    clear B8
    obtain ⟨p00, p01, p02⟩ := Z0.out
    clear p02
    go_wp2
    all_goals try trivial
    go_ret
    exact ⟨rfl, B.out⟩
  have hbad : ¬ (rc = 3 ∨ ns.length = 0) := by omega
  clear h3 hz0
  have g1 : (rc == 3) = false := by simp; omega
  have hpos : 0 < ns.length := by omega
  have H1 := Lib.hid (do_one' (p := p) hpos (by rw [HR.out]; exact fun h => hbad (.inl h)))
  have HP := Lib.hid hpos
  obtain ⟨_, _, _, _, hz | ⟨g, rfl, hr0, ho0⟩⟩ := O.out.1
  · exact absurd hz (by have := HP.out; omega)
  have HROW := Lib.hid (show IntRow w1 g ns 1 from fun i hi => hr0 i (by have := HP.out; omega))
  have HGB := Lib.hid ho0.2.2
  clear hr0 ho0 hbad
  obtain ⟨y, hy⟩ : ∃ y, ns.getD 0 0 = y := ⟨_, rfl⟩
  rw [hy] at H1
  have HY := Lib.hid hy
  clear hy
  obtain ⟨ll, hll⟩ : ∃ l, ns.length = l := ⟨_, rfl⟩
  have HLL := Lib.hid hll
  have g2 : ((ll : Int) == 0) = false := beq_eq_false_iff_ne.2 (by have := HP.out; omega)
  have g3 : (0 : Int) < (ll : Int) := by have := HP.out; omega
  have g4 : (1 : Int) ≤ (c1 : Int) := by have := O.out.1.1; have := HP.out; omega
  rw [hll]
  clear hll hpos
  by_cases hp10 : p = 10
  · subst hp10
    have g5 : (((1 : Int)) == 1) = true := by simp
    have HM := Lib.hid (show doV 10 [y] = (0, [1]) by rw [H1.out]; simp)
    go_wp2_with fail
    refine (implDO_l z1 z2 z3 10 _ _ ns ll HLL.out w1 (E.out.step B.out) O.out.1.ints).mono ?_
    rw [HR.out]
    rintro e w2 ⟨AG0, cG0, rfl, oo, b⟩
    replace O := Lib.hid (O.out.step b)
    replace B := Lib.hid (B.out.trans (b.mono B.out.size))
    have G0 := Lib.hid (OwnR.of oo)
    simp only [] at G0 ⊢
    clear oo b
    have bz : Below w2.heap.size w2 (w2.alloc (.cells #[.int .i64 rc, .slice AG0 rl.length cG0] 27)) := (Below.refl _ _).alloc (Nat.le_refl _) _
    replace O := Lib.hid (O.out.step bz)
    replace G0 := Lib.hid (G0.out.step bz)
    replace B := Lib.hid (B.out.trans (bz.mono B.out.size))
    have Z0 : Hid (RBox (w2.alloc (.cells #[.int .i64 rc, .slice AG0 rl.length cG0] 27)) w2.heap.size rc AG0 rl.length cG0) := Lib.hid (RBox.made _ _ _ _ _ _)
    clear bz
    obtain ⟨p00, p01, p02⟩ := Z0.out
    clear p02
    go_upto_region 5 with fail
    clear p00 p01
    generalize (w2.alloc (.cells #[.int .i64 rc, .slice AG0 rl.length cG0] 27)) = w3 at O G0 Z0 B ⊢
    have bd : Below w3.heap.size w3 w3.drew := (Below.refl _ _).drew
    replace O := Lib.hid (O.out.step bd)
    replace G0 := Lib.hid (G0.out.step bd)
    replace Z0 := Lib.hid (Z0.out.step bd)
    replace B := Lib.hid (B.out.trans (bd.mono B.out.size))
    clear bd
    obtain ⟨x0, x1, x2⟩ := Z0.out
    have HZX := Lib.hid x2
    clear x2
    go_region_held3 (fun w' => w'.cell? ⟨w2.heap.size, 0, none⟩ = some (.int .i64 rc) ∧ w'.cell? ⟨w2.heap.size, 1, none⟩ = some (.slice AG0 rl.length cG0)) (first | exact ⟨x0, x1⟩ | exact ⟨(Below.cell b8 (p := ⟨w2.heap.size, 0, none⟩) HZX7.out).trans x0, (Below.cell b8 (p := ⟨w2.heap.size, 1, none⟩) HZX7.out).trans x1⟩) (first
      | (go_at_call 11; refine (specDO_l 10 _ _ ns ll HLL.out _ O.out.1.ints).mono ?_; rw [HR.out]; rintro e w70 ⟨A7, c7, rfl, oo7, b7⟩; have O := Lib.hid (O.out.step b7); have G0 := Lib.hid (G0.out.step b7); have Z0 := Lib.hid (Z0.out.step b7); have B := Lib.hid (B.out.trans (b7.mono B.out.size)); have Q7 := Lib.hid (OwnR.of oo7); simp only [] at Q7 ⊢; have x0 : w70.cell? ⟨w2.heap.size, 0, none⟩ = some (.int .i64 rc) := (b7.cell (p := ⟨w2.heap.size, 0, none⟩) HZX.out).trans x0; have x1 : w70.cell? ⟨w2.heap.size, 1, none⟩ = some (.slice AG0 rl.length cG0) := (b7.cell (p := ⟨w2.heap.size, 1, none⟩) HZX.out).trans x1; have HZX7 := Lib.hid (Nat.lt_of_lt_of_le HZX.out b7.size); clear oo7 b7)
      | (go_at_call 10; refine (implRS_any _ (rc, rl) _ (rc, rl) _ G0.out.res Q7.out.res).mono ?_; rw [resB_self]; rintro e w80 ⟨rfl, b8⟩; have B8 := Lib.hid b8))
    clear x0 x1 HZX HZX7 Q7
    replace O := Lib.hid (O.out.step B8.out)
    replace G0 := Lib.hid (G0.out.step B8.out)
    replace Z0 := Lib.hid (Z0.out.step B8.out)
    replace B := Lib.hid (B.out.trans (B8.out.mono B.out.size))
    clear B8
    obtain ⟨p00, p01, p02⟩ := Z0.out
    clear p02
    go_wp2_with fail
    clear p00 p01
    refine (implDO_l z1 z2 z3 10 _ _ [y] 1 rfl w80 (E.out.step B.out) (by have h9 := first_ints O.out.1.ints HP.out; rw [HY.out] at h9; exact h9)).mono ?_
    rw [HM.out]
    rintro e w4 ⟨AG1, cG1, rfl, oo, b⟩
    replace O := Lib.hid (O.out.step b)
    replace G0 := Lib.hid (G0.out.step b)
    replace Z0 := Lib.hid (Z0.out.step b)
    replace B := Lib.hid (B.out.trans (b.mono B.out.size))
    have G1 := Lib.hid (OwnR.of oo)
    simp only [] at G1 ⊢
    clear oo b
    have bz : Below w4.heap.size w4 (w4.alloc (.cells #[.int .i64 0, .slice AG1 [1].length cG1] 27)) := (Below.refl _ _).alloc (Nat.le_refl _) _
    replace O := Lib.hid (O.out.step bz)
    replace G0 := Lib.hid (G0.out.step bz)
    replace G1 := Lib.hid (G1.out.step bz)
    replace Z0 := Lib.hid (Z0.out.step bz)
    replace B := Lib.hid (B.out.trans (bz.mono B.out.size))
    have Z1 : Hid (RBox (w4.alloc (.cells #[.int .i64 0, .slice AG1 [1].length cG1] 27)) w4.heap.size 0 AG1 [1].length cG1) := Lib.hid (RBox.made _ _ _ _ _ _)
    clear bz
    obtain ⟨p00, p01, p02⟩ := Z0.out
    clear p02
    obtain ⟨p10, p11, p12⟩ := Z1.out
    clear p12
    go_upto_region 8 with fail
    clear p00 p01
    clear p10 p11
    generalize (w4.alloc (.cells #[.int .i64 0, .slice AG1 [1].length cG1] 27)) = w5 at O G0 G1 Z0 Z1 B ⊢
    obtain ⟨_, _, _, _, hz | ⟨g9, e9, hr9, ho9⟩⟩ := G1.out.1
    · simp at hz
    subst e9
    have cm : w5.cell? ⟨g9, 0, none⟩ = some (.int .i64 1) := hr9 0 (by simp)
    clear hr9 ho9
    obtain ⟨_, _, _, _, hz | ⟨g8, e8, hr8, ho8⟩⟩ := O.out.1
    · exact absurd hz (by have := HP.out; omega)
    injection e8 with e8
    injection e8 with e8 _
    subst e8
    have cy := hr8 0 HP.out
    rw [HY.out] at cy
    clear hr8 ho8
    obtain ⟨p00, p01, p02⟩ := Z0.out
    clear p02
    obtain ⟨p10, p11, p12⟩ := Z1.out
    clear p12
    go_wp2
    all_goals try trivial
    go_ret
    exact ⟨rfl, B.out⟩
  · have g5 : (p == 10) = false := by simp [hp10]
    have HM := Lib.hid (show doV p [y] = (0, [y]) by rw [H1.out, if_neg hp10])
    have g6 : (y == y) = true := by simp
    clear hp10
    go_wp2_with fail
    refine (implDO_l z1 z2 z3 p _ _ ns ll HLL.out w1 (E.out.step B.out) O.out.1.ints).mono ?_
    rw [HR.out]
    rintro e w2 ⟨AG0, cG0, rfl, oo, b⟩
    replace O := Lib.hid (O.out.step b)
    replace B := Lib.hid (B.out.trans (b.mono B.out.size))
    have G0 := Lib.hid (OwnR.of oo)
    simp only [] at G0 ⊢
    clear oo b
    have bz : Below w2.heap.size w2 (w2.alloc (.cells #[.int .i64 rc, .slice AG0 rl.length cG0] 27)) := (Below.refl _ _).alloc (Nat.le_refl _) _
    replace O := Lib.hid (O.out.step bz)
    replace G0 := Lib.hid (G0.out.step bz)
    replace B := Lib.hid (B.out.trans (bz.mono B.out.size))
    have Z0 : Hid (RBox (w2.alloc (.cells #[.int .i64 rc, .slice AG0 rl.length cG0] 27)) w2.heap.size rc AG0 rl.length cG0) := Lib.hid (RBox.made _ _ _ _ _ _)
    clear bz
    obtain ⟨p00, p01, p02⟩ := Z0.out
    clear p02
    go_upto_region 5 with fail
    clear p00 p01
    generalize (w2.alloc (.cells #[.int .i64 rc, .slice AG0 rl.length cG0] 27)) = w3 at O G0 Z0 B ⊢
    have bd : Below w3.heap.size w3 w3.drew := (Below.refl _ _).drew
    replace O := Lib.hid (O.out.step bd)
    replace G0 := Lib.hid (G0.out.step bd)
    replace Z0 := Lib.hid (Z0.out.step bd)
    replace B := Lib.hid (B.out.trans (bd.mono B.out.size))
    clear bd
    obtain ⟨x0, x1, x2⟩ := Z0.out
    have HZX := Lib.hid x2
    clear x2
    go_region_held3 (fun w' => w'.cell? ⟨w2.heap.size, 0, none⟩ = some (.int .i64 rc) ∧ w'.cell? ⟨w2.heap.size, 1, none⟩ = some (.slice AG0 rl.length cG0)) (first | exact ⟨x0, x1⟩ | exact ⟨(Below.cell b8 (p := ⟨w2.heap.size, 0, none⟩) HZX7.out).trans x0, (Below.cell b8 (p := ⟨w2.heap.size, 1, none⟩) HZX7.out).trans x1⟩) (first
      | (go_at_call 11; refine (specDO_l p _ _ ns ll HLL.out _ O.out.1.ints).mono ?_; rw [HR.out]; rintro e w70 ⟨A7, c7, rfl, oo7, b7⟩; have O := Lib.hid (O.out.step b7); have G0 := Lib.hid (G0.out.step b7); have Z0 := Lib.hid (Z0.out.step b7); have B := Lib.hid (B.out.trans (b7.mono B.out.size)); have Q7 := Lib.hid (OwnR.of oo7); simp only [] at Q7 ⊢; have x0 : w70.cell? ⟨w2.heap.size, 0, none⟩ = some (.int .i64 rc) := (b7.cell (p := ⟨w2.heap.size, 0, none⟩) HZX.out).trans x0; have x1 : w70.cell? ⟨w2.heap.size, 1, none⟩ = some (.slice AG0 rl.length cG0) := (b7.cell (p := ⟨w2.heap.size, 1, none⟩) HZX.out).trans x1; have HZX7 := Lib.hid (Nat.lt_of_lt_of_le HZX.out b7.size); clear oo7 b7)
      | (go_at_call 10; refine (implRS_any _ (rc, rl) _ (rc, rl) _ G0.out.res Q7.out.res).mono ?_; rw [resB_self]; rintro e w80 ⟨rfl, b8⟩; have B8 := Lib.hid b8))
    clear x0 x1 HZX HZX7 Q7
    replace O := Lib.hid (O.out.step B8.out)
    replace G0 := Lib.hid (G0.out.step B8.out)
    replace Z0 := Lib.hid (Z0.out.step B8.out)
    replace B := Lib.hid (B.out.trans (B8.out.mono B.out.size))
    clear B8
    obtain ⟨p00, p01, p02⟩ := Z0.out
    clear p02
    go_wp2_with fail
    clear p00 p01
    refine (implDO_l z1 z2 z3 p _ _ [y] 1 rfl w80 (E.out.step B.out) (by have h9 := first_ints O.out.1.ints HP.out; rw [HY.out] at h9; exact h9)).mono ?_
    rw [HM.out]
    rintro e w4 ⟨AG1, cG1, rfl, oo, b⟩
    replace O := Lib.hid (O.out.step b)
    replace G0 := Lib.hid (G0.out.step b)
    replace Z0 := Lib.hid (Z0.out.step b)
    replace B := Lib.hid (B.out.trans (b.mono B.out.size))
    have G1 := Lib.hid (OwnR.of oo)
    simp only [] at G1 ⊢
    clear oo b
    have bz : Below w4.heap.size w4 (w4.alloc (.cells #[.int .i64 0, .slice AG1 [y].length cG1] 27)) := (Below.refl _ _).alloc (Nat.le_refl _) _
    replace O := Lib.hid (O.out.step bz)
    replace G0 := Lib.hid (G0.out.step bz)
    replace G1 := Lib.hid (G1.out.step bz)
    replace Z0 := Lib.hid (Z0.out.step bz)
    replace B := Lib.hid (B.out.trans (bz.mono B.out.size))
    have Z1 : Hid (RBox (w4.alloc (.cells #[.int .i64 0, .slice AG1 [y].length cG1] 27)) w4.heap.size 0 AG1 [y].length cG1) := Lib.hid (RBox.made _ _ _ _ _ _)
    clear bz
    obtain ⟨p00, p01, p02⟩ := Z0.out
    clear p02
    obtain ⟨p10, p11, p12⟩ := Z1.out
    clear p12
    go_upto_region 8 with fail
    clear p00 p01
    clear p10 p11
    generalize (w4.alloc (.cells #[.int .i64 0, .slice AG1 [y].length cG1] 27)) = w5 at O G0 G1 Z0 Z1 B ⊢
    obtain ⟨_, _, _, _, hz | ⟨g9, e9, hr9, ho9⟩⟩ := G1.out.1
    · simp at hz
    subst e9
    have cm : w5.cell? ⟨g9, 0, none⟩ = some (.int .i64 y) := hr9 0 (by simp)
    clear hr9 ho9
    obtain ⟨_, _, _, _, hz | ⟨g8, e8, hr8, ho8⟩⟩ := O.out.1
    · exact absurd hz (by have := HP.out; omega)
    injection e8 with e8
    injection e8 with e8 _
    subst e8
    have cy := hr8 0 HP.out
    rw [HY.out] at cy
    clear hr8 ho8
    obtain ⟨p00, p01, p02⟩ := Z0.out
    clear p02
    obtain ⟨p10, p11, p12⟩ := Z1.out
    clear p12
    go_wp2
    all_goals try trivial
    go_ret
    exact ⟨rfl, B.out⟩
end Go.Proofs.YtiaoenkgapfgaaaDoor
