/-
  The walk of FnDecideBounds.
-/
import Derived.Test.YtiaoenkgapfgaaaDoorXa
namespace Go.Proofs.YtiaoenkgapfgaaaDoor
open Go.RowKit Sets

set_option maxRecDepth 100000 in
/-- a number of a list is found in it -/
theorem dtIn_yes (A : Option Addr) (c : Nat) (ns : List Int) (l : Nat) (hl : ns.length = l) (x : Int) (w : World) (h : IntsAt w w.heap.size A c ns) (hx : ∃ j, j < ns.length ∧ ns.getD j 0 = x) :
    Calls Tryd.prog 12 #[.slice A l c, .int .i64 x] w fun e w' => e = .returned (.bool true) ∧ w = w' := by
  subst hl
  obtain ⟨_, hlc, hc, hrow⟩ := h
  have HX := Lib.hid hx
  clear hx
  go_enter Tryd.func12, Tryd.ntmps12
  go_wp2
  go_loop [5] (fun i => ∃ k : Nat, k ≤ ns.length ∧ i = .int .i64 k ∧ Hid (∀ j, j < k → ns.getD j 0 ≠ x)) (fun i => ns.length - (intOf i).toNat)
  case atStart => exact ⟨0, Nat.zero_le _, rfl, Lib.hid fun j hj => absurd hj (by omega)⟩
  case round =>
    obtain ⟨k, hk, rfl, hall⟩ := hrel
    by_cases hlt : k < ns.length
    · rcases hrow with hz | ⟨b, off, rfl, hB, hrow⟩
      · omega
      have hkl : (k : Int) < (ns.length : Int) := by omega
      have u1 := hrow k hlt
      rw [Nat.mul_one] at u1
      obtain ⟨y, hy⟩ : ∃ y, ns.getD k 0 = y := ⟨_, rfl⟩
      rw [hy] at u1
      have HY := Lib.hid hy
      have HW := Lib.hid hrow
      clear hy hrow
      by_cases hyx : y = x
      · have hb : (y == x) = true := by simp [hyx]
        clear hyx
        go_wp2
        go_ret
        exact ⟨rfl, rfl⟩
      · have hb : (y == x) = false := by simp [hyx]
        have HN := Lib.hid hyx
        clear hyx
        go_wp2
        go_round
        case rel => exact ⟨k + 1, hlt, by go_num, Lib.hid fun j hj => by
          by_cases e : j = k
          · rw [e, HY.out]; exact HN.out
          · exact hall.out j (by omega)⟩
        case measure => simp [intOf]; omega
    · obtain rfl : k = ns.length := by omega
      obtain ⟨j, hj, hjx⟩ := HX.out
      exact absurd hjx (hall.out j hj)
theorem dtIn_yq (A : Option Addr) (c : Nat) (ns : List Int) (x : Int) (w : World) (h : IntsAt w w.heap.size A c ns) (hx : ∃ j, j < ns.length ∧ ns.getD j 0 = x) :
    Calls Tryd.prog 12 #[.slice A ns.length c, .int .i64 x] w fun e w' => e = .returned (.bool true) ∧ w' = w :=
  (dtIn_yes A c ns _ rfl x w h hx).mono fun _ _ h => ⟨h.1, h.2.symm⟩
theorem sm_ge {ns : List Int} (h : ∀ k, k < ns.length → 0 ≤ ns.getD k 0 ∧ ns.getD k 0 ≤ 99) : ∀ k, k ≤ ns.length → ∀ j, j < k → ns.getD j 0 ≤ smK ns k := by
  intro k
  induction k with
  | zero => intro _ j hj; omega
  | succ k ih =>
    intro hk j hj
    unfold smK
    have h1 := h k (by omega)
    have h2 := smK_bound h k (by omega)
    by_cases e : j = k
    · subst e; omega
    · have := ih (by omega) j (by omega); omega
/-- what three policies say of the same outputs -/
theorem do_bounds (ns : List Int) : (∃ k : Int, (k = 3 ∨ k = 1) ∧ doV 8 ns = (k, []) ∧ doV 9 ns = (k, []) ∧ doV 7 ns = (k, [])) ∨ ∃ x y s : Int, doV 8 ns = (0, [x]) ∧ doV 9 ns = (0, [y]) ∧ doV 7 ns = (0, [s]) ∧ (∃ j, j < ns.length ∧ ns.getD j 0 = x) ∧ (∃ j, j < ns.length ∧ ns.getD j 0 = y) ∧ x ≤ y ∧ y ≤ s := by
  cases ho : outB ns
  · refine .inl ⟨3, .inl rfl, ?_, ?_, ?_⟩ <;> (unfold doV; rw [ho]; simp)
  · by_cases hz : ns.length = 0
    · refine .inl ⟨1, .inr rfl, ?_, ?_, ?_⟩ <;> (unfold doV; rw [ho]; unfold dcV; rw [if_pos hz]; simp)
    · have hb := outB_at ho
      refine .inr ⟨mnK ns (ns.length - 1), mxK ns (ns.length - 1), smK ns ns.length, ?_, ?_, ?_, ?_, ?_, ?_, ?_⟩
      · unfold doV; rw [ho]; unfold dcV numV; rw [if_neg hz]; simp
      · unfold doV; rw [ho]; unfold dcV numV; rw [if_neg hz]; simp
      · unfold doV; rw [ho]; unfold dcV numV; rw [if_neg hz]; simp
      · obtain ⟨j, hj, e⟩ := mn_mem (ns := ns) (ns.length - 1) (by omega); exact ⟨j, by omega, e.symm⟩
      · obtain ⟨j, hj, e⟩ := mx_mem (ns := ns) (ns.length - 1) (by omega); exact ⟨j, by omega, e.symm⟩
      · exact Int.le_trans (mn_le (ns := ns) (ns.length - 1) 0 (by omega)) (le_mx (ns := ns) (ns.length - 1) 0 (by omega))
      · obtain ⟨j, hj, e⟩ := mx_mem (ns := ns) (ns.length - 1) (by omega)
        rw [e]; exact sm_ge hb.2 ns.length (Nat.le_refl _) j (by omega)

set_option maxRecDepth 100000 in
set_option maxHeartbeats 8000000 in
theorem decideBounds_walk (A : Option Addr) (n c : Nat) (z : Nat → Int) (w : World) (h : Bytes w A n c z) (z1 z2 z3 : Addr) (hE : EndsIs w z1 z2 z3) :
    Calls Tryd.prog 6 #[.slice A n c] w fun e w' => e = .returned (.bool true) ∧ Below w.heap.size w w' := by
  have hnc := h.1
  have hc := h.2.1
  have H := Lib.hid h
  have E := Lib.hid hE
  clear h hE
  have B := Lib.hid (Below.refl w.heap.size w)
  by_cases hn : 1048576 < n
  · have hn1 : (1048576 : Int) < (n : Int) := by omega
    go_enter Tryd.func6, Tryd.ntmps6
    go_wp2
    go_ret
    exact ⟨rfl, Below.refl _ _⟩
  have hn1 : decide ((1048576 : Int) < (n : Int)) = false := decide_eq_false (by omega)
  go_enter Tryd.func6, Tryd.ntmps6
  go_wp2_with fail
  refine (drawDO_any A n c z w H.out).mono ?_
  rintro e w1 ⟨p, A1, c1, ns, rfl, hO, hl, b1⟩
  replace B := Lib.hid (B.out.trans (b1.mono B.out.size))
  have O := Lib.hid (OwnR.of hO)
  have HL := Lib.hid hl
  clear hO hl b1 hn hn1 hnc hc
  obtain ⟨⟨rc, rl⟩, hr⟩ : ∃ r : Rs, doV p ns = r := ⟨_, rfl⟩
  have HR := Lib.hid hr
  clear hr
  go_wp2_with fail
  refine (implDO_any z1 z2 z3 p _ _ ns w1 (E.out.step B.out) O.out.1.ints).mono ?_
  rw [HR.out]
  rintro e w2 ⟨AP0, cP0, rfl, oo, b⟩
  replace O := Lib.hid (O.out.step b)
  replace B := Lib.hid (B.out.trans (b.mono B.out.size))
  have P0 := Lib.hid (OwnR.of oo)
  simp only [] at P0 ⊢
  clear oo b
  go_wp2_with fail
  refine (specDO_any p _ _ ns w2 O.out.1.ints).mono ?_
  rw [HR.out]
  rintro e w3 ⟨AP1, cP1, rfl, oo, b⟩
  replace O := Lib.hid (O.out.step b)
  replace P0 := Lib.hid (P0.out.step b)
  replace B := Lib.hid (B.out.trans (b.mono B.out.size))
  have P1 := Lib.hid (OwnR.of oo)
  simp only [] at P1 ⊢
  clear oo b
  go_wp2_with fail
  refine (implRS_any _ (rc, rl) _ (rc, rl) w3 P0.out.res P1.out.res).mono ?_
  rw [resB_self]
  rintro e w4 ⟨rfl, b⟩
  replace O := Lib.hid (O.out.step b)
  replace P0 := Lib.hid (P0.out.step b)
  replace P1 := Lib.hid (P1.out.step b)
  replace B := Lib.hid (B.out.trans (b.mono B.out.size))
  clear b
  clear P0 P1
  rcases do_bounds ns with ⟨k, hk, q8, q9, q7⟩ | ⟨x, y, s, q8, q9, q7, hx, hy, hxy, hys⟩
  · have H8 := Lib.hid q8
    have H9 := Lib.hid q9
    have H7 := Lib.hid q7
    clear q8 q9 q7
    have g1 : (k != 0) = true := by rcases hk with rfl | rfl <;> rfl
    have g2 : (k == k) = true := by simp
    clear hk
    go_wp2_with fail
    refine (implDO_any z1 z2 z3 8 _ _ ns w4 (E.out.step B.out) O.out.1.ints).mono ?_
    rw [H8.out]
    rintro e w5 ⟨AG8, cG8, rfl, oo, b⟩
    replace O := Lib.hid (O.out.step b)
    replace B := Lib.hid (B.out.trans (b.mono B.out.size))
    have G8 := Lib.hid (OwnR.of oo)
    simp only [] at G8 ⊢
    clear oo b
    have bz : Below w5.heap.size w5 (w5.alloc (.cells #[.int .i64 k, .slice AG8 ([] : List Int).length cG8] 27)) := (Below.refl _ _).alloc (Nat.le_refl _) _
    replace O := Lib.hid (O.out.step bz)
    replace G8 := Lib.hid (G8.out.step bz)
    replace B := Lib.hid (B.out.trans (bz.mono B.out.size))
    have Z8 : Hid (RBox (w5.alloc (.cells #[.int .i64 k, .slice AG8 ([] : List Int).length cG8] 27)) w5.heap.size k AG8 ([] : List Int).length cG8) := Lib.hid (RBox.made _ _ _ _ _ _)
    clear bz
    obtain ⟨p00, p01, p02⟩ := Z8.out
    clear p02
    go_wp2_with fail
    clear p00 p01
    generalize (w5.alloc (.cells #[.int .i64 k, .slice AG8 ([] : List Int).length cG8] 27)) = w6 at O G8 Z8 B ⊢
    refine (implDO_any z1 z2 z3 9 _ _ ns w6 (E.out.step B.out) O.out.1.ints).mono ?_
    rw [H9.out]
    rintro e w7 ⟨AG9, cG9, rfl, oo, b⟩
    replace O := Lib.hid (O.out.step b)
    replace G8 := Lib.hid (G8.out.step b)
    replace Z8 := Lib.hid (Z8.out.step b)
    replace B := Lib.hid (B.out.trans (b.mono B.out.size))
    have G9 := Lib.hid (OwnR.of oo)
    simp only [] at G9 ⊢
    clear oo b
    have bz : Below w7.heap.size w7 (w7.alloc (.cells #[.int .i64 k, .slice AG9 ([] : List Int).length cG9] 27)) := (Below.refl _ _).alloc (Nat.le_refl _) _
    replace O := Lib.hid (O.out.step bz)
    replace G8 := Lib.hid (G8.out.step bz)
    replace G9 := Lib.hid (G9.out.step bz)
    replace Z8 := Lib.hid (Z8.out.step bz)
    replace B := Lib.hid (B.out.trans (bz.mono B.out.size))
    have Z9 : Hid (RBox (w7.alloc (.cells #[.int .i64 k, .slice AG9 ([] : List Int).length cG9] 27)) w7.heap.size k AG9 ([] : List Int).length cG9) := Lib.hid (RBox.made _ _ _ _ _ _)
    clear bz
    obtain ⟨p00, p01, p02⟩ := Z8.out
    clear p02
    obtain ⟨p10, p11, p12⟩ := Z9.out
    clear p12
    go_wp2_with fail
    clear p00 p01
    clear p10 p11
    generalize (w7.alloc (.cells #[.int .i64 k, .slice AG9 ([] : List Int).length cG9] 27)) = w8 at O G8 G9 Z8 Z9 B ⊢
    refine (implDO_any z1 z2 z3 7 _ _ ns w8 (E.out.step B.out) O.out.1.ints).mono ?_
    rw [H7.out]
    rintro e w9 ⟨AG7, cG7, rfl, oo, b⟩
    replace O := Lib.hid (O.out.step b)
    replace G8 := Lib.hid (G8.out.step b)
    replace G9 := Lib.hid (G9.out.step b)
    replace Z8 := Lib.hid (Z8.out.step b)
    replace Z9 := Lib.hid (Z9.out.step b)
    replace B := Lib.hid (B.out.trans (b.mono B.out.size))
    have G7 := Lib.hid (OwnR.of oo)
    simp only [] at G7 ⊢
    clear oo b
    have bz : Below w9.heap.size w9 (w9.alloc (.cells #[.int .i64 k, .slice AG7 ([] : List Int).length cG7] 27)) := (Below.refl _ _).alloc (Nat.le_refl _) _
    replace O := Lib.hid (O.out.step bz)
    replace G8 := Lib.hid (G8.out.step bz)
    replace G9 := Lib.hid (G9.out.step bz)
    replace G7 := Lib.hid (G7.out.step bz)
    replace Z8 := Lib.hid (Z8.out.step bz)
    replace Z9 := Lib.hid (Z9.out.step bz)
    replace B := Lib.hid (B.out.trans (bz.mono B.out.size))
    have Z7 : Hid (RBox (w9.alloc (.cells #[.int .i64 k, .slice AG7 ([] : List Int).length cG7] 27)) w9.heap.size k AG7 ([] : List Int).length cG7) := Lib.hid (RBox.made _ _ _ _ _ _)
    clear bz
    obtain ⟨p00, p01, p02⟩ := Z8.out
    clear p02
    obtain ⟨p10, p11, p12⟩ := Z9.out
    clear p12
    obtain ⟨p20, p21, p22⟩ := Z7.out
    clear p22
    go_upto_region 9 with fail
    clear p00 p01
    clear p10 p11
    clear p20 p21
    generalize (w9.alloc (.cells #[.int .i64 k, .slice AG7 ([] : List Int).length cG7] 27)) = w10 at O G8 G9 G7 Z8 Z9 Z7 B ⊢
    obtain ⟨p00, p01, p02⟩ := Z8.out
    clear p02
    obtain ⟨p10, p11, p12⟩ := Z9.out
    clear p12
    obtain ⟨p20, p21, p22⟩ := Z7.out
    clear p22
    go_wp2
    all_goals try trivial
    go_ret
    exact ⟨rfl, B.out⟩
  · have H8 := Lib.hid q8
    have H9 := Lib.hid q9
    have H7 := Lib.hid q7
    clear q8 q9 q7
    have HXM := Lib.hid hx
    have HYM := Lib.hid hy
    clear hx hy
    go_wp2_with fail
    refine (implDO_any z1 z2 z3 8 _ _ ns w4 (E.out.step B.out) O.out.1.ints).mono ?_
    rw [H8.out]
    rintro e w5 ⟨AG8, cG8, rfl, oo, b⟩
    replace O := Lib.hid (O.out.step b)
    replace B := Lib.hid (B.out.trans (b.mono B.out.size))
    have G8 := Lib.hid (OwnR.of oo)
    simp only [] at G8 ⊢
    clear oo b
    have bz : Below w5.heap.size w5 (w5.alloc (.cells #[.int .i64 0, .slice AG8 [x].length cG8] 27)) := (Below.refl _ _).alloc (Nat.le_refl _) _
    replace O := Lib.hid (O.out.step bz)
    replace G8 := Lib.hid (G8.out.step bz)
    replace B := Lib.hid (B.out.trans (bz.mono B.out.size))
    have Z8 : Hid (RBox (w5.alloc (.cells #[.int .i64 0, .slice AG8 [x].length cG8] 27)) w5.heap.size 0 AG8 [x].length cG8) := Lib.hid (RBox.made _ _ _ _ _ _)
    clear bz
    obtain ⟨p00, p01, p02⟩ := Z8.out
    clear p02
    go_wp2_with fail
    clear p00 p01
    generalize (w5.alloc (.cells #[.int .i64 0, .slice AG8 [x].length cG8] 27)) = w6 at O G8 Z8 B ⊢
    refine (implDO_any z1 z2 z3 9 _ _ ns w6 (E.out.step B.out) O.out.1.ints).mono ?_
    rw [H9.out]
    rintro e w7 ⟨AG9, cG9, rfl, oo, b⟩
    replace O := Lib.hid (O.out.step b)
    replace G8 := Lib.hid (G8.out.step b)
    replace Z8 := Lib.hid (Z8.out.step b)
    replace B := Lib.hid (B.out.trans (b.mono B.out.size))
    have G9 := Lib.hid (OwnR.of oo)
    simp only [] at G9 ⊢
    clear oo b
    have bz : Below w7.heap.size w7 (w7.alloc (.cells #[.int .i64 0, .slice AG9 [y].length cG9] 27)) := (Below.refl _ _).alloc (Nat.le_refl _) _
    replace O := Lib.hid (O.out.step bz)
    replace G8 := Lib.hid (G8.out.step bz)
    replace G9 := Lib.hid (G9.out.step bz)
    replace Z8 := Lib.hid (Z8.out.step bz)
    replace B := Lib.hid (B.out.trans (bz.mono B.out.size))
    have Z9 : Hid (RBox (w7.alloc (.cells #[.int .i64 0, .slice AG9 [y].length cG9] 27)) w7.heap.size 0 AG9 [y].length cG9) := Lib.hid (RBox.made _ _ _ _ _ _)
    clear bz
    obtain ⟨p00, p01, p02⟩ := Z8.out
    clear p02
    obtain ⟨p10, p11, p12⟩ := Z9.out
    clear p12
    go_wp2_with fail
    clear p00 p01
    clear p10 p11
    generalize (w7.alloc (.cells #[.int .i64 0, .slice AG9 [y].length cG9] 27)) = w8 at O G8 G9 Z8 Z9 B ⊢
    refine (implDO_any z1 z2 z3 7 _ _ ns w8 (E.out.step B.out) O.out.1.ints).mono ?_
    rw [H7.out]
    rintro e w9 ⟨AG7, cG7, rfl, oo, b⟩
    replace O := Lib.hid (O.out.step b)
    replace G8 := Lib.hid (G8.out.step b)
    replace G9 := Lib.hid (G9.out.step b)
    replace Z8 := Lib.hid (Z8.out.step b)
    replace Z9 := Lib.hid (Z9.out.step b)
    replace B := Lib.hid (B.out.trans (b.mono B.out.size))
    have G7 := Lib.hid (OwnR.of oo)
    simp only [] at G7 ⊢
    clear oo b
    have bz : Below w9.heap.size w9 (w9.alloc (.cells #[.int .i64 0, .slice AG7 [s].length cG7] 27)) := (Below.refl _ _).alloc (Nat.le_refl _) _
    replace O := Lib.hid (O.out.step bz)
    replace G8 := Lib.hid (G8.out.step bz)
    replace G9 := Lib.hid (G9.out.step bz)
    replace G7 := Lib.hid (G7.out.step bz)
    replace Z8 := Lib.hid (Z8.out.step bz)
    replace Z9 := Lib.hid (Z9.out.step bz)
    replace B := Lib.hid (B.out.trans (bz.mono B.out.size))
    have Z7 : Hid (RBox (w9.alloc (.cells #[.int .i64 0, .slice AG7 [s].length cG7] 27)) w9.heap.size 0 AG7 [s].length cG7) := Lib.hid (RBox.made _ _ _ _ _ _)
    clear bz
    obtain ⟨p00, p01, p02⟩ := Z8.out
    clear p02
    obtain ⟨p10, p11, p12⟩ := Z9.out
    clear p12
    obtain ⟨p20, p21, p22⟩ := Z7.out
    clear p22
    go_upto_region 9 with fail
    clear p00 p01
    clear p10 p11
    clear p20 p21
    generalize (w9.alloc (.cells #[.int .i64 0, .slice AG7 [s].length cG7] 27)) = w10 at O G8 G9 G7 Z8 Z9 Z7 B ⊢
    obtain ⟨p00, p01, p02⟩ := Z8.out
    clear p02
    obtain ⟨p10, p11, p12⟩ := Z9.out
    clear p12
    obtain ⟨p20, p21, p22⟩ := Z7.out
    clear p22
    go_upto_region 11 with fail
    clear p00 p01
    clear p10 p11
    clear p20 p21
    have bd : Below w10.heap.size w10 w10.drew := (Below.refl _ _).drew
    replace O := Lib.hid (O.out.step bd)
    replace G8 := Lib.hid (G8.out.step bd)
    replace G9 := Lib.hid (G9.out.step bd)
    replace G7 := Lib.hid (G7.out.step bd)
    replace Z8 := Lib.hid (Z8.out.step bd)
    replace Z9 := Lib.hid (Z9.out.step bd)
    replace Z7 := Lib.hid (Z7.out.step bd)
    replace B := Lib.hid (B.out.trans (bd.mono B.out.size))
    clear bd
    obtain ⟨_, _, _, _, hz | ⟨bG8, e9, hr9, ho9⟩⟩ := G8.out.1
    · simp at hz
    subst e9
    have cG8' : w10.drew.cell? ⟨bG8, 0, none⟩ = some (.int .i64 x) := hr9 0 (by simp)
    clear hr9 ho9
    obtain ⟨_, _, _, _, hz | ⟨bG9, e9, hr9, ho9⟩⟩ := G9.out.1
    · simp at hz
    subst e9
    have cG9' : w10.drew.cell? ⟨bG9, 0, none⟩ = some (.int .i64 y) := hr9 0 (by simp)
    clear hr9 ho9
    obtain ⟨_, _, _, _, hz | ⟨bG7, e9, hr9, ho9⟩⟩ := G7.out.1
    · simp at hz
    subst e9
    have cG7' : w10.drew.cell? ⟨bG7, 0, none⟩ = some (.int .i64 s) := hr9 0 (by simp)
    clear hr9 ho9
    obtain ⟨p00, p01, p02⟩ := Z8.out
    clear p02
    obtain ⟨p10, p11, p12⟩ := Z9.out
    clear p12
    obtain ⟨p20, p21, p22⟩ := Z7.out
    clear p22
    have HI := O.out.1.ints
    go_region_held3 (fun w' => w'.cell? ⟨w5.heap.size, 1, none⟩ = some (.slice (some ⟨bG8, 0, none⟩) 1 cG8) ∧ w'.cell? ⟨w7.heap.size, 1, none⟩ = some (.slice (some ⟨bG9, 0, none⟩) 1 cG9) ∧ w'.cell? ⟨w9.heap.size, 1, none⟩ = some (.slice (some ⟨bG7, 0, none⟩) 1 cG7) ∧ w'.cell? ⟨bG8, 0, none⟩ = some (.int .i64 x) ∧ w'.cell? ⟨bG9, 0, none⟩ = some (.int .i64 y) ∧ w'.cell? ⟨bG7, 0, none⟩ = some (.int .i64 s)) (exact ⟨p01, p11, p21, cG8', cG9', cG7'⟩) (first
      | (go_at_call 12; with_reducible refine (dtIn_yes A1 c1 ns _ rfl x _ HI HXM.out).mono ?_; rintro e w70 ⟨rfl, rfl⟩)
      | (go_at_call 12; with_reducible refine (dtIn_yes A1 c1 ns _ rfl y _ HI HYM.out).mono ?_; rintro e w70 ⟨rfl, rfl⟩))
    go_wp2
    go_ret
    exact ⟨rfl, B.out⟩
end Go.Proofs.YtiaoenkgapfgaaaDoor
