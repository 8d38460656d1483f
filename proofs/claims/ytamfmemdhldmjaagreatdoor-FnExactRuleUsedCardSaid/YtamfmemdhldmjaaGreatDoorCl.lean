/-
  Contracts of the checks of columns, and of the sets of their values, of both programs.
-/
import Derived.Test.YtamfmemdhldmjaaGreatDoorRdM
import Derived.Test.YtamfmemdhldmjaaGreatDoorJoM
import Derived.Test.YtamfmemdhldmjaaGreatDoorTv
namespace Go.Proofs.YtamfmemdhldmjaaGreatDoor
open Go.RowKit Sets

/-- The value of a column. -/
abbrev colV (L : Bool) (a b : Int) : Value := .agg #[.bool L, .int .i64 a, .int .i64 b]
/-- A column in memory. -/
def ColAt (w : World) (g : Nat) (L : Bool) (a b : Int) : Prop := w.cell? ⟨g, 0, none⟩ = some (.bool L) ∧ w.cell? ⟨g, 1, none⟩ = some (.int .i64 a) ∧ w.cell? ⟨g, 2, none⟩ = some (.int .i64 b)
theorem ColAt.below {w w' : World} {B g : Nat} {L : Bool} {a b : Int} (h : ColAt w g L a b) (hb : Below B w w') (hB : g < B) : ColAt w' g L a b :=
  ⟨(hb.cell (p := ⟨g, 0, none⟩) hB).trans h.1, (hb.cell (p := ⟨g, 1, none⟩) hB).trans h.2.1, (hb.cell (p := ⟨g, 2, none⟩) hB).trans h.2.2⟩
theorem ColAt.box (w : World) (L : Bool) (a b : Int) (t : TypeId) : ColAt (w.alloc (.cells #[.bool L, .int .i64 a, .int .i64 b] t)) w.heap.size L a b := by
  refine ⟨?_, ?_, ?_⟩ <;> (rw [World.cell?_alloc_new]; rfl)

set_option maxRecDepth 100000 in
theorem values_any (L : Bool) (a b : Int) (w : World) : Calls Tryz.prog 68 #[colV L a b] w fun e w' => e = .returned (.agg #[.int .i64 a, .int .i64 b]) ∧ Below w.heap.size w w' := by
  go_enter Tryz.func68, Tryz.ntmps68
  go_wp2
  exact bodyPost_ret (v := .agg #[.int .i64 a, .int .i64 b]) (by simp [results, Tryz.results68, go_sem]) rfl ⟨rfl, ((Below.refl _ w).alloc (Nat.le_refl _) _).alloc (by simp) _⟩

theorem inLimits_b (lo hi : Int) (w : World) : Calls Tryz.prog 77 #[.agg #[.int .i64 lo, .int .i64 hi]] w fun e w' => e = .returned (.bool (limB lo hi)) ∧ Below w.heap.size w w' :=
  (inLimits_any lo hi w).mono fun _ _ ⟨he, hw⟩ => ⟨he, by rw [← hw]; exact (Below.refl _ w).alloc (Nat.le_refl _) _⟩
theorem empty_b (lo hi : Int) (w : World) : Calls Tryz.prog 78 #[.agg #[.int .i64 lo, .int .i64 hi]] w fun e w' => e = .returned (.bool (decide (hi < lo))) ∧ Below w.heap.size w w' :=
  (empty_any lo hi w).mono fun _ _ ⟨he, hw⟩ => ⟨he, by rw [← hw]; exact (Below.refl _ w).alloc (Nat.le_refl _) _⟩

theorem colB_lim {L : Bool} {a b : Int} (h : limB a b = false) : colB L a b = false := by
  rw [← Bool.not_eq_true, colB_iff]
  intro k
  rw [(limB_iff a b).2 (by omega)] at h
  cases h
theorem colB_emp {L : Bool} {a b : Int} (h : b < a) : colB L a b = false := by
  rw [← Bool.not_eq_true, colB_iff]
  omega
theorem colB_num {a b : Int} (h : limB a b = true) (h2 : ¬ b < a) : colB false a b = true := by
  have := (limB_iff a b).1 h
  exact (colB_iff _ _ _).2 ⟨by omega, by omega, by omega, fun h => by cases h⟩
theorem colB_let {a b : Int} (h : limB a b = true) (h2 : ¬ b < a) : colB true a b = (decide (a = 0) && decide (b ≤ 25)) := by
  have := (limB_iff a b).1 h
  rw [Bool.eq_iff_iff, colB_iff, Bool.and_eq_true, decide_eq_true_eq, decide_eq_true_eq]
  exact ⟨fun k => k.2.2.2 rfl, fun k => ⟨by omega, by omega, by omega, fun _ => k⟩⟩

set_option maxRecDepth 100000 in
theorem implCol_any (L : Bool) (a b : Int) (w : World) : Calls Tryz.prog 64 #[colV L a b] w fun e w' => e = .returned (.bool (colB L a b)) ∧ Below w.heap.size w w' := by
  obtain ⟨c0, c1, c2⟩ := ColAt.box w L a b 65
  have b0 : Below w.heap.size w (w.alloc (.cells #[.bool L, .int .i64 a, .int .i64 b] 65)) := (Below.refl _ w).alloc (Nat.le_refl _) _
  cases hL : limB a b
  · have hv := Lib.hid (colB_lim (L := L) hL)
    have HL := Lib.hid hL
    clear hL
    go_enter Tryz.func64, Tryz.ntmps64
    go_wp2_with fail
    refine (values_any L a b _).mono ?_
    rintro e w1 ⟨rfl, b1⟩
    have b01 := b0.trans (b1.mono b0.size)
    clear c0 c1 c2 b0
    go_wp2_with fail
    refine (inLimits_b _ _ _).mono ?_
    rw [HL.out]
    rintro e w2 ⟨rfl, b2⟩
    have b02 := (b01.alloc b01.size (.cells #[.int .i64 a, .int .i64 b] 93)).trans (b2.mono (by have := b01.size; simp; omega))
    go_wp2
    go_ret
    exact ⟨by rw [hv.out]; rfl, b02⟩
  · have HL := Lib.hid hL
    clear hL
    by_cases hem : b < a
    · have hv := Lib.hid (colB_emp (L := L) hem)
      go_enter Tryz.func64, Tryz.ntmps64
      go_wp2_with fail
      refine (values_any L a b _).mono ?_
      rintro e w1 ⟨rfl, b1⟩
      have b01 := b0.trans (b1.mono b0.size)
      clear c0 c1 c2 b0
      go_wp2_with fail
      refine (inLimits_b _ _ _).mono ?_
      rw [HL.out]
      rintro e w2 ⟨rfl, b2⟩
      have b02 := (b01.alloc b01.size (.cells #[.int .i64 a, .int .i64 b] 93)).trans (b2.mono (by have := b01.size; simp; omega))
      have d0 := (b2.cell (p := ⟨w1.heap.size, 0, none⟩) (by simp)).trans (show _ = some (Value.int .i64 a) by rw [World.cell?_alloc_new]; rfl)
      have d1 := (b2.cell (p := ⟨w1.heap.size, 1, none⟩) (by simp)).trans (show _ = some (Value.int .i64 b) by rw [World.cell?_alloc_new]; rfl)
      go_wp2_with fail
      refine (empty_b _ _ _).mono ?_
      rintro e w3 ⟨rfl, b3⟩
      have b03 := b02.trans (b3.mono b02.size)
      go_wp2
      go_ret
      exact ⟨by rw [hv.out]; rfl, b03⟩
    · have hd : decide (b < a) = false := decide_eq_false hem
      go_enter Tryz.func64, Tryz.ntmps64
      go_wp2_with fail
      refine (values_any L a b _).mono ?_
      rintro e w1 ⟨rfl, b1⟩
      obtain ⟨g0, g1, g2⟩ := ColAt.below (g := w.heap.size) ⟨c0, c1, c2⟩ b1 (by simp)
      have b01 := b0.trans (b1.mono b0.size)
      have z1 := b1.size
      clear c0 c1 c2 b0
      go_wp2_with fail
      refine (inLimits_b _ _ _).mono ?_
      rw [HL.out]
      rintro e w2 ⟨rfl, b2⟩
      have b02 := (b01.alloc b01.size (.cells #[.int .i64 a, .int .i64 b] 93)).trans (b2.mono (by have := b01.size; simp; omega))
      have d0 := (b2.cell (p := ⟨w1.heap.size, 0, none⟩) (by simp)).trans (show _ = some (Value.int .i64 a) by rw [World.cell?_alloc_new]; rfl)
      have d1 := (b2.cell (p := ⟨w1.heap.size, 1, none⟩) (by simp)).trans (show _ = some (Value.int .i64 b) by rw [World.cell?_alloc_new]; rfl)
      simp at z1
      have b12 : Below w1.heap.size w1 w2 := ((Below.refl _ w1).alloc (Nat.le_refl _) _).trans (b2.mono (by simp))
      obtain ⟨k0, k1, k2⟩ := ColAt.below (g := w.heap.size) ⟨g0, g1, g2⟩ b12 (by omega)
      have z2 := b12.size
      clear g0 g1 g2
      go_wp2_with fail
      refine (empty_b _ _ _).mono ?_
      rw [hd]
      rintro e w3 ⟨rfl, b3⟩
      have b03 := b02.trans (b3.mono b02.size)
      obtain ⟨m0, m1, m2⟩ := ColAt.below (g := w.heap.size) ⟨k0, k1, k2⟩ b3 (by omega)
      clear k0 k1 k2 d0 d1
      cases L
      · have hv := Lib.hid (colB_num HL.out (by omega))
        go_wp2
        go_ret
        exact ⟨by rw [hv.out]; rfl, b03⟩
      · have hv := Lib.hid (colB_let HL.out (by omega))
        by_cases ha : a = 0
        · have ha' : (a == 0) = true := beq_iff_eq.2 ha
          go_wp2
          go_ret
          exact ⟨by rw [hv.out, decide_eq_true ha]; rfl, b03⟩
        · have ha' : (a == 0) = false := beq_eq_false_iff_ne.2 ha
          go_wp2
          go_ret
          exact ⟨by rw [hv.out, decide_eq_false ha]; rfl, b03⟩

/-- A slice that is a set of the values of a column. -/
theorem colS_len (L : Bool) (a b : Int) : (colS L a b).length ≤ 1 := by
  unfold colS; split <;> simp
theorem colB_small {L : Bool} {a b : Int} (h : colB L a b = true) : -99 ≤ a ∧ a ≤ 99 ∧ -99 ≤ b ∧ b ≤ 99 := by
  have := (colB_iff _ _ _).1 h; omega

theorem own_one (w : World) (a b : Int) : OwnS (w.alloc (.cells #[.int .i64 a, .int .i64 b] 93)) w.heap.size (.slice (some ⟨w.heap.size, 0, none⟩) 1 1) [(a, b)] :=
  World.ownsRow_lit w #[.int .i64 a, .int .i64 b] 1 (Nat.le_refl _) (by decide) rfl
theorem fits_one {a b : Int} (ha : I64 a) (hb : I64 b) : Fits [(a, b)] := fun x hx => by rw [List.mem_singleton.1 hx]; exact ⟨ha, hb⟩
theorem ret_bool {x y : Bool} (h : x = y) : Ending.returned (.bool x) = .returned (.bool y) := by rw [h]

set_option maxRecDepth 100000 in
theorem implColSet_any (L : Bool) (a b : Int) (w : World) : Calls Tryz.prog 45 #[colV L a b] w (OwnRes w.heap.size (colS L a b) w) := by
  obtain ⟨c0, c1, c2⟩ := ColAt.box w L a b 65
  have b0 : Below w.heap.size w (w.alloc (.cells #[.bool L, .int .i64 a, .int .i64 b] 65)) := (Below.refl _ w).alloc (Nat.le_refl _) _
  cases hc : colB L a b
  · have hv := Lib.hid (colS_no hc)
    have HC := Lib.hid hc
    clear hc
    go_enter Tryz.func45, Tryz.ntmps45
    go_wp2_with fail
    refine (implCol_any L a b _).mono ?_
    rw [HC.out]
    rintro e w1 ⟨rfl, b1⟩
    go_wp2
    go_ret
    unfold OwnRes
    rw [hv.out]
    exact ⟨_, rfl, OwnS.nil _ _, fits_nil, b0.trans (b1.mono b0.size)⟩
  · have hv := Lib.hid (colS_yes hc)
    have hs := colB_small hc
    have HC := Lib.hid hc
    clear hc
    go_enter Tryz.func45, Tryz.ntmps45
    go_wp2_with fail
    refine (implCol_any L a b _).mono ?_
    rw [HC.out]
    rintro e w1 ⟨rfl, b1⟩
    obtain ⟨g0, g1, g2⟩ := ColAt.below (g := w.heap.size) ⟨c0, c1, c2⟩ b1 (by simp)
    have b01 := b0.trans (b1.mono b0.size)
    clear c0 c1 c2 b0
    go_wp2_with fail
    refine (values_any L a b _).mono ?_
    rintro e w2 ⟨rfl, b2⟩
    have b02 := b01.trans (b2.mono b01.size)
    go_wp2
    go_ret
    unfold OwnRes
    rw [hv.out]
    exact ⟨_, rfl, (own_one w2 a b).mono b02.size, fits_one (by unfold I64; omega) (by unfold I64; omega), b02.alloc b02.size _⟩

set_option maxRecDepth 100000 in
theorem specCol_any (L : Bool) (a b : Int) (w : World) : Calls Tryz.prog 58 #[colV L a b] w fun e w' => e = .returned (.bool (colB L a b)) ∧ w.alloc (.cells #[.bool L, .int .i64 a, .int .i64 b] 65) = w' := by
  obtain ⟨c0, c1, c2⟩ := ColAt.box w L a b 65
  cases L
  · go_enter Tryz.func58, Tryz.ntmps58
    go_wp2
    all_goals
      go_ret
      refine ⟨ret_bool ?_, rfl⟩
      rw [Bool.eq_iff_iff, colB_iff]
      simp
      try omega
  · by_cases ha : a = 0
    · subst ha
      go_enter Tryz.func58, Tryz.ntmps58
      go_wp2
      all_goals
        go_ret
        refine ⟨ret_bool ?_, rfl⟩
        rw [Bool.eq_iff_iff, colB_iff]
        simp
        try omega
    · have ha' : (a == 0) = false := beq_eq_false_iff_ne.2 ha
      go_enter Tryz.func58, Tryz.ntmps58
      go_wp2
      all_goals
        go_ret
        refine ⟨ret_bool ?_, rfl⟩
        rw [Bool.eq_iff_iff, colB_iff]
        simp
        try omega

theorem specCol_b (L : Bool) (a b : Int) (w : World) : Calls Tryz.prog 58 #[colV L a b] w fun e w' => e = .returned (.bool (colB L a b)) ∧ Below w.heap.size w w' :=
  (specCol_any L a b w).mono fun _ _ ⟨he, hw⟩ => ⟨he, by rw [← hw]; exact (Below.refl _ w).alloc (Nat.le_refl _) _⟩

set_option maxRecDepth 100000 in
theorem specColSet_any (L : Bool) (a b : Int) (w : World) : Calls Tryz.prog 86 #[colV L a b] w (OwnRes w.heap.size (colS L a b) w) := by
  obtain ⟨c0, c1, c2⟩ := ColAt.box w L a b 65
  have b0 : Below w.heap.size w (w.alloc (.cells #[.bool L, .int .i64 a, .int .i64 b] 65)) := (Below.refl _ w).alloc (Nat.le_refl _) _
  cases hc : colB L a b
  · have hv := Lib.hid (colS_no hc)
    have HC := Lib.hid hc
    clear hc
    go_enter Tryz.func86, Tryz.ntmps86
    go_wp2_with fail
    refine (specCol_b L a b _).mono ?_
    rw [HC.out]
    rintro e w1 ⟨rfl, b1⟩
    have b01 := b0.trans (b1.mono b0.size)
    go_wp2
    go_ret
    unfold OwnRes
    rw [hv.out]
    exact ⟨_, rfl, (own_empty w1).mono b01.size, fits_nil, b01.alloc b01.size _⟩
  · have hv := Lib.hid (colS_yes hc)
    have hs := colB_small hc
    have HC := Lib.hid hc
    clear hc
    go_enter Tryz.func86, Tryz.ntmps86
    go_wp2_with fail
    refine (specCol_b L a b _).mono ?_
    rw [HC.out]
    rintro e w1 ⟨rfl, b1⟩
    obtain ⟨g0, g1, g2⟩ := ColAt.below (g := w.heap.size) ⟨c0, c1, c2⟩ b1 (by simp)
    have b01 := b0.trans (b1.mono b0.size)
    clear c0 c1 c2 b0
    go_wp2
    go_ret
    unfold OwnRes
    rw [hv.out]
    exact ⟨_, rfl, (own_one w1 a b).mono b01.size, fits_one (by unfold I64; omega) (by unfold I64; omega), b01.alloc b01.size _⟩
end Go.Proofs.YtamfmemdhldmjaaGreatDoor
