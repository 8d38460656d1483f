/-
  Contracts of the texts of spans and of sets of the model, and of both programs' tests of sets.
-/
import Derived.Test.YthkjcljhfjaabaaGreatDoorTg
import Derived.Test.YthkjcljhfjaabaaGreatDoorTpM
import Derived.Test.YthkjcljhfjaabaaGreatDoorIt
import Derived.Test.YthkjcljhfjaabaaGreatDoorRdM
import Derived.Test.YthkjcljhfjaabaaGreatDoorLi
import Derived.Test.YthkjcljhfjaabaaGreatDoorKgM
namespace Go.Proofs.YthkjcljhfjaabaaGreatDoor
open Go.RowKit Go.Sort Sets

theorem SpAt.box (w : World) (a b : Int) (t : TypeId) : (w.alloc (.cells #[.int .i64 a, .int .i64 b] t)).cell? ⟨w.heap.size, 0, none⟩ = some (.int .i64 a) ∧ (w.alloc (.cells #[.int .i64 a, .int .i64 b] t)).cell? ⟨w.heap.size, 1, none⟩ = some (.int .i64 b) := by
  refine ⟨?_, ?_⟩ <;> (rw [World.cell?_alloc_new]; rfl)

set_option maxRecDepth 100000 in
theorem specSpan_any (L : Bool) (a b x y : Int) (hx : inB L a b x = true) (hy : inB L a b y = true) (w : World) :
    Calls Tryz.prog 91 #[colV L a b, .agg #[.int .i64 x, .int .i64 y]] w fun e w' => e = .returned (strV (spanT L (x, y))) ∧ Below w.heap.size w w' := by
  have b0 : Below w.heap.size w (w.alloc (.cells #[.bool L, .int .i64 a, .int .i64 b] 27)) := (Below.refl _ w).alloc (Nat.le_refl _) _
  have z0 : (w.alloc (.cells #[.bool L, .int .i64 a, .int .i64 b] 27)).heap.size = w.heap.size + 1 := by simp
  have k := ColAt.box w L a b 27
  obtain ⟨W0, hW0⟩ : ∃ W0, W0 = w.alloc (.cells #[.bool L, .int .i64 a, .int .i64 b] 27) := ⟨_, rfl⟩
  rw [← hW0] at b0 z0 k
  have b1 : Below W0.heap.size W0 (W0.alloc (.cells #[.int .i64 x, .int .i64 y] 55)) := (Below.refl _ W0).alloc (Nat.le_refl _) _
  obtain ⟨s0, s1⟩ := SpAt.box W0 x y 55
  obtain ⟨k0, k1, k2⟩ := k.below b1 (by omega)
  have b01 := b0.trans (b1.mono b0.size)
  rw [z0] at s0 s1
  by_cases hxy : x = y
  · have hq : (x == y) = true := by simp [hxy]
    have hv := Lib.hid (show spanT L (x, y) = vT L x by rw [← hxy]; exact spanT_same)
    have HX := Lib.hid hx
    clear hxy hx hy
    go_enter Tryz.func91, Tryz.ntmps91
    rw [hW0] at k0 k1 k2 s0 s1 b01
    go_wp2_with fail
    refine (specText_any L a b x HX.out _).mono ?_
    rintro e w1 ⟨rfl, b2⟩
    go_wp2
    go_ret
    exact ⟨by rw [hv.out]; rfl, b01.trans (b2.mono (by have := b01.size; simpa using this))⟩
  · have hq : (x == y) = false := by simp [hxy]
    have hv := Lib.hid (spanT_two (L := L) hxy)
    clear hxy
    have hl1 := (vT_bytes hx).2.2.1
    have hl2 := (vT_bytes hy).2.2.1
    have spA := fun w => specText_any L a b x hx w
    have spB := fun w => specText_any L a b y hy w
    clear hx hy
    generalize h1 : vT L x = u at hl1 spA hv
    generalize h2 : vT L y = v at hl2 spB hv
    clear h1 h2
    obtain ⟨c1, hs1⟩ : ∃ s : ByteArray, s = ⟨u.toArray⟩ := ⟨_, rfl⟩
    obtain ⟨c2, hs2⟩ : ∃ s : ByteArray, s = ⟨v.toArray⟩ := ⟨_, rfl⟩
    simp only [strV, ← hs1] at spA
    simp only [strV, ← hs2] at spB
    have e1 : c1.data.toList = u := by rw [hs1]
    have e2 : c2.data.toList = v := by rw [hs2]
    have z1 := txt_size e1
    have z2 := txt_size e2
    have n1 : ¬ 9223372036854775807 < c1.size + 2 := by omega
    have n2 : ¬ 9223372036854775807 < c1.size + 2 + c2.size := by omega
    have hE := Lib.hid (ret_dots e1 e2)
    clear hs1 hs2 e1 e2 z1 z2 hl1 hl2
    go_enter Tryz.func91, Tryz.ntmps91
    rw [hW0] at k0 k1 k2 s0 s1 b01
    go_wp2
    generalize hW1 : World.alloc (World.alloc w _) _ = W1 at k0 k1 k2 s0 s1 b01 ⊢
    have r0 := cell_regrown k0
    have r1 := cell_regrown k1
    have r2 := cell_regrown k2
    have r3 := cell_regrown s0
    have r4 := cell_regrown s1
    have cA := fun d os => Calls.regrown_of (spA (grow (redrawn W1 d) os))
    have cB := fun d os => Calls.regrown_of (spB (grow (redrawn W1 d) os))
    refine wp_region_quiet_below (by kernel_rfl) (by kernel_rfl) ?_
    repeat (quiet_step (first | with_reducible exact cA _ _ | with_reducible exact cB _ _))
    refine wpQuiet_nil ?_
    intro w2 hw'
    obtain ⟨⟨dq, osq⟩, hw2⟩ := hw'
    have b2 : Below W1.heap.size W1 w2 := by rw [hw2]; exact below_regrown W1 dq osq
    clear hw2
    go_wp2
    go_ret
    exact ⟨by rw [hv.out]; exact hE.out, b01.trans (b2.mono b01.size)⟩

set_option maxRecDepth 100000 in
theorem implSpan_any (L : Bool) (a b x y : Int) (hx : inB L a b x = true) (hy : inB L a b y = true) (w : World) (hp : PowIs w) :
    Calls Tryz.prog 48 #[colV L a b, .agg #[.int .i64 x, .int .i64 y]] w fun e w' => e = .returned (strV (spanT L (x, y))) ∧ Below w.heap.size w w' := by
  have b0 : Below w.heap.size w (w.alloc (.cells #[.bool L, .int .i64 a, .int .i64 b] 27)) := (Below.refl _ w).alloc (Nat.le_refl _) _
  have z0 : (w.alloc (.cells #[.bool L, .int .i64 a, .int .i64 b] 27)).heap.size = w.heap.size + 1 := by simp
  have k := ColAt.box w L a b 27
  obtain ⟨W0, hW0⟩ : ∃ W0, W0 = w.alloc (.cells #[.bool L, .int .i64 a, .int .i64 b] 27) := ⟨_, rfl⟩
  rw [← hW0] at b0 z0 k
  have b1 : Below W0.heap.size W0 (W0.alloc (.cells #[.int .i64 x, .int .i64 y] 55)) := (Below.refl _ W0).alloc (Nat.le_refl _) _
  obtain ⟨s0, s1⟩ := SpAt.box W0 x y 55
  obtain ⟨k0, k1, k2⟩ := k.below b1 (by omega)
  have b01 := b0.trans (b1.mono b0.size)
  have P1 := Lib.hid ((hp.step b0).step b1)
  rw [z0] at s0 s1
  by_cases hxy : x = y
  · have hq : (x == y) = true := by simp [hxy]
    have hv := Lib.hid (show spanT L (x, y) = vT L x by rw [← hxy]; exact spanT_same)
    have HX := Lib.hid hx
    clear hxy hx hy
    go_enter Tryz.func48, Tryz.ntmps48
    rw [hW0] at k0 k1 k2 s0 s1 b01 P1
    go_wp2_with fail
    refine (implFV_any L a b x _ P1.out).mono ?_
    rw [fV_yes HX.out]
    rintro e w1 ⟨rfl, b2⟩
    go_wp2
    go_ret
    exact ⟨by rw [hv.out]; rfl, b01.trans (b2.mono (by have := b01.size; simpa using this))⟩
  · have hq : (x == y) = false := by simp [hxy]
    have hv := Lib.hid (spanT_two (L := L) hxy)
    clear hxy
    have hl1 := (vT_bytes hx).2.2.1
    have hl2 := (vT_bytes hy).2.2.1
    have spA := fun w hp => implFV_any L a b x w hp
    have spB := fun w hp => implFV_any L a b y w hp
    rw [fV_yes hx] at spA
    rw [fV_yes hy] at spB
    clear hx hy
    generalize h1 : vT L x = u at hl1 spA hv
    generalize h2 : vT L y = v at hl2 spB hv
    clear h1 h2
    obtain ⟨c1, hs1⟩ : ∃ s : ByteArray, s = ⟨u.toArray⟩ := ⟨_, rfl⟩
    obtain ⟨c2, hs2⟩ : ∃ s : ByteArray, s = ⟨v.toArray⟩ := ⟨_, rfl⟩
    simp only [strV, ← hs1] at spA
    simp only [strV, ← hs2] at spB
    have e1 : c1.data.toList = u := by rw [hs1]
    have e2 : c2.data.toList = v := by rw [hs2]
    have z1 := txt_size e1
    have z2 := txt_size e2
    have n1 : ¬ 9223372036854775807 < c1.size + 2 := by omega
    have n2 : ¬ 9223372036854775807 < c1.size + 2 + c2.size := by omega
    have hE := Lib.hid (ret_dots e1 e2)
    clear hs1 hs2 e1 e2 z1 z2 hl1 hl2
    go_enter Tryz.func48, Tryz.ntmps48
    rw [hW0] at k0 k1 k2 s0 s1 b01 P1
    go_wp2
    generalize hW1 : World.alloc (World.alloc w _) _ = W1 at k0 k1 k2 s0 s1 b01 P1 ⊢
    have r0 := cell_regrown k0
    have r1 := cell_regrown k1
    have r2 := cell_regrown k2
    have r3 := cell_regrown s0
    have r4 := cell_regrown s1
    have cA := fun d os => Calls.regrown_of (spA (grow (redrawn W1 d) os) (P1.out.step (below_regrown W1 d os)))
    have cB := fun d os => Calls.regrown_of (spB (grow (redrawn W1 d) os) (P1.out.step (below_regrown W1 d os)))
    refine wp_region_quiet_below (by kernel_rfl) (by kernel_rfl) ?_
    repeat (quiet_step (first | with_reducible exact cA _ _ | with_reducible exact cB _ _))
    refine wpQuiet_nil ?_
    intro w2 hw'
    obtain ⟨⟨dq, osq⟩, hw2⟩ := hw'
    have b2 : Below W1.heap.size W1 w2 := by rw [hw2]; exact below_regrown W1 dq osq
    clear hw2
    go_wp2
    go_ret
    exact ⟨by rw [hv.out]; exact hE.out, b01.trans (b2.mono b01.size)⟩

set_option maxRecDepth 100000 in
theorem specIn_any (L : Bool) (a b : Int) (A : Option Addr) (c : Nat) (xs : List Sp) (w : World) (h : Reads w w.heap.size A c xs) :
    Calls Tryz.prog 56 #[colV L a b, .slice A xs.length c] w fun e w' => e = .returned (.bool (isT L a b xs)) ∧ Below w.heap.size w w' := by
  have b0 : Below w.heap.size w (w.alloc (.cells #[.bool L, .int .i64 a, .int .i64 b] 27)) := (Below.refl _ w).alloc (Nat.le_refl _) _
  obtain ⟨k0, k1, k2⟩ := ColAt.box w L a b 27
  have H0 := Lib.hid ((h.below b0).mono b0.size)
  clear h
  cases hc : colB L a b
  · have hv : Hid (isT L a b xs = false) := Lib.hid (by unfold isT; rw [hc]; rfl)
    have HC := Lib.hid hc
    clear hc
    go_enter Tryz.func56, Tryz.ntmps56
    go_wp2_with fail
    refine (specCol_b L a b _).mono ?_
    rw [HC.out]
    rintro e w1 ⟨rfl, b1⟩
    go_wp2
    go_ret
    exact ⟨by rw [hv.out]; rfl, b0.trans (b1.mono b0.size)⟩
  · have hv : Hid (isT L a b xs = withinB xs (colS L a b)) := Lib.hid (by unfold isT; rw [hc]; rfl)
    have HC := Lib.hid hc
    clear hc
    go_enter Tryz.func56, Tryz.ntmps56
    go_wp2_with fail
    refine (specCol_b L a b _).mono ?_
    rw [HC.out]
    rintro e w1 ⟨rfl, b1⟩
    obtain ⟨g0, g1, g2⟩ := ColAt.below (g := w.heap.size) ⟨k0, k1, k2⟩ b1 (by simp)
    have B1 := b0.trans (b1.mono b0.size)
    have H1 := Lib.hid ((H0.out.below b1).mono b1.size)
    clear k0 k1 k2
    go_wp2_with fail
    refine (specColSet_any L a b _).mono ?_
    rintro e w2 ⟨v, rfl, hown, hfit, b2⟩
    obtain ⟨A2, c2, rfl, hr2, _⟩ := hown.form hfit
    have B2 := B1.trans (b2.mono B1.size)
    have H2 := Lib.hid ((H1.out.below b2).mono b2.size)
    have R2 := Lib.hid hr2
    clear hown hfit hr2
    generalize hcs : colS L a b = cs at hv R2
    clear hcs
    go_wp2_with fail
    refine (specWithin_any _ _ _ _ xs cs _ H2.out R2.out).mono ?_
    rintro e w3 ⟨rfl, b3⟩
    have B3 := B2.trans (b3.mono B2.size)
    go_wp2
    go_ret
    exact ⟨by rw [hv.out]; rfl, B3⟩

set_option maxRecDepth 100000 in
theorem implIn_any (L : Bool) (a b : Int) (A : Option Addr) (c : Nat) (xs : List Sp) (w : World) (h : Reads w w.heap.size A c xs) :
    Calls Tryz.prog 47 #[colV L a b, .slice A xs.length c] w fun e w' => e = .returned (.bool (isT L a b xs)) ∧ Below w.heap.size w w' := by
  have b0 : Below w.heap.size w (w.alloc (.cells #[.bool L, .int .i64 a, .int .i64 b] 27)) := (Below.refl _ w).alloc (Nat.le_refl _) _
  obtain ⟨k0, k1, k2⟩ := ColAt.box w L a b 27
  have H0 := Lib.hid ((h.below b0).mono b0.size)
  clear h
  cases hc : colB L a b
  · have hv : Hid (isT L a b xs = false) := Lib.hid (by unfold isT; rw [hc]; rfl)
    have HC := Lib.hid hc
    clear hc
    go_enter Tryz.func47, Tryz.ntmps47
    go_wp2_with fail
    refine (implCol_any L a b _).mono ?_
    rw [HC.out]
    rintro e w1 ⟨rfl, b1⟩
    go_wp2
    go_ret
    exact ⟨by rw [hv.out]; rfl, b0.trans (b1.mono b0.size)⟩
  · have hv : Hid (isT L a b xs = withinB xs (colS L a b)) := Lib.hid (by unfold isT; rw [hc]; rfl)
    have HC := Lib.hid hc
    clear hc
    go_enter Tryz.func47, Tryz.ntmps47
    go_wp2_with fail
    refine (implCol_any L a b _).mono ?_
    rw [HC.out]
    rintro e w1 ⟨rfl, b1⟩
    obtain ⟨g0, g1, g2⟩ := ColAt.below (g := w.heap.size) ⟨k0, k1, k2⟩ b1 (by simp)
    have B1 := b0.trans (b1.mono b0.size)
    have H1 := Lib.hid ((H0.out.below b1).mono b1.size)
    clear k0 k1 k2
    go_wp2_with fail
    refine (implColSet_any L a b _).mono ?_
    rintro e w2 ⟨v, rfl, hown, hfit, b2⟩
    obtain ⟨A2, c2, rfl, hr2, _⟩ := hown.form hfit
    have B2 := B1.trans (b2.mono B1.size)
    have H2 := Lib.hid ((H1.out.below b2).mono b2.size)
    have R2 := Lib.hid hr2
    clear hown hfit hr2
    generalize hcs : colS L a b = cs at hv R2
    clear hcs
    go_wp2_with fail
    refine (implWithin_any _ _ _ _ xs cs _ H2.out R2.out).mono ?_
    rintro e w3 ⟨rfl, b3⟩
    have B3 := B2.trans (b3.mono B2.size)
    go_wp2
    go_ret
    exact ⟨by rw [hv.out]; rfl, B3⟩
end Go.Proofs.YthkjcljhfjaabaaGreatDoor

namespace Go.Proofs.YthkjcljhfjaabaaGreatDoor
open Go.RowKit Go.Sort Sets

set_option maxRecDepth 100000 in
set_option maxHeartbeats 1000000 in
theorem specTest_any (L : Bool) (a b : Int) (A : Option Addr) (c : Nat) (xs : List Sp) (w : World) (h : Reads w w.heap.size A c xs) (ht : isT L a b xs = true) :
    Calls Tryz.prog 57 #[colV L a b, .slice A xs.length c] w fun e w' => e = .returned (strV (fT L a b xs)) ∧ Below w.heap.size w w' := by
  have b0 : Below w.heap.size w (w.alloc (.cells #[.bool L, .int .i64 a, .int .i64 b] 27)) := (Below.refl _ w).alloc (Nat.le_refl _) _
  obtain ⟨k0, k1, k2⟩ := ColAt.box w L a b 27
  have H0 := Lib.hid ((h.below b0).mono b0.size)
  have hlen := isT_len ht
  have HIN := Lib.hid (isT_spans ht)
  have Hall := Lib.hid fun h1 => fT_all ht h1
  have Hlist := Lib.hid fun h1 => fT_list ht h1
  clear h ht
  go_enter Tryz.func57, Tryz.ntmps57
  go_wp2_with fail
  refine (specColSet_any L a b _).mono ?_
  rintro e w2 ⟨v, rfl, hown, hfit, b2⟩
  obtain ⟨A2, c2, rfl, hr2, _⟩ := hown.form hfit
  have B2 := b0.trans (b2.mono b0.size)
  obtain ⟨g0, g1, g2⟩ := ColAt.below (g := w.heap.size) ⟨k0, k1, k2⟩ b2 (by simp)
  have H2 := Lib.hid ((H0.out.below b2).mono b2.size)
  have R2 := Lib.hid hr2
  have z2 := b2.size
  simp at z2
  clear hown hfit hr2 k0 k1 k2 b2 b0 H0
  generalize hcs : colS L a b = cs at R2 Hall Hlist
  clear hcs
  go_wp2_with fail
  refine (specSame_any _ _ _ _ xs cs _ _ _ H2.out R2.out).mono ?_
  rintro e w3 ⟨rfl, nd, hw3⟩
  have b3 : Below w2.heap.size w2 w3 := by rw [hw3]; exact below_drewN (Below.refl _ _) nd
  clear hw3
  obtain ⟨d0, d1, d2⟩ := ColAt.below (g := w.heap.size) ⟨g0, g1, g2⟩ b3 (by omega)
  have B3 := B2.trans (b3.mono B2.size)
  have H3 := Lib.hid ((H2.out.below b3).mono b3.size)
  have z3 : w.heap.size < w3.heap.size := by have := b3.size; omega
  clear g0 g1 g2 b3 H2 R2 B2 z2
  cases hs : sameB xs cs
  · have hv := Lib.hid (Hlist.out hs)
    clear hs Hall Hlist
    obtain ⟨hlc, hc, hfit, hrow⟩ := H3.out
    go_wp2
    go_loopw [5, 6] (fun s5 s6 wr => ∃ (k : Nat) (s : ByteArray), k ≤ xs.length ∧ s6 = .int .i64 k ∧ s5 = .string s ∧ s.data.toList = upT L xs k ∧ Below w3.heap.size w3 wr) (fun _ i _ => xs.length - (intOf i).toNat)
    case atStart => exact ⟨0, ⟨#[]⟩, Nat.zero_le _, rfl, rfl, rfl, Below.refl _ _⟩
    case round =>
      obtain ⟨k, s, hk, rfl, rfl, hst, hb⟩ := hrel
      by_cases hlt : k < xs.length
      · rcases hrow with rfl | ⟨bb, off, rfl, hB, hrow⟩
        · simp at hlt
        · have hkl : (k : Int) < (xs.length : Int) := by omega
          obtain ⟨q1, q2⟩ := (hrow.below hb hB) k hlt
          obtain ⟨e0, e1, e2⟩ := ColAt.below (g := w.heap.size) ⟨d0, d1, d2⟩ hb z3
          have hsz : s.size ≤ 9 * k := by rw [Lib.size_eq, hst]; exact upT_len HIN.out k hk
          obtain ⟨m1, m2⟩ := span_mem HIN.out hlt
          have hspl := spanT_len (x := (lo xs k, hi xs k)) m1 m2
          have spA := fun w => specSpan_any L a b (lo xs k) (hi xs k) m1 m2 w
          clear m1 m2
          obtain ⟨t, hts⟩ : ∃ s : ByteArray, s = ⟨(spanT L (lo xs k, hi xs k)).toArray⟩ := ⟨_, rfl⟩
          simp only [strV, ← hts] at spA
          have ht1 : t.data.toList = spanT L (lo xs k, hi xs k) := by rw [hts]
          have htz : t.size ≤ 8 := by rw [txt_size ht1]; exact hspl
          have n1 : ¬ 9223372036854775807 < s.size + 1 := by omega
          have n2 : ¬ 9223372036854775807 < s.size + 1 + t.size := by omega
          have n3 : ¬ 9223372036854775807 < s.size + t.size := by omega
          have HS := Lib.hid hst
          have HT := Lib.hid ht1
          have HB := Lib.hid hb
          clear hts hspl hsz htz ht1 hst hb
          have r0 := cell_regrown e0
          have r1 := cell_regrown e1
          have r2 := cell_regrown e2
          have r3 := cell_regrown q1
          have r4 := cell_regrown q2
          have cA := fun d os => Calls.regrown_of (spA (grow (redrawn wr d) os))
          by_cases hk0 : k = 0
          · have hkp : decide ((0 : Int) < (k : Int)) = false := decide_eq_false (by omega)
            have hv1 := Lib.hid (show (s ++ t).data.toList = upT L xs (k + 1) by
              subst hk0
              rw [upT_first L xs hlt, ← HT.out]
              have := HS.out
              rw [upT_zero] at this
              simp [this])
            subst hk0
            simp only [Nat.zero_mul, Nat.add_zero] at r3 r4
            go_upto_region 9 with fail
            refine wp_region_quiet_below (by kernel_rfl) (by kernel_rfl) ?_
            repeat (quiet_step (first | with_reducible exact cA _ _))
            refine wpQuiet_nil ?_
            intro w4 hw'
            obtain ⟨⟨dq, osq⟩, hw4⟩ := hw'
            have b4 : Below wr.heap.size wr w4 := by rw [hw4]; exact below_regrown wr dq osq
            clear hw4
            go_wp2
            go_roundw
            case rel => exact ⟨1, s ++ t, hlt, rfl, rfl, hv1.out, HB.out.trans (b4.mono HB.out.size)⟩
            case measure => simp [intOf]; omega
          · have hkp : decide ((0 : Int) < (k : Int)) = true := decide_eq_true (by omega)
            have hv1 := Lib.hid (show (s ++ ⟨#[44]⟩ ++ t).data.toList = upT L xs (k + 1) by
              rw [upT_next L xs k (by omega) hlt, ← HT.out, ← HS.out]
              simp)
            go_upto_region 9 with fail
            refine wp_region_quiet_below (by kernel_rfl) (by kernel_rfl) ?_
            repeat (quiet_step (first | with_reducible exact cA _ _))
            refine wpQuiet_nil ?_
            intro w4 hw'
            obtain ⟨⟨dq, osq⟩, hw4⟩ := hw'
            have b4 : Below wr.heap.size wr w4 := by rw [hw4]; exact below_regrown wr dq osq
            clear hw4
            go_wp2
            go_roundw
            case rel => exact ⟨k + 1, s ++ ⟨#[44]⟩ ++ t, hlt, by go_num, rfl, hv1.out, HB.out.trans (b4.mono HB.out.size)⟩
            case measure => simp [intOf]; omega
      · obtain rfl : k = xs.length := by omega
        have hf := Lib.hid (ret_str (hst.trans hv.out.symm))
        have HB := Lib.hid hb
        clear hst hb
        go_wp2
        go_ret
        exact ⟨hf.out, B3.trans (HB.out.mono B3.size)⟩
  · have hv := Lib.hid (Hall.out hs)
    clear hs Hall Hlist
    go_wp2
    go_ret
    exact ⟨by rw [hv.out]; rfl, B3⟩

set_option maxRecDepth 100000 in
theorem specFT_any (L : Bool) (a b : Int) (A : Option Addr) (c : Nat) (xs : List Sp) (w : World) (h : Reads w w.heap.size A c xs) :
    Calls Tryz.prog 20 #[colV L a b, .slice A xs.length c] w fun e w' => e = .returned (strV (fT L a b xs)) ∧ Below w.heap.size w w' := by
  have b0 : Below w.heap.size w (w.alloc (.cells #[.bool L, .int .i64 a, .int .i64 b] 27)) := (Below.refl _ w).alloc (Nat.le_refl _) _
  obtain ⟨k0, k1, k2⟩ := ColAt.box w L a b 27
  have H0 := Lib.hid ((h.below b0).mono b0.size)
  clear h
  cases hc : isT L a b xs
  · have hv := Lib.hid (fT_no hc)
    have HC := Lib.hid hc
    clear hc
    go_enter Tryz.func20, Tryz.ntmps20
    go_wp2_with fail
    refine (specIn_any L a b _ _ xs _ H0.out).mono ?_
    rw [HC.out]
    rintro e w1 ⟨rfl, b1⟩
    go_wp2
    go_ret
    exact ⟨by rw [hv.out]; rfl, b0.trans (b1.mono b0.size)⟩
  · have HC := Lib.hid hc
    clear hc
    go_enter Tryz.func20, Tryz.ntmps20
    go_wp2_with fail
    refine (specIn_any L a b _ _ xs _ H0.out).mono ?_
    rw [HC.out]
    rintro e w1 ⟨rfl, b1⟩
    obtain ⟨g0, g1, g2⟩ := ColAt.below (g := w.heap.size) ⟨k0, k1, k2⟩ b1 (by simp)
    have B1 := b0.trans (b1.mono b0.size)
    have H1 := Lib.hid ((H0.out.below b1).mono b1.size)
    clear k0 k1 k2
    go_wp2_with fail
    refine (specTest_any L a b _ _ xs _ H1.out HC.out).mono ?_
    rintro e w2 ⟨rfl, b2⟩
    go_wp2
    go_ret
    exact ⟨rfl, B1.trans (b2.mono B1.size)⟩
end Go.Proofs.YthkjcljhfjaabaaGreatDoor

namespace Go.Proofs.YthkjcljhfjaabaaGreatDoor
open Go.RowKit Go.Sort Sets

/-- The texts of the first k spans. -/
def txts (L : Bool) (xs : List Sp) (k : Nat) : List ByteArray := (xs.take k).map fun x => ⟨(spanT L x).toArray⟩
theorem txts_next (L : Bool) {xs : List Sp} {k : Nat} (hk : k < xs.length) : txts L xs (k + 1) = txts L xs k ++ [⟨(spanT L (lo xs k, hi xs k)).toArray⟩] := by
  unfold txts
  rw [take_snoc xs k hk, List.map_append]
  rfl
theorem txts_len (L : Bool) (xs : List Sp) (k : Nat) (hk : k ≤ xs.length) : (txts L xs k).length = k := by unfold txts; simp; omega
theorem txts_join (L : Bool) (xs : List Sp) : Lib.join ((txts L xs xs.length).map (·.data.toList)) [44] = upT L xs xs.length := by
  unfold txts upT
  rw [List.map_map]
  rfl

set_option maxRecDepth 100000 in
set_option maxHeartbeats 1000000 in
theorem implFT_any (L : Bool) (a b : Int) (A : Option Addr) (c : Nat) (xs : List Sp) (w : World) (h : Reads w w.heap.size A c xs) (hp : PowIs w) :
    Calls Tryz.prog 16 #[colV L a b, .slice A xs.length c] w fun e w' => e = .returned (strV (fT L a b xs)) ∧ Below w.heap.size w w' := by
  have b0 : Below w.heap.size w (w.alloc (.cells #[.bool L, .int .i64 a, .int .i64 b] 27)) := (Below.refl _ w).alloc (Nat.le_refl _) _
  obtain ⟨k0, k1, k2⟩ := ColAt.box w L a b 27
  have H0 := Lib.hid ((h.below b0).mono b0.size)
  have P0 := Lib.hid (hp.step b0)
  clear h hp
  cases hc : isT L a b xs
  · have hv := Lib.hid (fT_no hc)
    have HC := Lib.hid hc
    clear hc
    go_enter Tryz.func16, Tryz.ntmps16
    go_wp2_with fail
    refine (implIn_any L a b _ _ xs _ H0.out).mono ?_
    rw [HC.out]
    rintro e w1 ⟨rfl, b1⟩
    go_wp2
    go_ret
    exact ⟨by rw [hv.out]; rfl, b0.trans (b1.mono b0.size)⟩
  · have HC := Lib.hid hc
    have hlen := isT_len hc
    have HIN := Lib.hid (isT_spans hc)
    have Hall := Lib.hid fun h1 => fT_all hc h1
    have Hlist := Lib.hid fun h1 => fT_list hc h1
    obtain ⟨i0, hi0, hz0, hz1, hz2⟩ := info_parts infoStr
    have hmk := fun W => run_make (P := Tryz.prog) W 63 9 i0 _ Tryz.underlying63 hi0 hz0 .i64 .i64 0 xs.length (by omega) (by omega) (by rw [hz2]; omega) (by omega)
    simp only [hz1] at hmk
    have I0 := Lib.hid hi0
    have Z0 := Lib.hid hz0
    have Z1 := Lib.hid hz1
    have Z2 := Lib.hid hz2
    clear hc hi0 hz0 hz1 hz2
    have HM := Lib.hid hmk
    clear hmk
    go_enter Tryz.func16, Tryz.ntmps16
    go_wp2_with fail
    refine (implIn_any L a b _ _ xs _ H0.out).mono ?_
    rw [HC.out]
    rintro e w1 ⟨rfl, b1⟩
    obtain ⟨g0, g1, g2⟩ := ColAt.below (g := w.heap.size) ⟨k0, k1, k2⟩ b1 (by simp)
    have z1 := b1.size
    simp at z1
    have B1 := b0.trans (b1.mono b0.size)
    have H1 := Lib.hid ((H0.out.below b1).mono b1.size)
    have P1 := Lib.hid (P0.out.step b1)
    clear k0 k1 k2 b0 b1 H0 P0
    go_wp2_with fail
    refine (implColSet_any L a b _).mono ?_
    rintro e w2 ⟨v, rfl, hown, hfit, b2⟩
    obtain ⟨A2, c2, rfl, hr2, _⟩ := hown.form hfit
    have B2 := B1.trans (b2.mono B1.size)
    obtain ⟨d0, d1, d2⟩ := ColAt.below (g := w.heap.size) ⟨g0, g1, g2⟩ b2 (by omega)
    have H2 := Lib.hid ((H1.out.below b2).mono b2.size)
    have P2 := Lib.hid (P1.out.step b2)
    have R2 := Lib.hid hr2
    have z2 := b2.size
    clear hown hfit hr2 g0 g1 g2 b2 H1 P1
    generalize hcs : colS L a b = cs at R2 Hall Hlist
    clear hcs
    go_wp2_with fail
    refine (implSame_any _ _ _ _ xs cs _ _ _ H2.out R2.out).mono ?_
    rintro e w3 ⟨rfl, nd, hw3⟩
    have b3 : Below w2.heap.size w2 w3 := by rw [hw3]; exact below_drewN (Below.refl _ _) nd
    clear hw3
    obtain ⟨e0, e1, e2⟩ := ColAt.below (g := w.heap.size) ⟨d0, d1, d2⟩ b3 (by omega)
    have B3 := B2.trans (b3.mono B2.size)
    have H3 := Lib.hid ((H2.out.below b3).mono b3.size)
    have P3 := Lib.hid (P2.out.step b3)
    have z3 : w.heap.size < w3.heap.size := by have := b3.size; omega
    clear d0 d1 d2 b3 H2 P2 R2 B1 B2 z1 z2
    cases hs : sameB xs cs
    · have hv := Lib.hid (Hlist.out hs)
      clear hs Hall Hlist
      obtain ⟨hlc, hc, hfit, hrow⟩ := H3.out
      have hmk := HM.out
      go_wp2
      generalize hW4 : World.alloc w3 _ = W4
      have b4 : Below w3.heap.size w3 W4 := by rw [← hW4]; exact (Below.refl _ _).alloc (Nat.le_refl _) _
      have own0 : W4.ownsRow w3.heap.size 9 1 (.slice (some ⟨w3.heap.size, 0, none⟩) 0 xs.length) 0 ((txts L xs 0).map Value.string) := by
        rw [← hW4]
        exact World.ownsRow_made _ _ _ (Nat.le_refl _) (by unfold maxLen; omega) (by rw [size_madeCells]; simp)
      clear hW4 hmk HM
      go_loopw [5, 21] (fun s5 s21 wr => ∃ k : Nat, k ≤ xs.length ∧ s21 = .int .i64 k ∧ wr.ownsRow w3.heap.size 9 1 s5 k ((txts L xs k).map Value.string) ∧ Below w3.heap.size w3 wr) (fun _ i _ => xs.length - (intOf i).toNat)
      case atStart => exact ⟨0, Nat.zero_le _, rfl, own0, b4⟩
      case round =>
        obtain ⟨k, hk, rfl, hown, hb⟩ := hrel
        by_cases hlt : k < xs.length
        · rcases hrow with rfl | ⟨bb, off, rfl, hB, hrow⟩
          · simp at hlt
          · have hkl : (k : Int) < (xs.length : Int) := by omega
            obtain ⟨q1, q2⟩ := (hrow.below hb hB) k hlt
            obtain ⟨f0, f1, f2⟩ := ColAt.below (g := w.heap.size) ⟨e0, e1, e2⟩ hb z3
            obtain ⟨m1, m2⟩ := span_mem HIN.out hlt
            have spA := fun w hp => implSpan_any L a b (lo xs k) (hi xs k) m1 m2 w hp
            clear m1 m2
            have hsn := Lib.hid (txts_next L hlt)
            obtain ⟨t, hts⟩ : ∃ s : ByteArray, s = ⟨(spanT L (lo xs k, hi xs k)).toArray⟩ := ⟨_, rfl⟩
            rw [← hts] at hsn
            simp only [strV, ← hts] at spA
            clear hts
            have P4 := Lib.hid (P3.out.step hb)
            have HB := Lib.hid hb
            have hzw := hb.size
            obtain ⟨sA, sc, rfl⟩ := own_form hown
            have b5 : Below wr.heap.size wr (wr.alloc (.cells #[.int .i64 (lo xs k), .int .i64 (hi xs k)] 55)) := (Below.refl _ _).alloc (Nat.le_refl _) _
            have P5 := Lib.hid (P4.out.step b5)
            have own5 := World.ownsRow.alloc hown (.cells #[.int .i64 (lo xs k), .int .i64 (hi xs k)] 55)
            obtain ⟨s0, s1⟩ := SpAt.box wr (lo xs k) (hi xs k) 55
            have hBB := HB.out.trans (b5.mono hzw)
            obtain ⟨f0', f1', f2'⟩ := ColAt.below (g := w.heap.size) ⟨f0, f1, f2⟩ b5 (by omega)
            clear hown hb
            go_wp2_with fail
            refine (spA _ P5.out).mono ?_
            rintro e w6 ⟨rfl, b6⟩
            have own6 : w6.ownsRow w3.heap.size 9 1 (.slice sA k sc) k ((txts L xs k).map Value.string) := ownsRow_below own5 b6
            have own7 := World.ownsRow.alloc own6 (.cells #[.string t] 9)
            have B6 := hBB.trans (b6.mono hBB.size)
            have z6 := B6.size
            have hi0 := I0.out
            have hz0 := Z0.out
            have hz1 := Z1.out
            have hz2 := Z2.out
            go_wp2_with (first | (at_builtin; refine wpList_append_own _ rfl (.tmp 25) (.tmp 29) 63 rfl w3.heap.size 9 i0 _ 1 16 Tryz.underlying63 hi0 hz0 hz1 hz2 rfl (by decide) _ k ((txts L xs k).map Value.string) rfl own7 ⟨w6.heap.size, 0, none⟩ 1 1 [.string t] rfl rfl ?hc1 ?hc2 ?hc3 ?hc4 ?hc5 ?_; rotate_right; intro v' w8 own8 hgrow _))
            · have B7 := B6.alloc B6.size (.cells #[.string t] 9)
              refine ⟨⟨k + 1, hlt, by go_num, by rw [hsn.out, List.map_append]; exact own8, Below.grown (row := (Value.slice sA k sc).ownBlock) B7 hgrow (by have := B7.size; omega) (fun j hj => (World.ownsRow.lt own6 j hj).1)⟩, ?_⟩
              simp [intOf]
              omega
            case hc1 => exact cell_one_new _ _ _
            case hc2 => simp [Value.oneCell']
            case hc3 => unfold maxLen; omega
            case hc4 => omega
            case hc5 => simp; omega
        · obtain rfl : k = xs.length := by omega
          have HB := Lib.hid hb
          have hj := Lib.hid (show (Lib.join ((txts L xs xs.length).map (·.data.toList)) [44]).length ≤ 140737488355328 by
            rw [txts_join]
            have := upT_len HIN.out xs.length (Nat.le_refl _)
            omega)
          have hjv := Lib.hid (txts_join L xs)
          have htl := txts_len L xs xs.length (Nat.le_refl _)
          by_cases h0 : 0 < xs.length
          · obtain ⟨bk, cp, rfl, hbk, hcp, hcell⟩ := own_texts hown h0
            have J := Tryz.strings_Join bk 0 cp (txts L xs xs.length) ⟨#[44]⟩ wr hcell hbk (by omega) (by omega) hj.out
            change Calls Tryz.prog 49 #[.slice (some ⟨bk, 0, none⟩) (txts L xs xs.length).length cp, .string ⟨#[44]⟩] wr (fun e w' => e = .returned (strV (Lib.join ((txts L xs xs.length).map (·.data.toList)) [44])) ∧ Below wr.heap.size wr w') at J
            rw [hjv.out, ← hv.out, htl] at J
            clear hown hb hcell
            go_wp2_with fail
            refine J.mono ?_
            rintro e w6 ⟨rfl, b6⟩
            go_wp2
            go_ret
            exact ⟨rfl, B3.trans ((HB.out.trans (b6.mono HB.out.size)).mono B3.size)⟩
          · have hx0 : xs.length = 0 := by omega
            have hv0 : Hid (fT L a b xs = []) := Lib.hid (by rw [hv.out, hx0]; exact upT_zero L xs)
            rw [hx0] at hown
            obtain ⟨sA, sc, rfl⟩ := own_form hown
            clear hown hb
            rw [hx0] at htl
            go_wp2_with fail
            refine (Tryz.strings_Join_none sA sc _ wr).mono ?_
            rintro e w6 ⟨rfl, rfl⟩
            go_wp2
            go_ret
            exact ⟨by rw [hv0.out]; rfl, B3.trans (HB.out.mono B3.size)⟩
    · have hv := Lib.hid (Hall.out hs)
      clear hs Hall Hlist
      go_wp2
      go_ret
      exact ⟨by rw [hv.out]; rfl, B3⟩
end Go.Proofs.YthkjcljhfjaabaaGreatDoor
