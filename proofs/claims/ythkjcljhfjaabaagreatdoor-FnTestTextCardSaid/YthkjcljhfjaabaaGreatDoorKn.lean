/-
  Contract of the draw of a column and a text of a test.
-/
import Derived.Test.YthkjcljhfjaabaaGreatDoorDk
import Derived.Test.YthkjcljhfjaabaaGreatDoorDfM
import Derived.Test.YthkjcljhfjaabaaGreatDoorTjM
import Derived.Deep.RegionHeld3
namespace Go.Proofs.YthkjcljhfjaabaaGreatDoor
open Go.RowKit Go.Sort Sets

/-- A column and a text that a draw hands back. -/
def DrawCT (w : World) (e : Ending) (w' : World) : Prop := ∃ (L : Bool) (a b : Int) (s : ByteArray), e = .returned (.tuple #[colV L a b, .string s]) ∧ -200 ≤ a ∧ a ≤ 200 ∧ -200 ≤ b ∧ b ≤ 200 ∧ s.size ≤ 1000 ∧ Below w.heap.size w w'
theorem fT_size' {L : Bool} {a b : Int} {xs : List Sp} : (fT L a b xs).length ≤ 108 := by
  cases h : isT L a b xs
  · rw [fT_no h]; simp
  · cases h1 : sameB xs (colS L a b)
    · rw [fT_list h h1]
      have := upT_len (isT_spans h) xs.length (Nat.le_refl _)
      have := isT_len h
      omega
    · rw [fT_all h h1]; simp
theorem of_step (g B : Nat) (A : Option Addr) (n c p : Nat) (z : Nat → Int) (l : List ByteArray) (m b : Nat) (o : Obj) (t : TypeId) (w : World) (hm : m = l.length) (hb : b = w.heap.size) (ho : o = txtsObj l t) (h : Rdr w g B A n c p z) (hp : p ≤ 900000) (hl0 : 0 < m) (hl1 : m ≤ 1000) :
    Calls Tryz.prog 61 #[.pointer (some ⟨g, 0, none⟩), .slice (some ⟨b, 0, none⟩) m m] (w.alloc o) fun e w' => ∃ s, e = .returned (.string s) ∧ s ∈ l ∧ Rdr w' g B A n c (p + 1) z ∧ w.grownBy w' (some g) := by
  subst hm hb ho
  have bl : Below w.heap.size w (w.alloc (txtsObj l t)) := (Below.refl _ _).alloc (Nat.le_refl _) _
  exact (of_any g B A n c p z w.heap.size l _ (h.below bl) (by omega) (txts_new w l t) (by simp) hl0 hl1 (by have := h.lt; omega)).mono fun e w' ⟨s, he, hs, hR, hg⟩ => ⟨s, he, hs, hR, gr_trans (gr_below g bl) hg⟩

set_option maxRecDepth 100000 in
set_option maxHeartbeats 4000000 in
theorem drawPT_any (A : Option Addr) (n c : Nat) (z : Nat → Int) (w : World) (h : Bytes w A n c z) :
    Calls Tryz.prog 22 #[.slice A n c] w (DrawCT w) := by
  have b0 : Below w.heap.size w (w.alloc (.cells #[.bool false, .int .i64 0, .int .i64 0] 27)) := (Below.refl _ w).alloc (Nat.le_refl _) _
  have k := ColAt.box w false 0 0 27
  have fz : ∀ o, (w.alloc (.cells #[.bool false, .int .i64 0, .int .i64 0] 27)).frozen? ⟨w.heap.size, o, none⟩ = false := fun o => World.frozen?_alloc_at _ _ _ _ rfl
  have h1 := h.step b0
  have z0 : (w.alloc (.cells #[.bool false, .int .i64 0, .int .i64 0] 27)).heap.size = w.heap.size + 1 := by simp
  go_enter Tryz.func22, Tryz.ntmps22
  go_wp2_with fail
  refine (open_any A n c z _ h1).mono ?_
  rintro e w1 ⟨rfl, hR1, b1⟩
  generalize World.alloc w _ = W0 at b0 k fz h1 z0 hR1 b1 ⊢
  rw [z0] at hR1
  have z1 := b1.size
  go_wp2_with fail
  refine (l2col_any _ _ _ _ _ _ z w1 hR1 (by omega)).mono ?_
  rintro e w2 ⟨L, a, b, p2, rfl, hcb, r1, r2, r3, r4, hp2, hR2, hg2⟩
  have hc := hcb rfl
  have hab := ((colB_iff _ _ _).1 hc).2.1
  have hsm := colB_small hc
  have z2 := hg2.size
  have bx : Below w2.heap.size w2 (w2.alloc (.cells #[.bool L, .int .i64 a, .int .i64 b] 27)) := (Below.refl _ _).alloc (Nat.le_refl _) _
  obtain ⟨x0, x1, x2⟩ := ColAt.box w2 L a b 27
  have zx : w2.heap.size < (w2.alloc (.cells #[.bool L, .int .i64 a, .int .i64 b] 27)).heap.size := by simp
  have hR3 := hR2.below bx
  have hg3 := gr_trans hg2 (gr_below _ bx)
  go_upto_region 3 with fail
  generalize World.alloc w2 _ = W3 at bx x0 x1 x2 zx hR3 hg3 ⊢
  have hne : w2.heap.size ≠ w.heap.size + 1 := by have := hR1.lt; omega
  have HC := Lib.hid hc
  have HX := Lib.hid (show w2.heap.size < W3.heap.size ∧ w2.heap.size ≠ w.heap.size + 1 ∧ p2 ≤ 1 ∧ w1.heap.size ≤ w2.heap.size ∧ w.heap.size + 1 ≤ w1.heap.size from ⟨zx, hne, by omega, z2, by omega⟩)
  have RR := Lib.hid (show Rdr W3.drew (w.heap.size + 1) (w.heap.size + 1) A (min n 2000) c p2 z from hR3.below (Below.refl _ _).drew)
  have GG := Lib.hid (gr_below (w.heap.size + 1) (Below.refl W3.heap.size W3).drew)
  have G3 := Lib.hid hg3
  have HAB := Lib.hid (And.intro hab hsm)
  have HR := Lib.hid (And.intro hR1.lt (And.intro r1 (And.intro r2 (And.intro r3 r4))))
  clear hc hcb hR1 hR2 hR3 hg2 hg3 bx zx hne hsm hp2
  go_region_held3 (fun w' => w'.cell? ⟨w2.heap.size, 0, none⟩ = some (.bool L) ∧ w'.cell? ⟨w2.heap.size, 1, none⟩ = some (.int .i64 a) ∧ w'.cell? ⟨w2.heap.size, 2, none⟩ = some (.int .i64 b)) (first | exact ⟨x0, x1, x2⟩ | exact ⟨(Below.cell b5 (p := ⟨w2.heap.size, 0, none⟩) HX4.out).trans x0, (Below.cell b5 (p := ⟨w2.heap.size, 1, none⟩) HX4.out).trans x1, (Below.cell b5 (p := ⟨w2.heap.size, 2, none⟩) HX4.out).trans x2⟩) (first
    | (go_at_call 45; refine (some_any _ _ _ _ _ p2 z L a b _ RR.out (by have := HX.out; omega) HAB.out.1 (by have := HAB.out; omega) (by have := HAB.out; omega)).mono ?_; rintro e w4 ⟨v4, xs, p4, rfl, own4, fit4, len4, hp4, hR4, hg4, hT4⟩; obtain ⟨A4, c4, rfl, hr4, _⟩ := own4.form fit4; have HT4 := Lib.hid (hT4 HC.out); have R4 := Lib.hid hr4; have RR := Lib.hid hR4; have GG := Lib.hid (gr_trans GG.out hg4); have HP4 := Lib.hid hp4; have HX4 := Lib.hid (Nat.lt_of_lt_of_le HX.out.1 hg4.size); have x0 : w4.cell? ⟨w2.heap.size, 0, none⟩ = some (.bool L) := (gr_kept hg4 HX.out.1 HX.out.2.1 0).1.trans x0; have x1 : w4.cell? ⟨w2.heap.size, 1, none⟩ = some (.int .i64 a) := (gr_kept hg4 HX.out.1 HX.out.2.1 1).1.trans x1; have x2 : w4.cell? ⟨w2.heap.size, 2, none⟩ = some (.int .i64 b) := (gr_kept hg4 HX.out.1 HX.out.2.1 2).1.trans x2; clear hR4 hg4 hT4 hr4 own4 fit4 len4 hp4)
    | (go_at_call 57; refine (specTest_any L a b A4 c4 xs _ R4.out HT4.out).mono ?_; rintro e w5 ⟨rfl, b5⟩; have B5 := Lib.hid b5))
  all_goals
    obtain ⟨s, hse⟩ : ∃ s : ByteArray, s = ⟨(fT L a b xs).toArray⟩ := ⟨_, rfl⟩
    have hsz : s.size ≤ 108 := by rw [hse, Lib.size_eq]; exact fT_size'
    have hst : strV (fT L a b xs) = .string s := by rw [hse]
    rw [hst]
    have hz4 := GG.out.size
    have hz4' : W3.heap.size ≤ w4.heap.size := hz4
    have y0 := (B5.out.cell (p := ⟨w2.heap.size, 0, none⟩) (by have := HX.out; simp only; omega)).trans x0
    have y1 := (B5.out.cell (p := ⟨w2.heap.size, 1, none⟩) (by have := HX.out; simp only; omega)).trans x1
    have y2 := (B5.out.cell (p := ⟨w2.heap.size, 2, none⟩) (by have := HX.out; simp only; omega)).trans x2
    have RS := Lib.hid (show Rdr w5.drew (w.heap.size + 1) (w.heap.size + 1) A (min n 2000) c p4 z from (RR.out.below B5.out).below (Below.refl _ _).drew)
    have GS := Lib.hid (gr_trans (gr_trans GG.out (gr_below (w.heap.size + 1) B5.out)) (gr_below (w.heap.size + 1) (Below.refl w5.heap.size w5).drew))
    have HP4' := HP4
    have HX5 := Lib.hid (show w2.heap.size < w5.heap.size from by have := HX.out; have := B5.out.size; omega)
    have e1 : IntKind.i64.wrap (b - a) = b - a := IntWalk.i64_in _ (by have := HAB.out; omega)
    have e2 : IntKind.i64.wrap (b - a + 1) = b - a + 1 := IntWalk.i64_in _ (by have := HAB.out; omega)
    clear x0 x1 x2 B5 RR GG hse hst hz4 hz4' R4 HT4
    go_upto_region 4 with fail
    go_region_held3 (fun w' => w'.cell? ⟨w2.heap.size, 0, none⟩ = some (.bool L) ∧ w'.cell? ⟨w2.heap.size, 1, none⟩ = some (.int .i64 a) ∧ w'.cell? ⟨w2.heap.size, 2, none⟩ = some (.int .i64 b)) (first | exact ⟨y0, y1, y2⟩ | exact ⟨(Below.cell b7 (p := ⟨w2.heap.size, 0, none⟩) HX6.out).trans y0, (Below.cell b7 (p := ⟨w2.heap.size, 1, none⟩) HX6.out).trans y1, (Below.cell b7 (p := ⟨w2.heap.size, 2, none⟩) HX6.out).trans y2⟩) (first
      | (go_at_call 60; refine (pick_step _ _ _ _ _ p4 z (b - a + 1) _ RS.out (by have := HP4.out; have := HX.out; omega) (by have := HAB.out; omega) (by have := HAB.out; omega)).mono ?_; rintro e w6 ⟨x, rfl, hx0, hx1, hR6, hg6⟩; have e3 : IntKind.i64.wrap (a + x) = a + x := IntWalk.i64_in _ (by have := HAB.out; omega); have HIN := Lib.hid ((inB_iff L a b (a + x)).2 ⟨HC.out, by omega, by omega⟩); have RS := Lib.hid hR6; have GS := Lib.hid (gr_trans GS.out hg6); have y0 : w6.cell? ⟨w2.heap.size, 0, none⟩ = some (.bool L) := (gr_kept hg6 HX5.out HX.out.2.1 0).1.trans y0; have y1 : w6.cell? ⟨w2.heap.size, 1, none⟩ = some (.int .i64 a) := (gr_kept hg6 HX5.out HX.out.2.1 1).1.trans y1; have y2 : w6.cell? ⟨w2.heap.size, 2, none⟩ = some (.int .i64 b) := (gr_kept hg6 HX5.out HX.out.2.1 2).1.trans y2; have HX6 := Lib.hid (Nat.lt_of_lt_of_le HX5.out hg6.size); clear hR6 hg6 hx0 hx1)
      | (go_at_call 59; refine (specText_any L a b (a + x) HIN.out _).mono ?_; rintro e w7 ⟨rfl, b7⟩; have B7 := Lib.hid b7))
  all_goals
    obtain ⟨u, hue⟩ : ∃ u : ByteArray, u = ⟨(vT L (a + x)).toArray⟩ := ⟨_, rfl⟩
    have hus : u.size ≤ 3 := by rw [hue, Lib.size_eq]; exact (vT_bytes HIN.out).2.2.1
    have hut : strV (vT L (a + x)) = .string u := by rw [hue]
    rw [hut]
    have v0 := (B7.out.cell (p := ⟨w2.heap.size, 0, none⟩) HX6.out).trans y0
    have v1 := (B7.out.cell (p := ⟨w2.heap.size, 1, none⟩) HX6.out).trans y1
    have v2 := (B7.out.cell (p := ⟨w2.heap.size, 2, none⟩) HX6.out).trans y2
    have HX7 := Lib.hid (Nat.lt_of_lt_of_le HX6.out B7.out.size)
    have R7 := Lib.hid (RS.out.below B7.out)
    have G7 := Lib.hid (gr_trans GS.out (gr_below (w.heap.size + 1) B7.out))
    clear y0 y1 y2 B7 RS GS hue hut e1 e2 e3 HIN HX6 HX5
    go_wp2_with fail
    refine (pick_step _ _ _ _ _ (p4 + 1) z 6 _ R7.out (by have := HP4.out; have := HX.out; omega) (by omega) (by omega)).mono ?_
    rintro e w8 ⟨d, rfl, hd0, hd6, hR8, hg8⟩
    have a0 := (gr_kept hg8 HX7.out HX.out.2.1 0).1.trans v0
    have a1 := (gr_kept hg8 HX7.out HX.out.2.1 1).1.trans v1
    have a2 := (gr_kept hg8 HX7.out HX.out.2.1 2).1.trans v2
    have HX8 := Lib.hid (Nat.lt_of_lt_of_le HX7.out hg8.size)
    have R8 := Lib.hid hR8
    have G8 := Lib.hid (gr_trans G7.out hg8)
    clear v0 v1 v2 R7 G7 HX7 hR8 hg8
    have HP2 := Lib.hid HX.out.2.2.1
    have HNE := Lib.hid HX.out.2.1
    have HS := Lib.hid hsz
    have HU := Lib.hid hus
    clear hsz hus HX4 b5 HX b7 HC HAB
    rcases (by omega : d = 0 ∨ d = 1 ∨ d = 2 ∨ 3 ≤ d) with rfl | rfl | rfl | hd3
    · go_wp2_with fail
      refine (of_step _ _ _ _ _ (p4 + 1 + 1) z [⟨#[60]⟩, ⟨#[62]⟩, ⟨#[60, 61]⟩, ⟨#[62, 61]⟩] _ _ _ 9 w8 rfl rfl rfl R8.out (by have := HP4.out; have := HP2.out; omega) (by decide) (by decide)).mono ?_
      rintro e w9 ⟨t, rfl, ht, hR9, hg9⟩
      have ht2 : t.size ≤ 2 := by
        simp only [List.mem_cons, List.mem_nil_iff, or_false] at ht
        rcases ht with rfl | rfl | rfl | rfl <;> decide
      have n1 : ¬ 9223372036854775807 < t.size + u.size := by have := HU.out; omega
      obtain ⟨tt, htt⟩ : ∃ tt, tt = t ++ u := ⟨_, rfl⟩
      have htz : Hid (tt.size ≤ 300) := Lib.hid (by rw [htt, ByteArray.size_append]; have := HU.out; omega)
      have c0 := (gr_kept hg9 HX8.out HNE.out 0).1.trans a0
      have c1 := (gr_kept hg9 HX8.out HNE.out 1).1.trans a1
      have c2 := (gr_kept hg9 HX8.out HNE.out 2).1.trans a2
      have HX9 := Lib.hid (Nat.lt_of_lt_of_le HX8.out hg9.size)
      have R9 := Lib.hid hR9
      have G9 := Lib.hid (gr_trans G8.out hg9)
      have hpp : Hid (p4 + 1 + 1 + 1 ≤ 100) := Lib.hid (by have := HP4.out; have := HP2.out; omega)
      generalize p4 + 1 + 1 + 1 = p9 at R9 hpp
      clear a0 a1 a2 R8 G8 HX8 hR9 hg9 ht ht2 hd0 hd6
      go_wp2_with fail
      try rw [← htt]
      clear htt n1
      refine (l2wrong_any _ _ _ _ _ p9 z L a b _ R9.out (by have := hpp.out; omega) HR.out.2.1 HR.out.2.2.1 HR.out.2.2.2.1 HR.out.2.2.2.2).mono ?_
      rintro e w10 ⟨L6, a6, b6, p10, rfl, _, s1, s2, s3, s4, hp10, hR10, hg10⟩
      have R10 := Lib.hid hR10
      have G10 := Lib.hid (gr_trans G9.out hg10)
      have HP10 := Lib.hid hp10
      clear hR10 hg10 hp10 c0 c1 c2 R9 G9
      go_wp2_with fail
      refine (bend_step _ _ _ _ _ p10 z tt [⟨#[]⟩, ⟨#[44]⟩, ⟨#[46]⟩, ⟨#[45]⟩, ⟨#[60]⟩, ⟨#[49]⟩, ⟨#[65]⟩, ⟨#[41]⟩] _ _ _ 9 w10 rfl rfl rfl R10.out (by have := hpp.out; have := HP10.out; omega) (by have := htz.out; omega) (by decide) (by decide) (by decide)).mono ?_
      rintro e w11 ⟨t5, p11, rfl, ht5, hp11, hR11, hg11⟩
      have G := gr_trans G3.out (gr_trans G10.out hg11)
      have bG : Below W0.heap.size W0 w11 := b1.trans (gr_to_below G z1 (by omega))
      obtain ⟨m0, m1, m2⟩ := k.below bG (by omega)
      have f0 := (bG.frozen (p := ⟨w.heap.size, 0, none⟩) (by simp only; omega)).trans (fz 0)
      have f1 := (bG.frozen (p := ⟨w.heap.size, 1, none⟩) (by simp only; omega)).trans (fz 1)
      have f2 := (bG.frozen (p := ⟨w.heap.size, 2, none⟩) (by simp only; omega)).trans (fz 2)
      have BZ := Lib.hid (b0.trans (bG.mono b0.size))
      have HT5 := Lib.hid (show t5.size ≤ 1000 from by have := htz.out; omega)
      clear k fz h1 bG G b0 b1 hR11 hg11 ht5 hp11 R10 G10
      go_wp2
      obtain ⟨u0, u1, u2⟩ := set_col m0 m1 m2 L6 a6 b6
      exact bodyPost_ret (v := .tuple #[colV L6 a6 b6, .string t5]) (by simp [results, Tryz.results22, go_sem, u0, u1, u2]) rfl ⟨L6, a6, b6, t5, rfl, s1, s2, s3, s4, HT5.out, set_below BZ.out (Nat.le_refl _) _ _ _⟩
    · have n1 : ¬ 9223372036854775807 < 4 + s.size := by have := HS.out; omega
      have n2 : ¬ 9223372036854775807 < 4 + s.size + 1 := by have := HS.out; omega
      obtain ⟨tt, htt⟩ : ∃ tt, tt = (⟨#[110, 111, 116, 40]⟩ : ByteArray) ++ s ++ ⟨#[41]⟩ := ⟨_, rfl⟩
      have htz : Hid (tt.size ≤ 300) := Lib.hid (by rw [htt, ByteArray.size_append, ByteArray.size_append]; have := HS.out; have h1 : (⟨#[110, 111, 116, 40]⟩ : ByteArray).size = 4 := rfl; have h2 : (⟨#[41]⟩ : ByteArray).size = 1 := rfl; omega)
      have hsz1 : (⟨#[110, 111, 116, 40]⟩ : ByteArray).size = 4 := rfl
      have hsz2 : (⟨#[41]⟩ : ByteArray).size = 1 := rfl
      obtain ⟨w9, hw9⟩ : ∃ w9, w9 = w8 := ⟨_, rfl⟩
      have c0 := a0
      have c1 := a1
      have c2 := a2
      have HX9 := HX8
      have R9 := R8
      have G9 := G8
      rw [← hw9] at c0 c1 c2 HX9 R9 G9
      subst hw9
      have hpp : Hid (p4 + 1 + 1 ≤ 100) := Lib.hid (by have := HP4.out; have := HP2.out; omega)
      generalize p4 + 1 + 1 = p9 at R9 hpp
      clear a0 a1 a2 R8 G8 HX8
      go_wp2_with fail
      try rw [← htt]
      clear htt n1 n2 hsz1 hsz2
      refine (l2wrong_any _ _ _ _ _ p9 z L a b _ R9.out (by have := hpp.out; omega) HR.out.2.1 HR.out.2.2.1 HR.out.2.2.2.1 HR.out.2.2.2.2).mono ?_
      rintro e w10 ⟨L6, a6, b6, p10, rfl, _, s1, s2, s3, s4, hp10, hR10, hg10⟩
      have R10 := Lib.hid hR10
      have G10 := Lib.hid (gr_trans G9.out hg10)
      have HP10 := Lib.hid hp10
      clear hR10 hg10 hp10 c0 c1 c2 R9 G9
      go_wp2_with fail
      refine (bend_step _ _ _ _ _ p10 z tt [⟨#[]⟩, ⟨#[44]⟩, ⟨#[46]⟩, ⟨#[45]⟩, ⟨#[60]⟩, ⟨#[49]⟩, ⟨#[65]⟩, ⟨#[41]⟩] _ _ _ 9 w10 rfl rfl rfl R10.out (by have := hpp.out; have := HP10.out; omega) (by have := htz.out; omega) (by decide) (by decide) (by decide)).mono ?_
      rintro e w11 ⟨t5, p11, rfl, ht5, hp11, hR11, hg11⟩
      have G := gr_trans G3.out (gr_trans G10.out hg11)
      have bG : Below W0.heap.size W0 w11 := b1.trans (gr_to_below G z1 (by omega))
      obtain ⟨m0, m1, m2⟩ := k.below bG (by omega)
      have f0 := (bG.frozen (p := ⟨w.heap.size, 0, none⟩) (by simp only; omega)).trans (fz 0)
      have f1 := (bG.frozen (p := ⟨w.heap.size, 1, none⟩) (by simp only; omega)).trans (fz 1)
      have f2 := (bG.frozen (p := ⟨w.heap.size, 2, none⟩) (by simp only; omega)).trans (fz 2)
      have BZ := Lib.hid (b0.trans (bG.mono b0.size))
      have HT5 := Lib.hid (show t5.size ≤ 1000 from by have := htz.out; omega)
      clear k fz h1 bG G b0 b1 hR11 hg11 ht5 hp11 R10 G10
      go_wp2
      obtain ⟨u0, u1, u2⟩ := set_col m0 m1 m2 L6 a6 b6
      exact bodyPost_ret (v := .tuple #[colV L6 a6 b6, .string t5]) (by simp [results, Tryz.results22, go_sem, u0, u1, u2]) rfl ⟨L6, a6, b6, t5, rfl, s1, s2, s3, s4, HT5.out, set_below BZ.out (Nat.le_refl _) _ _ _⟩
    · have n1 : ¬ 9223372036854775807 < s.size + 3 := by have := HS.out; omega
      have n2 : ¬ 9223372036854775807 < s.size + 3 + u.size := by have := HS.out; have := HU.out; omega
      obtain ⟨tt, htt⟩ : ∃ tt, tt = s ++ (⟨#[44, 62, 61]⟩ : ByteArray) ++ u := ⟨_, rfl⟩
      have hsz1 : (⟨#[44, 62, 61]⟩ : ByteArray).size = 3 := rfl
      have htz : Hid (tt.size ≤ 300) := Lib.hid (by rw [htt, ByteArray.size_append, ByteArray.size_append]; have := HS.out; have := HU.out; omega)
      obtain ⟨w9, hw9⟩ : ∃ w9, w9 = w8 := ⟨_, rfl⟩
      have c0 := a0
      have c1 := a1
      have c2 := a2
      have HX9 := HX8
      have R9 := R8
      have G9 := G8
      rw [← hw9] at c0 c1 c2 HX9 R9 G9
      subst hw9
      have hpp : Hid (p4 + 1 + 1 ≤ 100) := Lib.hid (by have := HP4.out; have := HP2.out; omega)
      generalize p4 + 1 + 1 = p9 at R9 hpp
      clear a0 a1 a2 R8 G8 HX8
      go_wp2_with fail
      try rw [← htt]
      clear htt n1 n2 hsz1
      refine (l2wrong_any _ _ _ _ _ p9 z L a b _ R9.out (by have := hpp.out; omega) HR.out.2.1 HR.out.2.2.1 HR.out.2.2.2.1 HR.out.2.2.2.2).mono ?_
      rintro e w10 ⟨L6, a6, b6, p10, rfl, _, s1, s2, s3, s4, hp10, hR10, hg10⟩
      have R10 := Lib.hid hR10
      have G10 := Lib.hid (gr_trans G9.out hg10)
      have HP10 := Lib.hid hp10
      clear hR10 hg10 hp10 c0 c1 c2 R9 G9
      go_wp2_with fail
      refine (bend_step _ _ _ _ _ p10 z tt [⟨#[]⟩, ⟨#[44]⟩, ⟨#[46]⟩, ⟨#[45]⟩, ⟨#[60]⟩, ⟨#[49]⟩, ⟨#[65]⟩, ⟨#[41]⟩] _ _ _ 9 w10 rfl rfl rfl R10.out (by have := hpp.out; have := HP10.out; omega) (by have := htz.out; omega) (by decide) (by decide) (by decide)).mono ?_
      rintro e w11 ⟨t5, p11, rfl, ht5, hp11, hR11, hg11⟩
      have G := gr_trans G3.out (gr_trans G10.out hg11)
      have bG : Below W0.heap.size W0 w11 := b1.trans (gr_to_below G z1 (by omega))
      obtain ⟨m0, m1, m2⟩ := k.below bG (by omega)
      have f0 := (bG.frozen (p := ⟨w.heap.size, 0, none⟩) (by simp only; omega)).trans (fz 0)
      have f1 := (bG.frozen (p := ⟨w.heap.size, 1, none⟩) (by simp only; omega)).trans (fz 1)
      have f2 := (bG.frozen (p := ⟨w.heap.size, 2, none⟩) (by simp only; omega)).trans (fz 2)
      have BZ := Lib.hid (b0.trans (bG.mono b0.size))
      have HT5 := Lib.hid (show t5.size ≤ 1000 from by have := htz.out; omega)
      clear k fz h1 bG G b0 b1 hR11 hg11 ht5 hp11 R10 G10
      go_wp2
      obtain ⟨u0, u1, u2⟩ := set_col m0 m1 m2 L6 a6 b6
      exact bodyPost_ret (v := .tuple #[colV L6 a6 b6, .string t5]) (by simp [results, Tryz.results22, go_sem, u0, u1, u2]) rfl ⟨L6, a6, b6, t5, rfl, s1, s2, s3, s4, HT5.out, set_below BZ.out (Nat.le_refl _) _ _ _⟩
    · have q0 : (d == 0) = false := beq_eq_false_iff_ne.2 (by omega)
      have q1 : (d == 1) = false := beq_eq_false_iff_ne.2 (by omega)
      have q2 : (d == 2) = false := beq_eq_false_iff_ne.2 (by omega)
      obtain ⟨tt, htt⟩ : ∃ tt, tt = s := ⟨_, rfl⟩
      have htz : Hid (tt.size ≤ 300) := Lib.hid (by rw [htt]; have := HS.out; omega)
      obtain ⟨w9, hw9⟩ : ∃ w9, w9 = w8 := ⟨_, rfl⟩
      have c0 := a0
      have c1 := a1
      have c2 := a2
      have HX9 := HX8
      have R9 := R8
      have G9 := G8
      rw [← hw9] at c0 c1 c2 HX9 R9 G9
      subst hw9
      have hpp : Hid (p4 + 1 + 1 ≤ 100) := Lib.hid (by have := HP4.out; have := HP2.out; omega)
      generalize p4 + 1 + 1 = p9 at R9 hpp
      clear a0 a1 a2 R8 G8 HX8
      go_wp2_with fail
      rw [← htt]
      clear htt q0 q1 q2
      refine (l2wrong_any _ _ _ _ _ p9 z L a b _ R9.out (by have := hpp.out; omega) HR.out.2.1 HR.out.2.2.1 HR.out.2.2.2.1 HR.out.2.2.2.2).mono ?_
      rintro e w10 ⟨L6, a6, b6, p10, rfl, _, s1, s2, s3, s4, hp10, hR10, hg10⟩
      have R10 := Lib.hid hR10
      have G10 := Lib.hid (gr_trans G9.out hg10)
      have HP10 := Lib.hid hp10
      clear hR10 hg10 hp10 c0 c1 c2 R9 G9
      go_wp2_with fail
      refine (bend_step _ _ _ _ _ p10 z tt [⟨#[]⟩, ⟨#[44]⟩, ⟨#[46]⟩, ⟨#[45]⟩, ⟨#[60]⟩, ⟨#[49]⟩, ⟨#[65]⟩, ⟨#[41]⟩] _ _ _ 9 w10 rfl rfl rfl R10.out (by have := hpp.out; have := HP10.out; omega) (by have := htz.out; omega) (by decide) (by decide) (by decide)).mono ?_
      rintro e w11 ⟨t5, p11, rfl, ht5, hp11, hR11, hg11⟩
      have G := gr_trans G3.out (gr_trans G10.out hg11)
      have bG : Below W0.heap.size W0 w11 := b1.trans (gr_to_below G z1 (by omega))
      obtain ⟨m0, m1, m2⟩ := k.below bG (by omega)
      have f0 := (bG.frozen (p := ⟨w.heap.size, 0, none⟩) (by simp only; omega)).trans (fz 0)
      have f1 := (bG.frozen (p := ⟨w.heap.size, 1, none⟩) (by simp only; omega)).trans (fz 1)
      have f2 := (bG.frozen (p := ⟨w.heap.size, 2, none⟩) (by simp only; omega)).trans (fz 2)
      have BZ := Lib.hid (b0.trans (bG.mono b0.size))
      have HT5 := Lib.hid (show t5.size ≤ 1000 from by have := htz.out; omega)
      clear k fz h1 bG G b0 b1 hR11 hg11 ht5 hp11 R10 G10
      go_wp2
      obtain ⟨u0, u1, u2⟩ := set_col m0 m1 m2 L6 a6 b6
      exact bodyPost_ret (v := .tuple #[colV L6 a6 b6, .string t5]) (by simp [results, Tryz.results22, go_sem, u0, u1, u2]) rfl ⟨L6, a6, b6, t5, rfl, s1, s2, s3, s4, HT5.out, set_below BZ.out (Nat.le_refl _) _ _ _⟩
end Go.Proofs.YthkjcljhfjaabaaGreatDoor
