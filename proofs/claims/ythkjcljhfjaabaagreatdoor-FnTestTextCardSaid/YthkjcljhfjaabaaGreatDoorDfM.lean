/-
  Contracts of the draws of texts of columns.
-/
import Derived.Test.YthkjcljhfjaabaaGreatDoorDd
import Derived.Test.YthkjcljhfjaabaaGreatDoorTg
namespace Go.Proofs.YthkjcljhfjaabaaGreatDoor
open Go.RowKit Go.Sort Sets

/-- A list of texts that a call has laid. -/
def Txts (w : World) (b : Nat) (l : List ByteArray) : Prop := ∀ i, i < l.length → w.cell? ⟨b, i, none⟩ = some (.string (l.getD i ⟨#[]⟩))
theorem Txts.gr {w w' : World} {g b : Nat} {l : List ByteArray} (h : Txts w b l) (hg : w.grownBy w' (some g)) (hb : b < w.heap.size) (hne : b ≠ g) : Txts w' b l := fun i hi => by
  rw [(gr_kept hg hb hne i).1]; exact h i hi
def txtsObj (l : List ByteArray) (t : TypeId) : Obj := .cells ((l.map Value.string).toArray) t
theorem txts_new (w : World) (l : List ByteArray) (t : TypeId) : Txts (w.alloc (txtsObj l t)) w.heap.size l := by
  intro i hi
  unfold txtsObj
  rw [World.cell?_alloc_new]
  simp [hi]

set_option maxRecDepth 100000 in
theorem of_any (g B : Nat) (A : Option Addr) (n c p : Nat) (z : Nat → Int) (b : Nat) (l : List ByteArray) (w : World) (h : Rdr w g B A n c p z) (hp : p ≤ 1000000) (hl : Txts w b l) (hbw : b < w.heap.size) (hl0 : 0 < l.length) (hl1 : l.length ≤ 1000) (hb : b ≠ g) :
    Calls Tryz.prog 61 #[.pointer (some ⟨g, 0, none⟩), .slice (some ⟨b, 0, none⟩) l.length l.length] w fun e w' => ∃ s, e = .returned (.string s) ∧ s ∈ l ∧ Rdr w' g B A n c (p + 1) z ∧ w.grownBy w' (some g) := by
  have HR := Lib.hid h
  clear h
  go_enter Tryz.func61, Tryz.ntmps61
  go_wp2_with fail
  refine (pick_step g B A n c p z _ w HR.out hp (by omega) (by omega)).mono ?_
  rintro e w1 ⟨v, rfl, hv0, hv2, hR, hg⟩
  obtain ⟨i, rfl⟩ := Int.eq_ofNat_of_zero_le hv0
  have hi : i < l.length := by omega
  have c1 := (hl.gr hg hbw hb) i hi
  have hm : Hid (l.getD i ⟨#[]⟩ ∈ l) := Lib.hid (by rw [List.getD_eq_getElem?_getD, List.getElem?_eq_getElem hi]; exact List.getElem_mem hi)
  generalize l.getD i ⟨#[]⟩ = y at c1 hm
  have R1 := Lib.hid hR
  have G1 := Lib.hid hg
  clear hR hg hl
  go_wp2
  go_ret
  exact ⟨_, rfl, hm.out, R1.out, G1.out⟩

set_option maxRecDepth 100000 in
set_option maxHeartbeats 2000000 in
theorem bend_any (g B : Nat) (A : Option Addr) (n c p : Nat) (z : Nat → Int) (s : ByteArray) (b : Nat) (l : List ByteArray) (w : World) (h : Rdr w g B A n c p z) (hp : p ≤ 900000) (hs : s.size ≤ 100000) (hl : Txts w b l) (hbw : b < w.heap.size) (hl0 : 0 < l.length) (hl1 : l.length ≤ 1000) (hb : b ≠ g) (hsm : ∀ t ∈ l, t.size ≤ 10) :
    Calls Tryz.prog 62 #[.pointer (some ⟨g, 0, none⟩), .string s, .slice (some ⟨b, 0, none⟩) l.length l.length] w fun e w' => ∃ t p', e = .returned (.string t) ∧ t.size ≤ s.size + 10 ∧ p' ≤ p + 4 ∧ Rdr w' g B A n c p' z ∧ w.grownBy w' (some g) := by
  have HR := Lib.hid h
  have HM := Lib.hid hsm
  clear h hsm
  have hsx : s.size ≤ 9223372036854775807 := by omega
  go_enter Tryz.func62, Tryz.ntmps62
  by_cases h0 : s.size = 0
  · have hq : ((s.size : Int) == 0) = true := by simp [h0]
    go_wp2
    go_ret
    exact ⟨s, p, rfl, by omega, by omega, HR.out, gr_refl _ _⟩
  · have hq : ((s.size : Int) == 0) = false := beq_eq_false_iff_ne.2 (by omega)
    go_wp2_with fail
    refine (pick_step g B A n c p z 2 w HR.out (by omega) (by omega) (by omega)).mono ?_
    rintro e w1 ⟨v, rfl, hv0, hv2, hR1, hg1⟩
    have T1 := Lib.hid (hl.gr hg1 hbw hb)
    have hbw1 := Nat.lt_of_lt_of_le hbw hg1.size
    have R1 := Lib.hid hR1
    have G1 := Lib.hid hg1
    clear hR1 hg1 hl HR
    by_cases hv : v = 0
    · subst hv
      go_wp2
      go_ret
      exact ⟨s, p + 1, rfl, by omega, by omega, R1.out, G1.out⟩
    · have hvn : (v == 0) = false := beq_eq_false_iff_ne.2 hv
      go_wp2_with fail
      refine (pick_step g B A n c (p + 1) z _ w1 R1.out (by omega) (by omega) (by omega)).mono ?_
      rintro e w2 ⟨kk, rfl, hk0, hk2, hR2, hg2⟩
      obtain ⟨k, rfl⟩ := Int.eq_ofNat_of_zero_le hk0
      have hks : k < s.size := by omega
      have TT := Lib.hid (T1.out.gr hg2 hbw1 hb)
      have hbw2 := Nat.lt_of_lt_of_le hbw1 hg2.size
      have RR := Lib.hid (show Rdr w2.drew g B A n c (p + 1 + 1) z from hR2.below (Below.refl _ _).drew)
      have GG := Lib.hid (gr_trans (gr_trans G1.out hg2) (gr_below g (Below.refl _ _).drew))
      have TT := Lib.hid (show Txts w2.drew b l from TT.out)
      have hbw2 : b < w2.drew.heap.size := hbw2
      clear hR2 hg2 T1 R1 G1 hk0 hk2 hv hvn hv0 hv2 hbw hbw1
      have HK := Lib.hid (show k < s.size ∧ s.size ≤ 100000 from ⟨hks, hs⟩)
      have f1 : (0 : Int) ≤ (k : Int) ∧ (k : Int) ≤ (s.size : Int) := by omega
      have f2 : (s.extract 0 k).size = k := by simp; omega
      go_upto_region 4 with fail
      go_region_with (first
        | (go_at_call 61; refine (of_any g B A n c _ z b l _ RR.out (by omega) TT.out hbw2 hl0 hl1 hb).mono ?_; rintro e wy ⟨t, rfl, ht, hRy, hgy⟩; have ht := HM.out t ht; have f3 : ¬ 9223372036854775807 < k + t.size := (by have := HK.out; omega); have RR := Lib.hid hRy; have GG := Lib.hid (gr_trans GG.out hgy); have TT := Lib.hid (TT.out.gr hgy hbw2 hb); have hbw2 := Nat.lt_of_lt_of_le hbw2 hgy.size; clear hRy hgy)
        | (go_at_call 60; refine (pick_step g B A n c _ z 2 _ RR.out (by omega) (by omega) (by omega)).mono ?_; rintro e wy ⟨d, rfl, hd0, hd2, hRy, hgy⟩; obtain ⟨d, rfl⟩ := Int.eq_ofNat_of_zero_le hd0; have f4 : IntKind.i64.wrap ((k : Int) + (d : Int)) = ((k + d : Nat) : Int) := IntWalk.i64_in _ (by (have := HK.out; omega)); have f5 : (0 : Int) ≤ ((k + d : Nat) : Int) ∧ ((k + d : Nat) : Int) ≤ (s.size : Int) := (by have := HK.out; omega); have RR := Lib.hid hRy; have GG := Lib.hid (gr_trans GG.out hgy); have TT := Lib.hid (TT.out.gr hgy hbw2 hb); have hbw2 := Nat.lt_of_lt_of_le hbw2 hgy.size; clear hRy hgy))
      go_wp2
      go_ret
      have hk := HK.out
      exact ⟨_, p + 1 + 1 + 1 + 1, rfl, by simp only [ByteArray.size_append, ByteArray.size_extract]; omega, by omega, RR.out, GG.out⟩

theorem bend_step (g B : Nat) (A : Option Addr) (n c p : Nat) (z : Nat → Int) (s : ByteArray) (l : List ByteArray) (m b : Nat) (o : Obj) (t : TypeId) (w : World) (hm : m = l.length) (hb : b = w.heap.size) (ho : o = txtsObj l t) (h : Rdr w g B A n c p z) (hp : p ≤ 900000) (hs : s.size ≤ 100000) (hl0 : 0 < m) (hl1 : m ≤ 1000) (hsm : ∀ t ∈ l, t.size ≤ 10) :
    Calls Tryz.prog 62 #[.pointer (some ⟨g, 0, none⟩), .string s, .slice (some ⟨b, 0, none⟩) m m] (w.alloc o) fun e w' => ∃ t p', e = .returned (.string t) ∧ t.size ≤ s.size + 10 ∧ p' ≤ p + 4 ∧ Rdr w' g B A n c p' z ∧ w.grownBy w' (some g) := by
  subst hm hb ho
  have bl : Below w.heap.size w (w.alloc (txtsObj l t)) := (Below.refl _ _).alloc (Nat.le_refl _) _
  exact (bend_any g B A n c p z s w.heap.size l _ (h.below bl) hp hs (txts_new w l t) (by simp) hl0 hl1 (by have := h.lt; omega) hsm).mono fun e w' ⟨t, p', he, hz, hp', hR, hg⟩ => ⟨t, p', he, hz, hp', hR, gr_trans (gr_below g bl) hg⟩

theorem fC_len {L : Bool} {a b : Int} : (fC L a b).length ≤ 8 := by
  cases h : colB L a b
  · rw [fC_no h]; simp
  · rw [fC_yes h]
    have e1 := (vT_bytes (in_lo h)).2.2.1
    have e2 := (vT_bytes (in_hi h)).2.2.1
    simp [dots]
    omega

end Go.Proofs.YthkjcljhfjaabaaGreatDoor

namespace Go.Proofs.YthkjcljhfjaabaaGreatDoor
open Go.RowKit Go.Sort Sets

end Go.Proofs.YthkjcljhfjaabaaGreatDoor

namespace Go.Proofs.YthkjcljhfjaabaaGreatDoor
open Go.RowKit Go.Sort Sets

/-- A column and a number that a draw hands back. -/
def DrawCN (w : World) (e : Ending) (w' : World) : Prop := ∃ (L : Bool) (a b m : Int), e = .returned (.tuple #[colV L a b, .int .i64 m]) ∧ -200 ≤ a ∧ a ≤ 200 ∧ -200 ≤ b ∧ b ≤ 200 ∧ -200 ≤ m ∧ m ≤ 200 ∧ Below w.heap.size w w'

set_option maxRecDepth 100000 in
set_option maxHeartbeats 1000000 in
theorem drawFV_any (A : Option Addr) (n c : Nat) (z : Nat → Int) (w : World) (h : Bytes w A n c z) :
    Calls Tryz.prog 28 #[.slice A n c] w (DrawCN w) := by
  have b0 : Below w.heap.size w (w.alloc (.cells #[.bool false, .int .i64 0, .int .i64 0] 27)) := (Below.refl _ w).alloc (Nat.le_refl _) _
  obtain ⟨k0, k1, k2⟩ := ColAt.box w false 0 0 27
  have fz : ∀ o, (w.alloc (.cells #[.bool false, .int .i64 0, .int .i64 0] 27)).frozen? ⟨w.heap.size, o, none⟩ = false := fun o => World.frozen?_alloc_at _ _ _ _ rfl
  have h1 := h.step b0
  have z0 : w.heap.size < (w.alloc (.cells #[.bool false, .int .i64 0, .int .i64 0] 27)).heap.size := by simp
  go_enter Tryz.func28, Tryz.ntmps28
  go_wp2_with fail
  refine (drawCol_any A n c z _ h1).mono ?_
  rintro e w1 ⟨L, a, b, rfl, a1, a2, b1, b2, bl1⟩
  have h2 := h1.step bl1
  go_wp2_with fail
  refine (open_any A n c z _ h2).mono ?_
  rintro e w2 ⟨rfl, hR2, bl2⟩
  go_wp2_with fail
  refine (num_step _ _ _ _ _ _ z [0, 1, 3, -5, 20, 9, 100, -1] _ _ _ w2 rfl rfl rfl hR2 (by omega) (by decide) (by decide)).mono ?_
  rintro e w3 ⟨m, rfl, hm, hR3, hg3⟩
  have hm1 : -200 ≤ m := by simp at hm; omega
  have hm2 : m ≤ 200 := by simp at hm; omega
  have bl3 : Below w1.heap.size w1 w3 := bl2.trans (gr_to_below hg3 bl2.size (Nat.le_refl _))
  generalize World.alloc w _ = W0 at b0 k0 k1 k2 fz h1 z0 bl1
  have bG : Below W0.heap.size W0 w3 := bl1.trans (bl3.mono bl1.size)
  obtain ⟨m0, m1, m2⟩ := ColAt.below (g := w.heap.size) ⟨k0, k1, k2⟩ bG z0
  have f0 := (bG.frozen (p := ⟨w.heap.size, 0, none⟩) z0).trans (fz 0)
  have f1 := (bG.frozen (p := ⟨w.heap.size, 1, none⟩) z0).trans (fz 1)
  have f2 := (bG.frozen (p := ⟨w.heap.size, 2, none⟩) z0).trans (fz 2)
  have BZ := Lib.hid (b0.trans (bG.mono b0.size))
  clear k0 k1 k2 fz h1 h2 bG b0 hR2 hR3 hg3 bl1 bl2 bl3 hm
  go_wp2
  obtain ⟨y0, y1, y2⟩ := set_col m0 m1 m2 L a b
  exact bodyPost_ret (v := .tuple #[colV L a b, .int .i64 m]) (by simp [results, Tryz.results28, go_sem, y0, y1, y2]) rfl ⟨L, a, b, m, rfl, a1, a2, b1, b2, hm1, hm2, set_below BZ.out (Nat.le_refl _) _ _ _⟩
end Go.Proofs.YthkjcljhfjaabaaGreatDoor
