/-
  Contract of the draw of a text of a column.
-/
import Derived.Test.YtajjmdnbmicefaaDoorDf
namespace Go.Proofs.YtajjmdnbmicefaaDoor
open Go.RowKit Go.Sort Sets

set_option maxRecDepth 100000 in
set_option maxHeartbeats 1000000 in
theorem drawPC_any (A : Option Addr) (n c : Nat) (z : Nat → Int) (w : World) (h : Bytes w A n c z) :
    Calls Tryd.prog 20 #[.slice A n c] w fun e w' => ∃ t, e = .returned (.string t) ∧ t.size ≤ 100 ∧ Below w.heap.size w w' := by
  go_enter Tryd.func20, Tryd.ntmps20
  go_wp2_with fail
  refine (open_any A n c z _ h).mono ?_
  rintro e w1 ⟨rfl, hR1, b1⟩
  have z1 := b1.size
  go_wp2_with fail
  refine (l2col_any _ _ _ _ _ _ z w1 hR1 (by omega)).mono ?_
  rintro e w2 ⟨L, a, b, p2, rfl, _, _, _, _, _, hp2, hR2, hg2⟩
  have z2 := hg2.size
  have FCs := specFC_any L a b w2
  obtain ⟨s, hse⟩ : ∃ s : ByteArray, s = ⟨(fC L a b).toArray⟩ := ⟨_, rfl⟩
  have hsz : s.size ≤ 8 := by rw [hse, Lib.size_eq]; exact fC_len
  simp only [strV, ← hse] at FCs
  clear hse
  go_wp2_with fail
  refine FCs.mono ?_
  rintro e w3 ⟨rfl, b3⟩
  have R3 := Lib.hid (hR2.below b3)
  have G3 := Lib.hid (gr_trans hg2 (gr_below _ b3))
  go_wp2_with fail
  refine (bend_step _ _ _ _ _ p2 z s [⟨#[]⟩, ⟨#[46]⟩, ⟨#[45]⟩, ⟨#[57]⟩, ⟨#[65]⟩, ⟨#[48]⟩] _ _ _ 9 w3 rfl rfl rfl R3.out (by omega) (by omega) (by decide) (by decide) (by decide)).mono ?_
  rintro e w4 ⟨t, p4, rfl, htz, hp4, hR4, hg4⟩
  have B := Lib.hid (b1.trans (gr_to_below (gr_trans G3.out hg4) z1 (Nat.le_refl _)))
  clear hR1 hR2 hR4 hg2 hg4 b3
  go_wp2
  go_ret
  exact ⟨t, rfl, by omega, B.out⟩
end Go.Proofs.YtajjmdnbmicefaaDoor
