/-
  Copies of lists of sets.
-/
import Derived.Test.YtppciomdbabepaaUb
import Derived.Test.YtppciomdbabepaaLw
namespace Go.Proofs.Ytppciomdbabepaa
open Go.RowKit Sets

theorem infoSlice : (Try.prog.info? 77).map (fun i => (i.zero, i.size, i.bytes)) = some (some (.slice none 0 0), 1, 24) := by kernel_rfl
/-- the first m sets lie in block g, each in a block of its own behind it -/
def SetRow (w : World) (g : Nat) (xss : List (List Sp)) (m : Nat) : Prop := ∀ i, i < m → ∃ b', g < b' ∧ b' < w.heap.size ∧ w.cell? ⟨g, i, none⟩ = some (.slice (some ⟨b', 0, none⟩) (xss.getD i []).length (xss.getD i []).length) ∧ RowAt w b' 0 (xss.getD i [])
theorem SetRow.step {w w' : World} {g m : Nat} {xss : List (List Sp)} (h : SetRow w g xss m) (hb : Below w.heap.size w w') (hg : g < w.heap.size) : SetRow w' g xss m := fun i hi => by
  obtain ⟨b', h1, h2, h3, h4⟩ := h i hi
  exact ⟨b', h1, Nat.lt_of_lt_of_le h2 hb.size, (hb.cell (p := ⟨g, i, none⟩) hg).trans h3, h4.below hb h2⟩
theorem SetRow.put {w : World} {g n m b' : Nat} {xss : List (List Sp)} (ho : OwnBlk w g n) (h : SetRow w g xss m) (hm : m < n) (h1 : g < b') (h2 : b' < w.heap.size) (h3 : RowAt w b' 0 (xss.getD m [])) :
    SetRow (w.setCell ⟨g, m, none⟩ (.slice (some ⟨b', 0, none⟩) (xss.getD m []).length (xss.getD m []).length)) g xss (m + 1) := fun i hi => by
  have hsz : (w.setCell ⟨g, m, none⟩ (.slice (some ⟨b', 0, none⟩) (xss.getD m []).length (xss.getD m []).length)).heap.size = w.heap.size := by simp [World.setCell]
  have hk : ∀ b'' o, g < b'' → (w.setCell ⟨g, m, none⟩ (.slice (some ⟨b', 0, none⟩) (xss.getD m []).length (xss.getD m []).length)).cell? ⟨b'', o, none⟩ = w.cell? ⟨b'', o, none⟩ := fun b'' o hb => World.cell?_setCell_other _ _ _ _ (fun h => by injection h with h _; omega)
  by_cases e : i = m
  · subst e
    exact ⟨b', h1, by rw [hsz]; exact h2, by rw [set_at ho hm, if_pos rfl], h3.keep fun o => hk b' o h1⟩
  · obtain ⟨b2, q1, q2, q3, q4⟩ := h i (by omega)
    exact ⟨b2, q1, by rw [hsz]; exact q2, by rw [set_at ho hm, if_neg e]; exact q3, q4.keep fun o => hk b2 o q1⟩

set_option maxRecDepth 100000 in
set_option maxHeartbeats 1000000 in
theorem toSpanSS_any (A : Option Addr) (c : Nat) (xss : List (List Sp)) (w : World) (h : SetsAt w w.heap.size A c xss) (hn : xss.length ≤ 1048576) (hm : ∀ i, i < xss.length → (xss.getD i []).length ≤ 1048576) :
    Calls Try.prog 96 #[.slice A xss.length c] w fun e w' => e = .returned (.slice (some ⟨w.heap.size, 0, none⟩) xss.length xss.length) ∧ w.heap.size < w'.heap.size ∧ SetsAt w' w'.heap.size (some ⟨w.heap.size, 0, none⟩) xss.length xss ∧ SetRow w' w.heap.size xss xss.length ∧ Below w.heap.size w w' := by
  have H := Lib.hid h
  have HM := Lib.hid hm
  obtain ⟨hlc, hc, hrow⟩ := h
  obtain ⟨i0, hi, hz0, hz1, hz2⟩ := info_parts infoSlice
  have hmk := fun W => run_make (P := Try.prog) W 63 77 i0 _ Try.underlying63 hi hz0 .i64 .i64 xss.length xss.length (by omega) (by omega) (by rw [hz2]; omega) (by omega)
  simp only [Int.toNat_natCast, hz1] at hmk
  clear hi hz0 hz1 hz2 hm
  go_enter Try.func96, Try.ntmps96
  go_wp2
  have hown0 := OwnBlk.made w #[.slice none 0 0] (xss.length * 1) 77
  have hb0 : Below w.heap.size w (w.alloc (.cells (madeCells #[Value.slice none 0 0] (xss.length * 1)) 77)) := (Below.refl _ _).alloc (Nat.le_refl _) _
  simp only [Nat.mul_one] at hown0 hb0
  try simp only [Nat.mul_one]
  generalize w.alloc (.cells (madeCells #[Value.slice none 0 0] xss.length) 77) = W0 at hown0 hb0 ⊢
  clear hmk
  go_loopw [4] (fun i wr => ∃ k : Nat, k ≤ xss.length ∧ i = .int .i64 k ∧ SetRow wr w.heap.size xss k ∧ OwnBlk wr w.heap.size xss.length ∧ Below w.heap.size w wr) (fun i _ => xss.length - (intOf i).toNat)
  case atStart => exact ⟨0, Nat.zero_le _, rfl, fun i hi => absurd hi (by omega), hown0, hb0⟩
  case round =>
    obtain ⟨k, hk, rfl, hdone, hown, hb⟩ := hrel
    by_cases hlt : k < xss.length
    · rcases hrow with hz | ⟨b, off, rfl, hB, hrow⟩
      · omega
      · have hkl : (k : Int) < (xss.length : Int) := by omega
        obtain ⟨A', c', q1, q2⟩ := hrow k hlt
        rw [Nat.mul_one] at q1
        have d1 := (hb.cell (p := ⟨b, off + k, none⟩) hB).trans q1
        have hr := (q2.below hb).mono hb.size
        have hl := HM.out k hlt
        have HR := Lib.hid hr
        have HDN := Lib.hid hdone
        have HBB := Lib.hid hb
        have HL := Lib.hid hl
        generalize hxs : xss.getD k [] = xs at d1 HR HL
        have HXS := Lib.hid hxs
        clear hxs q1 q2 hr hl hdone hrow
        go_wp2_with (go_at_call 108; refine (toSpanS_any _ _ xs _ HR.out HL.out).mono ?_; rintro e w1 ⟨rfl, r1, o1, hb1⟩; have R1 := Lib.hid r1; have O1 := Lib.hid o1; have hown1 := hown.below hb1 hown.2.2; obtain ⟨v0, g0⟩ := hown1.1 k (by omega); have f0 := hown1.2.1 k)
        have hp0 := SetRow.put (b' := wr.heap.size) hown1 (HDN.out.step hb1 hown.2.2) (by omega) hown.2.2 O1.out.2.2 (by rw [HXS.out]; exact R1.out)
        rw [HXS.out] at hp0
        have hp2 := (HBB.out.trans (hb1.mono HBB.out.size)).setCell (p := ⟨w.heap.size, k, none⟩) (Nat.le_refl _) (.slice (some ⟨wr.heap.size, 0, none⟩) xs.length xs.length)
        go_roundw
        case rel => exact ⟨k + 1, hlt, by go_num, hp0, hown1.set k _, hp2⟩
        case measure => simp [intOf]; omega
    · obtain rfl : k = xss.length := by omega
      go_wp2
      go_ret
      refine ⟨rfl, hown.2.2, ⟨Nat.le_refl _, by omega, .inr ⟨w.heap.size, 0, rfl, hown.2.2, fun i hi => ?_⟩⟩, hdone, hb⟩
      obtain ⟨b', h1, h2, h3, h4⟩ := hdone i hi
      rw [Nat.zero_add, Nat.mul_one]
      refine ⟨_, _, h3, Nat.le_refl _, by have := HM.out i hi; omega, ?_, .inr ⟨b', 0, rfl, h2, h4⟩⟩
      rcases H.out.2.2 with hz | ⟨_, _, _, _, hp⟩
      · omega
      · obtain ⟨_, _, _, hf⟩ := hp i hi
        exact hf.2.2.1
end Go.Proofs.Ytppciomdbabepaa
