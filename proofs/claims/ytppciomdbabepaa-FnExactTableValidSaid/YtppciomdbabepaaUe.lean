/-
  Copies of lists of rules.
-/
import Derived.Test.YtppciomdbabepaaUd
namespace Go.Proofs.Ytppciomdbabepaa
open Go.RowKit Sets

theorem infoRule : (Try.prog.info? 65).map (fun i => (i.zero, i.size, i.bytes)) = some (some (.agg #[.slice none 0 0, .int .i64 0]), 2, 32) := by kernel_rfl
/-- a copied list of sets reads as the list that it was copied from -/
theorem SetRow.sets {w w0 : World} {b B c0 : Nat} {A0 : Option Addr} {xss : List (List Sp)} (hs : SetRow w b xss xss.length) (hb : b < w.heap.size) (H : SetsAt w0 B A0 c0 xss) (hn : xss.length ≤ 1048576) (hm : ∀ i, i < xss.length → (xss.getD i []).length ≤ 1048576) :
    SetsAt w w.heap.size (some ⟨b, 0, none⟩) xss.length xss := by
  refine ⟨Nat.le_refl _, by omega, .inr ⟨b, 0, rfl, hb, fun i hi => ?_⟩⟩
  obtain ⟨b', h1, h2, h3, h4⟩ := hs i hi
  rw [Nat.zero_add, Nat.mul_one]
  refine ⟨_, _, h3, Nat.le_refl _, by have := hm i hi; omega, ?_, .inr ⟨b', 0, rfl, h2, h4⟩⟩
  rcases H.2.2 with hz | ⟨_, _, _, _, hp⟩
  · omega
  · obtain ⟨_, _, _, hf⟩ := hp i hi
    exact hf.2.2.1
theorem two_below' {B g : Nat} {a w : World} (h : Below B a w) (hg : B ≤ g) (o1 o2 : Nat) (v0 v1 : Value) : Below B a ((w.setCell ⟨g, o1, none⟩ v0).setCell ⟨g, o2, none⟩ v1) := (h.setCell hg v0).setCell hg v1
/-- the first m rules lie in block g, each with its sets behind it -/
def RuleRow (w : World) (g : Nat) (rs : List Rl) (m : Nat) : Prop :=
  ∀ i, i < m → (∃ b', g < b' ∧ b' < w.heap.size ∧ w.cell? ⟨g, i * 2, none⟩ = some (.slice (some ⟨b', 0, none⟩) (rs.getD i ([], 0)).1.length (rs.getD i ([], 0)).1.length) ∧ SetRow w b' (rs.getD i ([], 0)).1 (rs.getD i ([], 0)).1.length) ∧ w.cell? ⟨g, i * 2 + 1, none⟩ = some (.int .i64 (rs.getD i ([], 0)).2)
theorem RuleRow.step {w w' : World} {g m : Nat} {rs : List Rl} (h : RuleRow w g rs m) (hb : Below w.heap.size w w') (hg : g < w.heap.size) : RuleRow w' g rs m := fun i hi => by
  obtain ⟨⟨b', h1, h2, h3, h4⟩, h5⟩ := h i hi
  exact ⟨⟨b', h1, Nat.lt_of_lt_of_le h2 hb.size, (hb.cell (p := ⟨g, i * 2, none⟩) hg).trans h3, h4.step hb h2⟩, (hb.cell (p := ⟨g, i * 2 + 1, none⟩) hg).trans h5⟩
theorem RuleRow.put {w : World} {g n m b' : Nat} {rs : List Rl} (ho : OwnBlk w g n) (h : RuleRow w g rs m) (hm : m * 2 + 1 < n) {xss : List (List Sp)} {x : Int} (hv : rs.getD m ([], 0) = (xss, x)) (h1 : g < b') (h2 : b' < w.heap.size) (h3 : SetRow w b' xss xss.length) :
    RuleRow ((w.setCell ⟨g, m * 2, none⟩ (.slice (some ⟨b', 0, none⟩) xss.length xss.length)).setCell ⟨g, m * 2 + 1, none⟩ (.int .i64 x)) g rs (m + 1) := by
  have o1 := ho.set (m * 2) (.slice (some ⟨b', 0, none⟩) xss.length xss.length)
  have key : ∀ o', ((w.setCell ⟨g, m * 2, none⟩ (.slice (some ⟨b', 0, none⟩) xss.length xss.length)).setCell ⟨g, m * 2 + 1, none⟩ (.int .i64 x)).cell? ⟨g, o', none⟩ = if o' = m * 2 + 1 then some (.int .i64 x) else if o' = m * 2 then some (.slice (some ⟨b', 0, none⟩) xss.length xss.length) else w.cell? ⟨g, o', none⟩ := fun o' => by
    rw [set_at o1 hm, set_at ho (by omega)]
  have hsz : ((w.setCell ⟨g, m * 2, none⟩ (.slice (some ⟨b', 0, none⟩) xss.length xss.length)).setCell ⟨g, m * 2 + 1, none⟩ (.int .i64 x)).heap.size = w.heap.size := by simp [World.setCell]
  have hk : ∀ k o, g < k → ((w.setCell ⟨g, m * 2, none⟩ (.slice (some ⟨b', 0, none⟩) xss.length xss.length)).setCell ⟨g, m * 2 + 1, none⟩ (.int .i64 x)).cell? ⟨k, o, none⟩ = w.cell? ⟨k, o, none⟩ := fun k o hb => by
    rw [World.cell?_setCell_other _ _ _ _ (fun h => by injection h with h _; omega), World.cell?_setCell_other _ _ _ _ (fun h => by injection h with h _; omega)]
  intro i hi
  rw [key, key, hsz]
  by_cases e : i = m
  · subst e
    rw [hv, if_neg (by omega), if_pos rfl, if_pos rfl]
    exact ⟨⟨b', h1, h2, rfl, h3.other (Nat.le_of_eq hsz.symm) fun k o hk' => hk k o (by omega)⟩, rfl⟩
  · rw [if_neg (by omega), if_neg (by omega), if_neg (by omega), if_neg (by omega)]
    obtain ⟨⟨b2, q1, q2, q3, q4⟩, q5⟩ := h i (by omega)
    exact ⟨⟨b2, q1, q2, q3, q4.other (Nat.le_of_eq hsz.symm) fun k o hk' => hk k o (by omega)⟩, q5⟩
/-- a copied list of rules reads as the list that it was copied from -/
theorem RuleRow.rules {w w0 : World} {g B c0 : Nat} {A0 : Option Addr} {rs : List Rl} (hs : RuleRow w g rs rs.length) (hg : g < w.heap.size) (H : RulesAt w0 B A0 c0 rs) (hn : rs.length ≤ 1048576)
    (hm : ∀ i, i < rs.length → (rs.getD i ([], 0)).1.length ≤ 1048576 ∧ ∀ j, j < (rs.getD i ([], 0)).1.length → ((rs.getD i ([], 0)).1.getD j []).length ≤ 1048576) :
    RulesAt w w.heap.size (some ⟨g, 0, none⟩) rs.length rs := by
  refine ⟨Nat.le_refl _, by omega, .inr ⟨g, 0, rfl, hg, fun i hi => ?_⟩⟩
  obtain ⟨⟨b', h1, h2, h3, h4⟩, h5⟩ := hs i hi
  rw [Nat.zero_add]
  rcases H.2.2 with hz | ⟨_, _, _, _, hp⟩
  · omega
  · obtain ⟨⟨_, _, _, hf⟩, _⟩ := hp i hi
    exact ⟨⟨_, _, h3, h4.sets h2 hf (hm i hi).1 (hm i hi).2⟩, h5⟩

set_option maxRecDepth 100000 in
set_option maxHeartbeats 1000000 in
theorem toRuleS_any (A : Option Addr) (c : Nat) (rs : List Rl) (w : World) (h : RulesAt w w.heap.size A c rs) (hn : rs.length ≤ 1048576)
    (hm : ∀ i, i < rs.length → (rs.getD i ([], 0)).1.length ≤ 1048576 ∧ ∀ j, j < (rs.getD i ([], 0)).1.length → ((rs.getD i ([], 0)).1.getD j []).length ≤ 1048576) :
    Calls Try.prog 44 #[.slice A rs.length c] w fun e w' => e = .returned (.slice (some ⟨w.heap.size, 0, none⟩) rs.length rs.length) ∧ w.heap.size < w'.heap.size ∧ RulesAt w' w'.heap.size (some ⟨w.heap.size, 0, none⟩) rs.length rs ∧ RuleRow w' w.heap.size rs rs.length ∧ Below w.heap.size w w' := by
  have H := Lib.hid h
  have HM := Lib.hid hm
  obtain ⟨hlc, hc, hrow⟩ := h
  obtain ⟨i0, hi, hz0, hz1, hz2⟩ := info_parts infoRule
  have hmk := fun W => run_make (P := Try.prog) W 29 65 i0 _ Try.underlying29 hi hz0 .i64 .i64 rs.length rs.length (by omega) (by omega) (by rw [hz2]; omega) (by omega)
  simp only [Int.toNat_natCast, hz1] at hmk
  clear hi hz0 hz1 hz2 hm
  go_enter Try.func44, Try.ntmps44
  go_wp2
  have hown0 := OwnBlk.made w #[.slice none 0 0, .int .i64 0] (rs.length * 2) 65
  have hb0 : Below w.heap.size w (w.alloc (.cells (madeCells #[Value.slice none 0 0, .int .i64 0] (rs.length * 2)) 65)) := (Below.refl _ _).alloc (Nat.le_refl _) _
  generalize w.alloc (.cells (madeCells #[Value.slice none 0 0, .int .i64 0] (rs.length * 2)) 65) = W0 at hown0 hb0 ⊢
  clear hmk
  go_loopw [4] (fun i wr => ∃ k : Nat, k ≤ rs.length ∧ i = .int .i64 k ∧ RuleRow wr w.heap.size rs k ∧ OwnBlk wr w.heap.size (rs.length * 2) ∧ Below w.heap.size w wr) (fun i _ => rs.length - (intOf i).toNat)
  case atStart => exact ⟨0, Nat.zero_le _, rfl, fun i hi => absurd hi (by omega), hown0, hb0⟩
  case round =>
    obtain ⟨k, hk, rfl, hdone, hown, hb⟩ := hrel
    by_cases hlt : k < rs.length
    · rcases hrow with hz | ⟨b, off, rfl, hB, hrow⟩
      · omega
      · have hkl : (k : Int) < (rs.length : Int) := by omega
        obtain ⟨⟨A', c', q1, q2⟩, q3⟩ := hrow k hlt
        have d1 := (hb.cell (p := ⟨b, off + k * 2, none⟩) hB).trans q1
        have d2 := (hb.cell (p := ⟨b, off + k * 2 + 1, none⟩) hB).trans q3
        have hr := (q2.below hb).mono hb.size
        have hl := HM.out k hlt
        have HR := Lib.hid hr
        have HDN := Lib.hid hdone
        have HBB := Lib.hid hb
        have HL := Lib.hid hl
        obtain ⟨xss, x, hxs⟩ : ∃ xss x, rs.getD k ([], 0) = (xss, x) := ⟨_, _, rfl⟩
        rw [hxs] at d1 d2 HR HL
        have HXS := Lib.hid hxs
        simp only [] at d1 d2
        clear hxs q1 q2 q3 hr hl hdone hrow
        go_wp2_with (go_at_call 75; refine (toRule_any _ _ xss x _ HR.out HL.out.1 HL.out.2).mono ?_; rintro e w1 ⟨b', rfl, g1, g2, g3, hb1⟩; have G1 := Lib.hid g1; have G2 := Lib.hid g2; have G3 := Lib.hid g3; have hown1 := hown.below hb1 hown.2.2; obtain ⟨v0, g0⟩ := hown1.1 (k * 2) (by omega); obtain ⟨v1, g1'⟩ := hown1.1 (k * 2 + 1) (by omega); have f0 := hown1.2.1 (k * 2); have f1 := hown1.2.1 (k * 2 + 1))
        have hp0 := RuleRow.put (b' := b') hown1 (HDN.out.step hb1 hown.2.2) (by omega) HXS.out (by have := G1.out; have := hown.2.2; omega) G2.out G3.out
        have hp2 := two_below' (g := w.heap.size) (HBB.out.trans (hb1.mono HBB.out.size)) (Nat.le_refl _) (k * 2) (k * 2 + 1) (.slice (some ⟨b', 0, none⟩) xss.length xss.length) (.int .i64 x)
        go_roundw
        case rel => exact ⟨k + 1, hlt, by go_num, hp0, (hown1.set (k * 2) _).set (k * 2 + 1) _, hp2⟩
        case measure => simp [intOf]; omega
    · obtain rfl : k = rs.length := by omega
      go_wp2
      go_ret
      exact ⟨rfl, hown.2.2, hdone.rules hown.2.2 H.out hn HM.out, hdone, hb⟩
end Go.Proofs.Ytppciomdbabepaa
