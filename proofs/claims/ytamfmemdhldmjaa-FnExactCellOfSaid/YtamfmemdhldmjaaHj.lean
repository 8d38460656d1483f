/-
  The grid of a table, of both programs, and the number of its cells.
-/
import Derived.Test.YtamfmemdhldmjaaHi
namespace Go.Proofs.Ytamfmemdhldmjaa
open Go.RowKit Sets

/-- the first m rows lie in block g, each in a block of its own behind it -/
def GrRow (w : World) (g : Nat) (gs : List (List Sp)) (m : Nat) : Prop := ∀ i, i < m → ∃ b' cap, g < b' ∧ b' < w.heap.size ∧ w.cell? ⟨g, i, none⟩ = some (.slice (some ⟨b', 0, none⟩) (gs.getD i []).length cap) ∧ ((gs.getD i []).length ≤ cap ∧ cap ≤ 9223372036854775807) ∧ RowAt w b' 0 (gs.getD i [])
theorem GrRow.step {w w' : World} {g m : Nat} {gs : List (List Sp)} (h : GrRow w g gs m) (hb : Below w.heap.size w w') (hg : g < w.heap.size) : GrRow w' g gs m := fun i hi => by
  obtain ⟨b', cap, h1, h2, h3, h5, h4⟩ := h i hi
  exact ⟨b', cap, h1, Nat.lt_of_lt_of_le h2 hb.size, (hb.cell (p := ⟨g, i, none⟩) hg).trans h3, h5, h4.below hb h2⟩
theorem GrRow.put {w : World} {g n m b' cap : Nat} {gs : List (List Sp)} (ho : OwnBlk w g n) (h : GrRow w g gs m) (hm : m < n) (h1 : g < b') (h2 : b' < w.heap.size) (h5 : (gs.getD m []).length ≤ cap ∧ cap ≤ 9223372036854775807) (h3 : RowAt w b' 0 (gs.getD m [])) :
    GrRow (w.setCell ⟨g, m, none⟩ (.slice (some ⟨b', 0, none⟩) (gs.getD m []).length cap)) g gs (m + 1) := fun i hi => by
  have hsz : (w.setCell ⟨g, m, none⟩ (.slice (some ⟨b', 0, none⟩) (gs.getD m []).length cap)).heap.size = w.heap.size := by simp [World.setCell]
  have hk : ∀ b'' o, g < b'' → (w.setCell ⟨g, m, none⟩ (.slice (some ⟨b', 0, none⟩) (gs.getD m []).length cap)).cell? ⟨b'', o, none⟩ = w.cell? ⟨b'', o, none⟩ := fun b'' o hb => World.cell?_setCell_other _ _ _ _ (fun h => by injection h with h _; omega)
  by_cases e : i = m
  · subst e
    exact ⟨b', cap, h1, by rw [hsz]; exact h2, by rw [set_at ho hm, if_pos rfl], h5, h3.keep fun o => hk b' o h1⟩
  · obtain ⟨b2, c2, q1, q2, q3, q5, q4⟩ := h i (by omega)
    exact ⟨b2, c2, q1, by rw [hsz]; exact q2, by rw [set_at ho hm, if_neg e]; exact q3, q5, q4.keep fun o => hk b2 o q1⟩

set_option maxRecDepth 100000 in
set_option maxHeartbeats 2000000 in
theorem implCnt_any (A : Option Addr) (c : Nat) (gs : List (List Sp)) (w : World) (h : SetsAt w w.heap.size A c gs) (hsm : ∀ k, k ≤ gs.length → 1 ≤ cntP gs k ∧ cntP gs k ≤ 1568239201) :
    Calls Try.prog 68 #[.slice A gs.length c] w fun e w' => e = .returned (.int .i64 (cntP gs gs.length)) ∧ Below w.heap.size w w' := by
  have HSM := Lib.hid hsm
  obtain ⟨hlc, hc, hrow⟩ := h
  clear hsm
  go_enter Try.func68, Try.ntmps68
  go_wp2
  go_loopw [3, 8] (fun q i wr => ∃ k : Nat, k ≤ gs.length ∧ q = .int .i64 (cntP gs k) ∧ i = .int .i64 k ∧ Below w.heap.size w wr) (fun _ i _ => gs.length - (intOf i).toNat)
  case atStart => exact ⟨0, Nat.zero_le _, rfl, rfl, Below.refl _ _⟩
  case round =>
    obtain ⟨k, hk, rfl, rfl, hb⟩ := hrel
    by_cases hlt : k < gs.length
    · rcases hrow with hz | ⟨b, off, rfl, hB, hrow⟩
      · omega
      · have hkl : (k : Int) < (gs.length : Int) := by omega
        obtain ⟨A', c', q1, q2⟩ := hrow k hlt
        rw [Nat.mul_one] at q1
        have d1 := (hb.cell (p := ⟨b, off + k, none⟩) hB).trans q1
        have hs1 := HSM.out k (by omega)
        have hs2 := HSM.out (k + 1) (by omega)
        have hsu := Lib.hid (show cntP gs (k + 1) = cntP gs k * ((gs.getD k []).length : Int) from rfl)
        rw [hsu.out] at hs2
        have hl9 : (gs.getD k []).length ≤ 9223372036854775807 := Nat.le_trans q2.1 q2.2.1
        generalize (gs.getD k []).length = l at d1 hs2 hsu hl9
        clear q1 q2 hrow
        have HB := Lib.hid hb
        have HLT := Lib.hid hlt
        go_wp2
        go_roundw
        case rel => exact ⟨k + 1, HLT.out, by rw [hsu.out], by go_num, HB.out⟩
        case measure => simp [intOf]; omega
    · obtain rfl : k = gs.length := by omega
      have hs1 := HSM.out gs.length (by omega)
      go_wp2
      go_ret
      exact ⟨rfl, hb⟩

set_option maxRecDepth 100000 in
set_option maxHeartbeats 4000000 in
theorem implGrid_any (v : Value) (t : Tb) (w : World) (hT : TabAt w w.heap.size v t) (hV : tabB t = true) :
    Calls Try.prog 104 #[v] w fun e w' => ∃ A' c', e = .returned (.slice A' (gridC t).length c') ∧ SetsAt w' w'.heap.size A' c' (gridC t) ∧ Below w.heap.size w w' := by
  have HT := Lib.hid hT
  obtain ⟨A1, c1, A2, c2, rfl, hC, hR⟩ := hT
  have HV := Lib.hid hV
  have hc4 := (tab_parts hV).1.2.1
  have HGL := Lib.hid (gridC_len t)
  have HAT := Lib.hid (fun (k : Nat) => gridC_at (t := t) (k := k))
  have HFT := Lib.hid (fun (k : Nat) => fits_cutC hV (k := k))
  have HCL := Lib.hid (fun (k : Nat) => cutC_len hV (k := k))
  obtain ⟨cs, x, rs⟩ := t
  simp only [] at HT HGL HAT HFT HCL hc4 ⊢
  obtain ⟨t, ht⟩ : ∃ t : Tb, (⟨cs, x, rs⟩ : Tb) = t := ⟨_, rfl⟩
  rw [ht] at HT HV HGL HAT HFT HCL ⊢
  clear hC hR hV
  obtain ⟨i0, hi, hz0, hz1, hz2⟩ := info_parts infoSlice
  have hmk := fun W => run_make (P := Try.prog) W 79 43 i0 _ Try.underlying79 hi hz0 .i64 .i64 cs.length cs.length (by omega) (by omega) (by rw [hz2]; omega) (by omega)
  have hmk2 : ∀ W, (Instr.makeSlice 82 (.int .i64 (cs.length : Int)) (.int .i64 (cs.length : Int))).run Try.prog W = _ := fun W => run_make (P := Try.prog) W 82 43 i0 _ Try.underlying82 hi hz0 .i64 .i64 cs.length cs.length (by omega) (by omega) (by rw [hz2]; omega) (by omega)
  simp only [Int.toNat_natCast, hz1] at hmk2
  clear hi hz0 hz1 hz2 hmk
  have hb0 : Below w.heap.size w (w.alloc (.cells #[.slice A1 cs.length c1, .int .i64 x, .slice A2 rs.length c2] 32)) := (Below.refl _ _).alloc (Nat.le_refl _) _
  have X := Lib.hid (TBox.made w A1 cs.length c1 x A2 rs.length c2 32)
  obtain ⟨p0, p1, p2, p3⟩ := X.out
  have hsz : (w.alloc (.cells #[.slice A1 cs.length c1, .int .i64 x, .slice A2 rs.length c2] 32)).heap.size = w.heap.size + 1 := by simp
  clear p3
  go_enter Try.func104, Try.ntmps104
  go_wp2
  clear p0 p1 p2 hmk2
  have hown0 := OwnBlk.made (w.alloc (.cells #[.slice A1 cs.length c1, .int .i64 x, .slice A2 rs.length c2] 32)) #[.slice none 0 0] (cs.length * 1) 43
  have hb1 : Below w.heap.size w ((w.alloc (.cells #[.slice A1 cs.length c1, .int .i64 x, .slice A2 rs.length c2] 32)).alloc (.cells (madeCells #[Value.slice none 0 0] (cs.length * 1)) 43)) := hb0.alloc (by simp) _
  have X1 := Lib.hid (X.out.step ((Below.refl _ _).alloc (Nat.le_refl _) (.cells (madeCells #[Value.slice none 0 0] (cs.length * 1)) 43)))
  clear X hb0
  rw [hsz] at hown0
  simp only [Nat.mul_one] at hown0 hb1 X1
  try simp only [Nat.mul_one]
  try rw [hsz]
  clear hsz
  generalize (w.alloc (.cells #[.slice A1 cs.length c1, .int .i64 x, .slice A2 rs.length c2] 32)).alloc (.cells (madeCells #[Value.slice none 0 0] cs.length) 43) = W0 at hown0 hb1 X1 ⊢
  go_loopw [11] (fun i wr => ∃ k : Nat, k ≤ cs.length ∧ i = .int .i64 k ∧ GrRow wr (w.heap.size + 1) (gridC t) k ∧ OwnBlk wr (w.heap.size + 1) cs.length ∧ Below w.heap.size w wr ∧ TBox wr w.heap.size A1 cs.length c1 x A2 rs.length c2) (fun i _ => cs.length - (intOf i).toNat)
  case atStart => exact ⟨0, Nat.zero_le _, rfl, fun i hi => absurd hi (by omega), hown0, hb1, X1.out⟩
  case round =>
    clear hown0 hb1 X1
    obtain ⟨k, hk, rfl, hdone, hown, hb, hx⟩ := hrel
    have HX := Lib.hid hx
    obtain ⟨p0, p1, p2, p3⟩ := hx
    clear p3
    have HDN := Lib.hid hdone
    have HBB := Lib.hid hb
    by_cases hlt : k < cs.length
    · have hkl : (k : Int) < (cs.length : Int) := by omega
      have hkt : k < t.cols.length := by rw [← ht]; exact hlt
      have HLT := Lib.hid hlt
      clear hdone hb
      go_wp2_with fail
      clear p0 p1 p2
      refine (implCuts_any _ t k wr ((HT.out.below HBB.out).mono HBB.out.size) HV.out hkt).mono ?_
      rintro e w2 ⟨v', rfl, hO, hf, b2⟩
      have hown1 := hown.below b2 hown.2.2
      have hx2 := HX.out.step b2
      have hd2 := HDN.out.step b2 hown.2.2
      have HB2 := Lib.hid (HBB.out.trans (b2.mono HBB.out.size))
      have hcl := HCL.out k hlt
      have hat := HAT.out k hlt
      rcases hO.cases with ⟨_, hq⟩ | ⟨b', cap, rfl, g1, g2, g3, g4, g5, _⟩
      · rw [hq] at hcl; simp at hcl
      have hp0 := Lib.hid (GrRow.put (b' := b') (cap := cap) hown1 hd2 hlt (by have := hown.2.2; omega) g2 (by rw [hat]; exact ⟨g3, g4⟩) (by rw [hat]; exact g5))
      rw [hat] at hp0
      have hp2 := Lib.hid (HB2.out.setCell (p := ⟨w.heap.size + 1, k, none⟩) (by simp) (.slice (some ⟨b', 0, none⟩) (cutC t k).length cap))
      have hxp := Lib.hid (show TBox (w2.setCell ⟨w.heap.size + 1, k, none⟩ (.slice (some ⟨b', 0, none⟩) (cutC t k).length cap)) w.heap.size A1 cs.length c1 x A2 rs.length c2 from hx2.low ((Below.refl (w.heap.size + 1) w2).setCell (p := ⟨w.heap.size + 1, k, none⟩) (Nat.le_refl _) _) (Nat.lt_succ_self _))
      have hop := Lib.hid (hown1.set k (.slice (some ⟨b', 0, none⟩) (cutC t k).length cap))
      obtain ⟨v0, g0⟩ := hown1.1 k hlt
      have f0 := hown1.2.1 k
      clear hO hf b2 hd2 g5 hx2
      go_wp2
      go_roundw
      case rel => exact ⟨k + 1, HLT.out, by go_num, hp0.out, hop.out, hp2.out, hxp.out⟩
      case measure => simp [intOf]; omega
    · obtain rfl : k = cs.length := by omega
      have hgl : (gridC t).length = cs.length := HGL.out
      have HS := Lib.hid (show SetsAt wr wr.heap.size (some ⟨w.heap.size + 1, 0, none⟩) cs.length (gridC t) from ⟨by omega, by omega, .inr ⟨w.heap.size + 1, 0, rfl, hown.2.2, fun i hi => by
        obtain ⟨b', cap, h1, h2, h3, h5, h4⟩ := HDN.out i (by omega)
        rw [Nat.zero_add, Nat.mul_one]
        refine ⟨_, _, h3, h5.1, h5.2, ?_, .inr ⟨b', 0, rfl, h2, h4⟩⟩
        rw [HAT.out i (by omega)]
        exact HFT.out i (by omega)⟩⟩)
      clear hdone
      go_wp2
      go_ret
      exact ⟨some ⟨w.heap.size + 1, 0, none⟩, cs.length, by rw [hgl]; rfl, HS.out, HBB.out⟩

/-- what a call hands back that makes a grid -/
def GrR (t : Tb) (w : World) (e : Ending) (w' : World) : Prop := ∃ g, e = .returned (.tuple #[g, .bool (gridB t)]) ∧ (gridB t = true → ∃ A c, g = .slice A (gridC t).length c ∧ SetsAt w' w'.heap.size A c (gridC t)) ∧ Below w.heap.size w w'
def GrR3 (t : Tb) (w : World) (e : Ending) (w' : World) : Prop := ∃ g n, e = .returned (.tuple #[g, .int .i64 n, .bool (gridB t)]) ∧ (gridB t = true → n = cntV t ∧ ∃ A c, g = .slice A (gridC t).length c ∧ SetsAt w' w'.heap.size A c (gridC t)) ∧ Below w.heap.size w w'
theorem gridB_val {t : Tb} : gridB t = true → tabB t = true := fun h => by unfold gridB at h; simp at h; exact h.1

set_option maxRecDepth 100000 in
set_option maxHeartbeats 2000000 in
theorem implGO_any (v : Value) (t : Tb) (w : World) (hT : TabAt w w.heap.size v t) :
    Calls Try.prog 67 #[v] w (GrR t w) := by
  have HT := Lib.hid hT
  obtain ⟨A1, c1, A2, c2, rfl, hC, hR⟩ := hT
  obtain ⟨cs, x, rs⟩ := t
  simp only [] at HT ⊢
  clear hC hR
  have hb0 : Below w.heap.size w (w.alloc (.cells #[.slice A1 cs.length c1, .int .i64 x, .slice A2 rs.length c2] 32)) := (Below.refl _ _).alloc (Nat.le_refl _) _
  have X := Lib.hid (TBox.made w A1 cs.length c1 x A2 rs.length c2 32)
  obtain ⟨p0, p1, p2, p3⟩ := X.out
  clear p3
  go_enter Try.func67, Try.ntmps67
  go_wp2_with fail
  clear p0 p1 p2
  generalize (w.alloc (.cells #[.slice A1 cs.length c1, .int .i64 x, .slice A2 rs.length c2] 32)) = W at hb0 X ⊢
  refine (implTabV_any _ ⟨cs, x, rs⟩ W (HT.out.step hb0)).mono ?_
  rintro e w1 ⟨rfl, b1⟩
  obtain ⟨p0, p1, p2, p3⟩ := X.out.step b1
  have B := Lib.hid (hb0.trans (b1.mono hb0.size))
  clear p3 X b1 hb0
  cases htv : tabB ⟨cs, x, rs⟩
  · have hv := Lib.hid (show gridB ⟨cs, x, rs⟩ = false by unfold gridB; rw [htv]; rfl)
    clear htv
    go_wp2
    go_ret2
    exact ⟨.slice none 0 0, by rw [hv.out]; rfl, (fun h => by rw [hv.out] at h; cases h), B.out⟩
  · have HI := Lib.hid htv
    have hv := Lib.hid (show gridB ⟨cs, x, rs⟩ = decide (cntV ⟨cs, x, rs⟩ ≤ 20000) by unfold gridB; rw [htv]; rfl)
    have HSM := Lib.hid (fun k hk => cntP_small htv (k := k) hk)
    clear htv
    go_wp2_with fail
    clear p0 p1 p2
    refine (implGrid_any _ ⟨cs, x, rs⟩ w1 (HT.out.step B.out) HI.out).mono ?_
    rintro e w2 ⟨A', c', rfl, hS, b2⟩
    have HS := Lib.hid hS
    have B2 := Lib.hid (B.out.trans (b2.mono B.out.size))
    clear hS b2
    go_wp2_with fail
    refine (implCnt_any A' c' _ w2 HS.out (fun k hk => HSM.out k (by rw [gridC_len] at hk; exact hk))).mono ?_
    rintro e w3 ⟨rfl, b3⟩
    have B3 := Lib.hid (B2.out.trans (b3.mono B2.out.size))
    have HS3 := Lib.hid ((HS.out.below b3).mono b3.size)
    have HC := Lib.hid (show cntP (gridC ⟨cs, x, rs⟩) (gridC ⟨cs, x, rs⟩).length = cntV ⟨cs, x, rs⟩ from rfl)
    rw [HC.out]
    generalize cntV ⟨cs, x, rs⟩ = n at hv
    clear b3 HC
    go_wp2
    go_ret2
    exact ⟨_, by rw [hv.out]; rfl, fun _ => ⟨A', c', rfl, HS3.out⟩, B3.out⟩

set_option maxRecDepth 100000 in
set_option maxHeartbeats 2000000 in
theorem specRight_any (v : Value) (t : Tb) (w : World) (hT : TabAt w w.heap.size v t) :
    Calls Try.prog 66 #[v] w (GrR3 t w) := by
  have HT := Lib.hid hT
  obtain ⟨A1, c1, A2, c2, rfl, hC, hR⟩ := hT
  obtain ⟨cs, x, rs⟩ := t
  simp only [] at HT ⊢
  clear hC hR
  have hb0 : Below w.heap.size w (w.alloc (.cells #[.slice A1 cs.length c1, .int .i64 x, .slice A2 rs.length c2] 32)) := (Below.refl _ _).alloc (Nat.le_refl _) _
  have X := Lib.hid (TBox.made w A1 cs.length c1 x A2 rs.length c2 32)
  obtain ⟨p0, p1, p2, p3⟩ := X.out
  clear p3
  go_enter Try.func66, Try.ntmps66
  go_wp2_with fail
  clear p0 p1 p2
  generalize (w.alloc (.cells #[.slice A1 cs.length c1, .int .i64 x, .slice A2 rs.length c2] 32)) = W at hb0 X ⊢
  refine (specTabV_any _ ⟨cs, x, rs⟩ W (HT.out.step hb0)).mono ?_
  rintro e w1 ⟨rfl, b1⟩
  obtain ⟨p0, p1, p2, p3⟩ := X.out.step b1
  have B := Lib.hid (hb0.trans (b1.mono hb0.size))
  clear p3 X b1 hb0
  cases htv : tabB ⟨cs, x, rs⟩
  · have hv := Lib.hid (show gridB ⟨cs, x, rs⟩ = false by unfold gridB; rw [htv]; rfl)
    clear htv
    go_wp2
    go_ret3
    exact ⟨.slice none 0 0, 0, by rw [hv.out]; rfl, (fun h => by rw [hv.out] at h; cases h), B.out⟩
  · have HI := Lib.hid htv
    have hv := Lib.hid (show gridB ⟨cs, x, rs⟩ = decide (cntV ⟨cs, x, rs⟩ ≤ 20000) by unfold gridB; rw [htv]; rfl)
    clear htv
    go_wp2_with fail
    clear p0 p1 p2
    refine (specGrid_any _ ⟨cs, x, rs⟩ w1 (HT.out.step B.out) HI.out).mono ?_
    rintro e w2 ⟨A', c', rfl, hS, b2⟩
    have HS := Lib.hid hS
    have B2 := Lib.hid (B.out.trans (b2.mono B.out.size))
    rw [← hv.out]
    clear hS b2
    go_wp2
    go_ret3
    exact ⟨_, _, rfl, fun _ => ⟨rfl, A', c', rfl, HS.out⟩, B2.out⟩

/-- what a call hands back that has counted the cells -/
def CntR (t : Tb) (w : World) (e : Ending) (w' : World) : Prop := e = .returned (.tuple #[.int .i64 (ccV t), .bool (gridB t)]) ∧ Below w.heap.size w w'
set_option maxRecDepth 100000 in
set_option maxHeartbeats 2000000 in
theorem specCC_any (v : Value) (t : Tb) (w : World) (hT : TabAt w w.heap.size v t) :
    Calls Try.prog 30 #[v] w (CntR t w) := by
  have HT := Lib.hid hT
  obtain ⟨A1, c1, A2, c2, rfl, hC, hR⟩ := hT
  obtain ⟨cs, x, rs⟩ := t
  simp only [] at HT ⊢
  clear hC hR
  have hb0 : Below w.heap.size w (w.alloc (.cells #[.slice A1 cs.length c1, .int .i64 x, .slice A2 rs.length c2] 32)) := (Below.refl _ _).alloc (Nat.le_refl _) _
  have X := Lib.hid (TBox.made w A1 cs.length c1 x A2 rs.length c2 32)
  obtain ⟨p0, p1, p2, p3⟩ := X.out
  clear p3
  go_enter Try.func30, Try.ntmps30
  go_wp2_with fail
  clear p0 p1 p2
  generalize (w.alloc (.cells #[.slice A1 cs.length c1, .int .i64 x, .slice A2 rs.length c2] 32)) = W at hb0 X ⊢
  refine (specRight_any _ ⟨cs, x, rs⟩ W (HT.out.step hb0)).mono ?_
  rintro e w1 ⟨g, n, rfl, hG, b1⟩
  have B := Lib.hid (hb0.trans (b1.mono hb0.size))
  have HG := Lib.hid hG
  have HCC := Lib.hid (show ccV ⟨cs, x, rs⟩ = if gridB ⟨cs, x, rs⟩ = true then cntV ⟨cs, x, rs⟩ else 0 from rfl)
  clear X b1 hb0 hG
  cases hg : gridB ⟨cs, x, rs⟩
  · have HV := Lib.hid hg
    clear hg
    go_wp2
    go_ret2
    exact ⟨by rw [HCC.out, HV.out]; rfl, B.out⟩
  · obtain ⟨rfl, _⟩ := HG.out hg
    have HV := Lib.hid hg
    clear hg
    go_wp2
    go_ret2
    exact ⟨by rw [HCC.out, HV.out]; rfl, B.out⟩

set_option maxRecDepth 100000 in
set_option maxHeartbeats 2000000 in
theorem implCC_any (v : Value) (t : Tb) (w : World) (hT : TabAt w w.heap.size v t) :
    Calls Try.prog 31 #[v] w (CntR t w) := by
  have HT := Lib.hid hT
  obtain ⟨A1, c1, A2, c2, rfl, hC, hR⟩ := hT
  obtain ⟨cs, x, rs⟩ := t
  simp only [] at HT ⊢
  clear hC hR
  have hb0 : Below w.heap.size w (w.alloc (.cells #[.slice A1 cs.length c1, .int .i64 x, .slice A2 rs.length c2] 32)) := (Below.refl _ _).alloc (Nat.le_refl _) _
  have X := Lib.hid (TBox.made w A1 cs.length c1 x A2 rs.length c2 32)
  obtain ⟨p0, p1, p2, p3⟩ := X.out
  clear p3
  go_enter Try.func31, Try.ntmps31
  go_wp2_with fail
  clear p0 p1 p2
  generalize (w.alloc (.cells #[.slice A1 cs.length c1, .int .i64 x, .slice A2 rs.length c2] 32)) = W at hb0 X ⊢
  refine (implGO_any _ ⟨cs, x, rs⟩ W (HT.out.step hb0)).mono ?_
  rintro e w1 ⟨g, rfl, hG, b1⟩
  have B := Lib.hid (hb0.trans (b1.mono hb0.size))
  have HG := Lib.hid hG
  have HCC := Lib.hid (show ccV ⟨cs, x, rs⟩ = if gridB ⟨cs, x, rs⟩ = true then cntV ⟨cs, x, rs⟩ else 0 from rfl)
  clear X b1 hb0 hG
  cases hg : gridB ⟨cs, x, rs⟩
  · have HV := Lib.hid hg
    clear hg
    go_wp2
    go_ret2
    exact ⟨by rw [HCC.out, HV.out]; rfl, B.out⟩
  · obtain ⟨A', c', rfl, hS⟩ := HG.out hg
    have HV := Lib.hid hg
    have HS := Lib.hid hS
    clear hg hS
    go_wp2_with fail
    refine (implCnt_any A' c' _ w1 HS.out (fun k hk => cntP_small (gridB_val HV.out) (k := k) (by rw [gridC_len] at hk; exact hk))).mono ?_
    rintro e w3 ⟨rfl, b3⟩
    have B3 := Lib.hid (B.out.trans (b3.mono B.out.size))
    have HC := Lib.hid (show cntP (gridC ⟨cs, x, rs⟩) (gridC ⟨cs, x, rs⟩).length = ccV ⟨cs, x, rs⟩ by rw [HCC.out, HV.out]; rfl)
    rw [HC.out]
    obtain ⟨n, hn⟩ : ∃ n, ccV ⟨cs, x, rs⟩ = n := ⟨_, rfl⟩
    have HN := Lib.hid hn
    rw [hn]
    clear b3 HC HCC hn
    go_wp2
    go_ret2
    exact ⟨by rw [HN.out, HV.out]; rfl, B3.out⟩
theorem specCC_ex (v : Value) (t : Tb) (w : World) (hT : TabAt w w.heap.size v t) :
    Calls Try.prog 30 #[v] w fun e w' => e = .returned (.tuple #[.int .i64 (ccV t), .bool (gridB t)]) ∧ Below w.heap.size w w' := specCC_any v t w hT
theorem implCC_ex (v : Value) (t : Tb) (w : World) (hT : TabAt w w.heap.size v t) :
    Calls Try.prog 31 #[v] w fun e w' => e = .returned (.tuple #[.int .i64 (ccV t), .bool (gridB t)]) ∧ Below w.heap.size w w' := implCC_any v t w hT
end Go.Proofs.Ytamfmemdhldmjaa
