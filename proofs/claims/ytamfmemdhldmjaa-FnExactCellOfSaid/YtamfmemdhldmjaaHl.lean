/-
  The cell of an input: the model.
-/
import Derived.Test.YtamfmemdhldmjaaHk
namespace Go.Proofs.Ytamfmemdhldmjaa
open Go.RowKit Sets
/-- what a call hands back that has found a cell -/
def CofR (t : Tb) (ns : List Int) (w : World) (e : Ending) (w' : World) : Prop := e = .returned (.tuple #[.int .i64 (coV t ns), .bool (cobV t ns)]) ∧ Below w.heap.size w w'
theorem cof_no {t : Tb} {ns : List Int} (h : cobV t ns = false) : coV t ns = 0 := by unfold coV; rw [if_neg (by rw [h]; simp)]
theorem cof_yes {t : Tb} {ns : List Int} (h1 : gridB t = true) (h2 : inpB t ns = true) : cobV t ns = true ∧ coV t ns = nuP (gridC t) ns (gridC t).length := by
  have : cobV t ns = true := by unfold cobV; rw [h1, h2]; rfl
  exact ⟨this, by unfold coV; rw [if_pos this]⟩
theorem set_read {w : World} {B : Nat} {A : Option Addr} {c : Nat} {gs : List (List Sp)} (h : SetsAt w B A c gs) {k : Nat} (hk : k < gs.length) :
    ∃ b off A' c', A = some ⟨b, off, none⟩ ∧ b < B ∧ w.cell? ⟨b, off + k, none⟩ = some (.slice A' (gs.getD k []).length c') ∧ Reads w B A' c' (gs.getD k []) := by
  obtain ⟨_, _, hz | ⟨b, off, e, hB, hp⟩⟩ := h
  · omega
  · obtain ⟨A', c', q1, q2⟩ := hp k hk
    rw [Nat.mul_one] at q1
    exact ⟨b, off, A', c', e, hB, q1, q2⟩
theorem int_read {w : World} {B : Nat} {A : Option Addr} {c : Nat} {ns : List Int} (h : IntsAt w B A c ns) {k : Nat} (hk : k < ns.length) :
    ∃ b off, A = some ⟨b, off, none⟩ ∧ b < B ∧ w.cell? ⟨b, off + k, none⟩ = some (.int .i64 (ns.getD k 0)) := by
  obtain ⟨_, _, _, hz | ⟨b, off, e, hB, hp⟩⟩ := h
  · omega
  · have := hp k hk
    rw [Nat.mul_one] at this
    exact ⟨b, off, e, hB, this⟩

set_option maxRecDepth 100000 in
set_option maxHeartbeats 4000000 in
theorem specCOf_any (v : Value) (t : Tb) (A : Option Addr) (c : Nat) (ns : List Int) (w : World) (hT : TabAt w w.heap.size v t) (hN : IntsAt w w.heap.size A c ns) :
    Calls Try.prog 34 #[v, .slice A ns.length c] w (CofR t ns w) := by
  have HT := Lib.hid hT
  have HN := Lib.hid hN
  obtain ⟨A1, c1, A2, c2, rfl, hC, hR⟩ := hT
  obtain ⟨cs, x, rs⟩ := t
  simp only [] at HT hC ⊢
  have HCO := Lib.hid hC
  clear hC hR hN
  have hb0 : Below w.heap.size w (w.alloc (.cells #[.slice A1 cs.length c1, .int .i64 x, .slice A2 rs.length c2] 32)) := (Below.refl _ _).alloc (Nat.le_refl _) _
  have X := Lib.hid (TBox.made w A1 cs.length c1 x A2 rs.length c2 32)
  obtain ⟨p0, p1, p2, p3⟩ := X.out
  clear p3
  go_enter Try.func34, Try.ntmps34
  go_wp2_with fail
  clear p0 p1 p2
  generalize (w.alloc (.cells #[.slice A1 cs.length c1, .int .i64 x, .slice A2 rs.length c2] 32)) = W at hb0 X ⊢
  refine (specRight_any _ ⟨cs, x, rs⟩ W (HT.out.step hb0)).mono ?_
  rintro e w1 ⟨g, n0, rfl, hG, b1⟩
  have B := Lib.hid (hb0.trans (b1.mono hb0.size))
  have HG := Lib.hid hG
  replace X := Lib.hid (X.out.step b1)
  obtain ⟨p0, p1, p2, p3⟩ := X.out
  clear p3 b1 hb0 hG
  cases hg : gridB ⟨cs, x, rs⟩
  · have hb : Hid (cobV ⟨cs, x, rs⟩ ns = false) := Lib.hid (by unfold cobV; rw [hg]; rfl)
    clear hg
    go_wp2
    try trivial
    go_ret2
    exact ⟨by rw [cof_no hb.out, hb.out]; rfl, B.out⟩
  · obtain ⟨rfl, A', c', rfl, hS⟩ := HG.out hg
    have HGR := Lib.hid hg
    have HS := Lib.hid hS
    clear hg hS HG
    go_wp2_with fail
    clear p0 p1 p2
    refine (specInput_any A1 A2 rs.length c1 c2 cs x _ _ ns w1 ((HCO.out.below B.out).mono B.out.size) (HN.out.step B.out)).mono ?_
    rw [show insB cs ns = inpB ⟨cs, x, rs⟩ ns from (inp_yes (gridB_val HGR.out)).symm]
    rintro e w2 ⟨rfl, b2⟩
    have B2 := Lib.hid (B.out.trans (b2.mono B.out.size))
    have HS2 := Lib.hid ((HS.out.below b2).mono b2.size)
    have HN2 := Lib.hid (HN.out.step B2.out)
    clear b2
    cases hi : inpB ⟨cs, x, rs⟩ ns
    · have hb : Hid (cobV ⟨cs, x, rs⟩ ns = false) := Lib.hid (by unfold cobV; rw [hi, Bool.and_false])
      clear hi
      go_wp2
      try trivial
      go_ret2
      exact ⟨by rw [cof_no hb.out, hb.out]; rfl, B2.out⟩
    · have hco := Lib.hid (cof_yes HGR.out hi)
      have hln : ns.length = cs.length := ins_len (inp_parts hi).2
      have HLN := Lib.hid (show ns.length = (gridC ⟨cs, x, rs⟩).length by rw [gridC_len]; exact hln)
      have HC4 := Lib.hid (show (gridC ⟨cs, x, rs⟩).length ≤ 4 by rw [gridC_len]; exact (tab_parts (inp_parts hi).1).1.2.1)
      have HPO := Lib.hid (fun (k : Nat) (hk : k < (gridC ⟨cs, x, rs⟩).length) => show IsPos ((gridC ⟨cs, x, rs⟩).getD k []) (ns.getD k 0) (posV ((gridC ⟨cs, x, rs⟩).getD k []) (ns.getD k 0)) by
        rw [gridC_len] at hk; rw [gridC_at hk]; exact in_pos hi hk)
      have HOK := Lib.hid (fun (k : Nat) (hk : k < (gridC ⟨cs, x, rs⟩).length) => show ∃ a b, CutsOk ((gridC ⟨cs, x, rs⟩).getD k []) a b by
        rw [gridC_len] at hk; rw [gridC_at hk]; exact ⟨_, _, col_ok (inp_parts hi).1 hk⟩)
      have HSM := Lib.hid (fun (k : Nat) (hk : k < (gridC ⟨cs, x, rs⟩).length) => show 0 ≤ nuP (gridC ⟨cs, x, rs⟩) ns k * (((gridC ⟨cs, x, rs⟩).getD k []).length : Int) ∧ nuP (gridC ⟨cs, x, rs⟩) ns k * (((gridC ⟨cs, x, rs⟩).getD k []).length : Int) + (posV ((gridC ⟨cs, x, rs⟩).getD k []) (ns.getD k 0) : Int) ≤ 1568239201 ∧ 0 ≤ nuP (gridC ⟨cs, x, rs⟩) ns k ∧ nuP (gridC ⟨cs, x, rs⟩) ns k ≤ 1568239201 by
        rw [gridC_len] at hk; rw [gridC_at hk]; exact nuP_small hi hk)
      clear hi hln
      generalize gridC ⟨cs, x, rs⟩ = gs at *
      go_wp2
      go_loopw [9, 10] (fun q i wr => ∃ k : Nat, k ≤ gs.length ∧ i = .int .i64 k ∧ q = .int .i64 (nuP gs ns k) ∧ Below w2.heap.size w2 wr) (fun _ i _ => gs.length - (intOf i).toNat)
      case atStart => exact ⟨0, Nat.zero_le _, rfl, rfl, Below.refl _ _⟩
      case round =>
        obtain ⟨k, hk, rfl, rfl, hb⟩ := hrel
        by_cases hlt : k < gs.length
        · have hkl : (k : Int) < (gs.length : Int) := by omega
          obtain ⟨b1, off1, A3, c3, rfl, hB1, q1, q2⟩ := set_read HS2.out hlt
          obtain ⟨b2, off2, rfl, hB2, q3⟩ := int_read HN2.out (k := k) (by rw [HLN.out]; exact hlt)
          have hkn : (k : Int) < (ns.length : Int) := by rw [HLN.out]; exact hkl
          have hpo := HPO.out k hlt
          obtain ⟨a, b, hok⟩ := HOK.out k hlt
          have hsm := HSM.out k hlt
          have hsu := Lib.hid (show nuP gs ns (k + 1) = nuP gs ns k * ((gs.getD k []).length : Int) + (posV (gs.getD k []) (ns.getD k 0) : Int) from rfl)
          have HQ1 := Lib.hid q1
          have HQ3 := Lib.hid q3
          have HQ2 := Lib.hid q2
          generalize gs.getD k [] = xs at HQ1 HQ2 hpo hok hsm hsu
          generalize ns.getD k 0 = y at HQ3 hpo hsm hsu
          obtain ⟨p, hp⟩ : ∃ p, posV xs y = p := ⟨_, rfl⟩
          rw [hp] at hpo hsm hsu
          have HPP := Lib.hid hpo
          have HPL := hpo.1
          have HBF := Lib.hid (fun m (hm : m < p) => pos_before hok hpo hm)
          have HSM2 := Lib.hid hsm
          have HB := Lib.hid hb
          clear q1 q2 q3 hpo hok hp hsm hb
          go_wp2
          go_loopw [11] (fun r wr2 => ∃ m : Nat, m ≤ p ∧ r = .int .i64 m ∧ Below w2.heap.size w2 wr2) (fun r _ => p - (intOf r).toNat)
          case atStart => exact ⟨0, Nat.zero_le _, rfl, HB.out⟩
          case round =>
            obtain ⟨m, hm, rfl, hb⟩ := hrel
            have d1 := (hb.cell (p := ⟨b1, off1 + k, none⟩) hB1).trans HQ1.out
            have d2 := (hb.cell (p := ⟨b2, off2 + k, none⟩) hB2).trans HQ3.out
            obtain ⟨r1, r2, _, r4⟩ := HQ2.out
            have hl9 : (xs.length : Int) ≤ 9223372036854775807 := by omega
            have hm0 : (m : Int) < (xs.length : Int) := by omega
            rcases r4 with r4 | ⟨b3, off3, rfl, hB3, r4⟩
            · rw [r4] at hm0; simp at hm0; omega
            have d3 := (hb.cell (p := ⟨b3, off3 + m * 2 + 1, none⟩) hB3).trans (r4 m (by omega)).2
            have HB3 := Lib.hid hb
            obtain ⟨z, hz⟩ : ∃ z, hi xs m = z := ⟨_, rfl⟩
            rw [hz] at d3
            clear r4 hb
            by_cases hmp : m < p
            · have g1 : (m : Int) + 1 < (xs.length : Int) := by omega
              have g2 : z < y := by rw [← hz]; exact HBF.out m hmp
              have HMP := Lib.hid hmp
              clear hz
              go_wp2_with fail
              go_quiet (fail)
              have hbd := Lib.hid (below_drewN HB3.out nq)
              generalize wr.drewN nq = W9 at hbd ⊢
              clear d1 d2 d3 g1 g2
              go_wp2
              go_roundw
              case rel => exact ⟨m + 1, HMP.out, by go_num, hbd.out⟩
              case measure => simp [intOf]; omega
            · obtain rfl : m = p := by omega
              have g2 : decide (z < y) = false := decide_eq_false (by rw [← hz]; have := HPP.out.2.2; omega)
              clear hz
              by_cases hlast : m + 1 < xs.length
              · have g1 : (m : Int) + 1 < (xs.length : Int) := by omega
                have HSM4 := HSM2.out
                have hk4 : gs.length ≤ 4 := HC4.out
                go_wp2_with fail
                go_quiet (fail)
                have hbd := Lib.hid (below_drewN HB3.out nq)
                have e1 : (wr.drewN nq).cell? ⟨b1, off1 + k, none⟩ = some (.slice (some ⟨b3, off3, none⟩) xs.length c3) := d1
                generalize wr.drewN nq = W9 at hbd e1 ⊢
                clear d1 d2 d3 g1 g2
                go_wp2
                go_roundw
                case rel => exact ⟨k + 1, by omega, by go_num, by rw [hsu.out], hbd.out⟩
                case measure => simp [intOf]; omega
              · have g1 : decide ((m : Int) + 1 < (xs.length : Int)) = false := decide_eq_false (by omega)
                have HSM4 := HSM2.out
                have hk4 : gs.length ≤ 4 := HC4.out
                go_wp2_with fail
                go_quiet (fail)
                have hbd := Lib.hid (below_drewN HB3.out nq)
                have e1 : (wr.drewN nq).cell? ⟨b1, off1 + k, none⟩ = some (.slice (some ⟨b3, off3, none⟩) xs.length c3) := d1
                generalize wr.drewN nq = W9 at hbd e1 ⊢
                clear d1 d2 d3 g1 g2
                go_wp2
                go_roundw
                case rel => exact ⟨k + 1, by omega, by go_num, by rw [hsu.out], hbd.out⟩
                case measure => simp [intOf]; omega
        · obtain rfl : k = gs.length := by omega
          go_wp2
          go_ret2
          exact ⟨by rw [hco.out.1, hco.out.2]; rfl, B2.out.trans (hb.mono B2.out.size)⟩
end Go.Proofs.Ytamfmemdhldmjaa
