/-
  Inputs of tables: the program.
-/
import Derived.Test.YtamfmemdhldmjaaGreatDoorUiM
import Derived.Test.YtamfmemdhldmjaaGreatDoorUkM
import Derived.Deep.RegionHeld3
import Derived.Test.YtamfmemdhldmjaaGreatDoorVcM
import Derived.Test.YtamfmemdhldmjaaGreatDoorRdM
namespace Go.Proofs.YtamfmemdhldmjaaGreatDoor
open Go.RowKit Sets


set_option maxRecDepth 100000 in
set_option maxHeartbeats 2000000 in
theorem implInV_any (v : Value) (t : Tb) (A : Option Addr) (c : Nat) (ns : List Int) (w : World) (hT : TabAt w w.heap.size v t) (hN : IntsAt w w.heap.size A c ns) :
    Calls Tryz.prog 25 #[v, .slice A ns.length c] w fun e w' => e = .returned (.bool (inpB t ns)) ∧ Below w.heap.size w w' := by
  have HT := Lib.hid hT
  have HN := Lib.hid hN
  obtain ⟨A1, c1, A2, c2, rfl, hC, hR⟩ := hT
  obtain ⟨cs, x, rs⟩ := t
  simp only [] at HT hC ⊢
  obtain ⟨hlc, hc, hrow⟩ := hC
  obtain ⟨hfit, hlc2, hcc2, hrow2⟩ := hN
  clear hR hfit
  have hb0 : Below w.heap.size w (w.alloc (.cells #[.slice A1 cs.length c1, .int .i64 x, .slice A2 rs.length c2] 34)) := (Below.refl _ _).alloc (Nat.le_refl _) _
  have X := Lib.hid (TBox.made w A1 cs.length c1 x A2 rs.length c2 34)
  obtain ⟨p0, p1, p2, p3⟩ := X.out
  clear p3
  go_enter Tryz.func25, Tryz.ntmps25
  go_wp2_with fail
  clear p0 p1 p2
  generalize (w.alloc (.cells #[.slice A1 cs.length c1, .int .i64 x, .slice A2 rs.length c2] 34)) = W at hb0 X ⊢
  refine (implTabV_any _ ⟨cs, x, rs⟩ W (HT.out.step hb0)).mono ?_
  rintro e w1 ⟨rfl, b1⟩
  have X1 := Lib.hid (X.out.step b1)
  obtain ⟨p0, p1, p2, p3⟩ := X1.out
  have B := Lib.hid (hb0.trans (b1.mono hb0.size))
  clear p3 X b1 hb0
  cases htv : tabB ⟨cs, x, rs⟩
  · have hv := Lib.hid (inp_no (ns := ns) htv)
    clear htv
    go_wp2
    try trivial
    go_ret
    exact ⟨by rw [hv.out]; rfl, B.out⟩
  · have hv := Lib.hid (inp_yes (ns := ns) htv)
    have HP := Lib.hid (tab_parts htv)
    clear htv
    by_cases hl : ns.length = cs.length
    · have hne : ((ns.length : Int) != (cs.length : Int)) = false := by simp [hl]
      have HL := Lib.hid hl
      have hv2 := Lib.hid (show inpB ⟨cs, x, rs⟩ ns = (List.range cs.length).all (inAt cs ns) by rw [hv.out]; exact ins_yes hl)
      clear hl hv
      go_wp2
      clear hne p0 p1 p2
      go_loopw [21] (fun i wr => ∃ k : Nat, k ≤ cs.length ∧ i = .int .i64 k ∧ Hid (∀ j, j < k → inAt cs ns j = true) ∧ Below w1.heap.size w1 wr) (fun i _ => cs.length - (intOf i).toNat)
      case atStart => exact ⟨0, Nat.zero_le _, rfl, Lib.hid (fun i hi => absurd hi (by omega)), Below.refl _ _⟩
      case round =>
        obtain ⟨k, hk, rfl, hall, hb⟩ := hrel
        have hbw := B.out.trans (hb.mono B.out.size)
        by_cases hlt : k < cs.length
        · rcases hrow with hz | ⟨b, off, rfl, hB, hrow⟩
          · omega
          · rcases hrow2 with hz | ⟨b2, off2, rfl, hB2, hrow2⟩
            · have := HL.out; omega
            · have hkl : (k : Int) < (cs.length : Int) := by omega
              have hkl2 : (k : Int) < (ns.length : Int) := by have := HL.out; omega
              obtain ⟨u1, u2, u3⟩ := hrow k hlt
              have v1 := hrow2 k (by have := HL.out; omega)
              rw [Nat.mul_one] at v1
              obtain ⟨d0, _, _, _⟩ := X1.out.step hb
              have d1 := (hbw.cell (p := ⟨b, off + k * 3, none⟩) hB).trans u1
              have d2 := (hbw.cell (p := ⟨b, off + k * 3 + 1, none⟩) hB).trans u2
              have d3 := (hbw.cell (p := ⟨b, off + k * 3 + 2, none⟩) hB).trans u3
              obtain ⟨ht, HT'⟩ : ∃ t, Hid (inAt cs ns k = t) := ⟨_, Lib.hid rfl⟩
              have HCB := Lib.hid (HP.out.2.1 k hlt)
              obtain ⟨⟨L, a, b'⟩, hv'⟩ : ∃ v, cs.getD k (false, 0, 0) = v := ⟨_, rfl⟩
              obtain ⟨n, hn⟩ : ∃ n, ns.getD k 0 = n := ⟨_, rfl⟩
              have HI := Lib.hid (show haveB (colS L a b') n = ht by
                have hc := HCB.out
                unfold cAt at hc
                rw [hv'] at hc
                rw [← HT'.out, have_col n hc]
                unfold inAt
                rw [hv', hn])
              rw [hv'] at d1 d2 d3
              rw [hn] at v1
              simp only [] at d1 d2 d3
              have HB := Lib.hid hb
              have hba := hb.alloc hb.size (.cells #[.bool L, .int .i64 a, .int .i64 b'] 65)
              have HBA := Lib.hid (hbw.alloc hbw.size (.cells #[.bool L, .int .i64 a, .int .i64 b'] 65))
              have e1 := (HBA.out.cell (p := ⟨b2, off2 + k, none⟩) hB2).trans v1
              obtain ⟨f0, f1, f2⟩ := ColAt.box wr L a b' 65
              have HZ : Hid (wr.heap.size < (wr.alloc (.cells #[.bool L, .int .i64 a, .int .i64 b'] 65)).heap.size) := Lib.hid (by simp)
              have HZ2 : Hid (b2 < (wr.alloc (.cells #[.bool L, .int .i64 a, .int .i64 b'] 65)).heap.size) := Lib.hid (Nat.lt_of_lt_of_le hB2 HBA.out.size)
              have HA := Lib.hid hall
              have HBB := Lib.hid hba
              clear u1 u2 u3 v1 hv' hn hrow hrow2 hb hbw hall hba
              go_upto_region 6 with fail
              generalize wr.alloc (.cells #[.bool L, .int .i64 a, .int .i64 b'] 65) = w2 at HBA e1 f0 f1 f2 HZ HZ2 HBB ⊢
              go_region_held3 (fun w' => (w'.cell? ⟨wr.heap.size, 0, none⟩ = some (.bool L) ∧ w'.cell? ⟨wr.heap.size, 1, none⟩ = some (.int .i64 a) ∧ w'.cell? ⟨wr.heap.size, 2, none⟩ = some (.int .i64 b')) ∧ w'.cell? ⟨b2, off2 + k, none⟩ = some (.int .i64 n)) (first | exact ⟨⟨f0, f1, f2⟩, e1⟩ | exact ⟨⟨(Below.cell b4 (p := ⟨wr.heap.size, 0, none⟩) HZ.out).trans f0, (Below.cell b4 (p := ⟨wr.heap.size, 1, none⟩) HZ.out).trans f1, (Below.cell b4 (p := ⟨wr.heap.size, 2, none⟩) HZ.out).trans f2⟩, (Below.cell b4 (p := ⟨b2, off2 + k, none⟩) HZ2.out).trans e1⟩) (first
                | (go_at_call 45; refine (implColSet_any L a b' _).mono ?_; rintro e w3 ⟨v3, rfl, o3, g3, b3⟩; obtain ⟨A3, c3, rfl, r3, _⟩ := o3.form g3; have R3 := Lib.hid r3; have f0 : w3.cell? ⟨wr.heap.size, 0, none⟩ = some (.bool L) := (b3.cell (p := ⟨wr.heap.size, 0, none⟩) HZ.out).trans f0; have f1 : w3.cell? ⟨wr.heap.size, 1, none⟩ = some (.int .i64 a) := (b3.cell (p := ⟨wr.heap.size, 1, none⟩) HZ.out).trans f1; have f2 : w3.cell? ⟨wr.heap.size, 2, none⟩ = some (.int .i64 b') := (b3.cell (p := ⟨wr.heap.size, 2, none⟩) HZ.out).trans f2; have e1 : w3.cell? ⟨b2, off2 + k, none⟩ = some (.int .i64 n) := (b3.cell (p := ⟨b2, off2 + k, none⟩) HZ2.out).trans e1; have HZ := Lib.hid (Nat.lt_of_lt_of_le HZ.out b3.size); have HZ2 := Lib.hid (Nat.lt_of_lt_of_le HZ2.out b3.size); have B3 := Lib.hid b3; clear o3 g3 r3 b3)
                | (go_at_call 44; refine (implHave_any _ _ (colS L a b') n _ R3.out).mono ?_; rw [HI.out]; rintro e w4 ⟨rfl, b4⟩; have B4 := Lib.hid b4))
              all_goals
                clear f0 f1 f2 e1 HZ HZ2 R3
                have HF1 := Lib.hid (HBB.out.drew.trans ((B3.out.trans (B4.out.mono B3.out.size)).mono HBB.out.drew.size))
                have HF2 := Lib.hid (HBA.out.drew.trans ((B3.out.trans (B4.out.mono B3.out.size)).mono HBA.out.drew.size))
                cases ht
                · go_wp2
                  go_ret
                  exact ⟨by rw [hv2.out, all_no hlt HT'.out]; rfl, HF2.out⟩
                · go_wp2
                  go_roundw
                  case rel =>
                    refine ⟨k + 1, hlt, by go_num, Lib.hid (fun i hi => ?_), HF1.out⟩
                    by_cases e : i = k
                    · rw [e]; exact HT'.out
                    · exact HA.out i (by omega)
                  case measure => simp [intOf]; omega
        · obtain rfl : k = cs.length := by omega
          have HA := Lib.hid (show inpB ⟨cs, x, rs⟩ ns = true by rw [hv2.out]; exact all_yes hall.out)
          clear hall
          go_wp2
          go_ret
          exact ⟨by rw [HA.out]; rfl, hbw⟩
    · have hne : ((ns.length : Int) != (cs.length : Int)) = true := by simp; omega
      have hv2 := Lib.hid (show inpB ⟨cs, x, rs⟩ ns = false by rw [hv.out]; exact ins_no hl)
      clear hl hv
      go_wp2
      go_ret
      exact ⟨by rw [hv2.out]; rfl, B.out⟩
end Go.Proofs.YtamfmemdhldmjaaGreatDoor

namespace Go.Proofs.YtamfmemdhldmjaaGreatDoor
open Go.RowKit Sets


set_option maxRecDepth 100000 in
set_option maxHeartbeats 2000000 in
theorem implMat_any (A1 : Option Addr) (c1 : Nat) (xss : List (List Sp)) (A : Option Addr) (c : Nat) (ns : List Int) (w : World) (h1 : SetsAt w w.heap.size A1 c1 xss) (h2 : IntsAt w w.heap.size A c ns) (hl : ns.length = xss.length) :
    Calls Tryz.prog 54 #[.slice A1 xss.length c1, .slice A ns.length c] w fun e w' => e = .returned (.bool (mB xss ns)) ∧ Below w.heap.size w w' := by
  obtain ⟨hlc, hc, hrow⟩ := h1
  obtain ⟨hfit, hlc2, hcc2, hrow2⟩ := h2
  have HL := Lib.hid hl
  clear hfit hl
  go_enter Tryz.func54, Tryz.ntmps54
  go_wp2
  go_loopw [9] (fun i wr => ∃ k : Nat, k ≤ xss.length ∧ i = .int .i64 k ∧ Hid (∀ j, j < k → mAt xss ns j = true) ∧ Below w.heap.size w wr) (fun i _ => xss.length - (intOf i).toNat)
  case atStart => exact ⟨0, Nat.zero_le _, rfl, Lib.hid (fun i hi => absurd hi (by omega)), Below.refl _ _⟩
  case round =>
    obtain ⟨k, hk, rfl, hall, hb⟩ := hrel
    by_cases hlt : k < xss.length
    · rcases hrow with hz | ⟨b, off, rfl, hB, hrow⟩
      · omega
      · rcases hrow2 with hz | ⟨b2, off2, rfl, hB2, hrow2⟩
        · have := HL.out; omega
        · have hkl : (k : Int) < (xss.length : Int) := by omega
          have hkl2 : (k : Int) < (ns.length : Int) := by have := HL.out; omega
          obtain ⟨A', c', u1, u2⟩ := hrow k hlt
          have v1 := hrow2 k (by have := HL.out; omega)
          rw [Nat.mul_one] at v1 u1
          have d1 := (hb.cell (p := ⟨b, off + k, none⟩) hB).trans u1
          have e1 := (hb.cell (p := ⟨b2, off2 + k, none⟩) hB2).trans v1
          have R := Lib.hid ((u2.below hb).mono hb.size)
          obtain ⟨ht, HT⟩ : ∃ t, Hid (mAt xss ns k = t) := ⟨_, Lib.hid rfl⟩
          obtain ⟨xs, hxs⟩ : ∃ xs, xss.getD k [] = xs := ⟨_, rfl⟩
          obtain ⟨n, hn⟩ : ∃ n, ns.getD k 0 = n := ⟨_, rfl⟩
          have HI := Lib.hid (show haveB xs n = ht by rw [← HT.out]; unfold mAt; rw [hxs, hn])
          rw [hxs] at d1 R
          rw [hn] at e1
          have HB := Lib.hid hb
          have HA := Lib.hid hall
          clear u1 u2 v1 hxs hn hrow hrow2 hb hall
          cases ht
          · go_wp2_with (go_at_call 44; refine (implHave_any _ _ xs n _ R.out).mono ?_; rw [HI.out]; rintro e w' ⟨rfl, hb3⟩)
            go_ret
            exact ⟨by rw [show mB xss ns = false from all_no (by have := HL.out; omega) HT.out]; rfl, HB.out.trans (hb3.mono HB.out.size)⟩
          · go_wp2_with (go_at_call 44; refine (implHave_any _ _ xs n _ R.out).mono ?_; rw [HI.out]; rintro e w' ⟨rfl, hb3⟩)
            go_roundw
            case rel =>
              refine ⟨k + 1, hlt, by go_num, Lib.hid (fun i hi => ?_), HB.out.trans (hb3.mono HB.out.size)⟩
              by_cases e : i = k
              · rw [e]; exact HT.out
              · exact HA.out i (by omega)
            case measure => simp [intOf]; omega
    · obtain rfl : k = xss.length := by omega
      have HA := Lib.hid (show mB xss ns = true from all_yes (fun i hi => hall.out i (by have := HL.out; omega)))
      clear hall
      go_wp2
      go_ret
      exact ⟨by rw [HA.out]; rfl, hb⟩

/-- the tests of a row -/
theorem field_row (a b : Value) (w : World) : (Instr.field 82 (.agg #[a, b]) 0).run Tryz.prog w = .ok a w := by kernel_rfl
set_option maxRecDepth 100000 in
set_option maxHeartbeats 2000000 in
theorem implRM_any (v : Value) (t : Tb) (n : Int) (A : Option Addr) (c : Nat) (ns : List Int) (w : World) (hT : TabAt w w.heap.size v t) (hN : IntsAt w w.heap.size A c ns) :
    Calls Tryz.prog 33 #[v, .int .i64 n, .slice A ns.length c] w fun e w' => e = .returned (.bool (rmB t n ns)) ∧ Below w.heap.size w w' := by
  have HT := Lib.hid hT
  have HN := Lib.hid hN
  obtain ⟨A1, c1, A2, c2, rfl, hC, hR⟩ := hT
  obtain ⟨cs, x, rs⟩ := t
  simp only [] at HT hR ⊢
  have HR := Lib.hid hR
  clear hC hR hN
  have hb0 : Below w.heap.size w (w.alloc (.cells #[.slice A1 cs.length c1, .int .i64 x, .slice A2 rs.length c2] 34)) := (Below.refl _ _).alloc (Nat.le_refl _) _
  have X := Lib.hid (TBox.made w A1 cs.length c1 x A2 rs.length c2 34)
  obtain ⟨p0, p1, p2, p3⟩ := X.out
  clear p3
  go_enter Tryz.func33, Tryz.ntmps33
  go_wp2_with fail
  clear p0 p1 p2
  generalize (w.alloc (.cells #[.slice A1 cs.length c1, .int .i64 x, .slice A2 rs.length c2] 34)) = W at hb0 X ⊢
  refine (implInV_any _ ⟨cs, x, rs⟩ _ _ ns W (HT.out.step hb0) (HN.out.step hb0)).mono ?_
  rintro e w1 ⟨rfl, b1⟩
  obtain ⟨p0, p1, p2, p3⟩ := X.out.step b1
  have B := Lib.hid (hb0.trans (b1.mono hb0.size))
  clear p3 X b1 hb0
  cases htv : inpB ⟨cs, x, rs⟩ ns
  · have hv := Lib.hid (rm_no1 (n := n) htv)
    clear htv
    go_wp2
    try trivial
    go_ret
    exact ⟨by rw [hv.out]; rfl, B.out⟩
  · have HI := Lib.hid htv
    clear htv
    by_cases q1 : n < 0
    · have hv := Lib.hid (rm_no2 (t := ⟨cs, x, rs⟩) (ns := ns) q1)
      go_wp2
      try trivial
      go_ret
      exact ⟨by rw [hv.out]; rfl, B.out⟩
    · have q1' : decide (n < 0) = false := decide_eq_false (by omega)
      by_cases q2 : (rs.length : Int) ≤ n
      · have hv := Lib.hid (rm_no3 (t := ⟨cs, x, rs⟩) (ns := ns) q2)
        go_wp2
        try trivial
        go_ret
        exact ⟨by rw [hv.out]; rfl, B.out⟩
      · have q2' : n < (rs.length : Int) := by omega
        have q3 : decide ((rs.length : Int) ≤ n) = false := decide_eq_false (by omega)
        have q4 : 0 ≤ n := by omega
        obtain ⟨k, hk⟩ : ∃ k : Nat, n = (k : Int) := ⟨n.toNat, by omega⟩
        subst hk
        have hkl : k < rs.length := by omega
        have hv := Lib.hid (show rmB ⟨cs, x, rs⟩ (k : Int) ns = mB (rs.getD k ([], 0)).1 ns from rm_yes HI.out q4 q2')
        have hlen := inp_rule HI.out hkl
        rcases HR.out.2.2 with hz | ⟨b, off, rfl, hB, hrow⟩
        · omega
        · obtain ⟨⟨A', c', u1, u2⟩, u3⟩ := hrow k hkl
          have d1 := (B.out.cell (p := ⟨b, off + k * 2, none⟩) hB).trans u1
          have d2 := (B.out.cell (p := ⟨b, off + k * 2 + 1, none⟩) hB).trans u3
          have HS := Lib.hid ((u2.below B.out).mono B.out.size)
          obtain ⟨xss, y, hxs⟩ : ∃ xss y, rs.getD k ([], 0) = (xss, y) := ⟨_, _, rfl⟩
          rw [hxs] at d1 d2 HS
          simp only [] at hlen
          rw [hxs] at hlen
          have HV := Lib.hid (show rmB ⟨cs, x, rs⟩ (k : Int) ns = mB xss ns by rw [hv.out, hxs])
          have HLEN := Lib.hid hlen
          simp only [] at d1 d2
          clear u1 u2 u3 hrow hxs hlen q1 q2 hv
          go_wp2_with fail
          clear d1 d2 p0 p1 p2
          refine (rowOf_any _ _ _ _ _).mono ?_
          rintro e w2 ⟨rfl, b2⟩
          have B2 := Lib.hid (B.out.trans (b2.mono B.out.size))
          have HS2 := Lib.hid (((HS.out.below b2).mono b2.size))
          clear b2
          have hfld := field_row
          go_wp2_with fail
          refine (implMat_any A' c' xss A c ns w2 HS2.out (HN.out.step B2.out) HLEN.out).mono ?_
          rintro e w3 ⟨rfl, b3⟩
          go_wp2
          go_ret
          exact ⟨by rw [HV.out]; rfl, B2.out.trans (b3.mono B2.out.size)⟩

theorem colS_valid {L : Bool} {a b : Int} (h : colB L a b = true) : validB (colS L a b) = true := ((isT_iff L a b _).1 (col_isT h)).2.1
theorem colS_size {L : Bool} {a b : Int} (h : colB L a b = true) : sizeV (colS L a b) = b - a + 1 := by
  rw [sizeV_yes (colS_valid h), colS_yes h]
  simp [sizeS]

end Go.Proofs.YtamfmemdhldmjaaGreatDoor
