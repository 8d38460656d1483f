/-
  Inputs of tables and matches of rules: the model.
-/
import Derived.Test.YtamfmemdhldmjaaGreatDoorUiM
namespace Go.Proofs.YtamfmemdhldmjaaGreatDoor
open Go.RowKit Sets


set_option maxRecDepth 100000 in
set_option maxHeartbeats 2000000 in
theorem specInput_any (A1 A2 : Option Addr) (n2 c1 c2 : Nat) (cs : List Co) (x : Int) (A : Option Addr) (c : Nat) (ns : List Int) (w : World) (h1 : ColsAt w w.heap.size A1 c1 cs) (h2 : IntsAt w w.heap.size A c ns) :
    Calls Tryz.prog 37 #[.agg #[.slice A1 cs.length c1, .int .i64 x, .slice A2 n2 c2], .slice A ns.length c] w fun e w' => e = .returned (.bool (insB cs ns)) ∧ Below w.heap.size w w' := by
  have hb0 : Below w.heap.size w (w.alloc (.cells #[.slice A1 cs.length c1, .int .i64 x, .slice A2 n2 c2] 34)) := (Below.refl _ _).alloc (Nat.le_refl _) _
  have X := Lib.hid (TBox.made w A1 cs.length c1 x A2 n2 c2 34)
  obtain ⟨hlc, hc, hrow⟩ := h1
  obtain ⟨hfit, hlc2, hcc2, hrow2⟩ := h2
  clear hfit
  obtain ⟨p0, p1, p2, p3⟩ := X.out
  by_cases hl : ns.length = cs.length
  · have hne : ((ns.length : Int) != (cs.length : Int)) = false := by simp [hl]
    have HL := Lib.hid hl
    have hv := Lib.hid (ins_yes hl)
    clear hl p3
    go_enter Tryz.func37, Tryz.ntmps37
    go_wp2
    clear hne
    generalize (w.alloc (.cells #[.slice A1 cs.length c1, .int .i64 x, .slice A2 n2 c2] 34)) = W at hb0 p0 p1 p2 X ⊢
    have HZ := Lib.hid (show w.heap.size < W.heap.size from X.out.2.2.2)
    clear p1 p2 X
    go_loopw [5] (fun i wr => ∃ k : Nat, k ≤ ns.length ∧ i = .int .i64 k ∧ Hid (∀ j, j < k → inAt cs ns j = true) ∧ Below W.heap.size W wr) (fun i _ => ns.length - (intOf i).toNat)
    case atStart => exact ⟨0, Nat.zero_le _, rfl, Lib.hid (fun i hi => absurd hi (by omega)), Below.refl _ _⟩
    case round =>
      obtain ⟨k, hk, rfl, hall, hb⟩ := hrel
      have hbw := hb0.trans (hb.mono hb0.size)
      by_cases hlt : k < ns.length
      · rcases hrow with hz | ⟨b, off, rfl, hB, hrow⟩
        · have := HL.out; omega
        · rcases hrow2 with hz | ⟨b2, off2, rfl, hB2, hrow2⟩
          · omega
          · have hkl : (k : Int) < (ns.length : Int) := by omega
            have hkl2 : (k : Int) < (cs.length : Int) := by have := HL.out; omega
            obtain ⟨u1, u2, u3⟩ := hrow k (by have := HL.out; omega)
            have v1 := hrow2 k hlt
            rw [Nat.mul_one] at v1
            have d0 := (hb.cell (p := ⟨w.heap.size, 0, none⟩) HZ.out).trans p0
            have d2 := (hbw.cell (p := ⟨b, off + k * 3 + 1, none⟩) hB).trans u2
            have d3 := (hbw.cell (p := ⟨b, off + k * 3 + 2, none⟩) hB).trans u3
            have e1 := (hbw.cell (p := ⟨b2, off2 + k, none⟩) hB2).trans v1
            obtain ⟨ht, HT⟩ : ∃ t, Hid (inAt cs ns k = t) := ⟨_, Lib.hid rfl⟩
            obtain ⟨⟨L, a, b'⟩, hv'⟩ : ∃ v, cs.getD k (false, 0, 0) = v := ⟨_, rfl⟩
            obtain ⟨n, hn⟩ : ∃ n, ns.getD k 0 = n := ⟨_, rfl⟩
            have HI := Lib.hid (show (decide (a ≤ n) && decide (n ≤ b')) = ht by rw [← HT.out]; unfold inAt; rw [hv', hn])
            rw [hv'] at d2 d3
            rw [hn] at e1
            simp only [] at d2 d3
            have HB := Lib.hid hb
            have HBW := Lib.hid hbw
            have HA := Lib.hid hall
            clear u1 u2 u3 v1 hv' hn hrow hrow2 hb hbw hall
            by_cases q1 : n < a
            · have HF := Lib.hid (show ht = false by rw [← HI.out, decide_eq_false (show ¬ a ≤ n by omega)]; rfl)
              go_wp2
              go_quiet (fail)
              go_wp2
              go_ret
              exact ⟨by rw [hv.out, all_no (by have := HL.out; omega) (HT.out.trans HF.out)]; rfl, below_drewN HBW.out _⟩
            · have q1' : decide (n < a) = false := by simpa using q1
              by_cases q2 : b' < n
              · have HF := Lib.hid (show ht = false by rw [← HI.out, decide_eq_false (show ¬ n ≤ b' by omega)]; simp)
                go_wp2
                go_quiet (fail)
                go_wp2
                go_ret
                exact ⟨by rw [hv.out, all_no (by have := HL.out; omega) (HT.out.trans HF.out)]; rfl, below_drewN HBW.out _⟩
              · have q2' : decide (b' < n) = false := by simpa using q2
                have HF := Lib.hid (show ht = true by rw [← HI.out, decide_eq_true (show a ≤ n by omega), decide_eq_true (show n ≤ b' by omega)]; rfl)
                go_wp2
                go_quiet (fail)
                go_wp2
                go_roundw
                case rel =>
                  refine ⟨k + 1, hlt, by go_num, Lib.hid (fun i hi => ?_), below_drewN HB.out _⟩
                  by_cases e : i = k
                  · rw [e]; exact HT.out.trans HF.out
                  · exact HA.out i (by omega)
                case measure => simp [intOf]; omega
      · obtain rfl : k = ns.length := by omega
        have HA := Lib.hid (show insB cs ns = true by rw [hv.out]; exact all_yes fun i hi => hall.out i (by have := HL.out; omega))
        clear hall
        go_wp2
        go_ret
        exact ⟨by rw [HA.out]; rfl, hbw⟩
  · have hne : ((ns.length : Int) != (cs.length : Int)) = true := by simp; omega
    have hv := Lib.hid (ins_no hl)
    clear hl
    go_enter Tryz.func37, Tryz.ntmps37
    go_wp2
    go_ret
    exact ⟨by rw [hv.out]; rfl, hb0⟩

set_option maxRecDepth 100000 in
set_option maxHeartbeats 2000000 in
theorem specInV_any (v : Value) (t : Tb) (A : Option Addr) (c : Nat) (ns : List Int) (w : World) (hT : TabAt w w.heap.size v t) (hN : IntsAt w w.heap.size A c ns) :
    Calls Tryz.prog 21 #[v, .slice A ns.length c] w fun e w' => e = .returned (.bool (inpB t ns)) ∧ Below w.heap.size w w' := by
  have HT := Lib.hid hT
  have HN := Lib.hid hN
  obtain ⟨A1, c1, A2, c2, rfl, hC, hR⟩ := hT
  obtain ⟨cs, x, rs⟩ := t
  simp only [] at HT hC ⊢
  have HC := Lib.hid hC
  clear hR hC hN
  have hb0 : Below w.heap.size w (w.alloc (.cells #[.slice A1 cs.length c1, .int .i64 x, .slice A2 rs.length c2] 34)) := (Below.refl _ _).alloc (Nat.le_refl _) _
  have X := Lib.hid (TBox.made w A1 cs.length c1 x A2 rs.length c2 34)
  obtain ⟨p0, p1, p2, p3⟩ := X.out
  clear p3
  go_enter Tryz.func21, Tryz.ntmps21
  go_wp2_with fail
  clear p0 p1 p2
  generalize (w.alloc (.cells #[.slice A1 cs.length c1, .int .i64 x, .slice A2 rs.length c2] 34)) = W at hb0 X ⊢
  refine (specTabV_any _ ⟨cs, x, rs⟩ W (HT.out.step hb0)).mono ?_
  rintro e w1 ⟨rfl, b1⟩
  obtain ⟨p0, p1, p2, p3⟩ := X.out.step b1
  have B := Lib.hid (hb0.trans (b1.mono hb0.size))
  clear p3 X b1 hb0
  cases htv : tabB ⟨cs, x, rs⟩
  · have hv := Lib.hid (inp_no (ns := ns) htv)
    clear htv
    go_wp2
    try trivial
    go_ret
    exact ⟨by rw [hv.out]; rfl, B.out⟩
  · have hv := Lib.hid (inp_yes (ns := ns) htv)
    clear htv
    go_wp2_with fail
    clear p0 p1 p2
    refine (specInput_any A1 A2 rs.length c1 c2 cs x A c ns w1 ((HC.out.below B.out).mono B.out.size) (HN.out.step B.out)).mono ?_
    rintro e w2 ⟨rfl, b2⟩
    go_wp2
    go_ret
    exact ⟨by rw [hv.out]; rfl, B.out.trans (b2.mono B.out.size)⟩
end Go.Proofs.YtamfmemdhldmjaaGreatDoor

namespace Go.Proofs.YtamfmemdhldmjaaGreatDoor
open Go.RowKit Sets


set_option maxRecDepth 100000 in
set_option maxHeartbeats 2000000 in
theorem specMat_any (A1 : Option Addr) (c1 : Nat) (xss : List (List Sp)) (x : Int) (A : Option Addr) (c : Nat) (ns : List Int) (w : World) (h1 : SetsAt w w.heap.size A1 c1 xss) (h2 : IntsAt w w.heap.size A c ns) (hl : ns.length = xss.length) :
    Calls Tryz.prog 51 #[.agg #[.slice A1 xss.length c1, .int .i64 x], .slice A ns.length c] w fun e w' => e = .returned (.bool (mB xss ns)) ∧ Below w.heap.size w w' := by
  have hb0 : Below w.heap.size w (w.alloc (.cells #[.slice A1 xss.length c1, .int .i64 x] 70)) := (Below.refl _ _).alloc (Nat.le_refl _) _
  have p0 : (w.alloc (.cells #[.slice A1 xss.length c1, .int .i64 x] 70)).cell? ⟨w.heap.size, 0, none⟩ = some (.slice A1 xss.length c1) := by rw [World.cell?_alloc_new]; rfl
  have p1 : (w.alloc (.cells #[.slice A1 xss.length c1, .int .i64 x] 70)).cell? ⟨w.heap.size, 1, none⟩ = some (.int .i64 x) := by rw [World.cell?_alloc_new]; rfl
  have HZ : Hid (w.heap.size < (w.alloc (.cells #[.slice A1 xss.length c1, .int .i64 x] 70)).heap.size) := Lib.hid (by simp)
  obtain ⟨hlc, hc, hrow⟩ := h1
  obtain ⟨hfit, hlc2, hcc2, hrow2⟩ := h2
  have HL := Lib.hid hl
  clear hfit hl
  go_enter Tryz.func51, Tryz.ntmps51
  go_wp2
  generalize w.alloc (.cells #[.slice A1 xss.length c1, .int .i64 x] 70) = W at hb0 p0 p1 HZ ⊢
  clear p1
  go_loopw [5] (fun i wr => ∃ k : Nat, k ≤ ns.length ∧ i = .int .i64 k ∧ Hid (∀ j, j < k → mAt xss ns j = true) ∧ Below W.heap.size W wr) (fun i _ => ns.length - (intOf i).toNat)
  case atStart => exact ⟨0, Nat.zero_le _, rfl, Lib.hid (fun i hi => absurd hi (by omega)), Below.refl _ _⟩
  case round =>
    obtain ⟨k, hk, rfl, hall, hb⟩ := hrel
    have hbw := hb0.trans (hb.mono hb0.size)
    by_cases hlt : k < ns.length
    · rcases hrow with hz | ⟨b, off, rfl, hB, hrow⟩
      · have := HL.out; omega
      · rcases hrow2 with hz | ⟨b2, off2, rfl, hB2, hrow2⟩
        · omega
        · have hkl : (k : Int) < (ns.length : Int) := by omega
          have hkl2 : (k : Int) < (xss.length : Int) := by have := HL.out; omega
          obtain ⟨A', c', u1, u2⟩ := hrow k (by have := HL.out; omega)
          have v1 := hrow2 k hlt
          rw [Nat.mul_one] at v1 u1
          have d0 := (hb.cell (p := ⟨w.heap.size, 0, none⟩) HZ.out).trans p0
          have d1 := (hbw.cell (p := ⟨b, off + k, none⟩) hB).trans u1
          have e1 := (hbw.cell (p := ⟨b2, off2 + k, none⟩) hB2).trans v1
          have R := Lib.hid ((u2.below hbw).mono hbw.size)
          obtain ⟨ht, HT⟩ : ∃ t, Hid (mAt xss ns k = t) := ⟨_, Lib.hid rfl⟩
          obtain ⟨xs, hxs⟩ : ∃ xs, xss.getD k [] = xs := ⟨_, rfl⟩
          obtain ⟨n, hn⟩ : ∃ n, ns.getD k 0 = n := ⟨_, rfl⟩
          have HI := Lib.hid (show haveB xs n = ht by rw [← HT.out]; unfold mAt; rw [hxs, hn])
          rw [hxs] at d1 R
          rw [hn] at e1
          have HB := Lib.hid hb
          have HBW := Lib.hid hbw
          have HA := Lib.hid hall
          clear u1 u2 v1 hxs hn hrow hrow2 hb hbw hall
          go_wp2
          go_still_tail 9, (by kernel_rfl)
          change wpList _ _ _ _ _ wr.drew
          cases ht
          · go_wp2_with (go_at_call 73; refine (specHas1_any _ _ xs n wr.drew.heap.size _ (R.out.below (Below.refl wr.heap.size wr).drew)).mono ?_; rw [HI.out]; rintro e w' ⟨rfl, rfl⟩)
            go_ret
            exact ⟨by rw [show mB xss ns = false from all_no hlt HT.out]; rfl, HBW.out.drew⟩
          · go_wp2_with (go_at_call 73; refine (specHas1_any _ _ xs n wr.drew.heap.size _ (R.out.below (Below.refl wr.heap.size wr).drew)).mono ?_; rw [HI.out]; rintro e w' ⟨rfl, rfl⟩)
            go_roundw
            case rel =>
              refine ⟨k + 1, hlt, by go_num, Lib.hid (fun i hi => ?_), HB.out.drew⟩
              by_cases e : i = k
              · rw [e]; exact HT.out
              · exact HA.out i (by omega)
            case measure => simp [intOf]; omega
    · obtain rfl : k = ns.length := by omega
      have HA := Lib.hid (show mB xss ns = true from all_yes hall.out)
      clear hall
      go_wp2
      go_ret
      exact ⟨by rw [HA.out]; rfl, hbw⟩

theorem rm_no1 {t : Tb} {n : Int} {ns : List Int} (h : inpB t ns = false) : rmB t n ns = false := by unfold rmB; rw [h]; rfl
theorem rm_no2 {t : Tb} {n : Int} {ns : List Int} (h : n < 0) : rmB t n ns = false := by unfold rmB; rw [decide_eq_false (show ¬ 0 ≤ n by omega)]; simp
theorem rm_no3 {t : Tb} {n : Int} {ns : List Int} (h : (t.rules.length : Int) ≤ n) : rmB t n ns = false := by unfold rmB; rw [decide_eq_false (show ¬ n < (t.rules.length : Int) by omega)]; simp
theorem rm_yes {t : Tb} {n : Int} {ns : List Int} (h : inpB t ns = true) (h1 : 0 ≤ n) (h2 : n < (t.rules.length : Int)) : rmB t n ns = mB (t.rules.getD n.toNat ([], 0)).1 ns := by
  unfold rmB; rw [h, decide_eq_true h1, decide_eq_true h2]; rfl
/-- a rule of a valid table has as many tests as an input has numbers -/
theorem inp_rule {t : Tb} {ns : List Int} (h : inpB t ns = true) {i : Nat} (hi : i < t.rules.length) : ns.length = (t.rules.getD i ([], 0)).1.length := by
  obtain ⟨h1, h2⟩ := inp_parts h
  have := (tab_parts h1).2.2 i hi
  unfold rAt at this
  rw [(rule_parts this).1]
  exact ins_len h2

end Go.Proofs.YtamfmemdhldmjaaGreatDoor
