/-
  Boxes: the program.
-/
import Derived.Test.YtamfmemdhldmjaaBa
import Derived.Test.YtamfmemdhldmjaaCl
import Derived.Test.YtamfmemdhldmjaaRdM
import Derived.Shelf.Abstract
namespace Go.Proofs.Ytamfmemdhldmjaa
open Go.RowKit Sets

theorem box_low {xs : List Sp} {k : Nat} (hk : k < xs.length) (h : limB (lo xs k) (hi xs k) = false) : boxB xs = false := by
  cases e : boxB xs
  · rfl
  · have := (box_at e).2 k hk
    rw [(limB_iff _ _).2 (by omega)] at h
    cases h
theorem box_emp {xs : List Sp} {k : Nat} (hk : k < xs.length) (h : hi xs k < lo xs k) : boxB xs = false := by
  cases e : boxB xs
  · rfl
  · have := (box_at e).2 k hk
    omega

set_option maxRecDepth 100000 in
set_option maxHeartbeats 2000000 in
theorem implBox_any (A : Option Addr) (c : Nat) (xs : List Sp) (w : World) (h : Reads w w.heap.size A c xs) :
    Calls Try.prog 76 #[.slice A xs.length c] w fun e w' => e = .returned (.bool (boxB xs)) ∧ Below w.heap.size w w' := by
  obtain ⟨hlc, hc, hfit, hrow⟩ := h
  clear hfit
  by_cases h1 : xs.length < 1
  · have hv := Lib.hid (box_no (xs := xs) (by omega))
    have q1 : (xs.length : Int) < 1 := by omega
    clear h1
    go_enter Try.func76, Try.ntmps76
    go_wp2
    try trivial
    go_ret
    exact ⟨by rw [hv.out]; rfl, Below.refl _ _⟩
  have q1 : decide ((xs.length : Int) < 1) = false := decide_eq_false (by omega)
  by_cases h2 : 4 < xs.length
  · have hv := Lib.hid (box_no (xs := xs) (by omega))
    have q2 : (4 : Int) < (xs.length : Int) := by omega
    clear h1 h2
    go_enter Try.func76, Try.ntmps76
    go_wp2
    try trivial
    go_ret
    exact ⟨by rw [hv.out]; rfl, Below.refl _ _⟩
  have q2 : decide ((4 : Int) < (xs.length : Int)) = false := decide_eq_false (by omega)
  have HL := Lib.hid (show 1 ≤ xs.length ∧ xs.length ≤ 4 by omega)
  clear h1 h2
  go_enter Try.func76, Try.ntmps76
  go_wp2
  go_loopw [15] (fun i wr => ∃ k : Nat, k ≤ xs.length ∧ i = .int .i64 k ∧ Hid (∀ j, j < k → bxAt xs j = true) ∧ Below w.heap.size w wr) (fun i _ => xs.length - (intOf i).toNat)
  case atStart => exact ⟨0, Nat.zero_le _, rfl, Lib.hid (fun i hi => absurd hi (by omega)), Below.refl _ _⟩
  case round =>
    obtain ⟨k, hk, rfl, hall, hb⟩ := hrel
    by_cases hlt : k < xs.length
    · rcases hrow with rfl | ⟨b, off, rfl, hB, hrow⟩
      · simp at hlt
      · have hkl : (k : Int) < (xs.length : Int) := by omega
        obtain ⟨d1, d2⟩ := (hrow.below hb hB) k hlt
        have HB := Lib.hid (hb.alloc hb.size (.cells #[.int .i64 (lo xs k), .int .i64 (hi xs k)] 78))
        have hbx : Below wr.heap.size wr (wr.alloc (.cells #[.int .i64 (lo xs k), .int .i64 (hi xs k)] 78)) := (Below.refl _ _).alloc (Nat.le_refl _) _
        have c0 : (wr.alloc (.cells #[.int .i64 (lo xs k), .int .i64 (hi xs k)] 78)).cell? ⟨wr.heap.size, 0, none⟩ = some (.int .i64 (lo xs k)) := by rw [World.cell?_alloc_new]; rfl
        have c1 : (wr.alloc (.cells #[.int .i64 (lo xs k), .int .i64 (hi xs k)] 78)).cell? ⟨wr.heap.size, 1, none⟩ = some (.int .i64 (hi xs k)) := by rw [World.cell?_alloc_new]; rfl
        have HC := Lib.hid (And.intro c0 (And.intro c1 (show wr.heap.size < (wr.alloc (.cells #[.int .i64 (lo xs k), .int .i64 (hi xs k)] 78)).heap.size by simp)))
        have hbad := Lib.hid (box_low hlt)
        have hemp := Lib.hid (box_emp hlt)
        have hgood := Lib.hid (show limB (lo xs k) (hi xs k) = true → ¬ hi xs k < lo xs k → bxAt xs k = true from fun e1 e2 => by
          have := (limB_iff _ _).1 e1
          unfold bxAt
          rw [decide_eq_true (show -99 ≤ lo xs k by omega), decide_eq_true (show hi xs k ≤ 99 by omega), decide_eq_true (show lo xs k ≤ hi xs k by omega)]; rfl)
        generalize lo xs k = x at d1 HB c0 c1 HC hbad hemp hgood
        generalize hi xs k = y at d2 HB c0 c1 HC hbad hemp hgood
        have HLT := Lib.hid hlt
        clear hrow hb hbx c0 c1
        go_wp2_with fail
        generalize wr.alloc (.cells #[.int .i64 x, .int .i64 y] 78) = W1 at HB HC ⊢
        refine (inLimits_b x y W1).mono ?_
        rintro e w2 ⟨rfl, b2⟩
        have HB2 := Lib.hid (HB.out.trans (b2.mono HB.out.size))
        have c0 := (b2.cell (p := ⟨wr.heap.size, 0, none⟩) HC.out.2.2).trans HC.out.1
        have c1 := (b2.cell (p := ⟨wr.heap.size, 1, none⟩) HC.out.2.2).trans HC.out.2.1
        clear b2
        cases hlm : limB x y
        · have hv := Lib.hid (hbad.out hlm)
          clear hlm
          go_wp2
          try trivial
          go_ret
          exact ⟨by rw [hv.out]; rfl, HB2.out⟩
        · have HLM := Lib.hid hlm
          clear hlm
          by_cases hyx : y < x
          · have hv := Lib.hid (hemp.out hyx)
            have hd : Hid (decide (y < x) = true) := Lib.hid (decide_eq_true hyx)
            clear hyx
            go_wp2_with fail
            refine (empty_b x y w2).mono ?_
            rw [hd.out]
            rintro e w3 ⟨rfl, b3⟩
            have HB3 := Lib.hid (HB2.out.trans (b3.mono HB2.out.size))
            clear b3
            go_wp2
            try trivial
            go_ret
            exact ⟨by rw [hv.out]; rfl, HB3.out⟩
          · have hok := Lib.hid (hgood.out HLM.out (by omega))
            have hd : Hid (decide (y < x) = false) := Lib.hid (decide_eq_false hyx)
            clear hyx
            go_wp2_with fail
            refine (empty_b x y w2).mono ?_
            rw [hd.out]
            rintro e w3 ⟨rfl, b3⟩
            have HB3 := Lib.hid (HB2.out.trans (b3.mono HB2.out.size))
            clear b3
            go_wp2
            try trivial
            go_roundw
            case rel =>
              refine ⟨k + 1, HLT.out, by go_num, Lib.hid (fun i hi => ?_), HB3.out⟩
              by_cases e : i = k
              · rw [e]; exact hok.out
              · exact hall.out i (by omega)
            case measure => simp [intOf]; omega
    · obtain rfl : k = xs.length := by omega
      have hv := Lib.hid (box_good HL.out hall.out)
      clear hall
      go_wp2
      go_ret
      exact ⟨by rw [hv.out]; rfl, hb⟩

set_option maxRecDepth 100000 in
set_option maxHeartbeats 2000000 in
theorem implBSz_any (A : Option Addr) (c : Nat) (xs : List Sp) (w : World) (h : Reads w w.heap.size A c xs) :
    Calls Try.prog 39 #[.slice A xs.length c] w fun e w' => e = .returned (.int .i64 (bszV xs)) ∧ Below w.heap.size w w' := by
  have H := Lib.hid h
  obtain ⟨hlc, hc, hfit, hrow⟩ := h
  clear hfit
  go_enter Try.func39, Try.ntmps39
  go_wp2_with fail
  refine (implBox_any _ _ xs _ H.out).mono ?_
  rintro e w1 ⟨rfl, b1⟩
  cases htv : boxB xs
  · have hv := Lib.hid (show bszV xs = 0 by unfold bszV; rw [htv]; rfl)
    clear htv
    go_wp2
    go_ret
    exact ⟨by rw [hv.out]; rfl, b1⟩
  · have HV := Lib.hid (show bszV xs = szP xs xs.length by unfold bszV; rw [if_pos htv])
    have HBX := Lib.hid htv
    have B1 := Lib.hid b1
    clear htv b1
    go_wp2
    go_loopw [3, 11] (fun q i wr => ∃ k : Nat, k ≤ xs.length ∧ i = .int .i64 k ∧ q = .int .i64 (szP xs k) ∧ Below w.heap.size w wr) (fun _ i _ => xs.length - (intOf i).toNat)
    case atStart => exact ⟨0, Nat.zero_le _, rfl, rfl, B1.out⟩
    case round =>
      obtain ⟨k, hk, rfl, rfl, hb⟩ := hrel
      by_cases hlt : k < xs.length
      · rcases hrow with rfl | ⟨b, off, rfl, hB, hrow⟩
        · simp at hlt
        · have hkl : (k : Int) < (xs.length : Int) := by omega
          obtain ⟨d1, d2⟩ := (hrow.below hb hB) k hlt
          have HB := Lib.hid (hb.alloc hb.size (.cells #[.int .i64 (lo xs k), .int .i64 (hi xs k)] 78))
          have c0 : (wr.alloc (.cells #[.int .i64 (lo xs k), .int .i64 (hi xs k)] 78)).cell? ⟨wr.heap.size, 0, none⟩ = some (.int .i64 (lo xs k)) := by rw [World.cell?_alloc_new]; rfl
          have c1 : (wr.alloc (.cells #[.int .i64 (lo xs k), .int .i64 (hi xs k)] 78)).cell? ⟨wr.heap.size, 1, none⟩ = some (.int .i64 (hi xs k)) := by rw [World.cell?_alloc_new]; rfl
          have hbk := (box_at HBX.out).2 k hlt
          have hs1 := szP_small HBX.out (k := k) (by omega)
          have hs2 := szP_small HBX.out (k := k + 1) (by omega)
          have hnx : szP xs (k + 1) = szP xs k * (hi xs k - lo xs k + 1) := rfl
          have HNX := Lib.hid hnx
          rw [hnx] at hs2
          generalize lo xs k = x at d1 HB c0 c1 hbk hs2 HNX hnx
          generalize hi xs k = y at d2 HB c0 c1 hbk hs2 HNX hnx
          obtain ⟨p, hp⟩ : ∃ p, szP xs k = p := ⟨_, rfl⟩
          rw [hp] at hs1 hs2 HNX ⊢
          clear hrow hb hp hnx
          go_wp2
          go_roundw
          case rel => exact ⟨k + 1, hlt, by go_num, by rw [HNX.out], HB.out⟩
          case measure => simp [intOf]; omega
      · obtain rfl : k = xs.length := by omega
        go_wp2
        go_ret
        exact ⟨by rw [HV.out]; rfl, hb⟩

set_option maxRecDepth 100000 in
set_option maxHeartbeats 2000000 in
theorem implFst_box (A : Option Addr) (c : Nat) (xs : List Sp) (w : World) (h : Reads w w.heap.size A c xs) (hn : xs.length ≤ 1048576) :
    Calls Try.prog 78 #[.slice A xs.length c] w fun e w' => ∃ A' c', e = .returned (.slice A' (losP xs).length c') ∧ OwnN w' w.heap.size A' c' (losP xs) ∧ Below w.heap.size w w' := by
  obtain ⟨i0, hi0, hz0, hz1, hz2⟩ := infoI
  obtain ⟨hlc, hc, hfit, hrow⟩ := h
  have HF := Lib.hid (losP_fits hfit)
  have HN := Lib.hid hn
  have hmk := fun W => run_make (P := Try.prog) W 26 3 i0 _ Try.underlying26 hi0 hz0 .i64 .i64 xs.length xs.length (by omega) (by omega) (by rw [hz2]; omega) (by omega)
  simp only [Int.toNat_natCast, hz1, Nat.mul_one] at hmk
  clear hfit hi0 hz0 hz1 hz2 hn
  go_enter Try.func78, Try.ntmps78
  go_wp2
  have hown0 := OwnBlk.made w #[.int .i64 0] xs.length 3
  have hb0 : Below w.heap.size w (w.alloc (.cells (madeCells #[Value.int .i64 0] xs.length) 3)) := (Below.refl _ _).alloc (Nat.le_refl _) _
  generalize w.alloc (.cells (madeCells #[Value.int .i64 0] xs.length) 3) = W0 at hown0 hb0 ⊢
  clear hmk
  go_loopw [11] (fun i wr => ∃ k : Nat, k ≤ xs.length ∧ i = .int .i64 k ∧ IntRow wr w.heap.size (losP xs) k ∧ OwnBlk wr w.heap.size xs.length ∧ Below w.heap.size w wr) (fun i _ => xs.length - (intOf i).toNat)
  case atStart => exact ⟨0, Nat.zero_le _, rfl, fun i hi => absurd hi (by omega), hown0, hb0⟩
  case round =>
    clear hown0 hb0
    obtain ⟨k, hk, rfl, hdone, hown, hb⟩ := hrel
    by_cases hlt : k < xs.length
    · rcases hrow with rfl | ⟨b, off, rfl, hB, hrow⟩
      · simp at hlt
      · have hkl : (k : Int) < (xs.length : Int) := by omega
        obtain ⟨d1, d2⟩ := (hrow.below hb hB) k hlt
        have hbx : Below wr.heap.size wr (wr.alloc (.cells #[.int .i64 (lo xs k), .int .i64 (hi xs k)] 78)) := (Below.refl _ _).alloc (Nat.le_refl _) _
        have hown1 := hown.below hbx hown.2.2
        have hdn1 := hdone.below hbx hown.2.2
        obtain ⟨v0, g0⟩ := hown1.1 k hlt
        have f0 := hown1.2.1 k
        have hp0 := Lib.hid (IntRow.put hown1 hdn1 hlt (losP_at hlt))
        have hp1 := Lib.hid (hown1.set k (.int .i64 (lo xs k)))
        have hp2 := Lib.hid ((hb.trans (hbx.mono hb.size)).setCell (p := ⟨w.heap.size, k, none⟩) (Nat.le_refl _) (.int .i64 (lo xs k)))
        have HLT := Lib.hid hlt
        have c0 : (wr.alloc (.cells #[.int .i64 (lo xs k), .int .i64 (hi xs k)] 78)).cell? ⟨wr.heap.size, 0, none⟩ = some (.int .i64 (lo xs k)) := by rw [World.cell?_alloc_new]; rfl
        clear hrow hb hown hdone hbx hown1 hdn1
        go_wp2
        go_roundw
        case rel => exact ⟨k + 1, HLT.out, by go_num, hp0.out, hp1.out, hp2.out⟩
        case measure => simp [intOf]; omega
    · obtain rfl : k = xs.length := by omega
      have HD := Lib.hid hdone
      have HO := Lib.hid hown
      clear hdone hown
      go_wp2
      go_ret
      exact ⟨_, _, by rw [losP_len]; rfl, ⟨by rw [losP_len]; exact Nat.le_refl _, by have := HN.out; omega, HF.out, (fun g o s e => by injection e with e; injection e with e1 _; subst e1; exact ⟨Nat.le_refl _, HO.out.2.2⟩), .inr ⟨_, rfl, by rw [losP_len]; exact HD.out, by rw [losP_len]; exact HO.out⟩⟩, hb⟩

set_option maxRecDepth 100000 in
set_option maxHeartbeats 2000000 in
theorem implBF_any (A : Option Addr) (c : Nat) (xs : List Sp) (w : World) (h : Reads w w.heap.size A c xs) :
    Calls Try.prog 41 #[.slice A xs.length c] w fun e w' => ∃ A' c', e = .returned (.tuple #[.slice A' (bfsV xs).length c', .bool (boxB xs)]) ∧ OwnN w' w.heap.size A' c' (bfsV xs) ∧ Below w.heap.size w w' := by
  have H := Lib.hid h
  clear h
  go_enter Try.func41, Try.ntmps41
  go_wp2_with fail
  refine (implBox_any _ _ xs _ H.out).mono ?_
  rintro e w1 ⟨rfl, b1⟩
  cases htv : boxB xs
  · have hv := Lib.hid (show bfsV xs = [] by unfold bfsV; rw [htv]; rfl)
    have HTV := Lib.hid htv
    clear htv
    go_wp2
    go_ret2
    exact ⟨_, _, by rw [hv.out, HTV.out]; rfl, by rw [hv.out]; exact OwnN.nil _ _, b1⟩
  · have HV := Lib.hid (show bfsV xs = losP xs by unfold bfsV; rw [if_pos htv])
    have B1 := Lib.hid b1
    have H1 := Lib.hid ((H.out.below b1).mono b1.size)
    have hn := (box_at htv).1.2
    have HTV := Lib.hid htv
    clear htv b1
    go_wp2_with fail
    refine (implFst_box _ _ xs _ H1.out (by omega)).mono ?_
    rintro e w2 ⟨A', c', rfl, hO, b2⟩
    have HO := Lib.hid (hO.base B1.out.size)
    have HB := Lib.hid (B1.out.trans (b2.mono B1.out.size))
    clear hO b2
    go_wp2
    go_ret2
    exact ⟨A', c', by rw [HV.out, HTV.out]; rfl, by rw [HV.out]; exact HO.out, HB.out⟩

set_option maxRecDepth 100000 in
set_option maxHeartbeats 2000000 in
theorem eqHas_any (A : Option Addr) (c : Nat) (xs : List Sp) (A2 : Option Addr) (c2 : Nat) (ns : List Int) (w : World) (h : Reads w w.heap.size A c xs) (h2 : IntsAt w w.heap.size A2 c2 ns) :
    Calls Try.prog 79 #[.slice A xs.length c, .slice A2 ns.length c2, .func (.func 80) #[] #[]] w fun e w' => e = .returned (.bool (decide (xs.length = ns.length) && (List.range xs.length).all (hsAt xs ns))) ∧ Below w.heap.size w w' := by
  have eg : ∀ args w, (callFunc 80 args).run Try.prog w = .ok (.enter 80 args) w := enters_of Try.func80 (by kernel_rfl) rfl
  obtain ⟨hlc, hc, hfit, hrow⟩ := h
  obtain ⟨hfit2, hlc2, hcc2, hrow2⟩ := h2
  clear hfit hfit2
  by_cases hl : xs.length = ns.length
  · have hne : ((xs.length : Int) != (ns.length : Int)) = false := by simp [hl]
    have HL := Lib.hid hl
    rw [decide_eq_true hl, Bool.true_and]
    clear hl
    go_enter Try.func79, Try.ntmps79
    go_wp2
    go_loopw [17] (fun i wr => ∃ k : Nat, k ≤ xs.length ∧ i = .int .i64 k ∧ Hid (∀ j, j < k → hsAt xs ns j = true) ∧ Below w.heap.size w wr) (fun i _ => xs.length - (intOf i).toNat)
    case atStart => exact ⟨0, Nat.zero_le _, rfl, Lib.hid (fun i hi => absurd hi (by omega)), Below.refl _ _⟩
    case round =>
      obtain ⟨k, hk, rfl, hall, hb⟩ := hrel
      by_cases hlt : k < xs.length
      · rcases hrow with rfl | ⟨b, off, rfl, hB, hrow⟩
        · simp at hlt
        · rcases hrow2 with hz | ⟨b2, off2, rfl, hB2, hrow2⟩
          · have := HL.out; omega
          · have hkl : (k : Int) < (xs.length : Int) := by omega
            have hkl2 : (k : Int) < (ns.length : Int) := by have := HL.out; omega
            obtain ⟨d1, d2⟩ := (hrow.below hb hB) k hlt
            have v1 := hrow2 k (by have := HL.out; omega)
            rw [Nat.mul_one] at v1
            obtain ⟨ht, HT⟩ : ∃ t, Hid (hsAt xs ns k = t) := ⟨_, Lib.hid rfl⟩
            have hb2 := hb.alloc hb.size (.cells #[.int .i64 (lo xs k), .int .i64 (hi xs k)] 78)
            have e1 := (hb2.cell (p := ⟨b2, off2 + k, none⟩) hB2).trans v1
            have c0 : (wr.alloc (.cells #[.int .i64 (lo xs k), .int .i64 (hi xs k)] 78)).cell? ⟨wr.heap.size, 0, none⟩ = some (.int .i64 (lo xs k)) := by rw [World.cell?_alloc_new]; rfl
            have c1 : (wr.alloc (.cells #[.int .i64 (lo xs k), .int .i64 (hi xs k)] 78)).cell? ⟨wr.heap.size, 1, none⟩ = some (.int .i64 (hi xs k)) := by rw [World.cell?_alloc_new]; rfl
            have HT2 := Lib.hid (show (decide (lo xs k ≤ ns.getD k 0) && decide (ns.getD k 0 ≤ hi xs k)) = ht from HT.out)
            have HB2 := Lib.hid hb2
            generalize lo xs k = x at d1 e1 c0 c1 HB2 HT2
            generalize hi xs k = y at d2 e1 c0 c1 HB2 HT2
            generalize ns.getD k 0 = n at e1 v1 HT2
            have HLT := Lib.hid hlt
            clear v1 hrow hrow2 hne hb2 hb
            cases ht
            · go_wp2_with (go_at_fn 80; refine (spanHas_any x y n _).mono ?_; rw [HT2.out]; rintro e w' ⟨rfl, hb3⟩)
              go_ret
              exact ⟨by rw [all_no HLT.out HT.out]; rfl, HB2.out.trans (hb3.mono HB2.out.size)⟩
            · go_wp2_with (go_at_fn 80; refine (spanHas_any x y n _).mono ?_; rw [HT2.out]; rintro e w' ⟨rfl, hb3⟩)
              go_roundw
              case rel =>
                refine ⟨k + 1, HLT.out, by go_num, Lib.hid (fun i hi => ?_), HB2.out.trans (hb3.mono HB2.out.size)⟩
                by_cases e : i = k
                · rw [e]; exact HT.out
                · exact hall.out i (by omega)
              case measure => simp [intOf]; omega
      · obtain rfl : k = xs.length := by omega
        have HA := Lib.hid (all_yes hall.out)
        clear hall
        go_wp2
        go_ret
        exact ⟨by rw [HA.out]; rfl, hb⟩
  · have hne : ((xs.length : Int) != (ns.length : Int)) = true := by simp; omega
    rw [decide_eq_false hl, Bool.false_and]
    clear hl
    go_enter Try.func79, Try.ntmps79
    go_wp2
    go_ret
    exact ⟨rfl, Below.refl _ _⟩

set_option maxRecDepth 100000 in
set_option maxHeartbeats 2000000 in
theorem implBH_any (A : Option Addr) (c : Nat) (xs : List Sp) (A2 : Option Addr) (c2 : Nat) (ns : List Int) (w : World) (h : Reads w w.heap.size A c xs) (h2 : IntsAt w w.heap.size A2 c2 ns) :
    Calls Try.prog 43 #[.slice A xs.length c, .slice A2 ns.length c2] w fun e w' => e = .returned (.bool (bhsV xs ns)) ∧ Below w.heap.size w w' := by
  have H := Lib.hid h
  have H2 := Lib.hid h2
  clear h h2
  go_enter Try.func43, Try.ntmps43
  cases htv : boxB xs
  · have hv := Lib.hid (show bhsV xs ns = false by unfold bhsV; rw [htv]; rfl)
    have HTV := Lib.hid htv
    clear htv
    go_wp2_with (go_at_call 76; refine (implBox_any _ _ xs _ H.out).mono ?_; rw [HTV.out]; rintro e w1 ⟨rfl, b1⟩)
    try trivial
    go_ret
    exact ⟨by rw [hv.out]; rfl, b1⟩
  · have hv := Lib.hid (show bhsV xs ns = (decide (xs.length = ns.length) && (List.range xs.length).all (hsAt xs ns)) by unfold bhsV; rw [htv]; rfl)
    have HTV := Lib.hid htv
    clear htv
    go_wp2_with fail
    refine (implBox_any _ _ xs _ H.out).mono ?_
    rw [HTV.out]
    rintro e w1 ⟨rfl, b1⟩
    have B1 := Lib.hid b1
    have H1 := Lib.hid ((H.out.below b1).mono b1.size)
    have H21 := Lib.hid ((H2.out.below b1).mono b1.size)
    clear b1
    go_wp2_with fail
    refine (eqHas_any _ _ xs _ _ ns _ H1.out H21.out).mono ?_
    obtain ⟨t, ht⟩ : ∃ t, (decide (xs.length = ns.length) && (List.range xs.length).all (hsAt xs ns)) = t := ⟨_, rfl⟩
    have HV := Lib.hid (hv.out.trans ht)
    rw [ht]
    clear ht hv
    rintro e w2 ⟨rfl, b2⟩
    go_wp2
    go_ret
    exact ⟨by rw [HV.out]; rfl, B1.out.trans (b2.mono B1.out.size)⟩
end Go.Proofs.Ytamfmemdhldmjaa
