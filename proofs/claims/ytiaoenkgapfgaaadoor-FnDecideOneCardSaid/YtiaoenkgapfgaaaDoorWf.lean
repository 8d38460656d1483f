/-
  DecideOuts: the model.
-/
import Derived.Test.YtiaoenkgapfgaaaDoorWe
namespace Go.Proofs.YtiaoenkgapfgaaaDoor
open Go.RowKit Sets

def okO (ns : List Int) (k : Nat) : Bool := decide (0 ≤ ns.getD k 0) && decide (ns.getD k 0 ≤ 99)
theorem outB_eq (ns : List Int) : outB ns = (decide (ns.length ≤ 12) && (List.range ns.length).all (okO ns)) := rfl

set_option maxRecDepth 100000 in
set_option maxHeartbeats 8000000 in
theorem specDO_any (p : Int) (A : Option Addr) (c : Nat) (ns : List Int) (w : World) (h : IntsAt w w.heap.size A c ns) :
    Calls Tryd.prog 11 #[.int .i64 p, .slice A ns.length c] w (ResN (doV p ns) w) := by
  have hbx : Below w.heap.size w (w.alloc (.cells #[.int .i64 0, .slice none 0 0] 27)) := (Below.refl _ _).alloc (Nat.le_refl _) _
  have HI := Lib.hid (h.step hbx)
  have HB := Lib.hid hbx
  clear hbx
  obtain ⟨k0, k1⟩ := box_cells w 3 (some ⟨w.heap.size + 1, 0, none⟩) 0 0 27 (.cells #[] 3)
  have K := Lib.hid (And.intro k0 k1)
  clear k0 k1
  by_cases hbad : p < 1 ∨ 10 < p ∨ 12 < ns.length
  · have HV := Lib.hid (show doV p ns = (3, []) by
      unfold doV
      rw [if_neg]
      intro hh
      rw [Bool.and_eq_true, Bool.and_eq_true, decide_eq_true_eq, decide_eq_true_eq] at hh
      have := (outB_at hh.2).1
      omega)
    clear h
    have fin : Hid (∀ q : Int, q = 3 → True) := Lib.hid fun _ _ => trivial
    by_cases h1 : p < 1
    · clear hbad
      go_enter Tryd.func11, Tryd.ntmps11
      go_wp2
      try trivial
      go_loop [5, 6] (fun b i => b = .bool true ∧ i = .int .i64 0) (fun _ _ => 0)
      case atStart => exact ⟨rfl, rfl⟩
      case round =>
        obtain ⟨rfl, rfl⟩ := hrel
        by_cases hl : (0 : Int) < (ns.length : Int)
        · go_wp2
          try trivial
          obtain ⟨k0, k1⟩ := K.out
          exact bodyPost_ret (v := .agg #[.int .i64 3, .slice (some ⟨w.heap.size + 1, 0, none⟩) 0 0]) (by simp [results, Tryd.results11, go_sem, k0, k1]) rfl (dec_nil HV.out w)
        · have hl' : decide ((0 : Int) < (ns.length : Int)) = false := decide_eq_false hl
          go_wp2
          try trivial
          obtain ⟨k0, k1⟩ := K.out
          exact bodyPost_ret (v := .agg #[.int .i64 3, .slice (some ⟨w.heap.size + 1, 0, none⟩) 0 0]) (by simp [results, Tryd.results11, go_sem, k0, k1]) rfl (dec_nil HV.out w)
    · have h1' : decide (p < 1) = false := decide_eq_false h1
      by_cases h2 : 10 < p
      · clear hbad
        go_enter Tryd.func11, Tryd.ntmps11
        go_wp2
        try trivial
        go_loop [5, 6] (fun b i => b = .bool true ∧ i = .int .i64 0) (fun _ _ => 0)
        case atStart => exact ⟨rfl, rfl⟩
        case round =>
          obtain ⟨rfl, rfl⟩ := hrel
          by_cases hl : (0 : Int) < (ns.length : Int)
          · go_wp2
            try trivial
            obtain ⟨k0, k1⟩ := K.out
            exact bodyPost_ret (v := .agg #[.int .i64 3, .slice (some ⟨w.heap.size + 1, 0, none⟩) 0 0]) (by simp [results, Tryd.results11, go_sem, k0, k1]) rfl (dec_nil HV.out w)
          · have hl' : decide ((0 : Int) < (ns.length : Int)) = false := decide_eq_false hl
            go_wp2
            try trivial
            obtain ⟨k0, k1⟩ := K.out
            exact bodyPost_ret (v := .agg #[.int .i64 3, .slice (some ⟨w.heap.size + 1, 0, none⟩) 0 0]) (by simp [results, Tryd.results11, go_sem, k0, k1]) rfl (dec_nil HV.out w)
      · have h2' : decide (10 < p) = false := decide_eq_false h2
        have h3 : (12 : Int) < (ns.length : Int) := by omega
        have hl : (0 : Int) < (ns.length : Int) := by omega
        clear hbad
        go_enter Tryd.func11, Tryd.ntmps11
        go_wp2
        try trivial
        go_loop [5, 6] (fun b i => b = .bool true ∧ i = .int .i64 0) (fun _ _ => 0)
        case atStart => exact ⟨rfl, rfl⟩
        case round =>
          obtain ⟨rfl, rfl⟩ := hrel
          go_wp2
          try trivial
          obtain ⟨k0, k1⟩ := K.out
          exact bodyPost_ret (v := .agg #[.int .i64 3, .slice (some ⟨w.heap.size + 1, 0, none⟩) 0 0]) (by simp [results, Tryd.results11, go_sem, k0, k1]) rfl (dec_nil HV.out w)
  · have h1 : decide (p < 1) = false := decide_eq_false (by omega)
    have h2 : decide (10 < p) = false := decide_eq_false (by omega)
    have h3 : decide ((12 : Int) < (ns.length : Int)) = false := decide_eq_false (by omega)
    have HPP := Lib.hid (show 1 ≤ p ∧ p ≤ 10 ∧ ns.length ≤ 12 by omega)
    have HVN := Lib.hid (show ∀ k, k < ns.length → okO ns k = false → doV p ns = (3, []) by
      intro k hk hf
      unfold doV
      rw [if_neg]
      intro hh
      rw [Bool.and_eq_true, outB_eq, all_no hk hf] at hh
      simp at hh)
    have HVY := Lib.hid (show (∀ k, k < ns.length → okO ns k = true) → outB ns = true ∧ doV p ns = dcV p ns by
      intro hall
      have ho : outB ns = true := by rw [outB_eq, all_yes hall, decide_eq_true HPP.out.2.2]; rfl
      refine ⟨ho, ?_⟩
      unfold doV
      rw [if_pos (by rw [ho, decide_eq_true HPP.out.1, decide_eq_true HPP.out.2.1]; rfl)])
    obtain ⟨_, hlc, hc, hrow⟩ := HI.out
    have BOX := Lib.hid (box_facts w 27)
    clear h hbad
    go_enter Tryd.func11, Tryd.ntmps11
    go_wp2
    try trivial
    clear h1 h2 h3
    go_loop [5, 6] (fun b i => ∃ k : Nat, k ≤ ns.length ∧ i = .int .i64 k ∧ ((b = .bool false ∧ Hid (∀ j, j < k → okO ns j = true)) ∨ (b = .bool true ∧ Hid (∃ j, j < ns.length ∧ okO ns j = false)))) (fun _ i => ns.length - (intOf i).toNat)
    case atStart => exact ⟨0, Nat.zero_le _, rfl, .inl ⟨rfl, Lib.hid fun j hj => absurd hj (by omega)⟩⟩
    case round =>
      obtain ⟨k, hk, rfl, ⟨rfl, hall⟩ | ⟨rfl, hex⟩⟩ := hrel
      · by_cases hlt : k < ns.length
        · rcases hrow with hz | ⟨b, off, rfl, hB, hrow⟩
          · omega
          · have hkl : (k : Int) < (ns.length : Int) := by omega
            have u1 := hrow k hlt
            rw [Nat.mul_one] at u1
            obtain ⟨x, hx⟩ : ∃ x, ns.getD k 0 = x := ⟨_, rfl⟩
            rw [hx] at u1
            have HX := Lib.hid hx
            have HK := Lib.hid hrow
            clear hx hrow
            by_cases g1 : x < 0
            · have HF := Lib.hid (show okO ns k = false by unfold okO; rw [HX.out, decide_eq_false (show ¬ 0 ≤ x by omega)]; rfl)
              go_wp2
              try trivial
              go_round
              case rel => exact ⟨k + 1, hlt, by go_num, .inr ⟨rfl, Lib.hid ⟨k, hlt, HF.out⟩⟩⟩
              case measure => simp [intOf]; omega
            · have g1' : decide (x < 0) = false := decide_eq_false g1
              by_cases g2 : 99 < x
              · have HF := Lib.hid (show okO ns k = false by unfold okO; rw [HX.out, decide_eq_false (show ¬ x ≤ 99 by omega)]; simp)
                go_wp2
                try trivial
                go_round
                case rel => exact ⟨k + 1, hlt, by go_num, .inr ⟨rfl, Lib.hid ⟨k, hlt, HF.out⟩⟩⟩
                case measure => simp [intOf]; omega
              · have g2' : decide (99 < x) = false := decide_eq_false g2
                have HF := Lib.hid (show okO ns k = true by unfold okO; rw [HX.out, decide_eq_true (show 0 ≤ x by omega), decide_eq_true (show x ≤ 99 by omega)]; rfl)
                go_wp2
                try trivial
                go_round
                case rel =>
                  refine ⟨k + 1, hlt, by go_num, .inl ⟨rfl, Lib.hid fun j hj => ?_⟩⟩
                  by_cases e : j = k
                  · rw [e]; exact HF.out
                  · exact hall.out j (by omega)
                case measure => simp [intOf]; omega
        · obtain rfl : k = ns.length := by omega
          have HD := Lib.hid (HVY.out hall.out)
          clear hall hrow
          go_wp2_with fail
          refine (specDec4_any p A c ns _ HI.out HD.out.1 HPP.out.1 HPP.out.2.1).mono ?_
          rintro e w1 ⟨A2, c2, rfl, hO, b1⟩
          have B1 := Lib.hid b1
          have OO := Lib.hid hO
          clear b1 hO
          have q0 := (B1.out.cell (p := ⟨w.heap.size, 0, none⟩) (by simp)).trans BOX.out.1
          have q1 := (B1.out.cell (p := ⟨w.heap.size, 1, none⟩) (by simp)).trans BOX.out.2.1
          have f0 := (B1.out.frozen (p := ⟨w.heap.size, 0, none⟩) (by simp)).trans (BOX.out.2.2 0)
          have f1 := (B1.out.frozen (p := ⟨w.heap.size, 1, none⟩) (by simp)).trans (BOX.out.2.2 1)
          obtain ⟨⟨rc, rl⟩, hr⟩ : ∃ r : Rs, dcV p ns = r := ⟨_, rfl⟩
          have HR := Lib.hid (HD.out.2.trans hr)
          rw [hr] at OO
          rw [hr]
          simp only [] at OO ⊢
          clear hr
          go_wp2
          refine dec_fin (x := .int .i64 0) (y := .slice none 0 0) HR.out (V := w1) (HB.out.trans ((B1.out).mono HB.out.size)) q0 q1 (by have := OO.out; simpa using this) rfl ?_
          intro F k0 k1
          simp [results, Tryd.results11, go_sem, k0, k1]
      · have HV := Lib.hid (show doV p ns = (3, []) by obtain ⟨j, hj, hf⟩ := hex.out; exact HVN.out j hj hf)
        by_cases hl : (k : Int) < (ns.length : Int)
        · go_wp2
          try trivial
          obtain ⟨k0, k1⟩ := K.out
          exact bodyPost_ret (v := .agg #[.int .i64 3, .slice (some ⟨w.heap.size + 1, 0, none⟩) 0 0]) (by simp [results, Tryd.results11, go_sem, k0, k1]) rfl (dec_nil HV.out w)
        · have hl' : decide ((k : Int) < (ns.length : Int)) = false := decide_eq_false hl
          go_wp2
          try trivial
          obtain ⟨k0, k1⟩ := K.out
          exact bodyPost_ret (v := .agg #[.int .i64 3, .slice (some ⟨w.heap.size + 1, 0, none⟩) 0 0]) (by simp [results, Tryd.results11, go_sem, k0, k1]) rfl (dec_nil HV.out w)
end Go.Proofs.YtiaoenkgapfgaaaDoor
