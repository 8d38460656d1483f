/-
  The walk of the law on sets of spans.
-/
import Derived.Test.YthdmoaimgbffmaaDo
import Derived.Test.YthdmoaimgbffmaaPo2
namespace Go.Proofs.Ythdmoaimgbffmaa
open Go.RowKit Sets


set_option maxRecDepth 100000 in
set_option maxHeartbeats 2000000 in
theorem setOf_walk (A : Option Addr) (n c : Nat) (z : Nat → Int) (w : World) (h : Bytes w A n c z) :
    Calls Try.prog 3 #[.slice A n c] w fun e w' => e = .returned (.bool true) ∧ Below w.heap.size w w' := by
  have hnc := h.1
  have hc := h.2.1
  by_cases hn : 1048576 < n
  · have hn' : (1048576 : Int) < (n : Int) := by omega
    go_enter Try.func3, Try.ntmps3
    go_wp2
    go_ret
    exact ⟨rfl, Below.refl _ _⟩
  have hn' : ¬ (1048576 : Int) < (n : Int) := by omega
  go_enter Try.func3, Try.ntmps3
  go_wp2_with fail
  refine (drawOf_any A n c z w h).mono ?_
  rintro e w1 ⟨v1, xs, rfl, own1, hf1, hl1, b1⟩
  obtain ⟨A1, c1, hv1, hr1, hz1⟩ := own1.form0 hf1
  subst hv1
  clear own1
  have X1 := Lib.hid hr1
  clear hr1
  have ZX := Lib.hid hz1
  clear hz1
  cases hk : setOfB xs
  · have HK := Lib.hid hk
    clear hk
    go_wp2_with fail
    refine (implOf_any _ _ xs _ X1.out ZX.out).mono ?_
    unfold OwnRes2
    rw [HK.out]
    rintro e w2 ⟨v2, rfl, own2, hf2, b2⟩
    obtain ⟨A2, c2, hv2, hr2, hz2⟩ := own2.form0 hf2
    subst hv2
    clear own2
    have Z2 := Lib.hid hz2
    clear hz2
    have B2 := b1.trans (b2.mono b1.size)
    have X2 := Lib.hid (X1.out.step b2)
    have S_2 := Lib.hid hr2
    clear hr2
    go_wp2_with fail
    refine (specOf_any _ _ xs _ X2.out).mono ?_
    unfold OwnRes2
    rw [HK.out]
    rintro e w3 ⟨v3, rfl, own3, hf3, b3⟩
    obtain ⟨A3, c3, hv3, hr3, hz3⟩ := own3.form0 hf3
    subst hv3
    clear own3
    have Z3 := Lib.hid hz3
    clear hz3
    have B3 := B2.trans (b3.mono B2.size)
    have X3 := Lib.hid (X2.out.step b3)
    have S_3 := Lib.hid (S_2.out.step b3)
    have T_3 := Lib.hid hr3
    clear hr3
    go_wp2_with fail
    refine (toBelow (implSame_any _ _ _ _ (setOfV xs) (setOfV xs)  _ _ _ S_3.out T_3.out)).mono ?_
    rw [sameB_self]
    rintro e w4 ⟨rfl, b4⟩
    have B4 := B3.trans (b4.mono B3.size)
    have X4 := Lib.hid (X3.out.step b4)
    have S_4 := Lib.hid (S_3.out.step b4)
    have T_4 := Lib.hid (T_3.out.step b4)
    go_wp2_with fail
    refine (toBelow (implSame_any _ _ _ _ (setOfV xs) (setOfV xs)  _ _ _ S_4.out T_4.out)).mono ?_
    rw [sameB_self]
    rintro e w5 ⟨rfl, b5⟩
    have B5 := B4.trans (b5.mono B4.size)
    have X5 := Lib.hid (X4.out.step b5)
    have S_5 := Lib.hid (S_4.out.step b5)
    have T_5 := Lib.hid (T_4.out.step b5)
    go_wp2
    go_ret
    exact ⟨rfl, B5⟩
  · have HK := Lib.hid hk
    clear hk
    have HL := Lib.hid (setOf_facts HK.out)
    go_wp2_with fail
    refine (implOf_any _ _ xs _ X1.out ZX.out).mono ?_
    unfold OwnRes2
    rw [HK.out]
    rintro e w2 ⟨v2, rfl, own2, hf2, b2⟩
    obtain ⟨A2, c2, hv2, hr2, hz2⟩ := own2.form0 hf2
    subst hv2
    clear own2
    have Z2 := Lib.hid hz2
    clear hz2
    have B2 := b1.trans (b2.mono b1.size)
    have X2 := Lib.hid (X1.out.step b2)
    have S_2 := Lib.hid hr2
    clear hr2
    go_wp2_with fail
    refine (specOf_any _ _ xs _ X2.out).mono ?_
    unfold OwnRes2
    rw [HK.out]
    rintro e w3 ⟨v3, rfl, own3, hf3, b3⟩
    obtain ⟨A3, c3, hv3, hr3, hz3⟩ := own3.form0 hf3
    subst hv3
    clear own3
    have Z3 := Lib.hid hz3
    clear hz3
    have B3 := B2.trans (b3.mono B2.size)
    have X3 := Lib.hid (X2.out.step b3)
    have S_3 := Lib.hid (S_2.out.step b3)
    have T_3 := Lib.hid hr3
    clear hr3
    go_wp2_with fail
    refine (toBelow (implSame_any _ _ _ _ (setOfV xs) (setOfV xs)  _ _ _ S_3.out T_3.out)).mono ?_
    rw [sameB_self]
    rintro e w4 ⟨rfl, b4⟩
    have B4 := B3.trans (b4.mono B3.size)
    have X4 := Lib.hid (X3.out.step b4)
    have S_4 := Lib.hid (S_3.out.step b4)
    have T_4 := Lib.hid (T_3.out.step b4)
    go_wp2
    go_loopw [8] (fun nv wr => ∃ nn : Int, -99 ≤ nn ∧ nn ≤ 100 ∧ nv = .int .i64 nn ∧ Below w4.heap.size w4 wr) (fun nv _ => (100 - intOf nv).toNat)
    case atStart => exact ⟨-99, by omega, by omega, rfl, Below.refl _ _⟩
    case round =>
      obtain ⟨nn, hn1, hn2, rfl, hb⟩ := hrel
      have X04 := Lib.hid (X4.out.step hb)
      have S_04 := Lib.hid (S_4.out.step hb)
      by_cases hlt : nn ≤ 99
      · have hlaw := Lib.hid (HL.out.2.2.2 nn hn1 hlt)
        have hx0 := X04.out
        obtain ⟨_, _, _, hrow⟩ := hx0
        obtain ⟨wo, hwo⟩ : ∃ wo : World, wo = wr := ⟨_, rfl⟩
        subst hwo
        have HB := Lib.hid hb
        clear hb
        go_wp2
        go_loopw [9, 10] (fun sv iv wi => ∃ (k : Nat) (b : Bool), k ≤ xs.length ∧ iv = .int .i64 k ∧ sv = .bool b ∧ Hid (haveB (xs.take k) nn = b) ∧ wi = wo) (fun _ iv _ => xs.length - (intOf iv).toNat)
        case atStart => exact ⟨0, false, Nat.zero_le _, rfl, rfl, Lib.hid rfl, rfl⟩
        case round =>
          obtain ⟨k, b, hk, rfl, rfl, hbv, hwi⟩ := hrel
          have hwi' := hwi.symm
          clear hwi
          subst hwi'
          by_cases hlt2 : k < xs.length
          · rcases hrow with rfl | ⟨gb, off, rfl, hgb, hrow⟩
            · simp at hlt2
            obtain ⟨c1', c2'⟩ := hrow k hlt2
            have hkl : (k : Int) < (xs.length : Int) := by omega
            cases b
            · by_cases q1 : lo xs k ≤ nn
              · by_cases q2 : nn ≤ hi xs k
                · have hN := Lib.hid (have_take_new hlt2 hbv.out q1 q2)
                  go_wp2
                  go_roundw
                  case rel => exact ⟨k + 1, _, hlt2, by go_num, rfl, hN, trivial⟩
                  case measure => simp [intOf]; omega
                · have hN := Lib.hid (have_take_not hlt2 hbv.out (fun q => q2 q.2))
                  go_wp2
                  go_roundw
                  case rel => exact ⟨k + 1, _, hlt2, by go_num, rfl, hN, trivial⟩
                  case measure => simp [intOf]; omega
              · have hN := Lib.hid (have_take_not hlt2 hbv.out (fun q => q1 q.1))
                go_wp2
                go_roundw
                case rel => exact ⟨k + 1, _, hlt2, by go_num, rfl, hN, trivial⟩
                case measure => simp [intOf]; omega
            · have hN := Lib.hid (have_take_hit hlt2 hbv.out)
              go_wp2
              go_roundw
              case rel => exact ⟨k + 1, _, hlt2, by go_num, rfl, hN, trivial⟩
              case measure => simp [intOf]; omega
          · have hke : k = xs.length := by omega
            subst hke
            have hlaw2 : Hid (hasB (setOfV xs) nn = b) := Lib.hid (by rw [hlaw.out]; have := hbv.out; rwa [List.take_length] at this)
            go_wp2_with fail
            refine (implHas_any _ _ (setOfV xs) nn _ S_04.out).mono ?_
            rw [hlaw2.out]
            rintro e w5 ⟨rfl, b5⟩
            have hbn := HB.out.trans (b5.mono HB.out.size)
            have hbb : (b != b) = false := by simp
            go_wp2
            go_roundw
            case rel => exact ⟨nn + 1, by omega, by omega, by go_num, hbn⟩
            case measure => simp [intOf]; omega
      · have h100 : nn = 100 := by omega
        subst h100
        have B0 := B4.trans (hb.mono B4.size)
        go_wp2_with fail
        refine (implOf_any _ _ (setOfV xs) _ S_04.out Z2.out).mono ?_
        unfold OwnRes2
        rw [HL.out.2.1, HL.out.2.2.1]
        rintro e w7 ⟨v7, rfl, own7, hf7, b7⟩
        obtain ⟨A7, c7, hv7, hr7, hz7⟩ := own7.form0 hf7
        subst hv7
        clear own7
        have Z7 := Lib.hid hz7
        clear hz7
        have B7 := B0.trans (b7.mono B0.size)
        have X07 := Lib.hid (X04.out.step b7)
        have S_07 := Lib.hid (S_04.out.step b7)
        have R_7 := Lib.hid hr7
        clear hr7
        go_wp2_with fail
        refine (implValid_any _ _ (setOfV xs)  _ S_07.out).mono ?_
        rw [HL.out.1]
        rintro e w8 ⟨rfl, b8⟩
        have B8 := B7.trans (b8.mono B7.size)
        have X08 := Lib.hid (X07.out.step b8)
        have S_08 := Lib.hid (S_07.out.step b8)
        have R_8 := Lib.hid (R_7.out.step b8)
        go_wp2_with fail
        refine (toBelow (implSame_any _ _ _ _ (setOfV xs) (setOfV xs)  _ _ _ R_8.out S_08.out)).mono ?_
        rw [sameB_self]
        rintro e w9 ⟨rfl, b9⟩
        have B9 := B8.trans (b9.mono B8.size)
        have X09 := Lib.hid (X08.out.step b9)
        have S_09 := Lib.hid (S_08.out.step b9)
        have R_9 := Lib.hid (R_8.out.step b9)
        go_wp2
        go_ret
        exact ⟨rfl, B9⟩
end Go.Proofs.Ythdmoaimgbffmaa
