/-
  Contract of the model's reader of columns.
-/
import Derived.Test.YtajjmdnbmicefaaDoorTg
import Derived.Test.YtajjmdnbmicefaaDoorCz
namespace Go.Proofs.YtajjmdnbmicefaaDoor
open Go.RowKit Go.Sort Sets

/-- The world between two rounds of the model's loop over the kinds of columns. -/
def Kinds (w wr : World) : Prop := Below w.heap.size w wr ∧ (ColAt wr w.heap.size false 0 0 ∧ (∀ o, wr.frozen? ⟨w.heap.size, o, none⟩ = false)) ∧ w.heap.size + 1 + 1 + 1 < wr.heap.size ∧
  (wr.cell? ⟨w.heap.size + 1 + 1 + 1, 0, none⟩ = some (.bool false) ∧ wr.cell? ⟨w.heap.size + 1 + 1 + 1, 1, none⟩ = some (.int .i64 (-99)) ∧ wr.cell? ⟨w.heap.size + 1 + 1 + 1, 2, none⟩ = some (.int .i64 99)) ∧
  (wr.cell? ⟨w.heap.size + 1 + 1 + 1, 3, none⟩ = some (.bool true) ∧ wr.cell? ⟨w.heap.size + 1 + 1 + 1, 4, none⟩ = some (.int .i64 0) ∧ wr.cell? ⟨w.heap.size + 1 + 1 + 1, 5, none⟩ = some (.int .i64 25))
theorem Kinds.below {w wr w' : World} (h : Kinds w wr) (hb : Below wr.heap.size wr w') : Kinds w w' := by
  obtain ⟨h1, ⟨h2, hf⟩, h3, ⟨a0, a1, a2⟩, b0, b1, b2⟩ := h
  refine ⟨h1.trans (hb.mono h1.size), ⟨h2.below hb (by omega), fun o => (hb.frozen (p := ⟨w.heap.size, o, none⟩) (by simp only; omega)).trans (hf o)⟩, Nat.lt_of_lt_of_le h3 hb.size, ⟨?_, ?_, ?_⟩, ?_, ?_, ?_⟩ <;> (rw [hb.cell h3]; assumption)
theorem Kinds.start (w : World) (t : TypeId) : Kinds w ((((w.alloc (.cells #[.bool false, .int .i64 0, .int .i64 0] t)).alloc (.cells #[.bool false, .int .i64 (-99), .int .i64 99] t)).alloc (.cells #[.bool true, .int .i64 0, .int .i64 25] t)).alloc (.cells #[.bool false, .int .i64 (-99), .int .i64 99, .bool true, .int .i64 0, .int .i64 25] t)) := by
  have z0 : (w.alloc (.cells #[.bool false, .int .i64 0, .int .i64 0] t)).heap.size = w.heap.size + 1 := by simp
  obtain ⟨W1, h1⟩ : ∃ W1, W1 = w.alloc (.cells #[.bool false, .int .i64 0, .int .i64 0] t) := ⟨_, rfl⟩
  have k1 : ColAt W1 w.heap.size false 0 0 := by rw [h1]; exact ColAt.box w false 0 0 t
  have b1 : Below w.heap.size w W1 := by rw [h1]; exact (Below.refl _ w).alloc (Nat.le_refl _) _
  rw [← h1] at z0 ⊢
  obtain ⟨W2, h2⟩ : ∃ W2, W2 = W1.alloc (.cells #[.bool false, .int .i64 (-99), .int .i64 99] t) := ⟨_, rfl⟩
  have b2 : Below W1.heap.size W1 W2 := by rw [h2]; exact (Below.refl _ W1).alloc (Nat.le_refl _) _
  have z2 : W2.heap.size = w.heap.size + 1 + 1 := by rw [h2]; simp [z0]
  rw [← h2]
  obtain ⟨W3, h3⟩ : ∃ W3, W3 = W2.alloc (.cells #[.bool true, .int .i64 0, .int .i64 25] t) := ⟨_, rfl⟩
  have b3 : Below W2.heap.size W2 W3 := by rw [h3]; exact (Below.refl _ W2).alloc (Nat.le_refl _) _
  have z3 : W3.heap.size = w.heap.size + 1 + 1 + 1 := by rw [h3]; simp [z2]
  rw [← h3]
  have b4 : Below W3.heap.size W3 (W3.alloc (.cells #[.bool false, .int .i64 (-99), .int .i64 99, .bool true, .int .i64 0, .int .i64 25] t)) := (Below.refl _ W3).alloc (Nat.le_refl _) _
  have k2 := k1.below b2 (by omega)
  have k3 := k2.below b3 (by omega)
  have k4 := k3.below b4 (by omega)
  refine ⟨((b1.trans (b2.mono (by omega))).trans (b3.mono (by omega))).trans (b4.mono (by omega)), ⟨k4, fun o => (b4.frozen (p := ⟨w.heap.size, o, none⟩) (by simp only; omega)).trans ((b3.frozen (p := ⟨w.heap.size, o, none⟩) (by simp only; omega)).trans ((b2.frozen (p := ⟨w.heap.size, o, none⟩) (by simp only; omega)).trans (by rw [h1]; exact World.frozen?_alloc_at _ _ _ _ rfl)))⟩, by simp [z3], ?_⟩
  rw [← z3]
  refine ⟨⟨?_, ?_, ?_⟩, ?_, ?_, ?_⟩ <;> (rw [World.cell?_alloc_new]; rfl)

theorem ext_toList (s : ByteArray) (i j : Nat) : (s.extract i j).toList = (s.data.toList.drop i).take (j - i) := by
  rw [Lib.toList_data]
  simp [List.take_drop]
theorem ext_ne {s : ByteArray} {z : Nat} (h : (!(s.extract z (z + 2)).toList == [46, 46]) = true) : (s.data.toList.drop z).take 2 ≠ dots := by
  rw [ext_toList, show z + 2 - z = 2 by omega] at h
  intro e
  rw [e] at h
  simp [dots] at h
theorem ext_eq {s : ByteArray} {z : Nat} (h : (!(s.extract z (z + 2)).toList == [46, 46]) = false) : (s.data.toList.drop z).take 2 = dots := by
  rw [ext_toList, show z + 2 - z = 2 by omega] at h
  simpa [dots] using h
theorem ext_drop (s : ByteArray) (i : Nat) : (s.extract i s.size).data.toList = s.data.toList.drop i := by
  have := ext_toList s i s.size
  rw [Lib.toList_data] at this
  rw [this, List.take_of_length_le]
  rw [List.length_drop, Lib.size_eq]
  exact Nat.le_refl _

set_option maxRecDepth 100000 in
set_option maxHeartbeats 2000000 in
theorem specPC_any (s : ByteArray) (hs : s.size ≤ 1048576) (w : World) :
    Calls Tryd.prog 21 #[.string s] w fun e w' => e = .returned (.tuple #[colV (pcV s.data.toList).1 (pcV s.data.toList).2.1 (pcV s.data.toList).2.2, .bool (pcB s.data.toList)]) ∧ Below w.heap.size w w' := by
  have hsx : s.size ≤ 9223372036854775807 := by omega
  go_enter Tryd.func21, Tryd.ntmps21
  go_wp2
  go_loopw [7] (fun i wr => ∃ k : Nat, k ≤ 2 ∧ i = .int .i64 k ∧ (0 < k → cO false s.data.toList = none) ∧ (1 < k → cO true s.data.toList = none) ∧ Kinds w wr) (fun i _ => 2 - (intOf i).toNat)
  case atStart => exact ⟨0, by omega, rfl, (fun h => absurd h (by omega)), (fun h => absurd h (by omega)), Kinds.start w _⟩
  case round =>
    obtain ⟨k, hk, rfl, hn0, hn1, hK⟩ := hrel
    have KK := Lib.hid hK
    obtain ⟨hB, ⟨⟨r0, r1, r2⟩, hfr⟩, hz, ⟨q0, q1, q2⟩, q3, q4, q5⟩ := hK
    have HB := Lib.hid hB
    clear hB
    rcases (by omega : k = 0 ∨ k = 1 ∨ k = 2) with rfl | rfl | rfl
    · clear hn0 hn1
      have m0 : (valP false (-99) 99 s.data.toList).2 = 0 → cO false s.data.toList = none := cM_zero
      have m1 : s.data.toList.length < (valP false (-99) 99 s.data.toList).2 + 2 → cO false s.data.toList = none := cM_short
      have m2 : (s.data.toList.drop (valP false (-99) 99 s.data.toList).2).take 2 ≠ dots → cO false s.data.toList = none := cM_dots
      have m3 : pvB false (-99) 99 (s.data.toList.drop ((valP false (-99) 99 s.data.toList).2 + 2)) = false → cO false s.data.toList = none := cM_hi
      have m4 : colB false (valP false (-99) 99 s.data.toList).1 (pvN false (-99) 99 (s.data.toList.drop ((valP false (-99) 99 s.data.toList).2 + 2))) = false → cO false s.data.toList = none := cM_col
      have m5 : (valP false (-99) 99 s.data.toList).2 ≠ 0 → (valP false (-99) 99 s.data.toList).2 + 2 ≤ s.data.toList.length → (s.data.toList.drop (valP false (-99) 99 s.data.toList).2).take 2 = dots →
          pvB false (-99) 99 (s.data.toList.drop ((valP false (-99) 99 s.data.toList).2 + 2)) = true → colB false (valP false (-99) 99 s.data.toList).1 (pvN false (-99) 99 (s.data.toList.drop ((valP false (-99) 99 s.data.toList).2 + 2))) = true →
          cO false s.data.toList = some ((valP false (-99) 99 s.data.toList).1, pvN false (-99) 99 (s.data.toList.drop ((valP false (-99) 99 s.data.toList).2 + 2))) := cM_yes
      have l2c := fun w => l2val_any false (-99) 99 s (by omega) w
      have hp0 := fun h => (valP_pos (kind_col false) (l := s.data.toList) h).2.2.1
      change (valP false (-99) 99 s.data.toList).2 ≠ 0 → (valP false (-99) 99 s.data.toList).2 ≤ s.data.toList.length at hp0
      generalize valP false (-99) 99 s.data.toList = q at m0 m1 m2 m3 m4 m5 l2c hp0
      obtain ⟨n, z⟩ := q
      simp only at m0 m1 m2 m3 m4 m5 l2c hp0
      rw [← Lib.size_eq] at m1 m5 hp0
      have M1 := Lib.hid m1
      have M2 := Lib.hid m2
      have M3 := Lib.hid m3
      have M4 := Lib.hid m4
      have M5 := Lib.hid m5
      have HP := Lib.hid hp0
      have L2 := Lib.hid l2c
      clear m1 m2 m3 m4 m5 hp0 l2c
      by_cases hz0 : z = 0
      · have hno := Lib.hid (m0 hz0)
        subst hz0
        clear m0
        go_wp2_with fail
        refine (L2.out _).mono ?_
        rintro e w1 ⟨rfl, b1⟩
        have K1 := Lib.hid (KK.out.below b1)
        go_wp2
        go_roundw
        case rel => exact ⟨0 + 1, by omega, rfl, (fun _ => hno.out), (fun h => absurd h (by omega)), K1.out⟩
        case measure => simp [intOf]
      · clear m0
        have hz1 : ((z : Int) == 0) = false := beq_eq_false_iff_ne.2 (by omega)
        by_cases hzl : s.size < z + 2
        · have hno := Lib.hid (M1.out hzl)
          have hzl1 : (s.size : Int) < (z : Int) + 2 := by omega
          have hzb := HP.out hz0
          go_wp2_with fail
          refine (L2.out _).mono ?_
          rintro e w1 ⟨rfl, b1⟩
          have K1 := Lib.hid (KK.out.below b1)
          go_wp2
          go_roundw
          case rel => exact ⟨0 + 1, by omega, rfl, (fun _ => hno.out), (fun h => absurd h (by omega)), K1.out⟩
          case measure => simp [intOf]
        · have hzl1 : decide ((s.size : Int) < (z : Int) + 2) = false := decide_eq_false (by omega)
          go_wp2_with fail
          refine (L2.out _).mono ?_
          rintro e w1 ⟨rfl, b1⟩
          have K1 := Lib.hid (KK.out.below b1)
          obtain ⟨_, ⟨⟨r0', r1', r2'⟩, hfr'⟩, hz', ⟨q0', q1', q2'⟩, q3', q4', q5'⟩ := K1.out
          clear r0 r1 r2 q0 q1 q2 q3 q4 q5
          go_wp2
          · have hdot : (!(s.extract z (z + 2)).toList == [46, 46]) = true := by assumption
            have hno := Lib.hid (M2.out (ext_ne hdot))
            go_roundw
            case rel => exact ⟨0 + 1, by omega, rfl, (fun _ => hno.out), (fun h => absurd h (by omega)), K1.out⟩
            case measure => simp [intOf]
          · have hdot : (!(s.extract z (z + 2)).toList == [46, 46]) = false := by assumption
            have HD := Lib.hid (ext_eq hdot)
            have pvc := fun w => specPV_any false (-99) 99 (s.extract (z + 2) s.size) (by simp; omega) w
            rw [ext_drop] at pvc
            have hv3 := M3.out
            have hv4 := M4.out
            have hv5 := M5.out hz0 (by omega) HD.out
            clear M1 M2 M3 M4 M5
            generalize pvN false (-99) 99 (s.data.toList.drop (z + 2)) = m at pvc hv4 hv5
            generalize pvB false (-99) 99 (s.data.toList.drop (z + 2)) = ok at pvc hv3 hv5
            have PVC := Lib.hid pvc
            have V3 := Lib.hid hv3
            have V4 := Lib.hid hv4
            have V5 := Lib.hid hv5
            clear pvc hv3 hv4 hv5 HP L2
            have hzn : ¬ s.size < z + 2 := hzl
            have x0 := cell_regrown q0'
            have x1 := cell_regrown q1'
            have x2 := cell_regrown q2'
            have e1 : IntKind.i64.wrap ((z : Int) + 2) = (z : Int) + 2 := IntWalk.i64_in _ (by omega)
            have e2 : (0 : Int) ≤ (z : Int) + 2 ∧ (z : Int) + 2 ≤ (s.size : Int) := by omega
            have e3 : ((z : Int) + 2).toNat = z + 2 := by omega
            have cP := fun d os => Calls.regrown_of (PVC.out (grow (redrawn w1 d) os))
            refine wp_region_quiet_below (by kernel_rfl) (by kernel_rfl) ?_
            repeat (quiet_step (first | with_reducible exact cP _ _))
            refine wpQuiet_nil ?_
            intro w2 hw'
            obtain ⟨⟨dq, osq⟩, hw2⟩ := hw'
            have b2 : Below w1.heap.size w1 w2 := by rw [hw2]; exact below_regrown w1 dq osq
            clear x0 x1 x2 cP hw2 PVC
            have K2 := Lib.hid (K1.out.below b2)
            clear hfr' r0' r1' r2' hz' q0' q1' q2' q3' q4' q5'
            obtain ⟨_, ⟨⟨r0, r1, r2⟩, hf2⟩, hz2, ⟨q0, q1, q2⟩, q3, q4, q5⟩ := K2.out
            have f0 := hf2 0
            have f1 := hf2 1
            have f2 := hf2 2
            clear hf2 hfr
            cases ok
            · have hno := Lib.hid (V3.out rfl)
              have K3 := Lib.hid (K2.out.below ((Below.refl _ w2).alloc (Nat.le_refl _) (.cells #[.bool false, .int .i64 n, .int .i64 m] 24)))
              clear V3 V4 V5
              go_wp2
              go_roundw
              case rel => exact ⟨0 + 1, by omega, rfl, (fun _ => hno.out), (fun h => absurd h (by omega)), K3.out⟩
              case measure => simp [intOf]
            · have K3 := Lib.hid (K2.out.below ((Below.refl _ w2).alloc (Nat.le_refl _) (.cells #[.bool false, .int .i64 n, .int .i64 m] 24)))
              cases hcm : colB false n m
              · have hno := Lib.hid (V4.out hcm)
                have HC := Lib.hid hcm
                clear V3 V4 V5 hcm
                go_wp2_with fail
                refine (specCol_b false n m _).mono ?_
                rw [HC.out]
                rintro e w3 ⟨rfl, b3⟩
                have K4 := Lib.hid (K3.out.below b3)
                go_wp2
                go_roundw
                case rel => exact ⟨0 + 1, by omega, rfl, (fun _ => hno.out), (fun h => absurd h (by omega)), K4.out⟩
                case measure => simp [intOf]
              · have hys := Lib.hid (V5.out rfl hcm)
                have hv := Lib.hid (pc_num hys.out)
                have HC := Lib.hid hcm
                obtain ⟨c0, c1, c2⟩ := ColAt.box w2 false n m 24
                clear V3 V4 V5 hcm
                go_wp2_with fail
                refine (specCol_b false n m _).mono ?_
                rw [HC.out]
                rintro e w3 ⟨rfl, b3⟩
                obtain ⟨d0, d1, d2⟩ := ColAt.below (g := w2.heap.size) ⟨c0, c1, c2⟩ b3 (by simp)
                have K4 := Lib.hid (K3.out.below b3)
                obtain ⟨bz, ⟨⟨u0, u1, u2⟩, hf4⟩, hz4, _⟩ := K4.out
                have g0 := hf4 0
                have g1 := hf4 1
                have g2 := hf4 2
                have BZ := Lib.hid bz
                clear c0 c1 c2 f0 f1 f2 r0 r1 r2 q0 q1 q2 q3 q4 q5 hf4 bz
                go_wp2
                obtain ⟨k0, k1, k2⟩ := set_col u0 u1 u2 false n m
                refine bodyPost_ret (v := .tuple #[colV false n m, .bool true]) (by simp [results, Tryd.results21, go_sem, k0, k1, k2]) rfl ⟨by rw [hv.out.1, hv.out.2], set_below BZ.out (Nat.le_refl _) _ _ _⟩
    · have HF := Lib.hid (hn0 (by omega)); clear hn0 hn1
      have m0 : (valP true (0) 25 s.data.toList).2 = 0 → cO true s.data.toList = none := cM_zero
      have m1 : s.data.toList.length < (valP true (0) 25 s.data.toList).2 + 2 → cO true s.data.toList = none := cM_short
      have m2 : (s.data.toList.drop (valP true (0) 25 s.data.toList).2).take 2 ≠ dots → cO true s.data.toList = none := cM_dots
      have m3 : pvB true (0) 25 (s.data.toList.drop ((valP true (0) 25 s.data.toList).2 + 2)) = false → cO true s.data.toList = none := cM_hi
      have m4 : colB true (valP true (0) 25 s.data.toList).1 (pvN true (0) 25 (s.data.toList.drop ((valP true (0) 25 s.data.toList).2 + 2))) = false → cO true s.data.toList = none := cM_col
      have m5 : (valP true (0) 25 s.data.toList).2 ≠ 0 → (valP true (0) 25 s.data.toList).2 + 2 ≤ s.data.toList.length → (s.data.toList.drop (valP true (0) 25 s.data.toList).2).take 2 = dots →
          pvB true (0) 25 (s.data.toList.drop ((valP true (0) 25 s.data.toList).2 + 2)) = true → colB true (valP true (0) 25 s.data.toList).1 (pvN true (0) 25 (s.data.toList.drop ((valP true (0) 25 s.data.toList).2 + 2))) = true →
          cO true s.data.toList = some ((valP true (0) 25 s.data.toList).1, pvN true (0) 25 (s.data.toList.drop ((valP true (0) 25 s.data.toList).2 + 2))) := cM_yes
      have l2c := fun w => l2val_any true (0) 25 s (by omega) w
      have hp0 := fun h => (valP_pos (kind_col true) (l := s.data.toList) h).2.2.1
      change (valP true (0) 25 s.data.toList).2 ≠ 0 → (valP true (0) 25 s.data.toList).2 ≤ s.data.toList.length at hp0
      generalize valP true (0) 25 s.data.toList = q at m0 m1 m2 m3 m4 m5 l2c hp0
      obtain ⟨n, z⟩ := q
      simp only at m0 m1 m2 m3 m4 m5 l2c hp0
      rw [← Lib.size_eq] at m1 m5 hp0
      have M1 := Lib.hid m1
      have M2 := Lib.hid m2
      have M3 := Lib.hid m3
      have M4 := Lib.hid m4
      have M5 := Lib.hid m5
      have HP := Lib.hid hp0
      have L2 := Lib.hid l2c
      clear m1 m2 m3 m4 m5 hp0 l2c
      by_cases hz0 : z = 0
      · have hno := Lib.hid (m0 hz0)
        subst hz0
        clear m0
        go_wp2_with fail
        refine (L2.out _).mono ?_
        rintro e w1 ⟨rfl, b1⟩
        have K1 := Lib.hid (KK.out.below b1)
        go_wp2
        go_roundw
        case rel => exact ⟨1 + 1, by omega, rfl, (fun _ => HF.out), (fun _ => hno.out), K1.out⟩
        case measure => simp [intOf]
      · clear m0
        have hz1 : ((z : Int) == 0) = false := beq_eq_false_iff_ne.2 (by omega)
        by_cases hzl : s.size < z + 2
        · have hno := Lib.hid (M1.out hzl)
          have hzl1 : (s.size : Int) < (z : Int) + 2 := by omega
          have hzb := HP.out hz0
          go_wp2_with fail
          refine (L2.out _).mono ?_
          rintro e w1 ⟨rfl, b1⟩
          have K1 := Lib.hid (KK.out.below b1)
          go_wp2
          go_roundw
          case rel => exact ⟨1 + 1, by omega, rfl, (fun _ => HF.out), (fun _ => hno.out), K1.out⟩
          case measure => simp [intOf]
        · have hzl1 : decide ((s.size : Int) < (z : Int) + 2) = false := decide_eq_false (by omega)
          go_wp2_with fail
          refine (L2.out _).mono ?_
          rintro e w1 ⟨rfl, b1⟩
          have K1 := Lib.hid (KK.out.below b1)
          obtain ⟨_, ⟨⟨r0', r1', r2'⟩, hfr'⟩, hz', ⟨q0', q1', q2'⟩, q3', q4', q5'⟩ := K1.out
          clear r0 r1 r2 q0 q1 q2 q3 q4 q5
          go_wp2
          · have hdot : (!(s.extract z (z + 2)).toList == [46, 46]) = true := by assumption
            have hno := Lib.hid (M2.out (ext_ne hdot))
            go_roundw
            case rel => exact ⟨1 + 1, by omega, rfl, (fun _ => HF.out), (fun _ => hno.out), K1.out⟩
            case measure => simp [intOf]
          · have hdot : (!(s.extract z (z + 2)).toList == [46, 46]) = false := by assumption
            have HD := Lib.hid (ext_eq hdot)
            have pvc := fun w => specPV_any true (0) 25 (s.extract (z + 2) s.size) (by simp; omega) w
            rw [ext_drop] at pvc
            have hv3 := M3.out
            have hv4 := M4.out
            have hv5 := M5.out hz0 (by omega) HD.out
            clear M1 M2 M3 M4 M5
            generalize pvN true (0) 25 (s.data.toList.drop (z + 2)) = m at pvc hv4 hv5
            generalize pvB true (0) 25 (s.data.toList.drop (z + 2)) = ok at pvc hv3 hv5
            have PVC := Lib.hid pvc
            have V3 := Lib.hid hv3
            have V4 := Lib.hid hv4
            have V5 := Lib.hid hv5
            clear pvc hv3 hv4 hv5 HP L2
            have hzn : ¬ s.size < z + 2 := hzl
            have x0 := cell_regrown q3'
            have x1 := cell_regrown q4'
            have x2 := cell_regrown q5'
            have e1 : IntKind.i64.wrap ((z : Int) + 2) = (z : Int) + 2 := IntWalk.i64_in _ (by omega)
            have e2 : (0 : Int) ≤ (z : Int) + 2 ∧ (z : Int) + 2 ≤ (s.size : Int) := by omega
            have e3 : ((z : Int) + 2).toNat = z + 2 := by omega
            have cP := fun d os => Calls.regrown_of (PVC.out (grow (redrawn w1 d) os))
            refine wp_region_quiet_below (by kernel_rfl) (by kernel_rfl) ?_
            repeat (quiet_step (first | with_reducible exact cP _ _))
            refine wpQuiet_nil ?_
            intro w2 hw'
            obtain ⟨⟨dq, osq⟩, hw2⟩ := hw'
            have b2 : Below w1.heap.size w1 w2 := by rw [hw2]; exact below_regrown w1 dq osq
            clear x0 x1 x2 cP hw2 PVC
            have K2 := Lib.hid (K1.out.below b2)
            clear hfr' r0' r1' r2' hz' q0' q1' q2' q3' q4' q5'
            obtain ⟨_, ⟨⟨r0, r1, r2⟩, hf2⟩, hz2, ⟨q0, q1, q2⟩, q3, q4, q5⟩ := K2.out
            have f0 := hf2 0
            have f1 := hf2 1
            have f2 := hf2 2
            clear hf2 hfr
            cases ok
            · have hno := Lib.hid (V3.out rfl)
              have K3 := Lib.hid (K2.out.below ((Below.refl _ w2).alloc (Nat.le_refl _) (.cells #[.bool true, .int .i64 n, .int .i64 m] 24)))
              clear V3 V4 V5
              go_wp2
              go_roundw
              case rel => exact ⟨1 + 1, by omega, rfl, (fun _ => HF.out), (fun _ => hno.out), K3.out⟩
              case measure => simp [intOf]
            · have K3 := Lib.hid (K2.out.below ((Below.refl _ w2).alloc (Nat.le_refl _) (.cells #[.bool true, .int .i64 n, .int .i64 m] 24)))
              cases hcm : colB true n m
              · have hno := Lib.hid (V4.out hcm)
                have HC := Lib.hid hcm
                clear V3 V4 V5 hcm
                go_wp2_with fail
                refine (specCol_b true n m _).mono ?_
                rw [HC.out]
                rintro e w3 ⟨rfl, b3⟩
                have K4 := Lib.hid (K3.out.below b3)
                go_wp2
                go_roundw
                case rel => exact ⟨1 + 1, by omega, rfl, (fun _ => HF.out), (fun _ => hno.out), K4.out⟩
                case measure => simp [intOf]
              · have hys := Lib.hid (V5.out rfl hcm)
                have hv := Lib.hid (pc_let HF.out hys.out)
                have HC := Lib.hid hcm
                obtain ⟨c0, c1, c2⟩ := ColAt.box w2 true n m 24
                clear V3 V4 V5 hcm
                go_wp2_with fail
                refine (specCol_b true n m _).mono ?_
                rw [HC.out]
                rintro e w3 ⟨rfl, b3⟩
                obtain ⟨d0, d1, d2⟩ := ColAt.below (g := w2.heap.size) ⟨c0, c1, c2⟩ b3 (by simp)
                have K4 := Lib.hid (K3.out.below b3)
                obtain ⟨bz, ⟨⟨u0, u1, u2⟩, hf4⟩, hz4, _⟩ := K4.out
                have g0 := hf4 0
                have g1 := hf4 1
                have g2 := hf4 2
                have BZ := Lib.hid bz
                clear c0 c1 c2 f0 f1 f2 r0 r1 r2 q0 q1 q2 q3 q4 q5 hf4 bz
                go_wp2
                obtain ⟨k0, k1, k2⟩ := set_col u0 u1 u2 true n m
                refine bodyPost_ret (v := .tuple #[colV true n m, .bool true]) (by simp [results, Tryd.results21, go_sem, k0, k1, k2]) rfl ⟨by rw [hv.out.1, hv.out.2], set_below BZ.out (Nat.le_refl _) _ _ _⟩
    · have hv := Lib.hid (pc_none (hn0 (by omega)) (hn1 (by omega)))
      have f0 := hfr 0
      have f1 := hfr 1
      have f2 := hfr 2
      clear hn0 hn1 KK hfr
      go_wp2
      obtain ⟨k0, k1, k2⟩ := set_col r0 r1 r2 false 0 0
      refine bodyPost_ret (v := .tuple #[colV false 0 0, .bool false]) (by simp [results, Tryd.results21, go_sem, k0, k1, k2]) rfl ⟨by rw [hv.out.1, hv.out.2], set_below HB.out (Nat.le_refl _) _ _ _⟩
end Go.Proofs.YtajjmdnbmicefaaDoor
