/-
  Contracts of the model's comparisons and parts of tests.
-/
import Derived.Test.YthkjcljhfjaabaaGreatDoorKgM
import Derived.Test.YthkjcljhfjaabaaGreatDoorKeM
import Derived.Test.YthkjcljhfjaabaaGreatDoorTeM
import Derived.Lib.QuietBelow
namespace Go.Proofs.YthkjcljhfjaabaaGreatDoor
open Go.RowKit Go.Sort Sets

theorem two_box (w : World) (L : Bool) (a b : Int) (c d : Value) (t t' : TypeId) (W : World) (hW : W = (w.alloc (.cells #[.bool L, .int .i64 a, .int .i64 b] t)).alloc (.cells #[c, d] t')) :
    ColAt W w.heap.size L a b ∧ (W.cell? ⟨w.heap.size + 1, 0, none⟩ = some c ∧ W.cell? ⟨w.heap.size + 1, 1, none⟩ = some d ∧ ∀ o, W.frozen? ⟨w.heap.size + 1, o, none⟩ = false) ∧ Below w.heap.size w W ∧ W.heap.size = w.heap.size + 2 := by
  subst hW
  have h := sp_box (w.alloc (.cells #[.bool L, .int .i64 a, .int .i64 b] t)) c d t'
  rw [World.size_alloc] at h
  have b1 : Below (w.heap.size + 1) (w.alloc (.cells #[.bool L, .int .i64 a, .int .i64 b] t)) ((w.alloc (.cells #[.bool L, .int .i64 a, .int .i64 b] t)).alloc (.cells #[c, d] t')) := (Below.refl _ _).alloc (by simp) _
  exact ⟨(ColAt.box w L a b t).below b1 (by omega), h, ((Below.refl _ _).alloc (Nat.le_refl _) _).alloc (by simp) _, by simp⟩
theorem extD (s : ByteArray) (i : Nat) : (s.extract i s.size).data.toList = s.data.toList.drop i := by
  rw [extL, List.take_of_length_le]
  rw [List.length_drop, Lib.size_eq]
  exact Nat.le_refl _
theorem head_at (s : ByteArray) (h : 0 < s.size) : s.data.toList.headD 0 = s[0] := by
  have hl : 0 < s.data.toList.length := by rw [← Lib.size_eq]; exact h
  have key : ∀ (l : Bs) (h : 0 < l.length), l.headD 0 = l[0] := fun l h => by
    cases l with
    | nil => simp at h
    | cons c t => rfl
  exact (key _ hl).trans (byte_at s 0 h)
theorem eq2_no1 {s : ByteArray} (h : s.size ≤ 1) : eq2 s.data.toList = false := by
  unfold eq2
  rw [decide_eq_false (by rw [← Lib.size_eq]; omega)]
  rfl
theorem eq2_at {s : ByteArray} (h : 1 < s.size) : eq2 s.data.toList = (s[1] == 61) := by
  have hl : 1 < s.data.toList.length := by rw [← Lib.size_eq]; exact h
  have hb := byte_at s 1 h
  unfold eq2
  rw [decide_eq_true hl, Bool.true_and, ← hb]
  have : (s.data.toList.drop 1).headD 0 = s.data.toList[1] := by
    rw [List.drop_eq_getElem_cons hl]; rfl
  rw [this]

set_option maxRecDepth 100000 in
set_option maxHeartbeats 4000000 in
theorem specBound_any (L : Bool) (a b : Int) (s : ByteArray) (hs : s.size ≤ 1048600) (h0 : 0 < s.size) (hd : s[0] = 60 ∨ s[0] = 62) (w : World) :
    Calls Tryz.prog 102 #[colV L a b, .string s] w fun e w' => e = .returned (.tuple #[spV (pieceV L a b s.data.toList), .bool (pieceB L a b s.data.toList)]) ∧ Below w.heap.size w w' := by
  have hsx : s.size ≤ 9223372036854775807 := by omega
  have hi0 : (0 : Int) < (s.size : Int) := by omega
  have hh := head_at s h0
  obtain ⟨W0, hW0⟩ : ∃ W, W = (w.alloc (.cells #[.bool L, .int .i64 a, .int .i64 b] 27)).alloc (.cells #[.int .i64 0, .int .i64 0] 55) := ⟨_, rfl⟩
  obtain ⟨⟨k0, k1, k2⟩, ⟨s0, s1, sf⟩, bW, zW⟩ := two_box w L a b _ _ _ _ W0 hW0
  have ZW := Lib.hid zW
  clear zW
  rcases hd with hd | hd
  · have hhd : s.data.toList.headD 0 = 60 := hh.trans hd
    have q0 : ((s[0].toNat : Int) == 60) = true := by rw [hd]; rfl
    have q1 : ((s[0].toNat : Int) == 62) = false := by rw [hd]; rfl
    clear hh hd
    by_cases h1 : 1 < s.size
    · have hi1 : (1 : Int) < (s.size : Int) := by omega
      have hle : ∀ k : Int, k ≤ 2 → k ≤ (s.size : Int) := fun k hk => by omega
      have r1 := hle 1 (by omega)
      have r2 := hle 2 (by omega)
      have e2 := eq2_at h1
      by_cases h61 : s[1] = 61
      · have q2 : ((s[1].toNat : Int) == 61) = true := by rw [h61]; rfl
        have he2 : eq2 s.data.toList = true := by rw [e2, h61]; rfl
        clear e2 h61 hle
        have pc := piece_res (pieceO_lt2 (L := L) (a := a) (b := b) hhd he2)
        have pvc := fun w => specPV_any L a b (s.extract 2 s.size) (by simp; omega) w
        rw [extD] at pvc
        have hpn := pv_num L a b (s.data.toList.drop 2)
        generalize pvN L a b (s.data.toList.drop 2) = n at pvc pc hpn
        generalize pvB L a b (s.data.toList.drop 2) = ok at pvc pc
        have PVC := Lib.hid pvc
        have PC := Lib.hid pc
        clear pvc pc hhd he2
        go_enter Tryz.func102, Tryz.ntmps102
        go_wp2
        rw [← hW0]
        clear hW0
        have x0 := cell_regrown k0
        have x1 := cell_regrown k1
        have x2 := cell_regrown k2
        have cP := fun d os => Calls.regrown_of (PVC.out (grow (redrawn W0 d) os))
        refine wp_region_quiet_below (by kernel_rfl) (by kernel_rfl) ?_
        repeat (quiet_step (first | with_reducible exact cP _ _))
        refine wpQuiet_nil ?_
        intro w2 hw'
        obtain ⟨⟨dq, osq⟩, hw2⟩ := hw'
        have b2 : Below W0.heap.size W0 w2 := by rw [hw2]; exact below_regrown W0 dq osq
        clear x0 x1 x2 cP hw2 PVC
        obtain ⟨g0, g1, g2⟩ := ColAt.below (g := w.heap.size) ⟨k0, k1, k2⟩ b2 (by have := ZW.out; omega)
        have m0 := (b2.cell (p := ⟨w.heap.size + 1, 0, none⟩) (by have := ZW.out; simp only; omega)).trans s0
        have m1 := (b2.cell (p := ⟨w.heap.size + 1, 1, none⟩) (by have := ZW.out; simp only; omega)).trans s1
        have mf0 := (b2.frozen (p := ⟨w.heap.size + 1, 0, none⟩) (by have := ZW.out; simp only; omega)).trans (sf 0)
        have mf1 := (b2.frozen (p := ⟨w.heap.size + 1, 1, none⟩) (by have := ZW.out; simp only; omega)).trans (sf 1)
        have B2 := Lib.hid (bW.trans (b2.mono bW.size))
        clear k0 k1 k2 s0 s1 sf b2 bW
        have w1 : IntKind.i64.wrap (n - 1) = n - 1 := IntWalk.i64_in _ (by omega)
        have w3 : IntKind.i64.wrap (n + 1) = n + 1 := IntWalk.i64_in _ (by omega)
        cases ok
        · go_wp2
          obtain ⟨e0, e1⟩ := set_sp m0 m1 (.int .i64 0) (.int .i64 0)
          exact bodyPost_ret (v := .tuple #[.agg #[.int .i64 0, .int .i64 0], .bool false]) (by simp [results, Tryz.results102, go_sem, e0, e1]) rfl ⟨by rw [PC.out.1, PC.out.2]; rfl, set_sp_below B2.out (by omega) _ _⟩
        · go_wp2
          obtain ⟨e0, e1⟩ := set_sp m0 m1 (.int .i64 (a)) (.int .i64 (n))
          exact bodyPost_ret (v := .tuple #[.agg #[.int .i64 (a), .int .i64 (n)], .bool true]) (by simp [results, Tryz.results102, go_sem, e0, e1]) rfl ⟨by rw [PC.out.1, PC.out.2]; rfl, set_sp_below B2.out (by omega) _ _⟩
      · have q2 : ((s[1].toNat : Int) == 61) = false := beq_eq_false_iff_ne.2 (fun e => h61 (UInt8.toNat_inj.1 (by show s[1].toNat = 61; omega)))
        have he2 : eq2 s.data.toList = false := by rw [e2]; exact beq_eq_false_iff_ne.2 h61
        clear e2 h61 hle
        have pc := piece_res (pieceO_lt1 (L := L) (a := a) (b := b) hhd he2)
        have pvc := fun w => specPV_any L a b (s.extract 1 s.size) (by simp; omega) w
        rw [extD] at pvc
        have hpn := pv_num L a b (s.data.toList.drop 1)
        generalize pvN L a b (s.data.toList.drop 1) = n at pvc pc hpn
        generalize pvB L a b (s.data.toList.drop 1) = ok at pvc pc
        have PVC := Lib.hid pvc
        have PC := Lib.hid pc
        clear pvc pc hhd he2
        go_enter Tryz.func102, Tryz.ntmps102
        go_wp2
        rw [← hW0]
        clear hW0
        have x0 := cell_regrown k0
        have x1 := cell_regrown k1
        have x2 := cell_regrown k2
        have cP := fun d os => Calls.regrown_of (PVC.out (grow (redrawn W0 d) os))
        refine wp_region_quiet_below (by kernel_rfl) (by kernel_rfl) ?_
        repeat (quiet_step (first | with_reducible exact cP _ _))
        refine wpQuiet_nil ?_
        intro w2 hw'
        obtain ⟨⟨dq, osq⟩, hw2⟩ := hw'
        have b2 : Below W0.heap.size W0 w2 := by rw [hw2]; exact below_regrown W0 dq osq
        clear x0 x1 x2 cP hw2 PVC
        obtain ⟨g0, g1, g2⟩ := ColAt.below (g := w.heap.size) ⟨k0, k1, k2⟩ b2 (by have := ZW.out; omega)
        have m0 := (b2.cell (p := ⟨w.heap.size + 1, 0, none⟩) (by have := ZW.out; simp only; omega)).trans s0
        have m1 := (b2.cell (p := ⟨w.heap.size + 1, 1, none⟩) (by have := ZW.out; simp only; omega)).trans s1
        have mf0 := (b2.frozen (p := ⟨w.heap.size + 1, 0, none⟩) (by have := ZW.out; simp only; omega)).trans (sf 0)
        have mf1 := (b2.frozen (p := ⟨w.heap.size + 1, 1, none⟩) (by have := ZW.out; simp only; omega)).trans (sf 1)
        have B2 := Lib.hid (bW.trans (b2.mono bW.size))
        clear k0 k1 k2 s0 s1 sf b2 bW
        have w1 : IntKind.i64.wrap (n - 1) = n - 1 := IntWalk.i64_in _ (by omega)
        have w3 : IntKind.i64.wrap (n + 1) = n + 1 := IntWalk.i64_in _ (by omega)
        cases ok
        · go_wp2
          obtain ⟨e0, e1⟩ := set_sp m0 m1 (.int .i64 0) (.int .i64 0)
          exact bodyPost_ret (v := .tuple #[.agg #[.int .i64 0, .int .i64 0], .bool false]) (by simp [results, Tryz.results102, go_sem, e0, e1]) rfl ⟨by rw [PC.out.1, PC.out.2]; rfl, set_sp_below B2.out (by omega) _ _⟩
        · go_wp2
          obtain ⟨e0, e1⟩ := set_sp m0 m1 (.int .i64 (a)) (.int .i64 (n - 1))
          exact bodyPost_ret (v := .tuple #[.agg #[.int .i64 (a), .int .i64 (n - 1)], .bool true]) (by simp [results, Tryz.results102, go_sem, e0, e1]) rfl ⟨by rw [PC.out.1, PC.out.2]; rfl, set_sp_below B2.out (by omega) _ _⟩
    · have hi1 : decide ((1 : Int) < (s.size : Int)) = false := decide_eq_false (by omega)
      have he2 : eq2 s.data.toList = false := eq2_no1 (by omega)
      have r1 : (1 : Int) ≤ (s.size : Int) := by omega
      clear h1
      have pc := piece_res (pieceO_lt1 (L := L) (a := a) (b := b) hhd he2)
      have pvc := fun w => specPV_any L a b (s.extract 1 s.size) (by simp; omega) w
      rw [extD] at pvc
      have hpn := pv_num L a b (s.data.toList.drop 1)
      generalize pvN L a b (s.data.toList.drop 1) = n at pvc pc hpn
      generalize pvB L a b (s.data.toList.drop 1) = ok at pvc pc
      have PVC := Lib.hid pvc
      have PC := Lib.hid pc
      clear pvc pc hhd he2
      go_enter Tryz.func102, Tryz.ntmps102
      go_wp2
      rw [← hW0]
      clear hW0
      have x0 := cell_regrown k0
      have x1 := cell_regrown k1
      have x2 := cell_regrown k2
      have cP := fun d os => Calls.regrown_of (PVC.out (grow (redrawn W0 d) os))
      refine wp_region_quiet_below (by kernel_rfl) (by kernel_rfl) ?_
      repeat (quiet_step (first | with_reducible exact cP _ _))
      refine wpQuiet_nil ?_
      intro w2 hw'
      obtain ⟨⟨dq, osq⟩, hw2⟩ := hw'
      have b2 : Below W0.heap.size W0 w2 := by rw [hw2]; exact below_regrown W0 dq osq
      clear x0 x1 x2 cP hw2 PVC
      obtain ⟨g0, g1, g2⟩ := ColAt.below (g := w.heap.size) ⟨k0, k1, k2⟩ b2 (by have := ZW.out; omega)
      have m0 := (b2.cell (p := ⟨w.heap.size + 1, 0, none⟩) (by have := ZW.out; simp only; omega)).trans s0
      have m1 := (b2.cell (p := ⟨w.heap.size + 1, 1, none⟩) (by have := ZW.out; simp only; omega)).trans s1
      have mf0 := (b2.frozen (p := ⟨w.heap.size + 1, 0, none⟩) (by have := ZW.out; simp only; omega)).trans (sf 0)
      have mf1 := (b2.frozen (p := ⟨w.heap.size + 1, 1, none⟩) (by have := ZW.out; simp only; omega)).trans (sf 1)
      have B2 := Lib.hid (bW.trans (b2.mono bW.size))
      clear k0 k1 k2 s0 s1 sf b2 bW
      have w1 : IntKind.i64.wrap (n - 1) = n - 1 := IntWalk.i64_in _ (by omega)
      have w3 : IntKind.i64.wrap (n + 1) = n + 1 := IntWalk.i64_in _ (by omega)
      cases ok
      · go_wp2
        obtain ⟨e0, e1⟩ := set_sp m0 m1 (.int .i64 0) (.int .i64 0)
        exact bodyPost_ret (v := .tuple #[.agg #[.int .i64 0, .int .i64 0], .bool false]) (by simp [results, Tryz.results102, go_sem, e0, e1]) rfl ⟨by rw [PC.out.1, PC.out.2]; rfl, set_sp_below B2.out (by omega) _ _⟩
      · go_wp2
        obtain ⟨e0, e1⟩ := set_sp m0 m1 (.int .i64 (a)) (.int .i64 (n - 1))
        exact bodyPost_ret (v := .tuple #[.agg #[.int .i64 (a), .int .i64 (n - 1)], .bool true]) (by simp [results, Tryz.results102, go_sem, e0, e1]) rfl ⟨by rw [PC.out.1, PC.out.2]; rfl, set_sp_below B2.out (by omega) _ _⟩
  · have hhd : s.data.toList.headD 0 = 62 := hh.trans hd
    have q0 : ((s[0].toNat : Int) == 60) = false := by rw [hd]; rfl
    have q1 : ((s[0].toNat : Int) == 62) = true := by rw [hd]; rfl
    clear hh hd
    by_cases h1 : 1 < s.size
    · have hi1 : (1 : Int) < (s.size : Int) := by omega
      have hle : ∀ k : Int, k ≤ 2 → k ≤ (s.size : Int) := fun k hk => by omega
      have r1 := hle 1 (by omega)
      have r2 := hle 2 (by omega)
      have e2 := eq2_at h1
      by_cases h61 : s[1] = 61
      · have q2 : ((s[1].toNat : Int) == 61) = true := by rw [h61]; rfl
        have he2 : eq2 s.data.toList = true := by rw [e2, h61]; rfl
        clear e2 h61 hle
        have pc := piece_res (pieceO_gt2 (L := L) (a := a) (b := b) hhd he2)
        have pvc := fun w => specPV_any L a b (s.extract 2 s.size) (by simp; omega) w
        rw [extD] at pvc
        have hpn := pv_num L a b (s.data.toList.drop 2)
        generalize pvN L a b (s.data.toList.drop 2) = n at pvc pc hpn
        generalize pvB L a b (s.data.toList.drop 2) = ok at pvc pc
        have PVC := Lib.hid pvc
        have PC := Lib.hid pc
        clear pvc pc hhd he2
        go_enter Tryz.func102, Tryz.ntmps102
        go_wp2
        rw [← hW0]
        clear hW0
        have x0 := cell_regrown k0
        have x1 := cell_regrown k1
        have x2 := cell_regrown k2
        have cP := fun d os => Calls.regrown_of (PVC.out (grow (redrawn W0 d) os))
        refine wp_region_quiet_below (by kernel_rfl) (by kernel_rfl) ?_
        repeat (quiet_step (first | with_reducible exact cP _ _))
        refine wpQuiet_nil ?_
        intro w2 hw'
        obtain ⟨⟨dq, osq⟩, hw2⟩ := hw'
        have b2 : Below W0.heap.size W0 w2 := by rw [hw2]; exact below_regrown W0 dq osq
        clear x0 x1 x2 cP hw2 PVC
        obtain ⟨g0, g1, g2⟩ := ColAt.below (g := w.heap.size) ⟨k0, k1, k2⟩ b2 (by have := ZW.out; omega)
        have m0 := (b2.cell (p := ⟨w.heap.size + 1, 0, none⟩) (by have := ZW.out; simp only; omega)).trans s0
        have m1 := (b2.cell (p := ⟨w.heap.size + 1, 1, none⟩) (by have := ZW.out; simp only; omega)).trans s1
        have mf0 := (b2.frozen (p := ⟨w.heap.size + 1, 0, none⟩) (by have := ZW.out; simp only; omega)).trans (sf 0)
        have mf1 := (b2.frozen (p := ⟨w.heap.size + 1, 1, none⟩) (by have := ZW.out; simp only; omega)).trans (sf 1)
        have B2 := Lib.hid (bW.trans (b2.mono bW.size))
        clear k0 k1 k2 s0 s1 sf b2 bW
        have w1 : IntKind.i64.wrap (n - 1) = n - 1 := IntWalk.i64_in _ (by omega)
        have w3 : IntKind.i64.wrap (n + 1) = n + 1 := IntWalk.i64_in _ (by omega)
        cases ok
        · go_wp2
          obtain ⟨e0, e1⟩ := set_sp m0 m1 (.int .i64 0) (.int .i64 0)
          exact bodyPost_ret (v := .tuple #[.agg #[.int .i64 0, .int .i64 0], .bool false]) (by simp [results, Tryz.results102, go_sem, e0, e1]) rfl ⟨by rw [PC.out.1, PC.out.2]; rfl, set_sp_below B2.out (by omega) _ _⟩
        · go_wp2
          obtain ⟨e0, e1⟩ := set_sp m0 m1 (.int .i64 (n)) (.int .i64 (b))
          exact bodyPost_ret (v := .tuple #[.agg #[.int .i64 (n), .int .i64 (b)], .bool true]) (by simp [results, Tryz.results102, go_sem, e0, e1]) rfl ⟨by rw [PC.out.1, PC.out.2]; rfl, set_sp_below B2.out (by omega) _ _⟩
      · have q2 : ((s[1].toNat : Int) == 61) = false := beq_eq_false_iff_ne.2 (fun e => h61 (UInt8.toNat_inj.1 (by show s[1].toNat = 61; omega)))
        have he2 : eq2 s.data.toList = false := by rw [e2]; exact beq_eq_false_iff_ne.2 h61
        clear e2 h61 hle
        have pc := piece_res (pieceO_gt1 (L := L) (a := a) (b := b) hhd he2)
        have pvc := fun w => specPV_any L a b (s.extract 1 s.size) (by simp; omega) w
        rw [extD] at pvc
        have hpn := pv_num L a b (s.data.toList.drop 1)
        generalize pvN L a b (s.data.toList.drop 1) = n at pvc pc hpn
        generalize pvB L a b (s.data.toList.drop 1) = ok at pvc pc
        have PVC := Lib.hid pvc
        have PC := Lib.hid pc
        clear pvc pc hhd he2
        go_enter Tryz.func102, Tryz.ntmps102
        go_wp2
        rw [← hW0]
        clear hW0
        have x0 := cell_regrown k0
        have x1 := cell_regrown k1
        have x2 := cell_regrown k2
        have cP := fun d os => Calls.regrown_of (PVC.out (grow (redrawn W0 d) os))
        refine wp_region_quiet_below (by kernel_rfl) (by kernel_rfl) ?_
        repeat (quiet_step (first | with_reducible exact cP _ _))
        refine wpQuiet_nil ?_
        intro w2 hw'
        obtain ⟨⟨dq, osq⟩, hw2⟩ := hw'
        have b2 : Below W0.heap.size W0 w2 := by rw [hw2]; exact below_regrown W0 dq osq
        clear x0 x1 x2 cP hw2 PVC
        obtain ⟨g0, g1, g2⟩ := ColAt.below (g := w.heap.size) ⟨k0, k1, k2⟩ b2 (by have := ZW.out; omega)
        have m0 := (b2.cell (p := ⟨w.heap.size + 1, 0, none⟩) (by have := ZW.out; simp only; omega)).trans s0
        have m1 := (b2.cell (p := ⟨w.heap.size + 1, 1, none⟩) (by have := ZW.out; simp only; omega)).trans s1
        have mf0 := (b2.frozen (p := ⟨w.heap.size + 1, 0, none⟩) (by have := ZW.out; simp only; omega)).trans (sf 0)
        have mf1 := (b2.frozen (p := ⟨w.heap.size + 1, 1, none⟩) (by have := ZW.out; simp only; omega)).trans (sf 1)
        have B2 := Lib.hid (bW.trans (b2.mono bW.size))
        clear k0 k1 k2 s0 s1 sf b2 bW
        have w1 : IntKind.i64.wrap (n - 1) = n - 1 := IntWalk.i64_in _ (by omega)
        have w3 : IntKind.i64.wrap (n + 1) = n + 1 := IntWalk.i64_in _ (by omega)
        cases ok
        · go_wp2
          obtain ⟨e0, e1⟩ := set_sp m0 m1 (.int .i64 0) (.int .i64 0)
          exact bodyPost_ret (v := .tuple #[.agg #[.int .i64 0, .int .i64 0], .bool false]) (by simp [results, Tryz.results102, go_sem, e0, e1]) rfl ⟨by rw [PC.out.1, PC.out.2]; rfl, set_sp_below B2.out (by omega) _ _⟩
        · go_wp2
          obtain ⟨e0, e1⟩ := set_sp m0 m1 (.int .i64 (n + 1)) (.int .i64 (b))
          exact bodyPost_ret (v := .tuple #[.agg #[.int .i64 (n + 1), .int .i64 (b)], .bool true]) (by simp [results, Tryz.results102, go_sem, e0, e1]) rfl ⟨by rw [PC.out.1, PC.out.2]; rfl, set_sp_below B2.out (by omega) _ _⟩
    · have hi1 : decide ((1 : Int) < (s.size : Int)) = false := decide_eq_false (by omega)
      have he2 : eq2 s.data.toList = false := eq2_no1 (by omega)
      have r1 : (1 : Int) ≤ (s.size : Int) := by omega
      clear h1
      have pc := piece_res (pieceO_gt1 (L := L) (a := a) (b := b) hhd he2)
      have pvc := fun w => specPV_any L a b (s.extract 1 s.size) (by simp; omega) w
      rw [extD] at pvc
      have hpn := pv_num L a b (s.data.toList.drop 1)
      generalize pvN L a b (s.data.toList.drop 1) = n at pvc pc hpn
      generalize pvB L a b (s.data.toList.drop 1) = ok at pvc pc
      have PVC := Lib.hid pvc
      have PC := Lib.hid pc
      clear pvc pc hhd he2
      go_enter Tryz.func102, Tryz.ntmps102
      go_wp2
      rw [← hW0]
      clear hW0
      have x0 := cell_regrown k0
      have x1 := cell_regrown k1
      have x2 := cell_regrown k2
      have cP := fun d os => Calls.regrown_of (PVC.out (grow (redrawn W0 d) os))
      refine wp_region_quiet_below (by kernel_rfl) (by kernel_rfl) ?_
      repeat (quiet_step (first | with_reducible exact cP _ _))
      refine wpQuiet_nil ?_
      intro w2 hw'
      obtain ⟨⟨dq, osq⟩, hw2⟩ := hw'
      have b2 : Below W0.heap.size W0 w2 := by rw [hw2]; exact below_regrown W0 dq osq
      clear x0 x1 x2 cP hw2 PVC
      obtain ⟨g0, g1, g2⟩ := ColAt.below (g := w.heap.size) ⟨k0, k1, k2⟩ b2 (by have := ZW.out; omega)
      have m0 := (b2.cell (p := ⟨w.heap.size + 1, 0, none⟩) (by have := ZW.out; simp only; omega)).trans s0
      have m1 := (b2.cell (p := ⟨w.heap.size + 1, 1, none⟩) (by have := ZW.out; simp only; omega)).trans s1
      have mf0 := (b2.frozen (p := ⟨w.heap.size + 1, 0, none⟩) (by have := ZW.out; simp only; omega)).trans (sf 0)
      have mf1 := (b2.frozen (p := ⟨w.heap.size + 1, 1, none⟩) (by have := ZW.out; simp only; omega)).trans (sf 1)
      have B2 := Lib.hid (bW.trans (b2.mono bW.size))
      clear k0 k1 k2 s0 s1 sf b2 bW
      have w1 : IntKind.i64.wrap (n - 1) = n - 1 := IntWalk.i64_in _ (by omega)
      have w3 : IntKind.i64.wrap (n + 1) = n + 1 := IntWalk.i64_in _ (by omega)
      cases ok
      · go_wp2
        obtain ⟨e0, e1⟩ := set_sp m0 m1 (.int .i64 0) (.int .i64 0)
        exact bodyPost_ret (v := .tuple #[.agg #[.int .i64 0, .int .i64 0], .bool false]) (by simp [results, Tryz.results102, go_sem, e0, e1]) rfl ⟨by rw [PC.out.1, PC.out.2]; rfl, set_sp_below B2.out (by omega) _ _⟩
      · go_wp2
        obtain ⟨e0, e1⟩ := set_sp m0 m1 (.int .i64 (n + 1)) (.int .i64 (b))
        exact bodyPost_ret (v := .tuple #[.agg #[.int .i64 (n + 1), .int .i64 (b)], .bool true]) (by simp [results, Tryz.results102, go_sem, e0, e1]) rfl ⟨by rw [PC.out.1, PC.out.2]; rfl, set_sp_below B2.out (by omega) _ _⟩

/-- what the model's reader of a part hands back -/
def PieceRes (L : Bool) (a b : Int) (s : ByteArray) (w : World) (e : Ending) (w' : World) : Prop :=
  ∃ x : Sp, e = .returned (.tuple #[spV x, .bool (pieceB L a b s.data.toList)]) ∧ (pieceB L a b s.data.toList = true → x = pieceV L a b s.data.toList) ∧ (-100 ≤ x.1 ∧ x.1 ≤ 100 ∧ -100 ≤ x.2 ∧ x.2 ≤ 100) ∧ Below w.heap.size w w'
theorem PieceRes.yes {L : Bool} {a b : Int} {s : ByteArray} {w w' : World} {x : Sp} (h : pieceV L a b s.data.toList = x ∧ pieceB L a b s.data.toList = true) (hb : Below w.heap.size w w') : PieceRes L a b s w (.returned (.tuple #[spV x, .bool true])) w' :=
  ⟨x, by rw [h.2], fun _ => h.1.symm, by rw [← h.1]; exact pieceV_small L a b _, hb⟩
theorem PieceRes.no {L : Bool} {a b : Int} {s : ByteArray} {w w' : World} {x : Sp} (h : pieceV L a b s.data.toList = (0, 0) ∧ pieceB L a b s.data.toList = false) (hx : -100 ≤ x.1 ∧ x.1 ≤ 100 ∧ -100 ≤ x.2 ∧ x.2 ≤ 100) (hb : Below w.heap.size w w') : PieceRes L a b s w (.returned (.tuple #[spV x, .bool false])) w' :=
  ⟨x, by rw [h.2], fun h2 => (by rw [h.2] at h2; cases h2), hx, hb⟩

set_option maxRecDepth 100000 in
set_option maxHeartbeats 4000000 in
theorem specPiece_any (L : Bool) (a b : Int) (hc : colB L a b = true) (s : ByteArray) (hs : s.size ≤ 1048600) (w : World) :
    Calls Tryz.prog 72 #[colV L a b, .string s] w (PieceRes L a b s w) := by
  have hsx : s.size ≤ 9223372036854775807 := by omega
  obtain ⟨W0, hW0⟩ : ∃ W, W = (w.alloc (.cells #[.bool L, .int .i64 a, .int .i64 b] 27)).alloc (.cells #[.int .i64 0, .int .i64 0] 55) := ⟨_, rfl⟩
  obtain ⟨⟨k0, k1, k2⟩, ⟨s0, s1, sf⟩, bW, zW⟩ := two_box w L a b _ _ _ _ W0 hW0
  have ZW := Lib.hid zW
  have BW := Lib.hid bW
  clear zW bW
  by_cases h0 : s.size = 0
  · have hl : s.data.toList = [] := List.eq_nil_of_length_eq_zero (by rw [← Lib.size_eq]; exact h0)
    have hv := Lib.hid (show pieceV L a b s.data.toList = (0, 0) ∧ pieceB L a b s.data.toList = false by rw [hl]; exact piece_no (pieceO_nil L a b))
    have hp1 : s.toList = [] := by rw [Lib.toList_data, hl]
    rw [hW0] at BW
    clear hl h0 k0 k1 k2 s0 s1 sf hW0
    go_enter Tryz.func72, Tryz.ntmps72
    go_wp2
    exact bodyPost_ret (v := .tuple #[.agg #[.int .i64 0, .int .i64 0], .bool false]) (by simp [results, Tryz.results72, go_sem]) rfl (PieceRes.no (x := (0, 0)) hv.out (by simp) BW.out)
  · have h1 : 0 < s.size := by omega
    have hi0 : (0 : Int) < (s.size : Int) := by omega
    have hp1 : ¬ s.toList = [] := by rw [Lib.toList_data]; intro e; exact h0 (by rw [Lib.size_eq, e]; rfl)
    have hp2 : s.toList.isEmpty = false := by simpa using hp1
    have hsc := Lib.hid (head_eq s h1)
    have f0 := sf 0
    have f1 := sf 1
    clear h0
    by_cases hcmp : s[0] = 60 ∨ s[0] = 62
    · have bd := fun w => specBound_any L a b s hs h1 hcmp w
      generalize hy : pieceV L a b s.data.toList = y at bd
      generalize hok : pieceB L a b s.data.toList = ok at bd
      obtain ⟨y1, y2⟩ := y
      have BD := Lib.hid bd
      have HY := Lib.hid hy
      have HO := Lib.hid hok
      clear bd hy hok
      rcases hcmp with hcc | hcc
      all_goals
        have q0 : ((s[0].toNat : Int) == 60) = decide (s[0] = 60) := by rw [hcc]; rfl
        have q1 : ((s[0].toNat : Int) == 62) = decide (s[0] = 62) := by rw [hcc]; rfl
        rw [hcc] at q0 q1
        simp only [decide_true] at q0 q1
        go_enter Tryz.func72, Tryz.ntmps72
        go_wp2_with fail
        rw [← hW0]
        refine (BD.out W0).mono ?_
        rintro e w2 ⟨rfl, b2⟩
        unfold spV
        have m0 := (b2.cell (p := ⟨w.heap.size + 1, 0, none⟩) (by have := ZW.out; simp only; omega)).trans s0
        have m1 := (b2.cell (p := ⟨w.heap.size + 1, 1, none⟩) (by have := ZW.out; simp only; omega)).trans s1
        have mf0 := (b2.frozen (p := ⟨w.heap.size + 1, 0, none⟩) (by have := ZW.out; simp only; omega)).trans f0
        have mf1 := (b2.frozen (p := ⟨w.heap.size + 1, 1, none⟩) (by have := ZW.out; simp only; omega)).trans f1
        have B2 := Lib.hid (BW.out.trans (b2.mono BW.out.size))
        clear k0 k1 k2 s0 s1 sf f0 f1 b2 hW0
        go_wp2
        obtain ⟨e0, e1⟩ := set_sp m0 m1 (.int .i64 y1) (.int .i64 y2)
        refine bodyPost_ret (v := .tuple #[.agg #[.int .i64 y1, .int .i64 y2], .bool ok]) (by simp [results, Tryz.results72, go_sem, e0, e1]) rfl ⟨(y1, y2), by rw [HO.out]; rfl, fun _ => HY.out.symm, by rw [← HY.out]; exact pieceV_small L a b _, set_sp_below B2.out (by have := ZW.out; omega) _ _⟩
    · have q0 : ((s[0].toNat : Int) == 60) = false := beq_eq_false_iff_ne.2 (fun e => hcmp (.inl (UInt8.toNat_inj.1 (by show s[0].toNat = 60; omega))))
      have q1 : ((s[0].toNat : Int) == 62) = false := beq_eq_false_iff_ne.2 (fun e => hcmp (.inr (UInt8.toNat_inj.1 (by show s[0].toNat = 62; omega))))
      have hsp := Lib.hid (show pieceO L a b s.data.toList = spanO L a b s.data.toList by rw [hsc.out]; exact pieceO_span (fun e => hcmp (.inl e)) (fun e => hcmp (.inr e)))
      clear hcmp
      have l2c := fun w => l2val_any L a b s hs w
      have m0 := pM_zero (L := L) (a := a) (b := b) (l := s.data.toList)
      have m1 := pM_all (l := s.data.toList) hc
      have m2 := pM_short (L := L) (a := a) (b := b) (l := s.data.toList)
      have m3 := pM_dots (L := L) (a := a) (b := b) (l := s.data.toList)
      have m4 := pM_hi (L := L) (a := a) (b := b) (l := s.data.toList)
      have m5 := pM_gt (L := L) (a := a) (b := b) (l := s.data.toList)
      have m6 := pM_two (l := s.data.toList) hc
      have hvs := valP_small (l := s.data.toList) hc
      have hp0 := fun h => (valP_pos hc (l := s.data.toList) h).2.2.1
      change (valP L a b s.data.toList).2 ≠ 0 → (valP L a b s.data.toList).2 ≤ s.data.toList.length at hp0
      generalize valP L a b s.data.toList = q at l2c m0 m1 m2 m3 m4 m5 m6 hvs hp0
      obtain ⟨n, z⟩ := q
      simp only at l2c m0 m1 m2 m3 m4 m5 m6 hvs hp0
      rw [← Lib.size_eq] at m1 m2 m3 m4 m5 hp0
      have L2 := Lib.hid l2c
      have M0 := Lib.hid m0
      have M1 := Lib.hid m1
      have M2 := Lib.hid m2
      have M3 := Lib.hid m3
      have M4 := Lib.hid m4
      have M5 := Lib.hid m5
      have M6 := Lib.hid m6
      have HV := Lib.hid hvs
      have HP := Lib.hid hp0
      clear l2c m0 m1 m2 m3 m4 m5 m6 hvs hp0
      go_enter Tryz.func72, Tryz.ntmps72
      go_wp2_with fail
      rw [← hW0]
      refine (L2.out W0).mono ?_
      rintro e w1 ⟨rfl, b1⟩
      obtain ⟨g0, g1, g2⟩ := ColAt.below (g := w.heap.size) ⟨k0, k1, k2⟩ b1 (by have := ZW.out; omega)
      have u0 := (b1.cell (p := ⟨w.heap.size + 1, 0, none⟩) (by have := ZW.out; simp only; omega)).trans s0
      have u1 := (b1.cell (p := ⟨w.heap.size + 1, 1, none⟩) (by have := ZW.out; simp only; omega)).trans s1
      have uf0 := (b1.frozen (p := ⟨w.heap.size + 1, 0, none⟩) (by have := ZW.out; simp only; omega)).trans f0
      have uf1 := (b1.frozen (p := ⟨w.heap.size + 1, 1, none⟩) (by have := ZW.out; simp only; omega)).trans f1
      have B1 := Lib.hid (BW.out.trans (b1.mono BW.out.size))
      have z1 : Hid (w.heap.size + 2 ≤ w1.heap.size) := Lib.hid (by have := ZW.out; have := b1.size; omega)
      clear k0 k1 k2 s0 s1 sf f0 f1 b1 hW0
      by_cases hz0 : z = 0
      · have hv := Lib.hid (piece_not hsp.out (M0.out hz0))
        subst hz0
        go_wp2
        obtain ⟨e0, e1⟩ := set_sp u0 u1 (.int .i64 0) (.int .i64 0)
        exact bodyPost_ret (v := .tuple #[.agg #[.int .i64 0, .int .i64 0], .bool false]) (by simp [results, Tryz.results72, go_sem, e0, e1]) rfl (PieceRes.no (x := (0, 0)) hv.out (by simp) (set_sp_below B1.out (by omega) _ _))
      · have hzi : ((z : Int) == 0) = false := beq_eq_false_iff_ne.2 (by omega)
        have hzl := HP.out hz0
        by_cases hza : z = s.size
        · have hv := Lib.hid (piece_of hsp.out (M1.out hz0 hza))
          have hzs : ((z : Int) == (s.size : Int)) = true := by simp [hza]
          clear hza hzl
          go_wp2
          obtain ⟨e0, e1⟩ := set_sp u0 u1 (.int .i64 n) (.int .i64 n)
          exact bodyPost_ret (v := .tuple #[.agg #[.int .i64 n, .int .i64 n], .bool true]) (by simp [results, Tryz.results72, go_sem, e0, e1]) rfl (PieceRes.yes hv.out (set_sp_below B1.out (by omega) _ _))
        · have hzs : ((z : Int) == (s.size : Int)) = false := beq_eq_false_iff_ne.2 (by omega)
          by_cases hsh : s.size < z + 2
          · have hv := Lib.hid (piece_not hsp.out (M2.out hza hsh))
            have hsi : (s.size : Int) < (z : Int) + 2 := by omega
            clear hza hsh
            go_wp2
            obtain ⟨e0, e1⟩ := set_sp u0 u1 (.int .i64 0) (.int .i64 0)
            exact bodyPost_ret (v := .tuple #[.agg #[.int .i64 0, .int .i64 0], .bool false]) (by simp [results, Tryz.results72, go_sem, e0, e1]) rfl (PieceRes.no (x := (0, 0)) hv.out (by simp) (set_sp_below B1.out (by omega) _ _))
          · have hsi : decide ((s.size : Int) < (z : Int) + 2) = false := decide_eq_false (by omega)
            have HZ := Lib.hid hza
            have HN := Lib.hid hsh
            clear hza
            go_wp2
            · have hdot : (!(s.extract z (z + 2)).toList == [46, 46]) = true := by assumption
              have hv := Lib.hid (piece_not hsp.out (M3.out HZ.out (ext_ne hdot)))
              obtain ⟨e0, e1⟩ := set_sp u0 u1 (.int .i64 0) (.int .i64 0)
              exact bodyPost_ret (v := .tuple #[.agg #[.int .i64 0, .int .i64 0], .bool false]) (by simp [results, Tryz.results72, go_sem, e0, e1]) rfl (PieceRes.no (x := (0, 0)) hv.out (by simp) (set_sp_below B1.out (by omega) _ _))
            · have hdot : (!(s.extract z (z + 2)).toList == [46, 46]) = false := by assumption
              have HD := Lib.hid (ext_eq hdot)
              have pvc := fun w => specPV_any L a b (s.extract (z + 2) s.size) (by simp; omega) w
              rw [extD] at pvc
              have hpn := pv_num L a b (s.data.toList.drop (z + 2))
              have hv4 := M4.out HZ.out
              have hv5 := M5.out HZ.out
              have hv6 := M6.out hz0 HD.out
              clear M0 M1 M2 M3 M4 M5 M6
              generalize pvN L a b (s.data.toList.drop (z + 2)) = m at pvc hpn hv5 hv6
              generalize pvB L a b (s.data.toList.drop (z + 2)) = ok at pvc hv4 hv6
              have PVC := Lib.hid pvc
              have V4 := Lib.hid hv4
              have V5 := Lib.hid hv5
              have V6 := Lib.hid hv6
              have HPN := Lib.hid hpn
              clear pvc hv4 hv5 hv6 hpn HP L2
              have hzn : ¬ s.size < z + 2 := HN.out
              have x0 := cell_regrown g0
              have x1 := cell_regrown g1
              have x2 := cell_regrown g2
              have e1 : IntKind.i64.wrap ((z : Int) + 2) = (z : Int) + 2 := IntWalk.i64_in _ (by omega)
              have e2 : (0 : Int) ≤ (z : Int) + 2 ∧ (z : Int) + 2 ≤ (s.size : Int) := by omega
              have e3 : ((z : Int) + 2).toNat = z + 2 := by omega
              have cP := fun d os => Calls.regrown_of (PVC.out (grow (redrawn w1 d) os))
              refine wp_region_quiet_below (by kernel_rfl) (by kernel_rfl) ?_
              repeat (quiet_step (first | with_reducible exact cP _ _))
              refine wpQuiet_nil ?_
              intro w2 hw'
              obtain ⟨⟨dq, osq⟩, hw2⟩ := hw'
              have b2 : Below w1.heap.size w1 w2 := by rw [hw2]; exact below_regrown w1 dq osq
              clear x0 x1 x2 cP hw2 PVC
              have m0 := (b2.cell (p := ⟨w.heap.size + 1, 0, none⟩) (by have := z1.out; simp only; omega)).trans u0
              have m1 := (b2.cell (p := ⟨w.heap.size + 1, 1, none⟩) (by have := z1.out; simp only; omega)).trans u1
              have mf0 := (b2.frozen (p := ⟨w.heap.size + 1, 0, none⟩) (by have := z1.out; simp only; omega)).trans uf0
              have mf1 := (b2.frozen (p := ⟨w.heap.size + 1, 1, none⟩) (by have := z1.out; simp only; omega)).trans uf1
              have B2 := Lib.hid (B1.out.trans (b2.mono B1.out.size))
              have hxb : Hid (-100 ≤ n ∧ n ≤ 100 ∧ -100 ≤ m ∧ m ≤ 100) := Lib.hid (by have := HV.out; have := HPN.out; omega)
              clear g0 g1 g2 u0 u1 uf0 uf1 b2
              cases ok
              · have hv := Lib.hid (piece_not hsp.out (V4.out rfl))
                go_wp2
                obtain ⟨e0, e1⟩ := set_sp m0 m1 (.int .i64 n) (.int .i64 m)
                exact bodyPost_ret (v := .tuple #[.agg #[.int .i64 n, .int .i64 m], .bool false]) (by simp [results, Tryz.results72, go_sem, e0, e1]) rfl (PieceRes.no (x := (n, m)) hv.out hxb.out (set_sp_below B2.out (by omega) _ _))
              · by_cases hnm : n ≤ m
                · have hv := Lib.hid (piece_of hsp.out (V6.out rfl hnm))
                  go_wp2
                  obtain ⟨e0, e1⟩ := set_sp m0 m1 (.int .i64 n) (.int .i64 m)
                  exact bodyPost_ret (v := .tuple #[.agg #[.int .i64 n, .int .i64 m], .bool true]) (by simp [results, Tryz.results72, go_sem, e0, e1]) rfl (PieceRes.yes hv.out (set_sp_below B2.out (by omega) _ _))
                · have hv := Lib.hid (piece_not hsp.out (V5.out (by omega)))
                  have hnd : decide (n ≤ m) = false := decide_eq_false hnm
                  go_wp2
                  obtain ⟨e0, e1⟩ := set_sp m0 m1 (.int .i64 n) (.int .i64 m)
                  exact bodyPost_ret (v := .tuple #[.agg #[.int .i64 n, .int .i64 m], .bool false]) (by simp [results, Tryz.results72, go_sem, e0, e1]) rfl (PieceRes.no (x := (n, m)) hv.out hxb.out (set_sp_below B2.out (by omega) _ _))
end Go.Proofs.YthkjcljhfjaabaaGreatDoor
