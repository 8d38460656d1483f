/-
  Contracts of the program's comparisons and parts of tests.
-/
import Derived.Test.YthkjcljhfjaabaaGreatDoorKa
import Derived.Test.YthkjcljhfjaabaaGreatDoorCz
import Derived.Test.YthkjcljhfjaabaaGreatDoorTcM
import Derived.Test.YthkjcljhfjaabaaGreatDoorLi
import Derived.Test.YthkjcljhfjaabaaGreatDoorSh
namespace Go.Proofs.YthkjcljhfjaabaaGreatDoor
open Go.RowKit Sets

def spV (x : Sp) : Value := .agg #[.int .i64 x.1, .int .i64 x.2]
theorem set_sp {w : World} {g : Nat} {v0 v1 : Value} (h0 : w.cell? ⟨g, 0, none⟩ = some v0) (h1 : w.cell? ⟨g, 1, none⟩ = some v1) (a b : Value) :
    ((w.setCell ⟨g, 0, none⟩ a).setCell ⟨g, 1, none⟩ b).cell? ⟨g, 0, none⟩ = some a ∧ ((w.setCell ⟨g, 0, none⟩ a).setCell ⟨g, 1, none⟩ b).cell? ⟨g, 1, none⟩ = some b := by
  refine ⟨?_, ?_⟩
  · rw [World.cell?_setCell_other _ _ _ _ (by simp)]
    exact World.cell?_setCell_same' _ _ _ (by rw [h0]; rfl)
  · exact World.cell?_setCell_same' _ _ _ (by rw [World.cell?_setCell_other _ _ _ _ (by simp), h1]; rfl)
theorem set_sp_below {B g : Nat} {a w : World} (h : Below B a w) (hg : B ≤ g) (v0 v1 : Value) : Below B a ((w.setCell ⟨g, 0, none⟩ v0).setCell ⟨g, 1, none⟩ v1) := (h.setCell hg v0).setCell hg v1
theorem sp_box (w : World) (a b : Value) (t : TypeId) : (w.alloc (.cells #[a, b] t)).cell? ⟨w.heap.size, 0, none⟩ = some a ∧ (w.alloc (.cells #[a, b] t)).cell? ⟨w.heap.size, 1, none⟩ = some b ∧ ∀ o, (w.alloc (.cells #[a, b] t)).frozen? ⟨w.heap.size, o, none⟩ = false := by
  refine ⟨?_, ?_, fun o => World.frozen?_alloc_at _ _ _ _ rfl⟩ <;> (rw [World.cell?_alloc_new]; rfl)
theorem trim_yes {l p : Bs} (h : Lib.hasPrefix l p = true) : Lib.trimPrefix l p = l.drop p.length := by unfold Lib.trimPrefix; rw [if_pos h]

/-- three blocks that a call lays first -/
theorem three_first (w : World) (c1 c2 c3 : Array Value) (t1 t2 t3 : TypeId) (W : World) (hW : W = ((w.alloc (.cells c1 t1)).alloc (.cells c2 t2)).alloc (.cells c3 t3)) :
    (∀ o, W.cell? ⟨w.heap.size, o, none⟩ = c1[o]?) ∧ (∀ o, W.cell? ⟨w.heap.size + 1, o, none⟩ = c2[o]?) ∧ (∀ o, W.cell? ⟨w.heap.size + 2, o, none⟩ = c3[o]?) ∧
      (∀ o, W.frozen? ⟨w.heap.size, o, none⟩ = false) ∧ (∀ o, W.frozen? ⟨w.heap.size + 1, o, none⟩ = false) ∧ (∀ o, W.frozen? ⟨w.heap.size + 2, o, none⟩ = false) ∧ Below w.heap.size w W ∧ W.heap.size = w.heap.size + 3 := by
  subst hW
  have b1 : Below (w.heap.size + 1) (w.alloc (.cells c1 t1)) (((w.alloc (.cells c1 t1)).alloc (.cells c2 t2)).alloc (.cells c3 t3)) := ((Below.refl _ _).alloc (by simp) _).alloc (by simp) _
  have b2 : Below (w.heap.size + 2) ((w.alloc (.cells c1 t1)).alloc (.cells c2 t2)) (((w.alloc (.cells c1 t1)).alloc (.cells c2 t2)).alloc (.cells c3 t3)) := (Below.refl _ _).alloc (by simp) _
  have z1 : (w.alloc (.cells c1 t1)).heap.size = w.heap.size + 1 := by simp
  have z2 : ((w.alloc (.cells c1 t1)).alloc (.cells c2 t2)).heap.size = w.heap.size + 2 := by simp
  refine ⟨fun o => ?_, fun o => ?_, fun o => ?_, fun o => ?_, fun o => ?_, fun o => ?_, ?_, by simp⟩
  · rw [b1.cell (p := ⟨w.heap.size, o, none⟩) (by simp), World.cell?_alloc_new]
  · rw [b2.cell (p := ⟨w.heap.size + 1, o, none⟩) (by simp), ← z1, World.cell?_alloc_new]
  · rw [← z2, World.cell?_alloc_new]
  · rw [b1.frozen (p := ⟨w.heap.size, o, none⟩) (by simp)]; exact World.frozen?_alloc_at _ _ _ _ rfl
  · rw [b2.frozen (p := ⟨w.heap.size + 1, o, none⟩) (by simp)]; exact World.frozen?_alloc_at _ _ _ _ (by rw [z1])
  · exact World.frozen?_alloc_at _ _ _ _ (by rw [z2])
  · exact (((Below.refl _ _).alloc (Nat.le_refl _) _).alloc (by simp) _).alloc (by simp; omega) _

set_option maxRecDepth 100000 in
theorem comp1_any (L : Bool) (a b n : Int) (h1 : -99 ≤ n) (h2 : n ≤ 99) (w : World) : Calls Tryz.prog 123 #[colV L a b, .int .i64 n] w fun e w' => e = .returned (spV (a, n)) ∧ Below w.heap.size w w' := by
  have e1 : IntKind.i64.wrap (n - 1) = n - 1 := IntWalk.i64_in _ (by omega)
  have e2 : IntKind.i64.wrap (n + 1) = n + 1 := IntWalk.i64_in _ (by omega)
  go_enter Tryz.func123, Tryz.ntmps123
  go_wp2
  exact bodyPost_ret (v := .agg #[.int .i64 a, .int .i64 n]) (by simp [results, Tryz.results123, go_sem]) rfl ⟨rfl, ((Below.refl _ w).alloc (Nat.le_refl _) _).alloc (by simp) _⟩

set_option maxRecDepth 100000 in
theorem comp2_any (L : Bool) (a b n : Int) (h1 : -99 ≤ n) (h2 : n ≤ 99) (w : World) : Calls Tryz.prog 124 #[colV L a b, .int .i64 n] w fun e w' => e = .returned (spV (n, b)) ∧ Below w.heap.size w w' := by
  have e1 : IntKind.i64.wrap (n - 1) = n - 1 := IntWalk.i64_in _ (by omega)
  have e2 : IntKind.i64.wrap (n + 1) = n + 1 := IntWalk.i64_in _ (by omega)
  go_enter Tryz.func124, Tryz.ntmps124
  go_wp2
  exact bodyPost_ret (v := .agg #[.int .i64 n, .int .i64 b]) (by simp [results, Tryz.results124, go_sem]) rfl ⟨rfl, ((Below.refl _ w).alloc (Nat.le_refl _) _).alloc (by simp) _⟩

set_option maxRecDepth 100000 in
theorem comp3_any (L : Bool) (a b n : Int) (h1 : -99 ≤ n) (h2 : n ≤ 99) (w : World) : Calls Tryz.prog 125 #[colV L a b, .int .i64 n] w fun e w' => e = .returned (spV (a, n - 1)) ∧ Below w.heap.size w w' := by
  have e1 : IntKind.i64.wrap (n - 1) = n - 1 := IntWalk.i64_in _ (by omega)
  have e2 : IntKind.i64.wrap (n + 1) = n + 1 := IntWalk.i64_in _ (by omega)
  go_enter Tryz.func125, Tryz.ntmps125
  go_wp2
  exact bodyPost_ret (v := .agg #[.int .i64 a, .int .i64 (n - 1)]) (by simp [results, Tryz.results125, go_sem]) rfl ⟨rfl, ((Below.refl _ w).alloc (Nat.le_refl _) _).alloc (by simp) _⟩

set_option maxRecDepth 100000 in
theorem comp4_any (L : Bool) (a b n : Int) (h1 : -99 ≤ n) (h2 : n ≤ 99) (w : World) : Calls Tryz.prog 126 #[colV L a b, .int .i64 n] w fun e w' => e = .returned (spV (n + 1, b)) ∧ Below w.heap.size w w' := by
  have e1 : IntKind.i64.wrap (n - 1) = n - 1 := IntWalk.i64_in _ (by omega)
  have e2 : IntKind.i64.wrap (n + 1) = n + 1 := IntWalk.i64_in _ (by omega)
  go_enter Tryz.func126, Tryz.ntmps126
  go_wp2
  exact bodyPost_ret (v := .agg #[.int .i64 (n + 1), .int .i64 b]) (by simp [results, Tryz.results126, go_sem]) rfl ⟨rfl, ((Below.refl _ w).alloc (Nat.le_refl _) _).alloc (by simp) _⟩

set_option maxRecDepth 100000 in
set_option maxHeartbeats 1000000 in
theorem parseComp1_any (L : Bool) (a b : Int) (s : ByteArray) (hs : s.size ≤ 9223372036854775807) (w : World) (hp : PowIs w) :
    Calls Tryz.prog 108 #[colV L a b, .agg #[.string ⟨#[60, 61]⟩, .func (.func 123) #[] #[]], .string s] w fun e w' => e = .returned (.tuple #[spV (if pvB L a b s.data.toList = true then (fun n : Int => (((a, n) : Sp))) (pvN L a b s.data.toList) else (0, 0)), .bool (pvB L a b s.data.toList)]) ∧ Below w.heap.size w w' := by
  go_enter Tryz.func108, Tryz.ntmps108
  obtain ⟨W, hW⟩ : ∃ W, W = ((w.alloc (.cells #[.bool L, .int .i64 a, .int .i64 b] 27)).alloc (.cells #[.string ⟨#[60, 61]⟩, .func (.func 123) #[] #[]] 122)).alloc (.cells #[.int .i64 0, .int .i64 0] 55) := ⟨_, rfl⟩
  obtain ⟨x1, x2, x3, f1, f2, f3, bW, zW⟩ := three_first w _ _ _ _ _ _ W hW
  have hpW := hp.step bW
  have pv := fun w hp => implPV_any L a b s hs w hp
  have hpn := pv_num L a b s.data.toList
  generalize pvN L a b s.data.toList = n at pv hpn
  generalize pvB L a b s.data.toList = ok at pv
  have PV := Lib.hid pv
  obtain ⟨n1, n2⟩ := hpn
  clear pv hp
  go_wp2_with fail
  rw [← hW]
  clear hW
  refine (PV.out _ hpW).mono ?_
  rintro e w1 ⟨rfl, b1⟩
  have q0 := (b1.cell (p := ⟨w.heap.size, 0, none⟩) (by simp only; omega)).trans (x1 0)
  have q1 := (b1.cell (p := ⟨w.heap.size, 1, none⟩) (by simp only; omega)).trans (x1 1)
  have q2 := (b1.cell (p := ⟨w.heap.size, 2, none⟩) (by simp only; omega)).trans (x1 2)
  have y1 := (b1.cell (p := ⟨w.heap.size + 1, 1, none⟩) (by simp only; omega)).trans (x2 1)
  have r0 := (b1.cell (p := ⟨w.heap.size + 2, 0, none⟩) (by simp only; omega)).trans (x3 0)
  have r1 := (b1.cell (p := ⟨w.heap.size + 2, 1, none⟩) (by simp only; omega)).trans (x3 1)
  have rf0 := (b1.frozen (p := ⟨w.heap.size + 2, 0, none⟩) (by simp only; omega)).trans (f3 0)
  have rf1 := (b1.frozen (p := ⟨w.heap.size + 2, 1, none⟩) (by simp only; omega)).trans (f3 1)
  have B1 := bW.trans (b1.mono bW.size)
  have z1 := b1.size
  simp at q0 q1 q2 y1 r0 r1
  clear x1 x2 x3 f1 f2 f3 b1 bW hpW
  cases ok
  · have BB := Lib.hid B1
    clear B1 q0 q1 q2 y1
    go_wp2
    obtain ⟨k0, k1⟩ := set_sp r0 r1 (.int .i64 0) (.int .i64 0)
    exact bodyPost_ret (v := .tuple #[.agg #[.int .i64 0, .int .i64 0], .bool false]) (by simp [results, Tryz.results108, go_sem, k0, k1]) rfl ⟨rfl, set_sp_below BB.out (by omega) _ _⟩
  · go_wp2_with fail
    refine (comp1_any L a b n n1 n2 _).mono ?_
    rintro e w2 ⟨rfl, b2⟩
    unfold spV
    have m0 := (b2.cell (p := ⟨w.heap.size + 2, 0, none⟩) (by simp only; omega)).trans r0
    have m1 := (b2.cell (p := ⟨w.heap.size + 2, 1, none⟩) (by simp only; omega)).trans r1
    have mf0 := (b2.frozen (p := ⟨w.heap.size + 2, 0, none⟩) (by simp only; omega)).trans rf0
    have mf1 := (b2.frozen (p := ⟨w.heap.size + 2, 1, none⟩) (by simp only; omega)).trans rf1
    have BB := Lib.hid (B1.trans (b2.mono B1.size))
    clear q0 q1 q2 y1 r0 r1 rf0 rf1 B1 b2
    go_wp2
    obtain ⟨k0, k1⟩ := set_sp m0 m1 (.int .i64 (a)) (.int .i64 (n))
    exact bodyPost_ret (v := .tuple #[.agg #[.int .i64 a, .int .i64 n], .bool true]) (by simp [results, Tryz.results108, go_sem, k0, k1]) rfl ⟨rfl, set_sp_below BB.out (by omega) _ _⟩

set_option maxRecDepth 100000 in
set_option maxHeartbeats 1000000 in
theorem parseComp2_any (L : Bool) (a b : Int) (s : ByteArray) (hs : s.size ≤ 9223372036854775807) (w : World) (hp : PowIs w) :
    Calls Tryz.prog 108 #[colV L a b, .agg #[.string ⟨#[62, 61]⟩, .func (.func 124) #[] #[]], .string s] w fun e w' => e = .returned (.tuple #[spV (if pvB L a b s.data.toList = true then (fun n : Int => (((n, b) : Sp))) (pvN L a b s.data.toList) else (0, 0)), .bool (pvB L a b s.data.toList)]) ∧ Below w.heap.size w w' := by
  go_enter Tryz.func108, Tryz.ntmps108
  obtain ⟨W, hW⟩ : ∃ W, W = ((w.alloc (.cells #[.bool L, .int .i64 a, .int .i64 b] 27)).alloc (.cells #[.string ⟨#[62, 61]⟩, .func (.func 124) #[] #[]] 122)).alloc (.cells #[.int .i64 0, .int .i64 0] 55) := ⟨_, rfl⟩
  obtain ⟨x1, x2, x3, f1, f2, f3, bW, zW⟩ := three_first w _ _ _ _ _ _ W hW
  have hpW := hp.step bW
  have pv := fun w hp => implPV_any L a b s hs w hp
  have hpn := pv_num L a b s.data.toList
  generalize pvN L a b s.data.toList = n at pv hpn
  generalize pvB L a b s.data.toList = ok at pv
  have PV := Lib.hid pv
  obtain ⟨n1, n2⟩ := hpn
  clear pv hp
  go_wp2_with fail
  rw [← hW]
  clear hW
  refine (PV.out _ hpW).mono ?_
  rintro e w1 ⟨rfl, b1⟩
  have q0 := (b1.cell (p := ⟨w.heap.size, 0, none⟩) (by simp only; omega)).trans (x1 0)
  have q1 := (b1.cell (p := ⟨w.heap.size, 1, none⟩) (by simp only; omega)).trans (x1 1)
  have q2 := (b1.cell (p := ⟨w.heap.size, 2, none⟩) (by simp only; omega)).trans (x1 2)
  have y1 := (b1.cell (p := ⟨w.heap.size + 1, 1, none⟩) (by simp only; omega)).trans (x2 1)
  have r0 := (b1.cell (p := ⟨w.heap.size + 2, 0, none⟩) (by simp only; omega)).trans (x3 0)
  have r1 := (b1.cell (p := ⟨w.heap.size + 2, 1, none⟩) (by simp only; omega)).trans (x3 1)
  have rf0 := (b1.frozen (p := ⟨w.heap.size + 2, 0, none⟩) (by simp only; omega)).trans (f3 0)
  have rf1 := (b1.frozen (p := ⟨w.heap.size + 2, 1, none⟩) (by simp only; omega)).trans (f3 1)
  have B1 := bW.trans (b1.mono bW.size)
  have z1 := b1.size
  simp at q0 q1 q2 y1 r0 r1
  clear x1 x2 x3 f1 f2 f3 b1 bW hpW
  cases ok
  · have BB := Lib.hid B1
    clear B1 q0 q1 q2 y1
    go_wp2
    obtain ⟨k0, k1⟩ := set_sp r0 r1 (.int .i64 0) (.int .i64 0)
    exact bodyPost_ret (v := .tuple #[.agg #[.int .i64 0, .int .i64 0], .bool false]) (by simp [results, Tryz.results108, go_sem, k0, k1]) rfl ⟨rfl, set_sp_below BB.out (by omega) _ _⟩
  · go_wp2_with fail
    refine (comp2_any L a b n n1 n2 _).mono ?_
    rintro e w2 ⟨rfl, b2⟩
    unfold spV
    have m0 := (b2.cell (p := ⟨w.heap.size + 2, 0, none⟩) (by simp only; omega)).trans r0
    have m1 := (b2.cell (p := ⟨w.heap.size + 2, 1, none⟩) (by simp only; omega)).trans r1
    have mf0 := (b2.frozen (p := ⟨w.heap.size + 2, 0, none⟩) (by simp only; omega)).trans rf0
    have mf1 := (b2.frozen (p := ⟨w.heap.size + 2, 1, none⟩) (by simp only; omega)).trans rf1
    have BB := Lib.hid (B1.trans (b2.mono B1.size))
    clear q0 q1 q2 y1 r0 r1 rf0 rf1 B1 b2
    go_wp2
    obtain ⟨k0, k1⟩ := set_sp m0 m1 (.int .i64 (n)) (.int .i64 (b))
    exact bodyPost_ret (v := .tuple #[.agg #[.int .i64 n, .int .i64 b], .bool true]) (by simp [results, Tryz.results108, go_sem, k0, k1]) rfl ⟨rfl, set_sp_below BB.out (by omega) _ _⟩

set_option maxRecDepth 100000 in
set_option maxHeartbeats 1000000 in
theorem parseComp3_any (L : Bool) (a b : Int) (s : ByteArray) (hs : s.size ≤ 9223372036854775807) (w : World) (hp : PowIs w) :
    Calls Tryz.prog 108 #[colV L a b, .agg #[.string ⟨#[60]⟩, .func (.func 125) #[] #[]], .string s] w fun e w' => e = .returned (.tuple #[spV (if pvB L a b s.data.toList = true then (fun n : Int => (((a, n - 1) : Sp))) (pvN L a b s.data.toList) else (0, 0)), .bool (pvB L a b s.data.toList)]) ∧ Below w.heap.size w w' := by
  go_enter Tryz.func108, Tryz.ntmps108
  obtain ⟨W, hW⟩ : ∃ W, W = ((w.alloc (.cells #[.bool L, .int .i64 a, .int .i64 b] 27)).alloc (.cells #[.string ⟨#[60]⟩, .func (.func 125) #[] #[]] 122)).alloc (.cells #[.int .i64 0, .int .i64 0] 55) := ⟨_, rfl⟩
  obtain ⟨x1, x2, x3, f1, f2, f3, bW, zW⟩ := three_first w _ _ _ _ _ _ W hW
  have hpW := hp.step bW
  have pv := fun w hp => implPV_any L a b s hs w hp
  have hpn := pv_num L a b s.data.toList
  generalize pvN L a b s.data.toList = n at pv hpn
  generalize pvB L a b s.data.toList = ok at pv
  have PV := Lib.hid pv
  obtain ⟨n1, n2⟩ := hpn
  clear pv hp
  go_wp2_with fail
  rw [← hW]
  clear hW
  refine (PV.out _ hpW).mono ?_
  rintro e w1 ⟨rfl, b1⟩
  have q0 := (b1.cell (p := ⟨w.heap.size, 0, none⟩) (by simp only; omega)).trans (x1 0)
  have q1 := (b1.cell (p := ⟨w.heap.size, 1, none⟩) (by simp only; omega)).trans (x1 1)
  have q2 := (b1.cell (p := ⟨w.heap.size, 2, none⟩) (by simp only; omega)).trans (x1 2)
  have y1 := (b1.cell (p := ⟨w.heap.size + 1, 1, none⟩) (by simp only; omega)).trans (x2 1)
  have r0 := (b1.cell (p := ⟨w.heap.size + 2, 0, none⟩) (by simp only; omega)).trans (x3 0)
  have r1 := (b1.cell (p := ⟨w.heap.size + 2, 1, none⟩) (by simp only; omega)).trans (x3 1)
  have rf0 := (b1.frozen (p := ⟨w.heap.size + 2, 0, none⟩) (by simp only; omega)).trans (f3 0)
  have rf1 := (b1.frozen (p := ⟨w.heap.size + 2, 1, none⟩) (by simp only; omega)).trans (f3 1)
  have B1 := bW.trans (b1.mono bW.size)
  have z1 := b1.size
  simp at q0 q1 q2 y1 r0 r1
  clear x1 x2 x3 f1 f2 f3 b1 bW hpW
  cases ok
  · have BB := Lib.hid B1
    clear B1 q0 q1 q2 y1
    go_wp2
    obtain ⟨k0, k1⟩ := set_sp r0 r1 (.int .i64 0) (.int .i64 0)
    exact bodyPost_ret (v := .tuple #[.agg #[.int .i64 0, .int .i64 0], .bool false]) (by simp [results, Tryz.results108, go_sem, k0, k1]) rfl ⟨rfl, set_sp_below BB.out (by omega) _ _⟩
  · go_wp2_with fail
    refine (comp3_any L a b n n1 n2 _).mono ?_
    rintro e w2 ⟨rfl, b2⟩
    unfold spV
    have m0 := (b2.cell (p := ⟨w.heap.size + 2, 0, none⟩) (by simp only; omega)).trans r0
    have m1 := (b2.cell (p := ⟨w.heap.size + 2, 1, none⟩) (by simp only; omega)).trans r1
    have mf0 := (b2.frozen (p := ⟨w.heap.size + 2, 0, none⟩) (by simp only; omega)).trans rf0
    have mf1 := (b2.frozen (p := ⟨w.heap.size + 2, 1, none⟩) (by simp only; omega)).trans rf1
    have BB := Lib.hid (B1.trans (b2.mono B1.size))
    clear q0 q1 q2 y1 r0 r1 rf0 rf1 B1 b2
    go_wp2
    obtain ⟨k0, k1⟩ := set_sp m0 m1 (.int .i64 (a)) (.int .i64 (n - 1))
    exact bodyPost_ret (v := .tuple #[.agg #[.int .i64 a, .int .i64 (n - 1)], .bool true]) (by simp [results, Tryz.results108, go_sem, k0, k1]) rfl ⟨rfl, set_sp_below BB.out (by omega) _ _⟩

set_option maxRecDepth 100000 in
set_option maxHeartbeats 1000000 in
theorem parseComp4_any (L : Bool) (a b : Int) (s : ByteArray) (hs : s.size ≤ 9223372036854775807) (w : World) (hp : PowIs w) :
    Calls Tryz.prog 108 #[colV L a b, .agg #[.string ⟨#[62]⟩, .func (.func 126) #[] #[]], .string s] w fun e w' => e = .returned (.tuple #[spV (if pvB L a b s.data.toList = true then (fun n : Int => (((n + 1, b) : Sp))) (pvN L a b s.data.toList) else (0, 0)), .bool (pvB L a b s.data.toList)]) ∧ Below w.heap.size w w' := by
  go_enter Tryz.func108, Tryz.ntmps108
  obtain ⟨W, hW⟩ : ∃ W, W = ((w.alloc (.cells #[.bool L, .int .i64 a, .int .i64 b] 27)).alloc (.cells #[.string ⟨#[62]⟩, .func (.func 126) #[] #[]] 122)).alloc (.cells #[.int .i64 0, .int .i64 0] 55) := ⟨_, rfl⟩
  obtain ⟨x1, x2, x3, f1, f2, f3, bW, zW⟩ := three_first w _ _ _ _ _ _ W hW
  have hpW := hp.step bW
  have pv := fun w hp => implPV_any L a b s hs w hp
  have hpn := pv_num L a b s.data.toList
  generalize pvN L a b s.data.toList = n at pv hpn
  generalize pvB L a b s.data.toList = ok at pv
  have PV := Lib.hid pv
  obtain ⟨n1, n2⟩ := hpn
  clear pv hp
  go_wp2_with fail
  rw [← hW]
  clear hW
  refine (PV.out _ hpW).mono ?_
  rintro e w1 ⟨rfl, b1⟩
  have q0 := (b1.cell (p := ⟨w.heap.size, 0, none⟩) (by simp only; omega)).trans (x1 0)
  have q1 := (b1.cell (p := ⟨w.heap.size, 1, none⟩) (by simp only; omega)).trans (x1 1)
  have q2 := (b1.cell (p := ⟨w.heap.size, 2, none⟩) (by simp only; omega)).trans (x1 2)
  have y1 := (b1.cell (p := ⟨w.heap.size + 1, 1, none⟩) (by simp only; omega)).trans (x2 1)
  have r0 := (b1.cell (p := ⟨w.heap.size + 2, 0, none⟩) (by simp only; omega)).trans (x3 0)
  have r1 := (b1.cell (p := ⟨w.heap.size + 2, 1, none⟩) (by simp only; omega)).trans (x3 1)
  have rf0 := (b1.frozen (p := ⟨w.heap.size + 2, 0, none⟩) (by simp only; omega)).trans (f3 0)
  have rf1 := (b1.frozen (p := ⟨w.heap.size + 2, 1, none⟩) (by simp only; omega)).trans (f3 1)
  have B1 := bW.trans (b1.mono bW.size)
  have z1 := b1.size
  simp at q0 q1 q2 y1 r0 r1
  clear x1 x2 x3 f1 f2 f3 b1 bW hpW
  cases ok
  · have BB := Lib.hid B1
    clear B1 q0 q1 q2 y1
    go_wp2
    obtain ⟨k0, k1⟩ := set_sp r0 r1 (.int .i64 0) (.int .i64 0)
    exact bodyPost_ret (v := .tuple #[.agg #[.int .i64 0, .int .i64 0], .bool false]) (by simp [results, Tryz.results108, go_sem, k0, k1]) rfl ⟨rfl, set_sp_below BB.out (by omega) _ _⟩
  · go_wp2_with fail
    refine (comp4_any L a b n n1 n2 _).mono ?_
    rintro e w2 ⟨rfl, b2⟩
    unfold spV
    have m0 := (b2.cell (p := ⟨w.heap.size + 2, 0, none⟩) (by simp only; omega)).trans r0
    have m1 := (b2.cell (p := ⟨w.heap.size + 2, 1, none⟩) (by simp only; omega)).trans r1
    have mf0 := (b2.frozen (p := ⟨w.heap.size + 2, 0, none⟩) (by simp only; omega)).trans rf0
    have mf1 := (b2.frozen (p := ⟨w.heap.size + 2, 1, none⟩) (by simp only; omega)).trans rf1
    have BB := Lib.hid (B1.trans (b2.mono B1.size))
    clear q0 q1 q2 y1 r0 r1 rf0 rf1 B1 b2
    go_wp2
    obtain ⟨k0, k1⟩ := set_sp m0 m1 (.int .i64 (n + 1)) (.int .i64 (b))
    exact bodyPost_ret (v := .tuple #[.agg #[.int .i64 (n + 1), .int .i64 b], .bool true]) (by simp [results, Tryz.results108, go_sem, k0, k1]) rfl ⟨rfl, set_sp_below BB.out (by omega) _ _⟩

end Go.Proofs.YthkjcljhfjaabaaGreatDoor
