/-
  Contracts of the program's comparisons and parts of tests.
-/
import Derived.Test.YthkjcljhfjaabaaGreatDoorKa
import Derived.Test.YthkjcljhfjaabaaGreatDoorCz
import Derived.Test.YthkjcljhfjaabaaGreatDoorTcM
import Derived.Test.YthkjcljhfjaabaaGreatDoorLi
import Derived.Test.YthkjcljhfjaabaaGreatDoorSh
import Derived.Laws.EntriesVeiled
namespace Go.Proofs.YthkjcljhfjaabaaGreatDoor
open Go.RowKit Sets

def spV (x : Sp) : Value := .agg #[.int .i64 x.1, .int .i64 x.2]
theorem set_sp {w : World} {g : Nat} {v0 v1 : Value} (h0 : w.cell? ⟨g, 0, none⟩ = some v0) (h1 : w.cell? ⟨g, 1, none⟩ = some v1) (a b : Value) :
    ((w.setCell ⟨g, 0, none⟩ a).setCell ⟨g, 1, none⟩ b).cell? ⟨g, 0, none⟩ = some a ∧ ((w.setCell ⟨g, 0, none⟩ a).setCell ⟨g, 1, none⟩ b).cell? ⟨g, 1, none⟩ = some b := by
  refine ⟨?_, ?_⟩
  · rw [World.cell?_setCell_other _ _ _ _ (by simp)]
    exact World.cell?_setCell_same' _ _ _ (by rw [h0]; rfl)
  · exact World.cell?_setCell_same' _ _ _ (by rw [World.cell?_setCell_other _ _ _ _ (by simp), h1]; rfl)
theorem set_sp_below {B g : Nat} {a w : World} (h : Below B a w) (hg : B ≤ g) (v0 v1 : Value) : Below B a ((w.setCell ⟨g, 0, none⟩ v0).setCell ⟨g, 1, none⟩ v1) := (h.setCell hg v0).setCell hg v1
theorem sp_box (w : World) (a b : Value) (t : TypeId) : (w.alloc (.cells #[a, b] t)).cell? ⟨w.heap.size, 0, none⟩ = some a ∧ (w.alloc (.cells #[a, b] t)).cell? ⟨w.heap.size, 1, none⟩ = some b ∧ ∀ o, (w.alloc (.cells #[a, b] t)).frozen? ⟨w.heap.size, o, none⟩ = false := by
  refine ⟨?_, ?_, fun o => World.frozen?_alloc_at _ _ _ _ rfl⟩ <;> (rw [World.cell?_alloc_new]; rfl)
theorem trim_yes {l p : Bs} (h : Lib.hasPrefix l p = true) : Lib.trimPrefix l p = l.drop p.length := by unfold Lib.trimPrefix; rw [if_pos h]

/-- three blocks that a call lays first -/
theorem three_first (w : World) (c1 c2 c3 : Array Value) (t1 t2 t3 : TypeId) (W : World) (hW : W = ((w.alloc (.cells c1 t1)).alloc (.cells c2 t2)).alloc (.cells c3 t3)) :
    (∀ o, W.cell? ⟨w.heap.size, o, none⟩ = c1[o]?) ∧ (∀ o, W.cell? ⟨w.heap.size + 1, o, none⟩ = c2[o]?) ∧ (∀ o, W.cell? ⟨w.heap.size + 2, o, none⟩ = c3[o]?) ∧
      (∀ o, W.frozen? ⟨w.heap.size, o, none⟩ = false) ∧ (∀ o, W.frozen? ⟨w.heap.size + 1, o, none⟩ = false) ∧ (∀ o, W.frozen? ⟨w.heap.size + 2, o, none⟩ = false) ∧ Below w.heap.size w W ∧ W.heap.size = w.heap.size + 3 := by
  subst hW
  have b1 : Below (w.heap.size + 1) (w.alloc (.cells c1 t1)) (((w.alloc (.cells c1 t1)).alloc (.cells c2 t2)).alloc (.cells c3 t3)) := ((Below.refl _ _).alloc (by simp) _).alloc (by simp) _
  have b2 : Below (w.heap.size + 2) ((w.alloc (.cells c1 t1)).alloc (.cells c2 t2)) (((w.alloc (.cells c1 t1)).alloc (.cells c2 t2)).alloc (.cells c3 t3)) := (Below.refl _ _).alloc (by simp) _
  have z1 : (w.alloc (.cells c1 t1)).heap.size = w.heap.size + 1 := by simp
  have z2 : ((w.alloc (.cells c1 t1)).alloc (.cells c2 t2)).heap.size = w.heap.size + 2 := by simp
  refine ⟨fun o => ?_, fun o => ?_, fun o => ?_, fun o => ?_, fun o => ?_, fun o => ?_, ?_, by simp⟩
  · rw [b1.cell (p := ⟨w.heap.size, o, none⟩) (by simp), World.cell?_alloc_new]
  · rw [b2.cell (p := ⟨w.heap.size + 1, o, none⟩) (by simp), ← z1, World.cell?_alloc_new]
  · rw [← z2, World.cell?_alloc_new]
  · rw [b1.frozen (p := ⟨w.heap.size, o, none⟩) (by simp)]; exact World.frozen?_alloc_at _ _ _ _ rfl
  · rw [b2.frozen (p := ⟨w.heap.size + 1, o, none⟩) (by simp)]; exact World.frozen?_alloc_at _ _ _ _ (by rw [z1])
  · exact World.frozen?_alloc_at _ _ _ _ (by rw [z2])
  · exact (((Below.refl _ _).alloc (Nat.le_refl _) _).alloc (by simp) _).alloc (by simp; omega) _

set_option maxRecDepth 100000 in
theorem comp1_any (L : Bool) (a b n : Int) (h1 : -99 ≤ n) (h2 : n ≤ 99) (w : World) : Calls Tryz.prog 123 #[colV L a b, .int .i64 n] w fun e w' => e = .returned (spV (a, n)) ∧ Below w.heap.size w w' := by
  have e1 : IntKind.i64.wrap (n - 1) = n - 1 := IntWalk.i64_in _ (by omega)
  have e2 : IntKind.i64.wrap (n + 1) = n + 1 := IntWalk.i64_in _ (by omega)
  go_enter Tryz.func123, Tryz.ntmps123
  go_wp2
  exact bodyPost_ret (v := .agg #[.int .i64 a, .int .i64 n]) (by simp [results, Tryz.results123, go_sem]) rfl ⟨rfl, ((Below.refl _ w).alloc (Nat.le_refl _) _).alloc (by simp) _⟩

set_option maxRecDepth 100000 in
theorem comp2_any (L : Bool) (a b n : Int) (h1 : -99 ≤ n) (h2 : n ≤ 99) (w : World) : Calls Tryz.prog 124 #[colV L a b, .int .i64 n] w fun e w' => e = .returned (spV (n, b)) ∧ Below w.heap.size w w' := by
  have e1 : IntKind.i64.wrap (n - 1) = n - 1 := IntWalk.i64_in _ (by omega)
  have e2 : IntKind.i64.wrap (n + 1) = n + 1 := IntWalk.i64_in _ (by omega)
  go_enter Tryz.func124, Tryz.ntmps124
  go_wp2
  exact bodyPost_ret (v := .agg #[.int .i64 n, .int .i64 b]) (by simp [results, Tryz.results124, go_sem]) rfl ⟨rfl, ((Below.refl _ w).alloc (Nat.le_refl _) _).alloc (by simp) _⟩

set_option maxRecDepth 100000 in
theorem comp3_any (L : Bool) (a b n : Int) (h1 : -99 ≤ n) (h2 : n ≤ 99) (w : World) : Calls Tryz.prog 125 #[colV L a b, .int .i64 n] w fun e w' => e = .returned (spV (a, n - 1)) ∧ Below w.heap.size w w' := by
  have e1 : IntKind.i64.wrap (n - 1) = n - 1 := IntWalk.i64_in _ (by omega)
  have e2 : IntKind.i64.wrap (n + 1) = n + 1 := IntWalk.i64_in _ (by omega)
  go_enter Tryz.func125, Tryz.ntmps125
  go_wp2
  exact bodyPost_ret (v := .agg #[.int .i64 a, .int .i64 (n - 1)]) (by simp [results, Tryz.results125, go_sem]) rfl ⟨rfl, ((Below.refl _ w).alloc (Nat.le_refl _) _).alloc (by simp) _⟩

set_option maxRecDepth 100000 in
theorem comp4_any (L : Bool) (a b n : Int) (h1 : -99 ≤ n) (h2 : n ≤ 99) (w : World) : Calls Tryz.prog 126 #[colV L a b, .int .i64 n] w fun e w' => e = .returned (spV (n + 1, b)) ∧ Below w.heap.size w w' := by
  have e1 : IntKind.i64.wrap (n - 1) = n - 1 := IntWalk.i64_in _ (by omega)
  have e2 : IntKind.i64.wrap (n + 1) = n + 1 := IntWalk.i64_in _ (by omega)
  go_enter Tryz.func126, Tryz.ntmps126
  go_wp2
  exact bodyPost_ret (v := .agg #[.int .i64 (n + 1), .int .i64 b]) (by simp [results, Tryz.results126, go_sem]) rfl ⟨rfl, ((Below.refl _ w).alloc (Nat.le_refl _) _).alloc (by simp) _⟩

set_option maxRecDepth 100000 in
set_option maxHeartbeats 1000000 in
theorem parseComp1_any (L : Bool) (a b : Int) (s : ByteArray) (hs : s.size ≤ 9223372036854775807) (w : World) (hp : PowIs w) :
    Calls Tryz.prog 108 #[colV L a b, .agg #[.string ⟨#[60, 61]⟩, .func (.func 123) #[] #[]], .string s] w fun e w' => e = .returned (.tuple #[spV (if pvB L a b s.data.toList = true then (fun n : Int => (((a, n) : Sp))) (pvN L a b s.data.toList) else (0, 0)), .bool (pvB L a b s.data.toList)]) ∧ Below w.heap.size w w' := by
  go_enter Tryz.func108, Tryz.ntmps108
  obtain ⟨W, hW⟩ : ∃ W, W = ((w.alloc (.cells #[.bool L, .int .i64 a, .int .i64 b] 27)).alloc (.cells #[.string ⟨#[60, 61]⟩, .func (.func 123) #[] #[]] 122)).alloc (.cells #[.int .i64 0, .int .i64 0] 55) := ⟨_, rfl⟩
  obtain ⟨x1, x2, x3, f1, f2, f3, bW, zW⟩ := three_first w _ _ _ _ _ _ W hW
  have hpW := hp.step bW
  have pv := fun w hp => implPV_any L a b s hs w hp
  have hpn := pv_num L a b s.data.toList
  generalize pvN L a b s.data.toList = n at pv hpn
  generalize pvB L a b s.data.toList = ok at pv
  have PV := Lib.hid pv
  obtain ⟨n1, n2⟩ := hpn
  clear pv hp
  go_wp2_with fail
  rw [← hW]
  clear hW
  refine (PV.out _ hpW).mono ?_
  rintro e w1 ⟨rfl, b1⟩
  have q0 := (b1.cell (p := ⟨w.heap.size, 0, none⟩) (by simp only; omega)).trans (x1 0)
  have q1 := (b1.cell (p := ⟨w.heap.size, 1, none⟩) (by simp only; omega)).trans (x1 1)
  have q2 := (b1.cell (p := ⟨w.heap.size, 2, none⟩) (by simp only; omega)).trans (x1 2)
  have y1 := (b1.cell (p := ⟨w.heap.size + 1, 1, none⟩) (by simp only; omega)).trans (x2 1)
  have r0 := (b1.cell (p := ⟨w.heap.size + 2, 0, none⟩) (by simp only; omega)).trans (x3 0)
  have r1 := (b1.cell (p := ⟨w.heap.size + 2, 1, none⟩) (by simp only; omega)).trans (x3 1)
  have rf0 := (b1.frozen (p := ⟨w.heap.size + 2, 0, none⟩) (by simp only; omega)).trans (f3 0)
  have rf1 := (b1.frozen (p := ⟨w.heap.size + 2, 1, none⟩) (by simp only; omega)).trans (f3 1)
  have B1 := bW.trans (b1.mono bW.size)
  have z1 := b1.size
  simp at q0 q1 q2 y1 r0 r1
  clear x1 x2 x3 f1 f2 f3 b1 bW hpW
  cases ok
  · have BB := Lib.hid B1
    clear B1 q0 q1 q2 y1
    go_wp2
    obtain ⟨k0, k1⟩ := set_sp r0 r1 (.int .i64 0) (.int .i64 0)
    exact bodyPost_ret (v := .tuple #[.agg #[.int .i64 0, .int .i64 0], .bool false]) (by simp [results, Tryz.results108, go_sem, k0, k1]) rfl ⟨rfl, set_sp_below BB.out (by omega) _ _⟩
  · go_wp2_with fail
    refine (comp1_any L a b n n1 n2 _).mono ?_
    rintro e w2 ⟨rfl, b2⟩
    unfold spV
    have m0 := (b2.cell (p := ⟨w.heap.size + 2, 0, none⟩) (by simp only; omega)).trans r0
    have m1 := (b2.cell (p := ⟨w.heap.size + 2, 1, none⟩) (by simp only; omega)).trans r1
    have mf0 := (b2.frozen (p := ⟨w.heap.size + 2, 0, none⟩) (by simp only; omega)).trans rf0
    have mf1 := (b2.frozen (p := ⟨w.heap.size + 2, 1, none⟩) (by simp only; omega)).trans rf1
    have BB := Lib.hid (B1.trans (b2.mono B1.size))
    clear q0 q1 q2 y1 r0 r1 rf0 rf1 B1 b2
    go_wp2
    obtain ⟨k0, k1⟩ := set_sp m0 m1 (.int .i64 (a)) (.int .i64 (n))
    exact bodyPost_ret (v := .tuple #[.agg #[.int .i64 a, .int .i64 n], .bool true]) (by simp [results, Tryz.results108, go_sem, k0, k1]) rfl ⟨rfl, set_sp_below BB.out (by omega) _ _⟩

set_option maxRecDepth 100000 in
set_option maxHeartbeats 1000000 in
theorem parseComp2_any (L : Bool) (a b : Int) (s : ByteArray) (hs : s.size ≤ 9223372036854775807) (w : World) (hp : PowIs w) :
    Calls Tryz.prog 108 #[colV L a b, .agg #[.string ⟨#[62, 61]⟩, .func (.func 124) #[] #[]], .string s] w fun e w' => e = .returned (.tuple #[spV (if pvB L a b s.data.toList = true then (fun n : Int => (((n, b) : Sp))) (pvN L a b s.data.toList) else (0, 0)), .bool (pvB L a b s.data.toList)]) ∧ Below w.heap.size w w' := by
  go_enter Tryz.func108, Tryz.ntmps108
  obtain ⟨W, hW⟩ : ∃ W, W = ((w.alloc (.cells #[.bool L, .int .i64 a, .int .i64 b] 27)).alloc (.cells #[.string ⟨#[62, 61]⟩, .func (.func 124) #[] #[]] 122)).alloc (.cells #[.int .i64 0, .int .i64 0] 55) := ⟨_, rfl⟩
  obtain ⟨x1, x2, x3, f1, f2, f3, bW, zW⟩ := three_first w _ _ _ _ _ _ W hW
  have hpW := hp.step bW
  have pv := fun w hp => implPV_any L a b s hs w hp
  have hpn := pv_num L a b s.data.toList
  generalize pvN L a b s.data.toList = n at pv hpn
  generalize pvB L a b s.data.toList = ok at pv
  have PV := Lib.hid pv
  obtain ⟨n1, n2⟩ := hpn
  clear pv hp
  go_wp2_with fail
  rw [← hW]
  clear hW
  refine (PV.out _ hpW).mono ?_
  rintro e w1 ⟨rfl, b1⟩
  have q0 := (b1.cell (p := ⟨w.heap.size, 0, none⟩) (by simp only; omega)).trans (x1 0)
  have q1 := (b1.cell (p := ⟨w.heap.size, 1, none⟩) (by simp only; omega)).trans (x1 1)
  have q2 := (b1.cell (p := ⟨w.heap.size, 2, none⟩) (by simp only; omega)).trans (x1 2)
  have y1 := (b1.cell (p := ⟨w.heap.size + 1, 1, none⟩) (by simp only; omega)).trans (x2 1)
  have r0 := (b1.cell (p := ⟨w.heap.size + 2, 0, none⟩) (by simp only; omega)).trans (x3 0)
  have r1 := (b1.cell (p := ⟨w.heap.size + 2, 1, none⟩) (by simp only; omega)).trans (x3 1)
  have rf0 := (b1.frozen (p := ⟨w.heap.size + 2, 0, none⟩) (by simp only; omega)).trans (f3 0)
  have rf1 := (b1.frozen (p := ⟨w.heap.size + 2, 1, none⟩) (by simp only; omega)).trans (f3 1)
  have B1 := bW.trans (b1.mono bW.size)
  have z1 := b1.size
  simp at q0 q1 q2 y1 r0 r1
  clear x1 x2 x3 f1 f2 f3 b1 bW hpW
  cases ok
  · have BB := Lib.hid B1
    clear B1 q0 q1 q2 y1
    go_wp2
    obtain ⟨k0, k1⟩ := set_sp r0 r1 (.int .i64 0) (.int .i64 0)
    exact bodyPost_ret (v := .tuple #[.agg #[.int .i64 0, .int .i64 0], .bool false]) (by simp [results, Tryz.results108, go_sem, k0, k1]) rfl ⟨rfl, set_sp_below BB.out (by omega) _ _⟩
  · go_wp2_with fail
    refine (comp2_any L a b n n1 n2 _).mono ?_
    rintro e w2 ⟨rfl, b2⟩
    unfold spV
    have m0 := (b2.cell (p := ⟨w.heap.size + 2, 0, none⟩) (by simp only; omega)).trans r0
    have m1 := (b2.cell (p := ⟨w.heap.size + 2, 1, none⟩) (by simp only; omega)).trans r1
    have mf0 := (b2.frozen (p := ⟨w.heap.size + 2, 0, none⟩) (by simp only; omega)).trans rf0
    have mf1 := (b2.frozen (p := ⟨w.heap.size + 2, 1, none⟩) (by simp only; omega)).trans rf1
    have BB := Lib.hid (B1.trans (b2.mono B1.size))
    clear q0 q1 q2 y1 r0 r1 rf0 rf1 B1 b2
    go_wp2
    obtain ⟨k0, k1⟩ := set_sp m0 m1 (.int .i64 (n)) (.int .i64 (b))
    exact bodyPost_ret (v := .tuple #[.agg #[.int .i64 n, .int .i64 b], .bool true]) (by simp [results, Tryz.results108, go_sem, k0, k1]) rfl ⟨rfl, set_sp_below BB.out (by omega) _ _⟩

set_option maxRecDepth 100000 in
set_option maxHeartbeats 1000000 in
theorem parseComp3_any (L : Bool) (a b : Int) (s : ByteArray) (hs : s.size ≤ 9223372036854775807) (w : World) (hp : PowIs w) :
    Calls Tryz.prog 108 #[colV L a b, .agg #[.string ⟨#[60]⟩, .func (.func 125) #[] #[]], .string s] w fun e w' => e = .returned (.tuple #[spV (if pvB L a b s.data.toList = true then (fun n : Int => (((a, n - 1) : Sp))) (pvN L a b s.data.toList) else (0, 0)), .bool (pvB L a b s.data.toList)]) ∧ Below w.heap.size w w' := by
  go_enter Tryz.func108, Tryz.ntmps108
  obtain ⟨W, hW⟩ : ∃ W, W = ((w.alloc (.cells #[.bool L, .int .i64 a, .int .i64 b] 27)).alloc (.cells #[.string ⟨#[60]⟩, .func (.func 125) #[] #[]] 122)).alloc (.cells #[.int .i64 0, .int .i64 0] 55) := ⟨_, rfl⟩
  obtain ⟨x1, x2, x3, f1, f2, f3, bW, zW⟩ := three_first w _ _ _ _ _ _ W hW
  have hpW := hp.step bW
  have pv := fun w hp => implPV_any L a b s hs w hp
  have hpn := pv_num L a b s.data.toList
  generalize pvN L a b s.data.toList = n at pv hpn
  generalize pvB L a b s.data.toList = ok at pv
  have PV := Lib.hid pv
  obtain ⟨n1, n2⟩ := hpn
  clear pv hp
  go_wp2_with fail
  rw [← hW]
  clear hW
  refine (PV.out _ hpW).mono ?_
  rintro e w1 ⟨rfl, b1⟩
  have q0 := (b1.cell (p := ⟨w.heap.size, 0, none⟩) (by simp only; omega)).trans (x1 0)
  have q1 := (b1.cell (p := ⟨w.heap.size, 1, none⟩) (by simp only; omega)).trans (x1 1)
  have q2 := (b1.cell (p := ⟨w.heap.size, 2, none⟩) (by simp only; omega)).trans (x1 2)
  have y1 := (b1.cell (p := ⟨w.heap.size + 1, 1, none⟩) (by simp only; omega)).trans (x2 1)
  have r0 := (b1.cell (p := ⟨w.heap.size + 2, 0, none⟩) (by simp only; omega)).trans (x3 0)
  have r1 := (b1.cell (p := ⟨w.heap.size + 2, 1, none⟩) (by simp only; omega)).trans (x3 1)
  have rf0 := (b1.frozen (p := ⟨w.heap.size + 2, 0, none⟩) (by simp only; omega)).trans (f3 0)
  have rf1 := (b1.frozen (p := ⟨w.heap.size + 2, 1, none⟩) (by simp only; omega)).trans (f3 1)
  have B1 := bW.trans (b1.mono bW.size)
  have z1 := b1.size
  simp at q0 q1 q2 y1 r0 r1
  clear x1 x2 x3 f1 f2 f3 b1 bW hpW
  cases ok
  · have BB := Lib.hid B1
    clear B1 q0 q1 q2 y1
    go_wp2
    obtain ⟨k0, k1⟩ := set_sp r0 r1 (.int .i64 0) (.int .i64 0)
    exact bodyPost_ret (v := .tuple #[.agg #[.int .i64 0, .int .i64 0], .bool false]) (by simp [results, Tryz.results108, go_sem, k0, k1]) rfl ⟨rfl, set_sp_below BB.out (by omega) _ _⟩
  · go_wp2_with fail
    refine (comp3_any L a b n n1 n2 _).mono ?_
    rintro e w2 ⟨rfl, b2⟩
    unfold spV
    have m0 := (b2.cell (p := ⟨w.heap.size + 2, 0, none⟩) (by simp only; omega)).trans r0
    have m1 := (b2.cell (p := ⟨w.heap.size + 2, 1, none⟩) (by simp only; omega)).trans r1
    have mf0 := (b2.frozen (p := ⟨w.heap.size + 2, 0, none⟩) (by simp only; omega)).trans rf0
    have mf1 := (b2.frozen (p := ⟨w.heap.size + 2, 1, none⟩) (by simp only; omega)).trans rf1
    have BB := Lib.hid (B1.trans (b2.mono B1.size))
    clear q0 q1 q2 y1 r0 r1 rf0 rf1 B1 b2
    go_wp2
    obtain ⟨k0, k1⟩ := set_sp m0 m1 (.int .i64 (a)) (.int .i64 (n - 1))
    exact bodyPost_ret (v := .tuple #[.agg #[.int .i64 a, .int .i64 (n - 1)], .bool true]) (by simp [results, Tryz.results108, go_sem, k0, k1]) rfl ⟨rfl, set_sp_below BB.out (by omega) _ _⟩

set_option maxRecDepth 100000 in
set_option maxHeartbeats 1000000 in
theorem parseComp4_any (L : Bool) (a b : Int) (s : ByteArray) (hs : s.size ≤ 9223372036854775807) (w : World) (hp : PowIs w) :
    Calls Tryz.prog 108 #[colV L a b, .agg #[.string ⟨#[62]⟩, .func (.func 126) #[] #[]], .string s] w fun e w' => e = .returned (.tuple #[spV (if pvB L a b s.data.toList = true then (fun n : Int => (((n + 1, b) : Sp))) (pvN L a b s.data.toList) else (0, 0)), .bool (pvB L a b s.data.toList)]) ∧ Below w.heap.size w w' := by
  go_enter Tryz.func108, Tryz.ntmps108
  obtain ⟨W, hW⟩ : ∃ W, W = ((w.alloc (.cells #[.bool L, .int .i64 a, .int .i64 b] 27)).alloc (.cells #[.string ⟨#[62]⟩, .func (.func 126) #[] #[]] 122)).alloc (.cells #[.int .i64 0, .int .i64 0] 55) := ⟨_, rfl⟩
  obtain ⟨x1, x2, x3, f1, f2, f3, bW, zW⟩ := three_first w _ _ _ _ _ _ W hW
  have hpW := hp.step bW
  have pv := fun w hp => implPV_any L a b s hs w hp
  have hpn := pv_num L a b s.data.toList
  generalize pvN L a b s.data.toList = n at pv hpn
  generalize pvB L a b s.data.toList = ok at pv
  have PV := Lib.hid pv
  obtain ⟨n1, n2⟩ := hpn
  clear pv hp
  go_wp2_with fail
  rw [← hW]
  clear hW
  refine (PV.out _ hpW).mono ?_
  rintro e w1 ⟨rfl, b1⟩
  have q0 := (b1.cell (p := ⟨w.heap.size, 0, none⟩) (by simp only; omega)).trans (x1 0)
  have q1 := (b1.cell (p := ⟨w.heap.size, 1, none⟩) (by simp only; omega)).trans (x1 1)
  have q2 := (b1.cell (p := ⟨w.heap.size, 2, none⟩) (by simp only; omega)).trans (x1 2)
  have y1 := (b1.cell (p := ⟨w.heap.size + 1, 1, none⟩) (by simp only; omega)).trans (x2 1)
  have r0 := (b1.cell (p := ⟨w.heap.size + 2, 0, none⟩) (by simp only; omega)).trans (x3 0)
  have r1 := (b1.cell (p := ⟨w.heap.size + 2, 1, none⟩) (by simp only; omega)).trans (x3 1)
  have rf0 := (b1.frozen (p := ⟨w.heap.size + 2, 0, none⟩) (by simp only; omega)).trans (f3 0)
  have rf1 := (b1.frozen (p := ⟨w.heap.size + 2, 1, none⟩) (by simp only; omega)).trans (f3 1)
  have B1 := bW.trans (b1.mono bW.size)
  have z1 := b1.size
  simp at q0 q1 q2 y1 r0 r1
  clear x1 x2 x3 f1 f2 f3 b1 bW hpW
  cases ok
  · have BB := Lib.hid B1
    clear B1 q0 q1 q2 y1
    go_wp2
    obtain ⟨k0, k1⟩ := set_sp r0 r1 (.int .i64 0) (.int .i64 0)
    exact bodyPost_ret (v := .tuple #[.agg #[.int .i64 0, .int .i64 0], .bool false]) (by simp [results, Tryz.results108, go_sem, k0, k1]) rfl ⟨rfl, set_sp_below BB.out (by omega) _ _⟩
  · go_wp2_with fail
    refine (comp4_any L a b n n1 n2 _).mono ?_
    rintro e w2 ⟨rfl, b2⟩
    unfold spV
    have m0 := (b2.cell (p := ⟨w.heap.size + 2, 0, none⟩) (by simp only; omega)).trans r0
    have m1 := (b2.cell (p := ⟨w.heap.size + 2, 1, none⟩) (by simp only; omega)).trans r1
    have mf0 := (b2.frozen (p := ⟨w.heap.size + 2, 0, none⟩) (by simp only; omega)).trans rf0
    have mf1 := (b2.frozen (p := ⟨w.heap.size + 2, 1, none⟩) (by simp only; omega)).trans rf1
    have BB := Lib.hid (B1.trans (b2.mono B1.size))
    clear q0 q1 q2 y1 r0 r1 rf0 rf1 B1 b2
    go_wp2
    obtain ⟨k0, k1⟩ := set_sp m0 m1 (.int .i64 (n + 1)) (.int .i64 (b))
    exact bodyPost_ret (v := .tuple #[.agg #[.int .i64 (n + 1), .int .i64 b], .bool true]) (by simp [results, Tryz.results108, go_sem, k0, k1]) rfl ⟨rfl, set_sp_below BB.out (by omega) _ _⟩

end Go.Proofs.YthkjcljhfjaabaaGreatDoor

namespace Go.Proofs.YthkjcljhfjaabaaGreatDoor
open Go.RowKit Go.Sort Sets

def compTab : Array Value := #[.string ⟨#[60, 61]⟩, .func (.func 123) #[] #[], .string ⟨#[62, 61]⟩, .func (.func 124) #[] #[], .string ⟨#[60]⟩, .func (.func 125) #[] #[], .string ⟨#[62]⟩, .func (.func 126) #[] #[]]
set_option maxRecDepth 100000 in
theorem comparisons_any (w : World) : Calls Tryz.prog 107 #[] w fun e w' => e = .returned (.slice (some ⟨w.heap.size, 0, none⟩) 4 4) ∧ w.alloc (.cells compTab 122) = w' := by
  go_enter Tryz.func107, Tryz.ntmps107
  go_wp2
  go_ret
  exact ⟨rfl, rfl⟩

/-- no comparison's sign has been met among the first k -/
def NoSign (l : Bs) (k : Nat) : Prop := (0 < k → Lib.hasPrefix l [60, 61] = false) ∧ (1 < k → Lib.hasPrefix l [62, 61] = false) ∧ (2 < k → Lib.hasPrefix l [60] = false) ∧ (3 < k → Lib.hasPrefix l [62] = false)
theorem NoSign.zero (l : Bs) : NoSign l 0 := ⟨fun h => absurd h (by omega), fun h => absurd h (by omega), fun h => absurd h (by omega), fun h => absurd h (by omega)⟩

/-- the world between two rounds -/
def Parts (L : Bool) (a b : Int) (w wr : World) : Prop := Below w.heap.size w wr ∧ w.heap.size + 2 < wr.heap.size ∧ ColAt wr w.heap.size L a b ∧
  (wr.cell? ⟨w.heap.size + 1, 0, none⟩ = some (.int .i64 0) ∧ wr.cell? ⟨w.heap.size + 1, 1, none⟩ = some (.int .i64 0) ∧ ∀ o, wr.frozen? ⟨w.heap.size + 1, o, none⟩ = false) ∧ (∀ o, wr.cell? ⟨w.heap.size + 2, o, none⟩ = compTab[o]?)
theorem Parts.below {L : Bool} {a b : Int} {w wr w' : World} (h : Parts L a b w wr) (hb : Below wr.heap.size wr w') : Parts L a b w w' := by
  obtain ⟨h1, h2, h3, ⟨h4, h5, h6⟩, h7⟩ := h
  refine ⟨h1.trans (hb.mono h1.size), Nat.lt_of_lt_of_le h2 hb.size, h3.below hb (by omega), ⟨(hb.cell (p := ⟨w.heap.size + 1, 0, none⟩) (by simp only; omega)).trans h4, (hb.cell (p := ⟨w.heap.size + 1, 1, none⟩) (by simp only; omega)).trans h5, fun o => (hb.frozen (p := ⟨w.heap.size + 1, o, none⟩) (by simp only; omega)).trans (h6 o)⟩, fun o => (hb.cell (p := ⟨w.heap.size + 2, o, none⟩) (by simp only; omega)).trans (h7 o)⟩

set_option maxRecDepth 100000 in
set_option maxHeartbeats 4000000 in
theorem implPart_any (L : Bool) (a b : Int) (s : ByteArray) (hs : s.size ≤ 1048600) (w : World) (hL : LibIs w) :
    Calls Tryz.prog 79 #[colV L a b, .string s] w fun e w' => e = .returned (.tuple #[spV (pieceV L a b s.data.toList), .bool (pieceB L a b s.data.toList)]) ∧ Below w.heap.size w w' := by
  have hsx : s.size ≤ 9223372036854775807 := by omega
  have hdl : ∀ d, (s.data.toList.drop d).length ≤ s.size := fun d => by rw [List.length_drop, Lib.size_eq]; omega
  go_enter Tryz.func79, Tryz.ntmps79
  go_wp2_with fail
  refine (comparisons_any _).mono ?_
  rintro e w1 ⟨rfl, hw1⟩
  obtain ⟨x1, x2, x3, f1, f2, f3, bW, zW⟩ := three_first w _ _ _ _ _ _ w1 hw1.symm
  have hP : Parts L a b w w1 := ⟨bW, by omega, ⟨(x1 0).trans rfl, (x1 1).trans rfl, (x1 2).trans rfl⟩, ⟨(x2 0).trans rfl, (x2 1).trans rfl, f2⟩, x3⟩
  have LL := Lib.hid (hL.step bW)
  clear hw1 x1 x2 x3 f1 f2 f3 bW zW hL
  have szp : ((w.alloc (.cells #[.bool L, .int .i64 a, .int .i64 b] 27)).alloc (.cells #[.int .i64 0, .int .i64 0] 55)).heap.size = w.heap.size + 2 := by simp
  try rw [szp]
  go_wp2
  go_loopw [19] (fun i wr => ∃ k : Nat, k ≤ 4 ∧ i = .int .i64 k ∧ NoSign s.data.toList k ∧ Parts L a b w wr ∧ LibIs wr) (fun i _ => 4 - (intOf i).toNat)
  case atStart => exact ⟨0, by omega, rfl, NoSign.zero _, hP, LL.out⟩
  case round =>
    obtain ⟨k, hk, rfl, hno, hPr, hLr⟩ := hrel
    clear hP LL
    have PP := Lib.hid hPr
    have LR := Lib.hid hLr
    have HN := Lib.hid hno
    obtain ⟨hB, hz, ⟨q0, q1, q2⟩, ⟨r0, r1, rf⟩, tb⟩ := hPr
    have BB := Lib.hid hB
    clear hno hB hLr
    rcases (by omega : k = 0 ∨ k = 1 ∨ k = 2 ∨ k = 3 ∨ k = 4) with rfl | rfl | rfl | rfl | rfl
    · have t0 := tb 0
      have t1 := tb 1
      simp only [compTab] at t0 t1
      obtain ⟨s1, hs1⟩ : ∃ s1 : ByteArray, s1 = ⟨(Lib.trimPrefix s.data.toList [60, 61]).toArray⟩ := ⟨_, rfl⟩
      have CP := fun w => Tryz.strings_CutPrefix s ⟨#[60, 61]⟩ w
      change ∀ w, Calls Tryz.prog 37 #[.string s, .string ⟨#[60, 61]⟩] w fun e w' => e = .returned (.tuple #[.string ⟨(Lib.trimPrefix s.data.toList [60, 61]).toArray⟩, .bool (Lib.hasPrefix s.data.toList [60, 61])]) ∧ w' = w at CP
      rw [← hs1] at CP
      have CPH := Lib.hid CP
      have HS1 := Lib.hid hs1
      clear CP hs1 tb rf
      cases hp : Lib.hasPrefix s.data.toList [60, 61]
      · rw [hp] at CPH
        have hnx : Hid (NoSign s.data.toList (0 + 1)) := Lib.hid ⟨fun _ => hp, fun h => absurd h (by omega), fun h => absurd h (by omega), fun h => absurd h (by omega)⟩
        clear hp
        go_wp2_with fail
        refine (CPH.out _).mono ?_
        rintro e w2 ⟨rfl, hw2⟩
        have b2 : Below wr.heap.size wr w2 := by rw [hw2]; exact (Below.refl _ _).alloc (Nat.le_refl _) _
        have P2 := Lib.hid (PP.out.below b2)
        have L2 := Lib.hid (LR.out.step b2)
        clear hw2 t0 t1 q0 q1 q2 r0 r1
        go_wp2
        go_roundw
        case rel => exact ⟨0 + 1, by omega, rfl, hnx.out, P2.out, L2.out⟩
        case measure => simp [intOf]
      · rw [hp] at CPH
        have hpr := Lib.hid (piece_res (piece1 hp : pieceO L a b s.data.toList = _))
        have e1 : s1.data.toList = s.data.toList.drop 2 := by rw [HS1.out, trim_yes hp]; rfl
        have h1 : s1.size ≤ 9223372036854775807 := by have := hdl 2; rw [Lib.size_eq, e1]; omega
        rw [← e1] at hpr
        clear hp e1
        go_wp2_with fail
        refine (CPH.out _).mono ?_
        rintro e w2 ⟨rfl, hw2⟩
        have b2 : Below wr.heap.size wr w2 := by rw [hw2]; exact (Below.refl _ _).alloc (Nat.le_refl _) _
        obtain ⟨hB2, hz2, ⟨q0, q1, q2⟩, ⟨r0, r1, rf⟩, tb⟩ := PP.out.below b2
        have y0 : w2.cell? ⟨wr.heap.size, 0, none⟩ = some (.string ⟨#[60, 61]⟩) := by rw [hw2, World.cell?_alloc_new]; rfl
        have y1 : w2.cell? ⟨wr.heap.size, 1, none⟩ = some (.func (.func 123) #[] #[]) := by rw [hw2, World.cell?_alloc_new]; rfl
        have L2 := Lib.hid (LR.out.step b2)
        clear hw2 t0 t1 b2 tb
        go_wp2_with fail
        refine (parseComp1_any L a b s1 h1 _ L2.out.1).mono ?_
        rw [← hpr.out.1, ← hpr.out.2]
        rintro e w3 ⟨rfl, b3⟩
        generalize hxe : pieceV L a b s.data.toList = x
        generalize hoe : pieceB L a b s.data.toList = ok
        obtain ⟨x1, x2⟩ := x
        have XE := Lib.hid hxe
        have OE := Lib.hid hoe
        clear hxe hoe
        unfold spV
        have m0 := (b3.cell (p := ⟨w.heap.size + 1, 0, none⟩) (by simp only; omega)).trans r0
        have m1 := (b3.cell (p := ⟨w.heap.size + 1, 1, none⟩) (by simp only; omega)).trans r1
        have mf0 := (b3.frozen (p := ⟨w.heap.size + 1, 0, none⟩) (by simp only; omega)).trans (rf 0)
        have mf1 := (b3.frozen (p := ⟨w.heap.size + 1, 1, none⟩) (by simp only; omega)).trans (rf 1)
        have B3 := Lib.hid (hB2.trans (b3.mono hB2.size))
        clear q0 q1 q2 r0 r1 rf y0 y1 b3 hB2
        go_wp2
        obtain ⟨k0, k1⟩ := set_sp m0 m1 (.int .i64 x1) (.int .i64 x2)
        exact bodyPost_ret (v := .tuple #[.agg #[.int .i64 x1, .int .i64 x2], .bool ok]) (by simp [results, Tryz.results79, go_sem, k0, k1]) rfl ⟨by rw [XE.out, OE.out]; rfl, set_sp_below B3.out (by omega) _ _⟩
    · have t0 := tb 2
      have t1 := tb 3
      simp only [compTab] at t0 t1
      obtain ⟨s1, hs1⟩ : ∃ s1 : ByteArray, s1 = ⟨(Lib.trimPrefix s.data.toList [62, 61]).toArray⟩ := ⟨_, rfl⟩
      have CP := fun w => Tryz.strings_CutPrefix s ⟨#[62, 61]⟩ w
      change ∀ w, Calls Tryz.prog 37 #[.string s, .string ⟨#[62, 61]⟩] w fun e w' => e = .returned (.tuple #[.string ⟨(Lib.trimPrefix s.data.toList [62, 61]).toArray⟩, .bool (Lib.hasPrefix s.data.toList [62, 61])]) ∧ w' = w at CP
      rw [← hs1] at CP
      have CPH := Lib.hid CP
      have HS1 := Lib.hid hs1
      clear CP hs1 tb rf
      cases hp : Lib.hasPrefix s.data.toList [62, 61]
      · rw [hp] at CPH
        have hnx : Hid (NoSign s.data.toList (1 + 1)) := Lib.hid ⟨fun _ => HN.out.1 (by omega), fun h => hp, fun h => absurd h (by omega), fun h => absurd h (by omega)⟩
        clear hp
        go_wp2_with fail
        refine (CPH.out _).mono ?_
        rintro e w2 ⟨rfl, hw2⟩
        have b2 : Below wr.heap.size wr w2 := by rw [hw2]; exact (Below.refl _ _).alloc (Nat.le_refl _) _
        have P2 := Lib.hid (PP.out.below b2)
        have L2 := Lib.hid (LR.out.step b2)
        clear hw2 t0 t1 q0 q1 q2 r0 r1
        go_wp2
        go_roundw
        case rel => exact ⟨1 + 1, by omega, rfl, hnx.out, P2.out, L2.out⟩
        case measure => simp [intOf]
      · rw [hp] at CPH
        have hpr := Lib.hid (piece_res (piece2 (HN.out.1 (by omega)) hp : pieceO L a b s.data.toList = _))
        have e1 : s1.data.toList = s.data.toList.drop 2 := by rw [HS1.out, trim_yes hp]; rfl
        have h1 : s1.size ≤ 9223372036854775807 := by have := hdl 2; rw [Lib.size_eq, e1]; omega
        rw [← e1] at hpr
        clear hp e1
        go_wp2_with fail
        refine (CPH.out _).mono ?_
        rintro e w2 ⟨rfl, hw2⟩
        have b2 : Below wr.heap.size wr w2 := by rw [hw2]; exact (Below.refl _ _).alloc (Nat.le_refl _) _
        obtain ⟨hB2, hz2, ⟨q0, q1, q2⟩, ⟨r0, r1, rf⟩, tb⟩ := PP.out.below b2
        have y0 : w2.cell? ⟨wr.heap.size, 0, none⟩ = some (.string ⟨#[62, 61]⟩) := by rw [hw2, World.cell?_alloc_new]; rfl
        have y1 : w2.cell? ⟨wr.heap.size, 1, none⟩ = some (.func (.func 124) #[] #[]) := by rw [hw2, World.cell?_alloc_new]; rfl
        have L2 := Lib.hid (LR.out.step b2)
        clear hw2 t0 t1 b2 tb
        go_wp2_with fail
        refine (parseComp2_any L a b s1 h1 _ L2.out.1).mono ?_
        rw [← hpr.out.1, ← hpr.out.2]
        rintro e w3 ⟨rfl, b3⟩
        generalize hxe : pieceV L a b s.data.toList = x
        generalize hoe : pieceB L a b s.data.toList = ok
        obtain ⟨x1, x2⟩ := x
        have XE := Lib.hid hxe
        have OE := Lib.hid hoe
        clear hxe hoe
        unfold spV
        have m0 := (b3.cell (p := ⟨w.heap.size + 1, 0, none⟩) (by simp only; omega)).trans r0
        have m1 := (b3.cell (p := ⟨w.heap.size + 1, 1, none⟩) (by simp only; omega)).trans r1
        have mf0 := (b3.frozen (p := ⟨w.heap.size + 1, 0, none⟩) (by simp only; omega)).trans (rf 0)
        have mf1 := (b3.frozen (p := ⟨w.heap.size + 1, 1, none⟩) (by simp only; omega)).trans (rf 1)
        have B3 := Lib.hid (hB2.trans (b3.mono hB2.size))
        clear q0 q1 q2 r0 r1 rf y0 y1 b3 hB2
        go_wp2
        obtain ⟨k0, k1⟩ := set_sp m0 m1 (.int .i64 x1) (.int .i64 x2)
        exact bodyPost_ret (v := .tuple #[.agg #[.int .i64 x1, .int .i64 x2], .bool ok]) (by simp [results, Tryz.results79, go_sem, k0, k1]) rfl ⟨by rw [XE.out, OE.out]; rfl, set_sp_below B3.out (by omega) _ _⟩
    · have t0 := tb 4
      have t1 := tb 5
      simp only [compTab] at t0 t1
      obtain ⟨s1, hs1⟩ : ∃ s1 : ByteArray, s1 = ⟨(Lib.trimPrefix s.data.toList [60]).toArray⟩ := ⟨_, rfl⟩
      have CP := fun w => Tryz.strings_CutPrefix s ⟨#[60]⟩ w
      change ∀ w, Calls Tryz.prog 37 #[.string s, .string ⟨#[60]⟩] w fun e w' => e = .returned (.tuple #[.string ⟨(Lib.trimPrefix s.data.toList [60]).toArray⟩, .bool (Lib.hasPrefix s.data.toList [60])]) ∧ w' = w at CP
      rw [← hs1] at CP
      have CPH := Lib.hid CP
      have HS1 := Lib.hid hs1
      clear CP hs1 tb rf
      cases hp : Lib.hasPrefix s.data.toList [60]
      · rw [hp] at CPH
        have hnx : Hid (NoSign s.data.toList (2 + 1)) := Lib.hid ⟨fun _ => HN.out.1 (by omega), fun h => HN.out.2.1 (by omega), fun h => hp, fun h => absurd h (by omega)⟩
        clear hp
        go_wp2_with fail
        refine (CPH.out _).mono ?_
        rintro e w2 ⟨rfl, hw2⟩
        have b2 : Below wr.heap.size wr w2 := by rw [hw2]; exact (Below.refl _ _).alloc (Nat.le_refl _) _
        have P2 := Lib.hid (PP.out.below b2)
        have L2 := Lib.hid (LR.out.step b2)
        clear hw2 t0 t1 q0 q1 q2 r0 r1
        go_wp2
        go_roundw
        case rel => exact ⟨2 + 1, by omega, rfl, hnx.out, P2.out, L2.out⟩
        case measure => simp [intOf]
      · rw [hp] at CPH
        have hpr := Lib.hid (piece_res (piece3 (HN.out.1 (by omega)) (HN.out.2.1 (by omega)) hp : pieceO L a b s.data.toList = _))
        have e1 : s1.data.toList = s.data.toList.drop 1 := by rw [HS1.out, trim_yes hp]; rfl
        have h1 : s1.size ≤ 9223372036854775807 := by have := hdl 1; rw [Lib.size_eq, e1]; omega
        rw [← e1] at hpr
        clear hp e1
        go_wp2_with fail
        refine (CPH.out _).mono ?_
        rintro e w2 ⟨rfl, hw2⟩
        have b2 : Below wr.heap.size wr w2 := by rw [hw2]; exact (Below.refl _ _).alloc (Nat.le_refl _) _
        obtain ⟨hB2, hz2, ⟨q0, q1, q2⟩, ⟨r0, r1, rf⟩, tb⟩ := PP.out.below b2
        have y0 : w2.cell? ⟨wr.heap.size, 0, none⟩ = some (.string ⟨#[60]⟩) := by rw [hw2, World.cell?_alloc_new]; rfl
        have y1 : w2.cell? ⟨wr.heap.size, 1, none⟩ = some (.func (.func 125) #[] #[]) := by rw [hw2, World.cell?_alloc_new]; rfl
        have L2 := Lib.hid (LR.out.step b2)
        clear hw2 t0 t1 b2 tb
        go_wp2_with fail
        refine (parseComp3_any L a b s1 h1 _ L2.out.1).mono ?_
        rw [← hpr.out.1, ← hpr.out.2]
        rintro e w3 ⟨rfl, b3⟩
        generalize hxe : pieceV L a b s.data.toList = x
        generalize hoe : pieceB L a b s.data.toList = ok
        obtain ⟨x1, x2⟩ := x
        have XE := Lib.hid hxe
        have OE := Lib.hid hoe
        clear hxe hoe
        unfold spV
        have m0 := (b3.cell (p := ⟨w.heap.size + 1, 0, none⟩) (by simp only; omega)).trans r0
        have m1 := (b3.cell (p := ⟨w.heap.size + 1, 1, none⟩) (by simp only; omega)).trans r1
        have mf0 := (b3.frozen (p := ⟨w.heap.size + 1, 0, none⟩) (by simp only; omega)).trans (rf 0)
        have mf1 := (b3.frozen (p := ⟨w.heap.size + 1, 1, none⟩) (by simp only; omega)).trans (rf 1)
        have B3 := Lib.hid (hB2.trans (b3.mono hB2.size))
        clear q0 q1 q2 r0 r1 rf y0 y1 b3 hB2
        go_wp2
        obtain ⟨k0, k1⟩ := set_sp m0 m1 (.int .i64 x1) (.int .i64 x2)
        exact bodyPost_ret (v := .tuple #[.agg #[.int .i64 x1, .int .i64 x2], .bool ok]) (by simp [results, Tryz.results79, go_sem, k0, k1]) rfl ⟨by rw [XE.out, OE.out]; rfl, set_sp_below B3.out (by omega) _ _⟩
    · have t0 := tb 6
      have t1 := tb 7
      simp only [compTab] at t0 t1
      obtain ⟨s1, hs1⟩ : ∃ s1 : ByteArray, s1 = ⟨(Lib.trimPrefix s.data.toList [62]).toArray⟩ := ⟨_, rfl⟩
      have CP := fun w => Tryz.strings_CutPrefix s ⟨#[62]⟩ w
      change ∀ w, Calls Tryz.prog 37 #[.string s, .string ⟨#[62]⟩] w fun e w' => e = .returned (.tuple #[.string ⟨(Lib.trimPrefix s.data.toList [62]).toArray⟩, .bool (Lib.hasPrefix s.data.toList [62])]) ∧ w' = w at CP
      rw [← hs1] at CP
      have CPH := Lib.hid CP
      have HS1 := Lib.hid hs1
      clear CP hs1 tb rf
      cases hp : Lib.hasPrefix s.data.toList [62]
      · rw [hp] at CPH
        have hnx : Hid (NoSign s.data.toList (3 + 1)) := Lib.hid ⟨fun _ => HN.out.1 (by omega), fun h => HN.out.2.1 (by omega), fun h => HN.out.2.2.1 (by omega), fun h => hp⟩
        clear hp
        go_wp2_with fail
        refine (CPH.out _).mono ?_
        rintro e w2 ⟨rfl, hw2⟩
        have b2 : Below wr.heap.size wr w2 := by rw [hw2]; exact (Below.refl _ _).alloc (Nat.le_refl _) _
        have P2 := Lib.hid (PP.out.below b2)
        have L2 := Lib.hid (LR.out.step b2)
        clear hw2 t0 t1 q0 q1 q2 r0 r1
        go_wp2
        go_roundw
        case rel => exact ⟨3 + 1, by omega, rfl, hnx.out, P2.out, L2.out⟩
        case measure => simp [intOf]
      · rw [hp] at CPH
        have hpr := Lib.hid (piece_res (piece4 (HN.out.1 (by omega)) (HN.out.2.1 (by omega)) (HN.out.2.2.1 (by omega)) hp : pieceO L a b s.data.toList = _))
        have e1 : s1.data.toList = s.data.toList.drop 1 := by rw [HS1.out, trim_yes hp]; rfl
        have h1 : s1.size ≤ 9223372036854775807 := by have := hdl 1; rw [Lib.size_eq, e1]; omega
        rw [← e1] at hpr
        clear hp e1
        go_wp2_with fail
        refine (CPH.out _).mono ?_
        rintro e w2 ⟨rfl, hw2⟩
        have b2 : Below wr.heap.size wr w2 := by rw [hw2]; exact (Below.refl _ _).alloc (Nat.le_refl _) _
        obtain ⟨hB2, hz2, ⟨q0, q1, q2⟩, ⟨r0, r1, rf⟩, tb⟩ := PP.out.below b2
        have y0 : w2.cell? ⟨wr.heap.size, 0, none⟩ = some (.string ⟨#[62]⟩) := by rw [hw2, World.cell?_alloc_new]; rfl
        have y1 : w2.cell? ⟨wr.heap.size, 1, none⟩ = some (.func (.func 126) #[] #[]) := by rw [hw2, World.cell?_alloc_new]; rfl
        have L2 := Lib.hid (LR.out.step b2)
        clear hw2 t0 t1 b2 tb
        go_wp2_with fail
        refine (parseComp4_any L a b s1 h1 _ L2.out.1).mono ?_
        rw [← hpr.out.1, ← hpr.out.2]
        rintro e w3 ⟨rfl, b3⟩
        generalize hxe : pieceV L a b s.data.toList = x
        generalize hoe : pieceB L a b s.data.toList = ok
        obtain ⟨x1, x2⟩ := x
        have XE := Lib.hid hxe
        have OE := Lib.hid hoe
        clear hxe hoe
        unfold spV
        have m0 := (b3.cell (p := ⟨w.heap.size + 1, 0, none⟩) (by simp only; omega)).trans r0
        have m1 := (b3.cell (p := ⟨w.heap.size + 1, 1, none⟩) (by simp only; omega)).trans r1
        have mf0 := (b3.frozen (p := ⟨w.heap.size + 1, 0, none⟩) (by simp only; omega)).trans (rf 0)
        have mf1 := (b3.frozen (p := ⟨w.heap.size + 1, 1, none⟩) (by simp only; omega)).trans (rf 1)
        have B3 := Lib.hid (hB2.trans (b3.mono hB2.size))
        clear q0 q1 q2 r0 r1 rf y0 y1 b3 hB2
        go_wp2
        obtain ⟨k0, k1⟩ := set_sp m0 m1 (.int .i64 x1) (.int .i64 x2)
        exact bodyPost_ret (v := .tuple #[.agg #[.int .i64 x1, .int .i64 x2], .bool ok]) (by simp [results, Tryz.results79, go_sem, k0, k1]) rfl ⟨by rw [XE.out, OE.out]; rfl, set_sp_below B3.out (by omega) _ _⟩
    · have hq := Lib.hid (piece5 (L := L) (a := a) (b := b) (HN.out.1 (by omega)) (HN.out.2.1 (by omega)) (HN.out.2.2.1 (by omega)) (HN.out.2.2.2 (by omega)))
      obtain ⟨mx, hmx⟩ := LR.out.2.here
      obtain ⟨hc1, hc2⟩ := cut_sizes s.data.toList dots
      rw [← Lib.size_eq] at hc1 hc2
      obtain ⟨s1, hs1⟩ : ∃ s1 : ByteArray, s1 = ⟨(Lib.cut s.data.toList dots).1.toArray⟩ := ⟨_, rfl⟩
      obtain ⟨s2, hs2⟩ : ∃ s2 : ByteArray, s2 = ⟨(Lib.cut s.data.toList dots).2.1.toArray⟩ := ⟨_, rfl⟩
      have e1 : s1.data.toList = (Lib.cut s.data.toList dots).1 := by rw [hs1]
      have e2 : s2.data.toList = (Lib.cut s.data.toList dots).2.1 := by rw [hs2]
      have g1 : s1.size ≤ 9223372036854775807 := by rw [Lib.size_eq, e1]; omega
      have g2 : s2.size ≤ 9223372036854775807 := by rw [Lib.size_eq, e2]; omega
      have CUT := fun w hm => Tryz.strings_Cut s ⟨#[46, 46]⟩ mx w (by omega) hm
      change ∀ w, w.cell? ⟨0, 0, none⟩ = some (.int .i64 mx) → Calls Tryz.prog 109 #[.string s, .string ⟨#[46, 46]⟩] w fun e w' => e = .returned (.tuple #[.string ⟨(Lib.cut s.data.toList dots).1.toArray⟩, .string ⟨(Lib.cut s.data.toList dots).2.1.toArray⟩, .bool (Lib.cut s.data.toList dots).2.2]) ∧ ∃ n, w' = w.drewN n at CUT
      rw [← hs1, ← hs2] at CUT
      -- the second text of the two
      obtain ⟨s3, hs3⟩ : ∃ s3 : ByteArray, s3 = if (Lib.cut s.data.toList dots).2.2 = true then s2 else s1 := ⟨_, rfl⟩
      have e3 : s3.data.toList = cutY s.data.toList := by rw [hs3]; unfold cutY; split <;> assumption
      have g3 : s3.size ≤ 9223372036854775807 := by rw [hs3]; split <;> assumption
      have no1 : pvB L a b s1.data.toList = false → spanO L a b s.data.toList = none := fun h => span_no1 (by rw [← e1]; exact h)
      have no2 : pvB L a b s3.data.toList = false → spanO L a b s.data.toList = none := fun h => span_no2 (by rw [← e3]; exact h)
      have no3 : pvB L a b s1.data.toList = true → pvB L a b s3.data.toList = true → pvN L a b s3.data.toList < pvN L a b s1.data.toList → spanO L a b s.data.toList = none := by rw [e1, e3]; exact span_gt
      have yes : pvB L a b s1.data.toList = true → pvB L a b s3.data.toList = true → pvN L a b s1.data.toList ≤ pvN L a b s3.data.toList → spanO L a b s.data.toList = some (pvN L a b s1.data.toList, pvN L a b s3.data.toList) := by rw [e1, e3]; exact span_le
      have pv1 := fun w hp => implPV_any L a b s1 g1 w hp
      have pv3 := fun w hp => implPV_any L a b s3 g3 w hp
      generalize pvB L a b s1.data.toList = ok1 at no1 no3 yes pv1
      generalize pvB L a b s3.data.toList = ok3 at no2 no3 yes pv3
      generalize pvN L a b s1.data.toList = n1 at no3 yes pv1
      generalize pvN L a b s3.data.toList = n3 at no3 yes pv3
      generalize (Lib.cut s.data.toList dots).2.2 = fnd at CUT hs3
      have N1 := Lib.hid no1
      have N2 := Lib.hid no2
      have N3 := Lib.hid no3
      have YS := Lib.hid yes
      have V1 := Lib.hid pv1
      have V3 := Lib.hid pv3
      have HC := Lib.hid CUT
      clear no1 no2 no3 yes pv1 pv3 CUT e1 e2 e3 hc1 hc2 hs1 hs2 g1 g2 g3 tb q0 q1 q2 r0 r1 rf
      go_wp2_with fail
      refine (HC.out _ hmx).mono ?_
      rintro e w2 ⟨rfl, nc, hw2⟩
      have b2 : Below wr.heap.size wr w2 := by rw [hw2]; exact below_drewN (Below.refl _ _) nc
      have P2 := Lib.hid (PP.out.below b2)
      have L2 := Lib.hid (LR.out.step b2)
      clear hw2 hmx
      obtain ⟨hB2, hz2, ⟨q0, q1, q2⟩, ⟨r0, r1, rf⟩, tb⟩ := P2.out
      clear hB2 r0 r1 rf tb
      cases fnd
      all_goals
        simp only [Bool.false_eq_true, if_false, if_true] at hs3
        subst hs3
        go_wp2_with fail
        refine (V1.out _ L2.out.1).mono ?_
        rintro e w3 ⟨rfl, b3⟩
        have P3 := Lib.hid (P2.out.below b3)
        have L3 := Lib.hid (L2.out.step b3)
        clear q0 q1 q2
        obtain ⟨hB3, hz3, ⟨q0, q1, q2⟩, ⟨r0, r1, rf⟩, tb⟩ := P3.out
        clear hB3 r0 r1 rf tb b3
        go_wp2_with fail
        refine (V3.out _ L3.out.1).mono ?_
        rintro e w4 ⟨rfl, b4⟩
        obtain ⟨hB4, hz4, ⟨_, _, _⟩, ⟨r0, r1, rf⟩, tb⟩ := P3.out.below b4
        have rf0 := rf 0
        have rf1 := rf 1
        have B4 := Lib.hid hB4
        clear q0 q1 q2 tb b4 rf hB4
        cases ok1
        · have hv := Lib.hid (piece_not hq.out (N1.out rfl))
          go_wp2
          obtain ⟨k0, k1⟩ := set_sp r0 r1 (.int .i64 0) (.int .i64 0)
          exact bodyPost_ret (v := .tuple #[.agg #[.int .i64 0, .int .i64 0], .bool false]) (by simp [results, Tryz.results79, go_sem, k0, k1]) rfl ⟨by rw [hv.out.1, hv.out.2]; rfl, set_sp_below B4.out (by omega) _ _⟩
        · cases ok3
          · have hv := Lib.hid (piece_not hq.out (N2.out rfl))
            go_wp2
            obtain ⟨k0, k1⟩ := set_sp r0 r1 (.int .i64 0) (.int .i64 0)
            exact bodyPost_ret (v := .tuple #[.agg #[.int .i64 0, .int .i64 0], .bool false]) (by simp [results, Tryz.results79, go_sem, k0, k1]) rfl ⟨by rw [hv.out.1, hv.out.2]; rfl, set_sp_below B4.out (by omega) _ _⟩
          · by_cases hlt : n3 < n1
            · have hv := Lib.hid (piece_not hq.out (N3.out rfl rfl hlt))
              go_wp2
              obtain ⟨k0, k1⟩ := set_sp r0 r1 (.int .i64 0) (.int .i64 0)
              exact bodyPost_ret (v := .tuple #[.agg #[.int .i64 0, .int .i64 0], .bool false]) (by simp [results, Tryz.results79, go_sem, k0, k1]) rfl ⟨by rw [hv.out.1, hv.out.2]; rfl, set_sp_below B4.out (by omega) _ _⟩
            · have hv := Lib.hid (piece_of hq.out (YS.out rfl rfl (by omega)))
              have hlt' : decide (n3 < n1) = false := decide_eq_false hlt
              go_wp2
              obtain ⟨k0, k1⟩ := set_sp r0 r1 (.int .i64 n1) (.int .i64 n3)
              exact bodyPost_ret (v := .tuple #[.agg #[.int .i64 n1, .int .i64 n3], .bool true]) (by simp [results, Tryz.results79, go_sem, k0, k1]) rfl ⟨by rw [hv.out.1, hv.out.2]; rfl, set_sp_below B4.out (by omega) _ _⟩
end Go.Proofs.YthkjcljhfjaabaaGreatDoor
