/-
  Tables that are equal: the model.
-/
import Derived.Test.YtppciomdbabepaaUgM
import Derived.Test.YtppciomdbabepaaUaM
import Derived.Test.YtppciomdbabepaaEc
import Derived.Test.YtppciomdbabepaaUiM
import Derived.Test.YtppciomdbabepaaRdM
import Derived.Test.YtppciomdbabepaaUkM
namespace Go.Proofs.Ytppciomdbabepaa
open Go.RowKit Sets

def cEqV (x y : Co) : Bool := (x.1 == y.1) && ((x.2.1 == y.2.1) && (x.2.2 == y.2.2))
def cEq (cs ds : List Co) (k : Nat) : Bool := cEqV (cs.getD k (false, 0, 0)) (ds.getD k (false, 0, 0))
def csB (cs ds : List Co) : Bool := decide (cs.length = ds.length) && (List.range cs.length).all (cEq cs ds)
def sEq (xss yss : List (List Sp)) (k : Nat) : Bool := sameB (xss.getD k []) (yss.getD k [])
def ssB (xss yss : List (List Sp)) : Bool := decide (xss.length = yss.length) && (List.range xss.length).all (sEq xss yss)
def rlB (r s : Rl) : Bool := (r.2 == s.2) && ssB r.1 s.1
def rEq (rs ss : List Rl) (k : Nat) : Bool := rlB (rs.getD k ([], 0)) (ss.getD k ([], 0))
def rsB (rs ss : List Rl) : Bool := decide (rs.length = ss.length) && (List.range rs.length).all (rEq rs ss)
/-- the two tables are equal -/
def tsB (s t : Tb) : Bool := (s.pol == t.pol) && (csB s.cols t.cols && rsB s.rules t.rules)

theorem run_neq_cols (L : Bool) (a b : Int) (M : Bool) (c d : Int) (w : World) :
    (binOp .neq 61 (colV L a b) (colV M c d)).run Try.prog w = .ok (.bool (!cEqV (L, a, b) (M, c, d))) w := by
  obtain ⟨f, g, k, hfs, hn0, ht0, ho0, hn1, ht1, ho1, hn2, ht2, ho2⟩ := fields_of3 fieldsCol
  have hu : Try.prog.underlying 3 = some (.int .i64) := Try.underlying3
  have hb : Try.prog.underlying 4 = some .bool := Try.underlying4
  simp only [binOp, colV]
  simp only [Op.equal, Op.maxDepth]
  rw [Sem.run_bind]
  rw [show (10000 : Nat) = 9999 + 1 from rfl, run_equalIn_struct w 9999 _ _ _ structCol stoodCol, hfs]
  simp [Op.eqFields, hn0, ht0, ho0, hn1, ht1, ho1, hn2, ht2, ho2, part]
  rw [show (9999 : Nat) = 9998 + 1 from rfl, run_equalIn_bool w 9998 _ L M hb]
  simp only [Result.andThen_ok]
  rw [run_equalIn_int w 9998 _ _ _ a c hu]
  simp only [Result.andThen_ok]
  rw [run_equalIn_int w 9998 _ _ _ b d hu]
  unfold cEqV
  cases L <;> cases M <;> cases a == c <;> cases b == d <;> rfl


set_option maxRecDepth 100000 in
set_option maxHeartbeats 2000000 in
theorem specRlSame_any (A1 A2 : Option Addr) (c1 c2 : Nat) (xss yss : List (List Sp)) (x y : Int) (w : World) (h1 : SetsAt w w.heap.size A1 c1 xss) (h2 : SetsAt w w.heap.size A2 c2 yss) :
    Calls Try.prog 62 #[.agg #[.slice A1 xss.length c1, .int .i64 x], .agg #[.slice A2 yss.length c2, .int .i64 y]] w fun e w' => e = .returned (.bool (rlB (xss, x) (yss, y))) ∧ Below w.heap.size w w' := by
  obtain ⟨W, hW⟩ : ∃ W, W = ((w.alloc (.cells #[.slice A1 xss.length c1, .int .i64 x] 65)).alloc (.cells #[.slice A2 yss.length c2, .int .i64 y] 65)) := ⟨_, rfl⟩
  obtain ⟨x1, x2, bW, zW⟩ := two_blocks w _ _ _ _ W hW
  have p0 := x1 0
  have p1 := x1 1
  have q0 := x2 0
  have q1 := x2 1
  simp at p0 p1 q0 q1
  clear x1 x2
  have BW := Lib.hid bW
  have ZW := Lib.hid zW
  clear bW zW
  obtain ⟨hlc, hc, hrow⟩ := h1
  obtain ⟨hlc2, hcc2, hrow2⟩ := h2
  by_cases hx : x = y
  · subst hx
    have hxx : (x != x) = false := by simp
    by_cases hl : xss.length = yss.length
    · have hne : ((xss.length : Int) != (yss.length : Int)) = false := by simp [hl]
      have HL := Lib.hid hl
      have hv := Lib.hid (show rlB (xss, x) (yss, x) = (List.range xss.length).all (sEq xss yss) by unfold rlB ssB; rw [decide_eq_true hl]; simp)
      clear hl
      rw [hW] at p0 p1 q0 q1
      go_enter Try.func62, Try.ntmps62
      go_wp2
      rw [← hW] at p0 p1 q0 q1
      rw [← hW]
      clear hW hne hxx p1 q1
      go_loopw [5] (fun i wr => ∃ k : Nat, k ≤ xss.length ∧ i = .int .i64 k ∧ Hid (∀ j, j < k → sEq xss yss j = true) ∧ Below W.heap.size W wr) (fun i _ => xss.length - (intOf i).toNat)
      case atStart => exact ⟨0, Nat.zero_le _, rfl, Lib.hid (fun i hi => absurd hi (by omega)), Below.refl _ _⟩
      case round =>
        obtain ⟨k, hk, rfl, hall, hb⟩ := hrel
        have hbw := BW.out.trans (hb.mono BW.out.size)
        have d0 := (hb.cell (p := ⟨w.heap.size, 0, none⟩) (by have := ZW.out; simp only; omega)).trans p0
        have e0 := (hb.cell (p := ⟨w.heap.size + 1, 0, none⟩) (by have := ZW.out; simp only; omega)).trans q0
        by_cases hlt : k < xss.length
        · rcases hrow with hz | ⟨b, off, rfl, hB, hrow⟩
          · omega
          · rcases hrow2 with hz | ⟨b2, off2, rfl, hB2, hrow2⟩
            · have := HL.out; omega
            · have hkl : (k : Int) < (xss.length : Int) := by omega
              have hkl2 : (k : Int) < (yss.length : Int) := by have := HL.out; omega
              obtain ⟨A', c', u1, u2⟩ := hrow k hlt
              obtain ⟨A'', c'', v1, v2⟩ := hrow2 k (by have := HL.out; omega)
              rw [Nat.mul_one] at u1 v1
              have d1 := (hbw.cell (p := ⟨b, off + k, none⟩) hB).trans u1
              have e1 := (hbw.cell (p := ⟨b2, off2 + k, none⟩) hB2).trans v1
              have U := Lib.hid (((u2.below hbw).mono hbw.size).below (Below.refl wr.heap.size wr).drew)
              have V := Lib.hid (((v2.below hbw).mono hbw.size).below (Below.refl wr.heap.size wr).drew)
              obtain ⟨ht, HT⟩ : ∃ t, Hid (sEq xss yss k = t) := ⟨_, Lib.hid rfl⟩
              obtain ⟨xs, hxs⟩ : ∃ xs, xss.getD k [] = xs := ⟨_, rfl⟩
              obtain ⟨ys, hys⟩ : ∃ ys, yss.getD k [] = ys := ⟨_, rfl⟩
              have HI := Lib.hid (show sameB xs ys = ht by rw [← HT.out]; unfold sEq; rw [hxs, hys])
              rw [hxs] at d1 U
              rw [hys] at e1 V
              have HB := Lib.hid hb
              have HBW := Lib.hid hbw
              have HA := Lib.hid hall
              clear u1 u2 v1 v2 hxs hys hrow hrow2 hb hbw hall
              go_wp2
              go_still_tail 10, (by kernel_rfl)
              change wpList _ _ _ _ _ wr.drew
              have hb2 : Below W.heap.size W wr.drew := HB.out.drew
              have HB2 := Lib.hid hb2
              generalize wr.drew = w2 at HB2 U V ⊢
              clear hb2
              cases ht
              · go_wp2_with (go_at_call 86; refine (specSame_any _ _ _ _ xs ys _ _ _ U.out V.out).mono ?_; rw [HI.out]; rintro e w' ⟨rfl, n1, rfl⟩)
                go_ret
                exact ⟨by rw [hv.out, all_no hlt HT.out]; rfl, BW.out.trans ((below_drewN HB2.out _).mono BW.out.size)⟩
              · go_wp2_with (go_at_call 86; refine (specSame_any _ _ _ _ xs ys _ _ _ U.out V.out).mono ?_; rw [HI.out]; rintro e w' ⟨rfl, n1, rfl⟩)
                go_roundw
                case rel =>
                  refine ⟨k + 1, hlt, by go_num, Lib.hid (fun i hi => ?_), below_drewN HB2.out _⟩
                  by_cases e : i = k
                  · rw [e]; exact HT.out
                  · exact HA.out i (by omega)
                case measure => simp [intOf]; omega
        · obtain rfl : k = xss.length := by omega
          have HA := Lib.hid (show rlB (xss, x) (yss, x) = true by rw [hv.out]; exact all_yes hall.out)
          clear hall
          go_wp2
          go_ret
          exact ⟨by rw [HA.out]; rfl, hbw⟩
    · have hne : ((xss.length : Int) != (yss.length : Int)) = true := by simp; omega
      have hv := Lib.hid (show rlB (xss, x) (yss, x) = false by unfold rlB ssB; rw [decide_eq_false hl]; simp)
      clear hl
      subst hW
      go_enter Try.func62, Try.ntmps62
      go_wp2
      go_ret
      exact ⟨by rw [hv.out]; rfl, BW.out⟩
  · have hxx : (x != y) = true := by simp [hx]
    have hv := Lib.hid (show rlB (xss, x) (yss, y) = false by unfold rlB; simp [hx])
    clear hx
    subst hW
    go_enter Try.func62, Try.ntmps62
    go_wp2
    try trivial
    go_ret
    exact ⟨by rw [hv.out]; rfl, BW.out⟩

theorem ts_no1 {s t : Tb} (h : s.pol ≠ t.pol) : tsB s t = false := by unfold tsB; simp [h]
theorem ts_no2 {s t : Tb} (h : s.cols.length ≠ t.cols.length) : tsB s t = false := by unfold tsB csB; rw [decide_eq_false h]; simp
theorem ts_no3 {s t : Tb} (h : s.rules.length ≠ t.rules.length) : tsB s t = false := by unfold tsB rsB; rw [decide_eq_false h]; simp
theorem ts_yes {s t : Tb} (h1 : s.pol = t.pol) (h2 : s.cols.length = t.cols.length) (h3 : s.rules.length = t.rules.length) : tsB s t = ((List.range s.cols.length).all (cEq s.cols t.cols) && (List.range s.rules.length).all (rEq s.rules t.rules)) := by
  unfold tsB csB rsB
  rw [decide_eq_true h2, decide_eq_true h3, h1]
  simp

set_option maxRecDepth 100000 in
set_option maxHeartbeats 4000000 in
theorem specTS_any (v1 : Value) (t1 : Tb) (v2 : Value) (t2 : Tb) (w : World) (h1 : TabAt w w.heap.size v1 t1) (h2 : TabAt w w.heap.size v2 t2) :
    Calls Try.prog 29 #[v1, v2] w fun e w' => e = .returned (.bool (tsB t1 t2)) ∧ Below w.heap.size w w' := by
  obtain ⟨A1, c1, A2, c2, rfl, hC, hR⟩ := h1
  obtain ⟨B1, e1, B2, e2, rfl, hC2, hR2⟩ := h2
  obtain ⟨cs, x, rs⟩ := t1
  obtain ⟨ds, y, ss⟩ := t2
  simp only [] at hC hR hC2 hR2 ⊢
  obtain ⟨W, hW⟩ : ∃ W, W = ((w.alloc (.cells #[.slice A1 cs.length c1, .int .i64 x, .slice A2 rs.length c2] 31)).alloc (.cells #[.slice B1 ds.length e1, .int .i64 y, .slice B2 ss.length e2] 31)) := ⟨_, rfl⟩
  obtain ⟨x1, x2, bW, zW⟩ := two_blocks w _ _ _ _ W hW
  have p0 := x1 0
  have p1 := x1 1
  have p2 := x1 2
  have q0 := x2 0
  have q1 := x2 1
  have q2 := x2 2
  simp at p0 p1 p2 q0 q1 q2
  clear x1 x2
  have BW := Lib.hid bW
  have ZW := Lib.hid zW
  clear bW zW
  obtain ⟨_, _, hrow⟩ := hC
  obtain ⟨_, _, hrow2⟩ := hC2
  obtain ⟨_, _, hrr⟩ := hR
  obtain ⟨_, _, hrr2⟩ := hR2
  by_cases hx : x = y
  · subst hx
    have hxx : (x != x) = false := by simp
    by_cases hl : cs.length = ds.length
    · have hne : ((cs.length : Int) != (ds.length : Int)) = false := by simp [hl]
      by_cases hl2 : rs.length = ss.length
      · have hne2 : ((rs.length : Int) != (ss.length : Int)) = false := by simp [hl2]
        have hv := Lib.hid (ts_yes (s := ⟨cs, x, rs⟩) (t := ⟨ds, x, ss⟩) rfl hl hl2)
        have HL := Lib.hid hl
        have HL2 := Lib.hid hl2
        clear hl hl2
        rw [hW] at p0 p1 p2 q0 q1 q2
        go_enter Try.func29, Try.ntmps29
        go_wp2
        rw [← hW] at p0 p1 p2 q0 q1 q2
        rw [← hW]
        clear hW hne hne2 hxx p1 q1
        go_loopw [5] (fun i wr => ∃ k : Nat, k ≤ cs.length ∧ i = .int .i64 k ∧ Hid (∀ j, j < k → cEq cs ds j = true) ∧ Below W.heap.size W wr) (fun i _ => cs.length - (intOf i).toNat)
        case atStart => exact ⟨0, Nat.zero_le _, rfl, Lib.hid (fun i hi => absurd hi (by omega)), Below.refl _ _⟩
        case round =>
          obtain ⟨k, hk, rfl, hall, hb⟩ := hrel
          have hbw := BW.out.trans (hb.mono BW.out.size)
          have d0 := (hb.cell (p := ⟨w.heap.size, 0, none⟩) (by have := ZW.out; simp only; omega)).trans p0
          have e0 := (hb.cell (p := ⟨w.heap.size + 1, 0, none⟩) (by have := ZW.out; simp only; omega)).trans q0
          by_cases hlt : k < cs.length
          · rcases hrow with hz | ⟨b, off, rfl, hB, hrow⟩
            · omega
            · rcases hrow2 with hz | ⟨b2, off2, rfl, hB2, hrow2⟩
              · have := HL.out; omega
              · have hkl : (k : Int) < (cs.length : Int) := by omega
                have hkl2 : (k : Int) < (ds.length : Int) := by have := HL.out; omega
                obtain ⟨u1, u2, u3⟩ := hrow k hlt
                obtain ⟨v1, v2, v3⟩ := hrow2 k (by have := HL.out; omega)
                have d1 := (hbw.cell (p := ⟨b, off + k * 3, none⟩) hB).trans u1
                have d2 := (hbw.cell (p := ⟨b, off + k * 3 + 1, none⟩) hB).trans u2
                have d3 := (hbw.cell (p := ⟨b, off + k * 3 + 2, none⟩) hB).trans u3
                have f1 := (hbw.cell (p := ⟨b2, off2 + k * 3, none⟩) hB2).trans v1
                have f2 := (hbw.cell (p := ⟨b2, off2 + k * 3 + 1, none⟩) hB2).trans v2
                have f3 := (hbw.cell (p := ⟨b2, off2 + k * 3 + 2, none⟩) hB2).trans v3
                obtain ⟨ht, HT⟩ : ∃ t, Hid (cEq cs ds k = t) := ⟨_, Lib.hid rfl⟩
                obtain ⟨⟨L, a, b'⟩, hv1⟩ : ∃ v, cs.getD k (false, 0, 0) = v := ⟨_, rfl⟩
                obtain ⟨⟨M, c, d'⟩, hv2⟩ : ∃ v, ds.getD k (false, 0, 0) = v := ⟨_, rfl⟩
                have hcmp : ∀ w, (binOp .neq 61 (colV L a b') (colV M c d')).run Try.prog w = .ok (.bool (!ht)) w := fun w => by
                  rw [run_neq_cols, ← HT.out]; unfold cEq; rw [hv1, hv2]
                rw [hv1] at d1 d2 d3
                rw [hv2] at f1 f2 f3
                simp only [] at d1 d2 d3 f1 f2 f3
                have HB := Lib.hid hb
                have HBW := Lib.hid hbw
                have HA := Lib.hid hall
                clear u1 u2 u3 v1 v2 v3 hv1 hv2 hrow hrow2 hb hbw hall hrr hrr2
                cases ht
                · simp only [Bool.not_false] at hcmp
                  go_wp2
                  go_quiet (fail)
                  go_wp2
                  go_ret
                  exact ⟨by rw [hv.out, all_no hlt HT.out]; rfl, below_drewN HBW.out _⟩
                · simp only [Bool.not_true] at hcmp
                  go_wp2
                  go_quiet (fail)
                  go_wp2
                  go_roundw
                  case rel =>
                    refine ⟨k + 1, hlt, by go_num, Lib.hid (fun i hi => ?_), below_drewN HB.out _⟩
                    by_cases e : i = k
                    · rw [e]; exact HT.out
                    · exact HA.out i (by omega)
                  case measure => simp [intOf]; omega
          · obtain rfl : k = cs.length := by omega
            have hv2 := Lib.hid (show tsB ⟨cs, x, rs⟩ ⟨ds, x, ss⟩ = (List.range rs.length).all (rEq rs ss) by rw [hv.out, show (List.range cs.length).all (cEq cs ds) = true from all_yes hall.out]; rfl)
            have HB := Lib.hid hb
            clear hv hrow hrow2 hlt hk hall hb hbw
            go_wp2
            clear d0 e0
            go_loopw [6] (fun i wr => ∃ k : Nat, k ≤ rs.length ∧ i = .int .i64 k ∧ Hid (∀ j, j < k → rEq rs ss j = true) ∧ Below W.heap.size W wr) (fun i _ => rs.length - (intOf i).toNat)
            case atStart => exact ⟨0, Nat.zero_le _, rfl, Lib.hid (fun i hi => absurd hi (by omega)), HB.out⟩
            case round =>
              clear HB
              obtain ⟨k, hk, rfl, hall, hb⟩ := hrel
              have hbw := BW.out.trans (hb.mono BW.out.size)
              have d0 := (hb.cell (p := ⟨w.heap.size, 2, none⟩) (by have := ZW.out; simp only; omega)).trans p2
              have e0 := (hb.cell (p := ⟨w.heap.size + 1, 2, none⟩) (by have := ZW.out; simp only; omega)).trans q2
              by_cases hlt : k < rs.length
              · rcases hrr with hz | ⟨b, off, rfl, hB, hrow⟩
                · omega
                · rcases hrr2 with hz | ⟨b2, off2, rfl, hB2, hrow2⟩
                  · have := HL2.out; omega
                  · have hkl : (k : Int) < (rs.length : Int) := by omega
                    have hkl2 : (k : Int) < (ss.length : Int) := by have := HL2.out; omega
                    obtain ⟨⟨A', c', u1, u2⟩, u3⟩ := hrow k hlt
                    obtain ⟨⟨A'', c'', v1, v2⟩, v3⟩ := hrow2 k (by have := HL2.out; omega)
                    have d1 := (hbw.cell (p := ⟨b, off + k * 2, none⟩) hB).trans u1
                    have d2 := (hbw.cell (p := ⟨b, off + k * 2 + 1, none⟩) hB).trans u3
                    have f1 := (hbw.cell (p := ⟨b2, off2 + k * 2, none⟩) hB2).trans v1
                    have f2 := (hbw.cell (p := ⟨b2, off2 + k * 2 + 1, none⟩) hB2).trans v3
                    have U := Lib.hid (((u2.below hbw).mono hbw.size).below (Below.refl wr.heap.size wr).drew)
                    have V := Lib.hid (((v2.below hbw).mono hbw.size).below (Below.refl wr.heap.size wr).drew)
                    obtain ⟨ht, HT⟩ : ∃ t, Hid (rEq rs ss k = t) := ⟨_, Lib.hid rfl⟩
                    obtain ⟨xss, a, hxs⟩ : ∃ xss a, rs.getD k ([], 0) = (xss, a) := ⟨_, _, rfl⟩
                    obtain ⟨yss, c, hys⟩ : ∃ yss c, ss.getD k ([], 0) = (yss, c) := ⟨_, _, rfl⟩
                    have HI := Lib.hid (show rlB (xss, a) (yss, c) = ht by rw [← HT.out]; unfold rEq; rw [hxs, hys])
                    rw [hxs] at d1 d2 U
                    rw [hys] at f1 f2 V
                    simp only [] at d1 d2 f1 f2
                    have HB := Lib.hid hb
                    have HBW := Lib.hid hbw
                    have HA := Lib.hid hall
                    clear u1 u2 u3 v1 v2 v3 hxs hys hrow hrow2 hb hbw hall
                    go_wp2
                    go_still_tail 10, (by kernel_rfl)
                    change wpList _ _ _ _ _ wr.drew
                    have HB2 := Lib.hid (show Below W.heap.size W wr.drew from HB.out.drew)
                    have hz2 : wr.drew.heap.size = wr.heap.size := rfl
                    rw [← hz2] at U V
                    generalize wr.drew = w2 at HB2 U V ⊢
                    clear hz2
                    cases ht
                    · go_wp2_with (go_at_call 62; refine (specRlSame_any _ _ _ _ xss yss a c _ U.out V.out).mono ?_; rw [HI.out]; rintro e w' ⟨rfl, hb3⟩)
                      go_ret
                      exact ⟨by rw [hv2.out, all_no hlt HT.out]; rfl, BW.out.trans ((HB2.out.trans (hb3.mono HB2.out.size)).mono BW.out.size)⟩
                    · go_wp2_with (go_at_call 62; refine (specRlSame_any _ _ _ _ xss yss a c _ U.out V.out).mono ?_; rw [HI.out]; rintro e w' ⟨rfl, hb3⟩)
                      go_roundw
                      case rel =>
                        refine ⟨k + 1, hlt, by go_num, Lib.hid (fun i hi => ?_), HB2.out.trans (hb3.mono HB2.out.size)⟩
                        by_cases e : i = k
                        · rw [e]; exact HT.out
                        · exact HA.out i (by omega)
                      case measure => simp [intOf]; omega
              · obtain rfl : k = rs.length := by omega
                have HA := Lib.hid (show tsB ⟨cs, x, rs⟩ ⟨ds, x, ss⟩ = true by rw [hv2.out]; exact all_yes hall.out)
                clear hall
                go_wp2
                go_ret
                exact ⟨by rw [HA.out]; rfl, hbw⟩
      · have hne2 : ((rs.length : Int) != (ss.length : Int)) = true := by simp; omega
        have hv := Lib.hid (ts_no3 (s := ⟨cs, x, rs⟩) (t := ⟨ds, x, ss⟩) hl2)
        clear hl hl2
        subst hW
        go_enter Try.func29, Try.ntmps29
        go_wp2
        go_ret
        exact ⟨by rw [hv.out]; rfl, BW.out⟩
    · have hne : ((cs.length : Int) != (ds.length : Int)) = true := by simp; omega
      have hv := Lib.hid (ts_no2 (s := ⟨cs, x, rs⟩) (t := ⟨ds, x, ss⟩) hl)
      clear hl
      subst hW
      go_enter Try.func29, Try.ntmps29
      go_wp2
      try trivial
      go_ret
      exact ⟨by rw [hv.out]; rfl, BW.out⟩
  · have hxx : (x != y) = true := by simp [hx]
    have hv := Lib.hid (ts_no1 (s := ⟨cs, x, rs⟩) (t := ⟨ds, y, ss⟩) hx)
    clear hx
    subst hW
    go_enter Try.func29, Try.ntmps29
    go_wp2
    try trivial
    go_ret
    exact ⟨by rw [hv.out]; rfl, BW.out⟩
end Go.Proofs.Ytppciomdbabepaa

namespace Go.Proofs.Ytppciomdbabepaa
open Go.RowKit Sets


set_option maxRecDepth 100000 in
set_option maxHeartbeats 2000000 in
theorem slicesEqualC_any (A1 A2 : Option Addr) (c1 c2 : Nat) (cs ds : List Co) (w : World) (h1 : ColsAt w w.heap.size A1 c1 cs) (h2 : ColsAt w w.heap.size A2 c2 ds) :
    Calls Try.prog 63 #[.slice A1 cs.length c1, .slice A2 ds.length c2] w fun e w' => e = .returned (.bool (csB cs ds)) ∧ Below w.heap.size w w' := by
  obtain ⟨_, _, hrow⟩ := h1
  obtain ⟨_, _, hrow2⟩ := h2
  by_cases hl : cs.length = ds.length
  · have hne : ((cs.length : Int) != (ds.length : Int)) = false := by simp [hl]
    have HL := Lib.hid hl
    have hv := Lib.hid (show csB cs ds = (List.range cs.length).all (cEq cs ds) by unfold csB; rw [decide_eq_true hl]; rfl)
    clear hl
    go_enter Try.func63, Try.ntmps63
    go_wp2
    clear hne
    go_loopw [13] (fun i wr => ∃ k : Nat, k ≤ cs.length ∧ i = .int .i64 k ∧ Hid (∀ j, j < k → cEq cs ds j = true) ∧ Below w.heap.size w wr) (fun i _ => cs.length - (intOf i).toNat)
    case atStart => exact ⟨0, Nat.zero_le _, rfl, Lib.hid (fun i hi => absurd hi (by omega)), Below.refl _ _⟩
    case round =>
      obtain ⟨k, hk, rfl, hall, hb⟩ := hrel
      by_cases hlt : k < cs.length
      · rcases hrow with hz | ⟨b, off, rfl, hB, hrow⟩
        · omega
        · rcases hrow2 with hz | ⟨b2, off2, rfl, hB2, hrow2⟩
          · have := HL.out; omega
          · have hkl : (k : Int) < (cs.length : Int) := by omega
            have hkl2 : (k : Int) < (ds.length : Int) := by have := HL.out; omega
            obtain ⟨u1, u2, u3⟩ := hrow k hlt
            obtain ⟨v1, v2, v3⟩ := hrow2 k (by have := HL.out; omega)
            have d1 := (hb.cell (p := ⟨b, off + k * 3, none⟩) hB).trans u1
            have d2 := (hb.cell (p := ⟨b, off + k * 3 + 1, none⟩) hB).trans u2
            have d3 := (hb.cell (p := ⟨b, off + k * 3 + 2, none⟩) hB).trans u3
            have f1 := (hb.cell (p := ⟨b2, off2 + k * 3, none⟩) hB2).trans v1
            have f2 := (hb.cell (p := ⟨b2, off2 + k * 3 + 1, none⟩) hB2).trans v2
            have f3 := (hb.cell (p := ⟨b2, off2 + k * 3 + 2, none⟩) hB2).trans v3
            obtain ⟨ht, HT⟩ : ∃ t, Hid (cEq cs ds k = t) := ⟨_, Lib.hid rfl⟩
            obtain ⟨⟨L, a, b'⟩, hv1⟩ : ∃ v, cs.getD k (false, 0, 0) = v := ⟨_, rfl⟩
            obtain ⟨⟨M, c, d'⟩, hv2⟩ : ∃ v, ds.getD k (false, 0, 0) = v := ⟨_, rfl⟩
            have hcmp : ∀ w, (binOp .neq 61 (colV L a b') (colV M c d')).run Try.prog w = .ok (.bool (!ht)) w := fun w => by
              rw [run_neq_cols, ← HT.out]; unfold cEq; rw [hv1, hv2]
            rw [hv1] at d1 d2 d3
            rw [hv2] at f1 f2 f3
            simp only [] at d1 d2 d3 f1 f2 f3
            have HB := Lib.hid hb
            have HA := Lib.hid hall
            clear u1 u2 u3 v1 v2 v3 hv1 hv2 hrow hrow2 hb hall
            cases ht
            · simp only [Bool.not_false] at hcmp
              go_wp2
              go_quiet (fail)
              go_wp2
              go_ret
              exact ⟨by rw [hv.out, all_no hlt HT.out]; rfl, below_drewN HB.out _⟩
            · simp only [Bool.not_true] at hcmp
              go_wp2
              go_quiet (fail)
              go_wp2
              go_roundw
              case rel =>
                refine ⟨k + 1, hlt, by go_num, Lib.hid (fun i hi => ?_), below_drewN HB.out _⟩
                by_cases e : i = k
                · rw [e]; exact HT.out
                · exact HA.out i (by omega)
              case measure => simp [intOf]; omega
      · obtain rfl : k = cs.length := by omega
        have HA := Lib.hid (show csB cs ds = true by rw [hv.out]; exact all_yes hall.out)
        clear hall
        go_wp2
        go_ret
        exact ⟨by rw [HA.out]; rfl, hb⟩
  · have hne : ((cs.length : Int) != (ds.length : Int)) = true := by simp; omega
    have hv := Lib.hid (show csB cs ds = false by unfold csB; rw [decide_eq_false hl]; rfl)
    clear hl
    go_enter Try.func63, Try.ntmps63
    go_wp2
    go_ret
    exact ⟨by rw [hv.out]; rfl, Below.refl _ _⟩

set_option maxRecDepth 100000 in
set_option maxHeartbeats 2000000 in
theorem eqFuncS_any (A1 A2 : Option Addr) (c1 c2 : Nat) (xss yss : List (List Sp)) (w : World) (h1 : SetsAt w w.heap.size A1 c1 xss) (h2 : SetsAt w w.heap.size A2 c2 yss) :
    Calls Try.prog 87 #[.slice A1 xss.length c1, .slice A2 yss.length c2, .func (.func 88) #[] #[]] w fun e w' => e = .returned (.bool (ssB xss yss)) ∧ Below w.heap.size w w' := by
  have eg : ∀ args w, (callFunc 88 args).run Try.prog w = .ok (.enter 88 args) w := enters_of Try.func88 (by kernel_rfl) rfl
  obtain ⟨_, _, hrow⟩ := h1
  obtain ⟨_, _, hrow2⟩ := h2
  by_cases hl : xss.length = yss.length
  · have hne : ((xss.length : Int) != (yss.length : Int)) = false := by simp [hl]
    have HL := Lib.hid hl
    have hv := Lib.hid (show ssB xss yss = (List.range xss.length).all (sEq xss yss) by unfold ssB; rw [decide_eq_true hl]; rfl)
    clear hl
    go_enter Try.func87, Try.ntmps87
    go_wp2
    clear hne
    go_loopw [17] (fun i wr => ∃ k : Nat, k ≤ xss.length ∧ i = .int .i64 k ∧ Hid (∀ j, j < k → sEq xss yss j = true) ∧ Below w.heap.size w wr) (fun i _ => xss.length - (intOf i).toNat)
    case atStart => exact ⟨0, Nat.zero_le _, rfl, Lib.hid (fun i hi => absurd hi (by omega)), Below.refl _ _⟩
    case round =>
      obtain ⟨k, hk, rfl, hall, hb⟩ := hrel
      by_cases hlt : k < xss.length
      · rcases hrow with hz | ⟨b, off, rfl, hB, hrow⟩
        · omega
        · rcases hrow2 with hz | ⟨b2, off2, rfl, hB2, hrow2⟩
          · have := HL.out; omega
          · have hkl : (k : Int) < (xss.length : Int) := by omega
            have hkl2 : (k : Int) < (yss.length : Int) := by have := HL.out; omega
            obtain ⟨A', c', u1, u2⟩ := hrow k hlt
            obtain ⟨A'', c'', v1, v2⟩ := hrow2 k (by have := HL.out; omega)
            rw [Nat.mul_one] at u1 v1
            have d1 := (hb.cell (p := ⟨b, off + k, none⟩) hB).trans u1
            have e1 := (hb.cell (p := ⟨b2, off2 + k, none⟩) hB2).trans v1
            have U := Lib.hid ((u2.below hb).mono hb.size)
            have V := Lib.hid ((v2.below hb).mono hb.size)
            obtain ⟨ht, HT⟩ : ∃ t, Hid (sEq xss yss k = t) := ⟨_, Lib.hid rfl⟩
            obtain ⟨xs, hxs⟩ : ∃ xs, xss.getD k [] = xs := ⟨_, rfl⟩
            obtain ⟨ys, hys⟩ : ∃ ys, yss.getD k [] = ys := ⟨_, rfl⟩
            have HI := Lib.hid (show sameB xs ys = ht by rw [← HT.out]; unfold sEq; rw [hxs, hys])
            rw [hxs] at d1 U
            rw [hys] at e1 V
            have HB := Lib.hid hb
            have HA := Lib.hid hall
            clear u1 u2 v1 v2 hxs hys hrow hrow2 hb hall
            cases ht
            · go_wp2_with (go_at_fn 88; refine (implSame_any _ _ _ _ xs ys _ _ _ U.out V.out).mono ?_; rw [HI.out]; rintro e w' ⟨rfl, n1, rfl⟩)
              go_ret
              exact ⟨by rw [hv.out, all_no hlt HT.out]; rfl, below_drewN HB.out _⟩
            · go_wp2_with (go_at_fn 88; refine (implSame_any _ _ _ _ xs ys _ _ _ U.out V.out).mono ?_; rw [HI.out]; rintro e w' ⟨rfl, n1, rfl⟩)
              go_roundw
              case rel =>
                refine ⟨k + 1, hlt, by go_num, Lib.hid (fun i hi => ?_), below_drewN HB.out _⟩
                by_cases e : i = k
                · rw [e]; exact HT.out
                · exact HA.out i (by omega)
              case measure => simp [intOf]; omega
      · obtain rfl : k = xss.length := by omega
        have HA := Lib.hid (show ssB xss yss = true by rw [hv.out]; exact all_yes hall.out)
        clear hall
        go_wp2
        go_ret
        exact ⟨by rw [HA.out]; rfl, hb⟩
  · have hne : ((xss.length : Int) != (yss.length : Int)) = true := by simp; omega
    have hv := Lib.hid (show ssB xss yss = false by unfold ssB; rw [decide_eq_false hl]; rfl)
    clear hl
    go_enter Try.func87, Try.ntmps87
    go_wp2
    go_ret
    exact ⟨by rw [hv.out]; rfl, Below.refl _ _⟩

set_option maxRecDepth 100000 in
set_option maxHeartbeats 2000000 in
theorem implRlSame_any (A1 A2 : Option Addr) (c1 c2 : Nat) (xss yss : List (List Sp)) (x y : Int) (w : World) (h1 : SetsAt w w.heap.size A1 c1 xss) (h2 : SetsAt w w.heap.size A2 c2 yss) :
    Calls Try.prog 65 #[.agg #[.slice A1 xss.length c1, .int .i64 x], .agg #[.slice A2 yss.length c2, .int .i64 y]] w fun e w' => e = .returned (.bool (rlB (xss, x) (yss, y))) ∧ Below w.heap.size w w' := by
  obtain ⟨W, hW⟩ : ∃ W, W = ((w.alloc (.cells #[.slice A1 xss.length c1, .int .i64 x] 65)).alloc (.cells #[.slice A2 yss.length c2, .int .i64 y] 65)) := ⟨_, rfl⟩
  obtain ⟨x1, x2, bW, zW⟩ := two_blocks w _ _ _ _ W hW
  have p0 := x1 0
  have p1 := x1 1
  have q0 := x2 0
  have q1 := x2 1
  simp at p0 p1 q0 q1
  clear x1 x2 zW
  have BW := Lib.hid bW
  have H1 := Lib.hid h1
  have H2 := Lib.hid h2
  clear bW h1 h2
  by_cases hx : x = y
  · subst hx
    have hxx : (x == x) = true := by simp
    have hv := Lib.hid (show rlB (xss, x) (yss, x) = ssB xss yss by unfold rlB; simp)
    rw [hW] at p0 p1 q0 q1
    go_enter Try.func65, Try.ntmps65
    go_wp2_with fail
    rw [← hW]
    clear hW hxx p0 p1 q0 q1
    refine (eqFuncS_any A1 A2 c1 c2 xss yss W ((H1.out.below BW.out).mono BW.out.size) ((H2.out.below BW.out).mono BW.out.size)).mono ?_
    rintro e w1 ⟨rfl, b1⟩
    go_wp2
    go_ret
    exact ⟨by rw [hv.out]; rfl, BW.out.trans (b1.mono BW.out.size)⟩
  · have hxx : (x == y) = false := by simp [hx]
    have hv := Lib.hid (show rlB (xss, x) (yss, y) = false by unfold rlB; simp [hx])
    clear hx
    subst hW
    go_enter Try.func65, Try.ntmps65
    go_wp2
    try trivial
    go_ret
    exact ⟨by rw [hv.out]; rfl, BW.out⟩

set_option maxRecDepth 100000 in
set_option maxHeartbeats 2000000 in
theorem eqFuncR_any (A1 A2 : Option Addr) (c1 c2 : Nat) (rs ss : List Rl) (w : World) (h1 : RulesAt w w.heap.size A1 c1 rs) (h2 : RulesAt w w.heap.size A2 c2 ss) :
    Calls Try.prog 64 #[.slice A1 rs.length c1, .slice A2 ss.length c2, .func (.func 65) #[] #[]] w fun e w' => e = .returned (.bool (rsB rs ss)) ∧ Below w.heap.size w w' := by
  have eg : ∀ args w, (callFunc 65 args).run Try.prog w = .ok (.enter 65 args) w := enters_of Try.func65 (by kernel_rfl) rfl
  obtain ⟨_, _, hrow⟩ := h1
  obtain ⟨_, _, hrow2⟩ := h2
  by_cases hl : rs.length = ss.length
  · have hne : ((rs.length : Int) != (ss.length : Int)) = false := by simp [hl]
    have HL := Lib.hid hl
    have hv := Lib.hid (show rsB rs ss = (List.range rs.length).all (rEq rs ss) by unfold rsB; rw [decide_eq_true hl]; rfl)
    clear hl
    go_enter Try.func64, Try.ntmps64
    go_wp2
    clear hne
    go_loopw [17] (fun i wr => ∃ k : Nat, k ≤ rs.length ∧ i = .int .i64 k ∧ Hid (∀ j, j < k → rEq rs ss j = true) ∧ Below w.heap.size w wr) (fun i _ => rs.length - (intOf i).toNat)
    case atStart => exact ⟨0, Nat.zero_le _, rfl, Lib.hid (fun i hi => absurd hi (by omega)), Below.refl _ _⟩
    case round =>
      obtain ⟨k, hk, rfl, hall, hb⟩ := hrel
      by_cases hlt : k < rs.length
      · rcases hrow with hz | ⟨b, off, rfl, hB, hrow⟩
        · omega
        · rcases hrow2 with hz | ⟨b2, off2, rfl, hB2, hrow2⟩
          · have := HL.out; omega
          · have hkl : (k : Int) < (rs.length : Int) := by omega
            have hkl2 : (k : Int) < (ss.length : Int) := by have := HL.out; omega
            obtain ⟨⟨A', c', u1, u2⟩, u3⟩ := hrow k hlt
            obtain ⟨⟨A'', c'', v1, v2⟩, v3⟩ := hrow2 k (by have := HL.out; omega)
            obtain ⟨ht, HT⟩ : ∃ t, Hid (rEq rs ss k = t) := ⟨_, Lib.hid rfl⟩
            obtain ⟨xss, a, hxs⟩ : ∃ xss a, rs.getD k ([], 0) = (xss, a) := ⟨_, _, rfl⟩
            obtain ⟨yss, c, hys⟩ : ∃ yss c, ss.getD k ([], 0) = (yss, c) := ⟨_, _, rfl⟩
            have HI := Lib.hid (show rlB (xss, a) (yss, c) = ht by rw [← HT.out]; unfold rEq; rw [hxs, hys])
            rw [hxs] at u1 u2 u3
            rw [hys] at v1 v2 v3
            simp only [] at u1 u2 u3 v1 v2 v3
            have d1 := (hb.cell (p := ⟨b, off + k * 2, none⟩) hB).trans u1
            have d2 := (hb.cell (p := ⟨b, off + k * 2 + 1, none⟩) hB).trans u3
            have hb1 := hb.alloc hb.size (.cells #[.slice A' xss.length c', .int .i64 a] 65)
            have f1 := (hb1.cell (p := ⟨b2, off2 + k * 2, none⟩) hB2).trans v1
            have f2 := (hb1.cell (p := ⟨b2, off2 + k * 2 + 1, none⟩) hB2).trans v3
            have hb2 := hb1.alloc hb1.size (.cells #[.slice A'' yss.length c'', .int .i64 c] 65)
            have HB := Lib.hid hb2
            have U := Lib.hid ((u2.below hb2).mono hb2.size)
            have V := Lib.hid ((v2.below hb2).mono hb2.size)
            have HA := Lib.hid hall
            clear u1 u2 u3 v1 v2 v3 hxs hys hrow hrow2 hb hb1 hb2 hall
            cases ht
            · go_wp2_with (go_at_fn 65; refine (implRlSame_any _ _ _ _ xss yss a c _ U.out V.out).mono ?_; rw [HI.out]; rintro e w' ⟨rfl, b3⟩)
              go_ret
              exact ⟨by rw [hv.out, all_no hlt HT.out]; rfl, HB.out.trans (b3.mono HB.out.size)⟩
            · go_wp2_with (go_at_fn 65; refine (implRlSame_any _ _ _ _ xss yss a c _ U.out V.out).mono ?_; rw [HI.out]; rintro e w' ⟨rfl, b3⟩)
              go_roundw
              case rel =>
                refine ⟨k + 1, hlt, by go_num, Lib.hid (fun i hi => ?_), HB.out.trans (b3.mono HB.out.size)⟩
                by_cases e : i = k
                · rw [e]; exact HT.out
                · exact HA.out i (by omega)
              case measure => simp [intOf]; omega
      · obtain rfl : k = rs.length := by omega
        have HA := Lib.hid (show rsB rs ss = true by rw [hv.out]; exact all_yes hall.out)
        clear hall
        go_wp2
        go_ret
        exact ⟨by rw [HA.out]; rfl, hb⟩
  · have hne : ((rs.length : Int) != (ss.length : Int)) = true := by simp; omega
    have hv := Lib.hid (show rsB rs ss = false by unfold rsB; rw [decide_eq_false hl]; rfl)
    clear hl
    go_enter Try.func64, Try.ntmps64
    go_wp2
    go_ret
    exact ⟨by rw [hv.out]; rfl, Below.refl _ _⟩

set_option maxRecDepth 100000 in
set_option maxHeartbeats 4000000 in
theorem implTS_any (v1 : Value) (t1 : Tb) (v2 : Value) (t2 : Tb) (w : World) (h1 : TabAt w w.heap.size v1 t1) (h2 : TabAt w w.heap.size v2 t2) :
    Calls Try.prog 30 #[v1, v2] w fun e w' => e = .returned (.bool (tsB t1 t2)) ∧ Below w.heap.size w w' := by
  obtain ⟨A1, c1, A2, c2, rfl, hC, hR⟩ := h1
  obtain ⟨B1, e1, B2, e2, rfl, hC2, hR2⟩ := h2
  obtain ⟨cs, x, rs⟩ := t1
  obtain ⟨ds, y, ss⟩ := t2
  simp only [] at hC hR hC2 hR2 ⊢
  obtain ⟨W, hW⟩ : ∃ W, W = ((w.alloc (.cells #[.slice A1 cs.length c1, .int .i64 x, .slice A2 rs.length c2] 31)).alloc (.cells #[.slice B1 ds.length e1, .int .i64 y, .slice B2 ss.length e2] 31)) := ⟨_, rfl⟩
  obtain ⟨x1, x2, bW, zW⟩ := two_blocks w _ _ _ _ W hW
  have p0 := x1 0
  have p1 := x1 1
  have p2 := x1 2
  have q0 := x2 0
  have q1 := x2 1
  have q2 := x2 2
  simp at p0 p1 p2 q0 q1 q2
  clear x1 x2
  have BW := Lib.hid bW
  have ZW := Lib.hid zW
  have HC := Lib.hid hC
  have HR := Lib.hid hR
  have HC2 := Lib.hid hC2
  have HR2 := Lib.hid hR2
  clear bW zW hC hR hC2 hR2
  by_cases hx : x = y
  · subst hx
    have hxx : (x == x) = true := by simp
    have hv := Lib.hid (show tsB ⟨cs, x, rs⟩ ⟨ds, x, ss⟩ = (csB cs ds && rsB rs ss) by unfold tsB; simp)
    rw [hW] at p0 p1 p2 q0 q1 q2
    go_enter Try.func30, Try.ntmps30
    go_wp2_with fail
    rw [← hW] at p0 p1 p2 q0 q1 q2
    rw [← hW]
    clear hW hxx
    refine (slicesEqualC_any A1 B1 c1 e1 cs ds W ((HC.out.below BW.out).mono BW.out.size) ((HC2.out.below BW.out).mono BW.out.size)).mono ?_
    rintro e w1 ⟨rfl, b1⟩
    have d2 := (b1.cell (p := ⟨w.heap.size, 2, none⟩) (by have := ZW.out; simp only; omega)).trans p2
    have f2 := (b1.cell (p := ⟨w.heap.size + 1, 2, none⟩) (by have := ZW.out; simp only; omega)).trans q2
    have B1' := Lib.hid (BW.out.trans (b1.mono BW.out.size))
    clear b1 p0 p1 p2 q0 q1 q2
    cases hcs : csB cs ds
    · have hv2 := Lib.hid (show tsB ⟨cs, x, rs⟩ ⟨ds, x, ss⟩ = false by rw [hv.out, hcs]; rfl)
      clear hcs
      go_wp2
      try trivial
      go_ret
      exact ⟨by rw [hv2.out]; rfl, B1'.out⟩
    · have hv2 := Lib.hid (show tsB ⟨cs, x, rs⟩ ⟨ds, x, ss⟩ = rsB rs ss by rw [hv.out, hcs]; rfl)
      clear hcs
      go_wp2_with fail
      clear d2 f2
      refine (eqFuncR_any A2 B2 c2 e2 rs ss w1 ((HR.out.below B1'.out).mono B1'.out.size) ((HR2.out.below B1'.out).mono B1'.out.size)).mono ?_
      rintro e w2 ⟨rfl, b2⟩
      go_wp2
      go_ret
      exact ⟨by rw [hv2.out]; rfl, B1'.out.trans (b2.mono B1'.out.size)⟩
  · have hxx : (x == y) = false := by simp [hx]
    have hv := Lib.hid (ts_no1 (s := ⟨cs, x, rs⟩) (t := ⟨ds, y, ss⟩) hx)
    clear hx
    subst hW
    go_enter Try.func30, Try.ntmps30
    go_wp2
    try trivial
    go_ret
    exact ⟨by rw [hv.out]; rfl, BW.out⟩
end Go.Proofs.Ytppciomdbabepaa
