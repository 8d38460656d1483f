/-
  Tables that are valid: the model.
-/
import Derived.Test.YtamfmemdhldmjaaGreatDoorUgM
import Derived.Test.YtamfmemdhldmjaaGreatDoorTj
import Derived.Test.YtamfmemdhldmjaaGreatDoorUaM
namespace Go.Proofs.YtamfmemdhldmjaaGreatDoor
open Go.RowKit Sets

def tAt (cs : List Co) (xss : List (List Sp)) (i : Nat) : Bool := isT (cs.getD i (false, 0, 0)).1 (cs.getD i (false, 0, 0)).2.1 (cs.getD i (false, 0, 0)).2.2 (xss.getD i [])
def ruleB (cs : List Co) (xss : List (List Sp)) (x : Int) : Bool := decide (xss.length = cs.length) && (decide (0 ≤ x) && (decide (x ≤ 99) && (List.range cs.length).all (tAt cs xss)))
set_option maxRecDepth 100000 in
set_option maxHeartbeats 1000000 in
theorem specRule_any (A1 A2 : Option Addr) (c1 c2 : Nat) (cs : List Co) (xss : List (List Sp)) (x : Int) (w : World) (h1 : ColsAt w w.heap.size A1 c1 cs) (h2 : SetsAt w w.heap.size A2 c2 xss) :
    Calls Tryz.prog 59 #[.slice A1 cs.length c1, .agg #[.slice A2 xss.length c2, .int .i64 x]] w fun e w' => e = .returned (.bool (ruleB cs xss x)) ∧ Below w.heap.size w w' := by
  have hb0 : Below w.heap.size w (w.alloc (.cells #[.slice A2 xss.length c2, .int .i64 x] 70)) := (Below.refl _ _).alloc (Nat.le_refl _) _
  have p0 : (w.alloc (.cells #[.slice A2 xss.length c2, .int .i64 x] 70)).cell? ⟨w.heap.size, 0, none⟩ = some (.slice A2 xss.length c2) := by rw [World.cell?_alloc_new]; rfl
  have p1 : (w.alloc (.cells #[.slice A2 xss.length c2, .int .i64 x] 70)).cell? ⟨w.heap.size, 1, none⟩ = some (.int .i64 x) := by rw [World.cell?_alloc_new]; rfl
  have hz0 : (w.alloc (.cells #[.slice A2 xss.length c2, .int .i64 x] 70)).heap.size = w.heap.size + 1 := by simp
  obtain ⟨hlc, hc, hrow⟩ := h1
  obtain ⟨hlc2, hcc2, hrow2⟩ := h2
  by_cases hl : xss.length = cs.length
  · have hne : ((xss.length : Int) != (cs.length : Int)) = false := by simp [hl]
    have HL := Lib.hid hl
    clear hl
    by_cases hx0 : x < 0
    · have hv := Lib.hid (show ruleB cs xss x = false by unfold ruleB; rw [decide_eq_false (show ¬ 0 ≤ x by omega)]; simp)
      go_enter Tryz.func59, Tryz.ntmps59
      go_wp2
      go_ret
      exact ⟨by rw [hv.out]; rfl, hb0⟩
    · by_cases hx1 : 99 < x
      · have hv := Lib.hid (show ruleB cs xss x = false by unfold ruleB; rw [decide_eq_false (show ¬ x ≤ 99 by omega)]; simp)
        have hx0' : 0 ≤ x := by omega
        go_enter Tryz.func59, Tryz.ntmps59
        go_wp2
        go_ret
        exact ⟨by rw [hv.out]; rfl, hb0⟩
      · have hx0' : 0 ≤ x := by omega
        have hx1' : x ≤ 99 := by omega
        have hv := Lib.hid (show ruleB cs xss x = (List.range cs.length).all (tAt cs xss) by unfold ruleB; rw [decide_eq_true HL.out, decide_eq_true hx0', decide_eq_true hx1']; simp)
        go_enter Tryz.func59, Tryz.ntmps59
        go_wp2
        generalize w.alloc (.cells #[.slice A2 xss.length c2, .int .i64 x] 70) = W at hb0 p0 p1 hz0 ⊢
        go_loopw [5] (fun i wr => ∃ k : Nat, k ≤ cs.length ∧ i = .int .i64 k ∧ Hid (∀ j, j < k → tAt cs xss j = true) ∧ Below W.heap.size W wr) (fun i _ => cs.length - (intOf i).toNat)
        case atStart => exact ⟨0, Nat.zero_le _, rfl, Lib.hid (fun i hi => absurd hi (by omega)), Below.refl _ _⟩
        case round =>
          obtain ⟨k, hk, rfl, hall, hb⟩ := hrel
          have hbw := hb0.trans (hb.mono hb0.size)
          by_cases hlt : k < cs.length
          · rcases hrow with hz | ⟨b, off, rfl, hB, hrow⟩
            · omega
            · rcases hrow2 with hz | ⟨b2, off2, rfl, hB2, hrow2⟩
              · have := HL.out; omega
              · have hkl : (k : Int) < (cs.length : Int) := by omega
                have hkl2 : (k : Int) < (xss.length : Int) := by have := HL.out; omega
                obtain ⟨u1, u2, u3⟩ := hrow k hlt
                obtain ⟨A'', c'', v1, v2⟩ := hrow2 k (by have := HL.out; omega)
                rw [Nat.mul_one] at v1
                have d0 := (hb.cell (p := ⟨w.heap.size, 0, none⟩) (by simp only; omega)).trans p0
                have d1 := (hbw.cell (p := ⟨b, off + k * 3, none⟩) hB).trans u1
                have d2 := (hbw.cell (p := ⟨b, off + k * 3 + 1, none⟩) hB).trans u2
                have d3 := (hbw.cell (p := ⟨b, off + k * 3 + 2, none⟩) hB).trans u3
                have e1 := (hbw.cell (p := ⟨b2, off2 + k, none⟩) hB2).trans v1
                have V2 := Lib.hid (((v2.below hbw).mono hbw.size).below (Below.refl wr.heap.size wr).drew)
                obtain ⟨ht, HT⟩ : ∃ t, Hid (tAt cs xss k = t) := ⟨_, Lib.hid rfl⟩
                obtain ⟨⟨L, a, b'⟩, hv'⟩ : ∃ v, cs.getD k (false, 0, 0) = v := ⟨_, rfl⟩
                obtain ⟨xs, hxs⟩ : ∃ xs, xss.getD k [] = xs := ⟨_, rfl⟩
                have HI := Lib.hid (show isT L a b' xs = ht by rw [← HT.out]; unfold tAt; rw [hv', hxs])
                rw [hv'] at d1 d2 d3
                rw [hxs] at e1 V2
                simp only [] at d1 d2 d3
                have HBW := Lib.hid hbw
                clear u1 u2 u3 v1 v2 hv' hxs hrow hrow2 hbw hne
                go_wp2
                go_still_tail 9, (by kernel_rfl)
                change wpList _ _ _ _ _ wr.drew
                have hb2 : Below W.heap.size W wr.drew := hb.drew
                have hz2 : wr.drew.heap.size = wr.heap.size := rfl
                rw [← hz2] at V2
                generalize wr.drew = w2 at hb2 V2 ⊢
                clear hz2
                cases ht
                · go_wp2_with (go_at_call 75; refine (specIn_any L a b' _ _ xs _ V2.out).mono ?_; rw [HI.out]; rintro e w' ⟨rfl, hb3⟩)
                  go_ret
                  exact ⟨by rw [hv.out, all_no hlt HT.out]; rfl, hb0.trans ((hb2.trans (hb3.mono hb2.size)).mono hb0.size)⟩
                · go_wp2_with (go_at_call 75; refine (specIn_any L a b' _ _ xs _ V2.out).mono ?_; rw [HI.out]; rintro e w' ⟨rfl, hb3⟩)
                  go_roundw
                  case rel =>
                    refine ⟨k + 1, hlt, by go_num, Lib.hid (fun i hi => ?_), hb2.trans (hb3.mono hb2.size)⟩
                    by_cases e : i = k
                    · rw [e]; exact HT.out
                    · exact hall.out i (by omega)
                  case measure => simp [intOf]; omega
          · obtain rfl : k = cs.length := by omega
            go_wp2
            go_ret
            exact ⟨by rw [hv.out, all_yes hall.out]; rfl, hbw⟩
  · have hne : ((xss.length : Int) != (cs.length : Int)) = true := by simp; omega
    have hv := Lib.hid (show ruleB cs xss x = false by unfold ruleB; rw [decide_eq_false hl]; rfl)
    clear hl
    go_enter Tryz.func59, Tryz.ntmps59
    go_wp2
    go_ret
    exact ⟨by rw [hv.out]; rfl, hb0⟩
end Go.Proofs.YtamfmemdhldmjaaGreatDoor

namespace Go.Proofs.YtamfmemdhldmjaaGreatDoor
open Go.RowKit Sets

def cAt (cs : List Co) (i : Nat) : Bool := colB (cs.getD i (false, 0, 0)).1 (cs.getD i (false, 0, 0)).2.1 (cs.getD i (false, 0, 0)).2.2
def rAt (cs : List Co) (rs : List Rl) (i : Nat) : Bool := ruleB cs (rs.getD i ([], 0)).1 (rs.getD i ([], 0)).2
def tabB (t : Tb) : Bool := decide (1 ≤ t.cols.length ∧ t.cols.length ≤ 4 ∧ t.rules.length ≤ 12 ∧ 1 ≤ t.pol ∧ t.pol ≤ 10) && ((List.range t.cols.length).all (cAt t.cols) && (List.range t.rules.length).all (rAt t.cols t.rules))
theorem tab_no {t : Tb} (h : ¬ (1 ≤ t.cols.length ∧ t.cols.length ≤ 4 ∧ t.rules.length ≤ 12 ∧ 1 ≤ t.pol ∧ t.pol ≤ 10)) : tabB t = false := by unfold tabB; rw [decide_eq_false h]; rfl

set_option maxRecDepth 100000 in
set_option maxHeartbeats 2000000 in
theorem specTabV_any (v : Value) (t : Tb) (w : World) (h : TabAt w w.heap.size v t) :
    Calls Tryz.prog 36 #[v] w fun e w' => e = .returned (.bool (tabB t)) ∧ Below w.heap.size w w' := by
  obtain ⟨A1, c1, A2, c2, rfl, hC, hR⟩ := h
  obtain ⟨cs, x, rs⟩ := t
  simp only [] at hC hR ⊢
  have hb0 : Below w.heap.size w (w.alloc (.cells #[.slice A1 cs.length c1, .int .i64 x, .slice A2 rs.length c2] 34)) := (Below.refl _ _).alloc (Nat.le_refl _) _
  have p0 : (w.alloc (.cells #[.slice A1 cs.length c1, .int .i64 x, .slice A2 rs.length c2] 34)).cell? ⟨w.heap.size, 0, none⟩ = some (.slice A1 cs.length c1) := by rw [World.cell?_alloc_new]; rfl
  have p1 : (w.alloc (.cells #[.slice A1 cs.length c1, .int .i64 x, .slice A2 rs.length c2] 34)).cell? ⟨w.heap.size, 1, none⟩ = some (.int .i64 x) := by rw [World.cell?_alloc_new]; rfl
  have p2 : (w.alloc (.cells #[.slice A1 cs.length c1, .int .i64 x, .slice A2 rs.length c2] 34)).cell? ⟨w.heap.size, 2, none⟩ = some (.slice A2 rs.length c2) := by rw [World.cell?_alloc_new]; rfl
  have hz0 : (w.alloc (.cells #[.slice A1 cs.length c1, .int .i64 x, .slice A2 rs.length c2] 34)).heap.size = w.heap.size + 1 := by simp
  have HC := Lib.hid hC
  have HR := Lib.hid hR
  obtain ⟨hlc, hc, hrow⟩ := hC
  obtain ⟨hlc2, hcc2, hrow2⟩ := hR
  by_cases a1 : cs.length = 0
  · have hv := Lib.hid (tab_no (t := ⟨cs, x, rs⟩) (by simp only; omega))
    have q1 : ((cs.length : Int) == 0) = true := by simp [a1]
    clear a1
    go_enter Tryz.func36, Tryz.ntmps36
    go_wp2
    go_ret
    exact ⟨by rw [hv.out]; rfl, hb0⟩
  have q1 : ((cs.length : Int) == 0) = false := by simp; intro h; exact a1 (by simp [h])
  by_cases a2 : 4 < cs.length
  · have hv := Lib.hid (tab_no (t := ⟨cs, x, rs⟩) (by simp only; omega))
    have q2 : (4 : Int) < (cs.length : Int) := by omega
    clear a1
    go_enter Tryz.func36, Tryz.ntmps36
    go_wp2
    go_ret
    exact ⟨by rw [hv.out]; rfl, hb0⟩
  have q2 : (cs.length : Int) ≤ 4 := by omega
  by_cases a3 : 12 < rs.length
  · have hv := Lib.hid (tab_no (t := ⟨cs, x, rs⟩) (by simp only; omega))
    have q3 : (12 : Int) < (rs.length : Int) := by omega
    clear a1
    go_enter Tryz.func36, Tryz.ntmps36
    go_wp2
    go_ret
    exact ⟨by rw [hv.out]; rfl, hb0⟩
  have q3 : (rs.length : Int) ≤ 12 := by omega
  by_cases a4 : x < 1
  · have hv := Lib.hid (tab_no (t := ⟨cs, x, rs⟩) (by simp only; omega))
    clear a1
    go_enter Tryz.func36, Tryz.ntmps36
    go_wp2
    go_ret
    exact ⟨by rw [hv.out]; rfl, hb0⟩
  have q4 : 1 ≤ x := by omega
  by_cases a5 : 10 < x
  · have hv := Lib.hid (tab_no (t := ⟨cs, x, rs⟩) (by simp only; omega))
    clear a1
    go_enter Tryz.func36, Tryz.ntmps36
    go_wp2
    go_ret
    exact ⟨by rw [hv.out]; rfl, hb0⟩
  have q5 : x ≤ 10 := by omega
  have hv := Lib.hid (show tabB ⟨cs, x, rs⟩ = ((List.range cs.length).all (cAt cs) && (List.range rs.length).all (rAt cs rs)) by unfold tabB; rw [decide_eq_true (by simp only; omega)]; rfl)
  clear a1 a2 a3 a4 a5
  go_enter Tryz.func36, Tryz.ntmps36
  go_wp2
  generalize w.alloc (.cells #[.slice A1 cs.length c1, .int .i64 x, .slice A2 rs.length c2] 34) = W at hb0 p0 p1 p2 hz0 ⊢
  clear q1 q2 q3 q4 q5 p1
  go_loopw [3] (fun i wr => ∃ k : Nat, k ≤ cs.length ∧ i = .int .i64 k ∧ Hid (∀ j, j < k → cAt cs j = true) ∧ Below W.heap.size W wr) (fun i _ => cs.length - (intOf i).toNat)
  case atStart => exact ⟨0, Nat.zero_le _, rfl, Lib.hid (fun i hi => absurd hi (by omega)), Below.refl _ _⟩
  case round =>
    obtain ⟨k, hk, rfl, hall, hb⟩ := hrel
    have hbw := hb0.trans (hb.mono hb0.size)
    have d0 := (hb.cell (p := ⟨w.heap.size, 0, none⟩) (by simp only; omega)).trans p0
    by_cases hlt : k < cs.length
    · rcases hrow with hz | ⟨b, off, rfl, hB, hrow⟩
      · omega
      · have hkl : (k : Int) < (cs.length : Int) := by omega
        obtain ⟨u1, u2, u3⟩ := hrow k hlt
        have d1 := (hbw.cell (p := ⟨b, off + k * 3, none⟩) hB).trans u1
        have d2 := (hbw.cell (p := ⟨b, off + k * 3 + 1, none⟩) hB).trans u2
        have d3 := (hbw.cell (p := ⟨b, off + k * 3 + 2, none⟩) hB).trans u3
        obtain ⟨ht, HT⟩ : ∃ t, Hid (cAt cs k = t) := ⟨_, Lib.hid rfl⟩
        obtain ⟨⟨L, a, b'⟩, hv'⟩ : ∃ v, cs.getD k (false, 0, 0) = v := ⟨_, rfl⟩
        have HI := Lib.hid (show colB L a b' = ht by rw [← HT.out]; unfold cAt; rw [hv'])
        rw [hv'] at d1 d2 d3
        simp only [] at d1 d2 d3
        clear u1 u2 u3 hv' hrow hrow2
        cases ht
        · go_wp2_with (go_at_call 58; refine (specCol_b L a b' _).mono ?_; rw [HI.out]; rintro e w' ⟨rfl, hb3⟩)
          go_ret
          exact ⟨by rw [hv.out, all_no hlt HT.out]; rfl, hbw.trans (hb3.mono hbw.size)⟩
        · go_wp2_with (go_at_call 58; refine (specCol_b L a b' _).mono ?_; rw [HI.out]; rintro e w' ⟨rfl, hb3⟩)
          go_roundw
          case rel =>
            refine ⟨k + 1, hlt, by go_num, Lib.hid (fun i hi => ?_), hb.trans (hb3.mono hb.size)⟩
            by_cases e : i = k
            · rw [e]; exact HT.out
            · exact hall.out i (by omega)
          case measure => simp [intOf]; omega
    · obtain rfl : k = cs.length := by omega
      have hv2 := Lib.hid (show tabB ⟨cs, x, rs⟩ = (List.range rs.length).all (rAt cs rs) by rw [hv.out, all_yes hall.out]; rfl)
      clear hv hrow hlt hk
      have HB := Lib.hid hb
      have HBW := Lib.hid hbw
      clear hb hbw hall
      go_wp2
      clear d0
      go_loopw [4] (fun i wr => ∃ k : Nat, k ≤ rs.length ∧ i = .int .i64 k ∧ Hid (∀ j, j < k → rAt cs rs j = true) ∧ Below W.heap.size W wr) (fun i _ => rs.length - (intOf i).toNat)
      case atStart => exact ⟨0, Nat.zero_le _, rfl, Lib.hid (fun i hi => absurd hi (by omega)), HB.out⟩
      case round =>
        clear HB HBW
        obtain ⟨k, hk, rfl, hall, hb⟩ := hrel
        have hbw := hb0.trans (hb.mono hb0.size)
        have d0 := (hb.cell (p := ⟨w.heap.size, 0, none⟩) (by simp only; omega)).trans p0
        have d9 := (hb.cell (p := ⟨w.heap.size, 2, none⟩) (by simp only; omega)).trans p2
        by_cases hlt : k < rs.length
        · rcases hrow2 with hz | ⟨b, off, rfl, hB, hrow2⟩
          · omega
          · have hkl : (k : Int) < (rs.length : Int) := by omega
            obtain ⟨⟨A', c', v1, v2⟩, v3⟩ := hrow2 k hlt
            have d1 := (hbw.cell (p := ⟨b, off + k * 2, none⟩) hB).trans v1
            have d2 := (hbw.cell (p := ⟨b, off + k * 2 + 1, none⟩) hB).trans v3
            obtain ⟨ht, HT⟩ : ∃ t, Hid (rAt cs rs k = t) := ⟨_, Lib.hid rfl⟩
            have V2 := Lib.hid (((v2.below hbw).mono hbw.size).below (Below.refl wr.heap.size wr).drew)
            have C2 := Lib.hid (((HC.out.below hbw).mono hbw.size).below (Below.refl wr.heap.size wr).drew)
            obtain ⟨xss, y, hxs⟩ : ∃ xss y, rs.getD k ([], 0) = (xss, y) := ⟨_, _, rfl⟩
            have HI := Lib.hid (show ruleB cs xss y = ht by rw [← HT.out]; unfold rAt; rw [hxs])
            rw [hxs] at d1 d2 V2
            simp only [] at d1 d2
            clear v1 v2 v3 hxs hrow2 hbw
            go_wp2
            go_still_tail 7, (by kernel_rfl)
            change wpList _ _ _ _ _ wr.drew
            have hb2 : Below W.heap.size W wr.drew := hb.drew
            have hz2 : wr.drew.heap.size = wr.heap.size := rfl
            rw [← hz2] at V2 C2
            generalize wr.drew = w2 at hb2 V2 C2 ⊢
            clear hz2
            cases ht
            · go_wp2_with (go_at_call 59; refine (specRule_any _ _ _ _ cs xss y _ C2.out V2.out).mono ?_; rw [HI.out]; rintro e w' ⟨rfl, hb3⟩)
              go_ret
              exact ⟨by rw [hv2.out, all_no hlt HT.out]; rfl, hb0.trans ((hb2.trans (hb3.mono hb2.size)).mono hb0.size)⟩
            · go_wp2_with (go_at_call 59; refine (specRule_any _ _ _ _ cs xss y _ C2.out V2.out).mono ?_; rw [HI.out]; rintro e w' ⟨rfl, hb3⟩)
              go_roundw
              case rel =>
                refine ⟨k + 1, hlt, by go_num, Lib.hid (fun i hi => ?_), hb2.trans (hb3.mono hb2.size)⟩
                by_cases e : i = k
                · rw [e]; exact HT.out
                · exact hall.out i (by omega)
              case measure => simp [intOf]; omega
        · obtain rfl : k = rs.length := by omega
          go_wp2
          go_ret
          exact ⟨by rw [hv2.out, all_yes hall.out]; rfl, hbw⟩
end Go.Proofs.YtamfmemdhldmjaaGreatDoor

namespace Go.Proofs.YtamfmemdhldmjaaGreatDoor
open Go.RowKit Sets

def inAt (cs : List Co) (ns : List Int) (k : Nat) : Bool := decide ((cs.getD k (false, 0, 0)).2.1 ≤ ns.getD k 0) && decide (ns.getD k 0 ≤ (cs.getD k (false, 0, 0)).2.2)
def insB (cs : List Co) (ns : List Int) : Bool := decide (ns.length = cs.length) && (List.range cs.length).all (inAt cs ns)
/-- the numbers are an input of the table -/
def inpB (t : Tb) (ns : List Int) : Bool := tabB t && insB t.cols ns
def mAt (xss : List (List Sp)) (ns : List Int) (k : Nat) : Bool := haveB (xss.getD k []) (ns.getD k 0)
/-- each test has its number -/
def mB (xss : List (List Sp)) (ns : List Int) : Bool := (List.range ns.length).all (mAt xss ns)
def rmB (t : Tb) (n : Int) (ns : List Int) : Bool := inpB t ns && (decide (0 ≤ n) && (decide (n < t.rules.length) && mB (t.rules.getD n.toNat ([], 0)).1 ns))
def sizeC (cs : List Co) : Nat → Int
  | 0 => 1
  | k + 1 => sizeC cs k * ((cs.getD k (false, 0, 0)).2.2 - (cs.getD k (false, 0, 0)).2.1 + 1)
def insV (t : Tb) : Int := if tabB t = true then sizeC t.cols t.cols.length else 0

theorem tab_parts {t : Tb} (h : tabB t = true) : (1 ≤ t.cols.length ∧ t.cols.length ≤ 4 ∧ t.rules.length ≤ 12 ∧ 1 ≤ t.pol ∧ t.pol ≤ 10) ∧ (∀ k, k < t.cols.length → cAt t.cols k = true) ∧ ∀ i, i < t.rules.length → rAt t.cols t.rules i = true := by
  unfold tabB at h
  rw [Bool.and_eq_true, Bool.and_eq_true, decide_eq_true_eq, List.all_eq_true, List.all_eq_true] at h
  exact ⟨h.1, fun k hk => h.2.1 k (List.mem_range.2 hk), fun i hi => h.2.2 i (List.mem_range.2 hi)⟩
theorem rule_parts {cs : List Co} {xss : List (List Sp)} {x : Int} (h : ruleB cs xss x = true) : xss.length = cs.length ∧ 0 ≤ x ∧ x ≤ 99 ∧ ∀ k, k < cs.length → tAt cs xss k = true := by
  unfold ruleB at h
  rw [Bool.and_eq_true, Bool.and_eq_true, Bool.and_eq_true, decide_eq_true_eq, decide_eq_true_eq, decide_eq_true_eq, List.all_eq_true] at h
  exact ⟨h.1, h.2.1, h.2.2.1, fun k hk => h.2.2.2 k (List.mem_range.2 hk)⟩
theorem ins_len {cs : List Co} {ns : List Int} (h : insB cs ns = true) : ns.length = cs.length := by
  unfold insB at h
  rw [Bool.and_eq_true, decide_eq_true_eq] at h
  exact h.1
theorem inp_parts {t : Tb} {ns : List Int} (h : inpB t ns = true) : tabB t = true ∧ insB t.cols ns = true := by
  unfold inpB at h
  rwa [Bool.and_eq_true] at h
theorem have_col {L : Bool} {a b : Int} (n : Int) (h : colB L a b = true) : haveB (colS L a b) n = (decide (a ≤ n) && decide (n ≤ b)) := by
  rw [colS_yes h]
  simp [haveB]
theorem ins_no {cs : List Co} {ns : List Int} (h : ns.length ≠ cs.length) : insB cs ns = false := by unfold insB; rw [decide_eq_false h]; rfl
theorem inp_no {t : Tb} {ns : List Int} (h : tabB t = false) : inpB t ns = false := by unfold inpB; rw [h]; rfl
theorem inp_yes {t : Tb} {ns : List Int} (h : tabB t = true) : inpB t ns = insB t.cols ns := by unfold inpB; rw [h]; rfl
theorem ins_yes {cs : List Co} {ns : List Int} (h : ns.length = cs.length) : insB cs ns = (List.range cs.length).all (inAt cs ns) := by unfold insB; rw [decide_eq_true h]; rfl
/-- sizes of the first columns -/
theorem sizeC_bound {cs : List Co} (_hn : cs.length ≤ 4) (h : ∀ k, k < cs.length → cAt cs k = true) : ∀ k, k ≤ cs.length → 1 ≤ sizeC cs k ∧ sizeC cs k ≤ 199 ^ k := by
  intro k
  induction k with
  | zero => intro _; exact ⟨by simp [sizeC], by simp [sizeC]⟩
  | succ k ih =>
    intro hk
    obtain ⟨i1, i2⟩ := ih (by omega)
    have hc := colB_small (h k (by omega))
    have hc2 := (colB_iff _ _ _).1 (h k (by omega))
    have e1 : 1 ≤ (cs.getD k (false, 0, 0)).2.2 - (cs.getD k (false, 0, 0)).2.1 + 1 := by omega
    have e2 : (cs.getD k (false, 0, 0)).2.2 - (cs.getD k (false, 0, 0)).2.1 + 1 ≤ 199 := by omega
    unfold sizeC
    rw [Int.pow_succ]
    constructor
    · have := Int.mul_le_mul i1 e1 (by omega) (by omega)
      omega
    · exact Int.mul_le_mul i2 e2 (by omega) (by omega)
theorem sizeC_small {cs : List Co} (hn : cs.length ≤ 4) (h : ∀ k, k < cs.length → cAt cs k = true) {k : Nat} (hk : k ≤ cs.length) : 1 ≤ sizeC cs k ∧ sizeC cs k ≤ 1568239201 := by
  obtain ⟨h1, h2⟩ := sizeC_bound hn h k hk
  refine ⟨h1, Int.le_trans h2 ?_⟩
  have : k = 0 ∨ k = 1 ∨ k = 2 ∨ k = 3 ∨ k = 4 := by omega
  rcases this with rfl | rfl | rfl | rfl | rfl <;> decide
end Go.Proofs.YtamfmemdhldmjaaGreatDoor
