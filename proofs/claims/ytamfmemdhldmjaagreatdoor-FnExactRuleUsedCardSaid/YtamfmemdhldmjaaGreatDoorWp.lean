/-
  DecideOuts: the program.
-/
import Derived.Test.YtamfmemdhldmjaaGreatDoorWi
namespace Go.Proofs.YtamfmemdhldmjaaGreatDoor
open Go.RowKit Go.Stop Sets

set_option maxRecDepth 100000 in
theorem outOk_any (x : Int) (w : World) : Calls Tryz.prog 66 #[.int .i64 x] w fun e w' => e = .returned (.bool (decide (0 ≤ x) && decide (x ≤ 99))) ∧ w = w' := by
  by_cases h0 : 0 ≤ x
  · by_cases h1 : x ≤ 99
    · rw [decide_eq_true h0, decide_eq_true h1]
      go_enter Tryz.func66, Tryz.ntmps66
      go_wp2
      go_ret
      exact ⟨rfl, rfl⟩
    · have h1' : 99 < x := by omega
      rw [decide_eq_true h0, decide_eq_false h1]
      go_enter Tryz.func66, Tryz.ntmps66
      go_wp2
      go_ret
      exact ⟨rfl, rfl⟩
  · have h0' : x < 0 := by omega
    rw [decide_eq_false h0]
    go_enter Tryz.func66, Tryz.ntmps66
    go_wp2
    try trivial
    go_ret
    exact ⟨rfl, rfl⟩
theorem do_bad {p : Int} {ns : List Int} (h : 12 < ns.length) : doV p ns = (3, []) := by
  unfold doV
  rw [if_neg]
  intro hh
  rw [Bool.and_eq_true] at hh
  have := (outB_at hh.2).1
  omega
theorem do_no {p : Int} {ns : List Int} {k : Nat} (hk : k < ns.length) (hf : okO ns k = false) : doV p ns = (3, []) := by
  unfold doV
  rw [if_neg]
  intro hh
  rw [Bool.and_eq_true, outB_eq, all_no hk hf] at hh
  simp at hh
theorem do_yes {p : Int} {ns : List Int} (h1 : 1 ≤ p) (h2 : p ≤ 10) (hl : ns.length ≤ 12) (hall : ∀ k, k < ns.length → okO ns k = true) : outB ns = true ∧ doV p ns = dcV p ns := by
  have ho : outB ns = true := by rw [outB_eq, all_yes hall, decide_eq_true hl]; rfl
  refine ⟨ho, ?_⟩
  unfold doV
  rw [if_pos (by rw [ho, decide_eq_true h1, decide_eq_true h2]; rfl)]
theorem do_pol {p : Int} {ns : List Int} (h : ¬ (1 ≤ p ∧ p ≤ 10)) : doV p ns = (3, []) := by
  unfold doV
  rw [if_neg]
  intro hh
  rw [Bool.and_eq_true, Bool.and_eq_true, decide_eq_true_eq, decide_eq_true_eq] at hh
  exact h hh.1
set_option maxRecDepth 100000 in
theorem wayNo_any (a1 a2 a3 : Addr) (p : Int) (w : World) (h : EndsIs w a1 a2 a3) (hp : ¬ (1 ≤ p ∧ p ≤ 10)) :
    Calls Tryz.prog 81 #[.int .i64 p] w fun e w' => (∃ s, e = .returned (.tuple #[.nilIface, reaV s a3])) ∧ Below w.heap.size w w' := by
  have c3 := h.cell3 w (Below.refl _ _)
  have q1 : (p == 1) = false := by simp; omega
  have q2 : (p == 2) = false := by simp; omega
  have q4 : (p == 4) = false := by simp; omega
  have q3 : (p == 3) = false := by simp; omega
  have q9 : (p == 9) = false := by simp; omega
  have q8 : (p == 8) = false := by simp; omega
  have q7 : (p == 7) = false := by simp; omega
  have q10 : (p == 10) = false := by simp; omega
  have q5 : (p == 5) = false := by simp; omega
  have q6 : (p == 6) = false := by simp; omega
  clear h hp
  go_enter Tryz.func81, Tryz.ntmps81
  go_wp2
  go_quiet (fail)
  go_wp2
  go_ret2
  exact ⟨⟨_, rfl⟩, below_drewN (Below.refl _ _) _⟩
set_option maxRecDepth 100000 in
set_option maxHeartbeats 2000000 in
theorem decByNo_any (a1 a2 a3 : Addr) (p : Int) (A : Option Addr) (c : Nat) (ns : List Int) (w : World) (h : EndsIs w a1 a2 a3) (hp : ¬ (1 ≤ p ∧ p ≤ 10)) :
    Calls Tryz.prog 69 #[.int .i64 p, .slice A ns.length c] w (DecN (doV p ns) a1 a2 a3 w) := by
  have H := Lib.hid h
  have HP := Lib.hid hp
  have HV := Lib.hid (do_pol (ns := ns) hp)
  clear h hp
  go_enter Tryz.func69, Tryz.ntmps69
  go_wp2_with fail
  refine (wayNo_any a1 a2 a3 p w H.out HP.out).mono ?_
  rintro e w1 ⟨⟨s, rfl⟩, b1⟩
  have hne := fun (w : World) => run_neq_iface_nil (P := Tryz.prog) w 97 (by kernel_rfl) 114 (.agg #[s, endV a3])
  have B1 := Lib.hid b1
  clear b1
  go_wp2
  go_ret2
  exact decN_no HV.out (.inr ⟨s, .inr (.inr ⟨rfl, rfl⟩)⟩) B1.out

end Go.Proofs.YtamfmemdhldmjaaGreatDoor
