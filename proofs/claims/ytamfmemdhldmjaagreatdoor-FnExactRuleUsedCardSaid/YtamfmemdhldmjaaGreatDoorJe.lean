/-
  The rules that count for a result: both programs.
-/
import Derived.Test.YtamfmemdhldmjaaGreatDoorJd1
import Derived.Test.YtamfmemdhldmjaaGreatDoorJaM
namespace Go.Proofs.YtamfmemdhldmjaaGreatDoor
open Go.RowKit Sets
theorem ru_no {t : Tb} {n : Int} {ns : List Int} (h : rmB t n ns = false) : ruV t n ns = false := by unfold ruV; rw [h]; rfl
theorem ru_yes {t : Tb} {n : Int} {ns : List Int} (h : rmB t n ns = true) : ruV t n ns = uB t n.toNat ns := by unfold ruV; rw [h]; rfl

set_option maxRecDepth 100000 in
set_option maxHeartbeats 4000000 in
theorem specRU_any (v : Value) (t : Tb) (n : Int) (A : Option Addr) (c : Nat) (ns : List Int) (w : World) (hT : TabAt w w.heap.size v t) (hN : IntsAt w w.heap.size A c ns) :
    Calls Tryz.prog 17 #[v, .int .i64 n, .slice A ns.length c] w fun e w' => e = .returned (.bool (ruV t n ns)) ∧ Below w.heap.size w w' := by
  have HT := Lib.hid hT
  have HN := Lib.hid hN
  obtain ⟨A1, c1, A2, c2, rfl, hC, hR⟩ := hT
  obtain ⟨cs, x, rs⟩ := t
  simp only [] at HT ⊢
  clear hC hR hN
  have hb0 : Below w.heap.size w (w.alloc (.cells #[.slice A1 cs.length c1, .int .i64 x, .slice A2 rs.length c2] 34)) := (Below.refl _ _).alloc (Nat.le_refl _) _
  have X := Lib.hid (TBox.made w A1 cs.length c1 x A2 rs.length c2 34)
  obtain ⟨p0, p1, p2, p3⟩ := X.out
  clear p3
  go_enter Tryz.func17, Tryz.ntmps17
  go_wp2_with fail
  clear p0 p1 p2
  generalize (w.alloc (.cells #[.slice A1 cs.length c1, .int .i64 x, .slice A2 rs.length c2] 34)) = W at hb0 X ⊢
  refine (specInV_any _ ⟨cs, x, rs⟩ _ _ ns W (HT.out.step hb0) (HN.out.step hb0)).mono ?_
  rintro e w1 ⟨rfl, b1⟩
  have B := Lib.hid (hb0.trans (b1.mono hb0.size))
  obtain ⟨p0, p1, p2, p3⟩ := X.out.step b1
  clear p3 X b1 hb0
  cases hi : inpB ⟨cs, x, rs⟩ ns
  · have hv := Lib.hid (ru_no (rm_no1 (n := n) hi))
    clear hi
    go_wp2
    try trivial
    go_ret
    exact ⟨by rw [hv.out]; rfl, B.out⟩
  · have HI := Lib.hid hi
    clear hi
    by_cases q1 : n < 0
    · have hv := Lib.hid (ru_no (rm_no2 (t := ⟨cs, x, rs⟩) (ns := ns) q1))
      have q1' : decide (0 ≤ n) = false := decide_eq_false (by omega)
      clear q1
      go_wp2
      try trivial
      go_ret
      exact ⟨by rw [hv.out]; rfl, B.out⟩
    · have q1' : 0 ≤ n := by omega
      by_cases q2 : (rs.length : Int) ≤ n
      · have hv := Lib.hid (ru_no (rm_no3 (t := ⟨cs, x, rs⟩) (ns := ns) q2))
        have q2' : decide (n < (rs.length : Int)) = false := decide_eq_false (by omega)
        clear q1 q2
        go_wp2
        try trivial
        go_ret
        exact ⟨by rw [hv.out]; rfl, B.out⟩
      · have q2' : n < (rs.length : Int) := by omega
        obtain ⟨m, hm⟩ : ∃ m : Nat, n = (m : Int) := ⟨n.toNat, by omega⟩
        subst hm
        have hv := Lib.hid (show ruV ⟨cs, x, rs⟩ (m : Int) ns = (mB (rs.getD m ([], 0)).1 ns && uB ⟨cs, x, rs⟩ m ns) by
          unfold ruV; rw [rm_yes HI.out q1' q2', Int.toNat_natCast])
        have HM := Lib.hid (show m < rs.length by omega)
        clear q1 q2
        go_wp2_with fail
        clear p0 p1 p2
        refine (specUsed_any _ ⟨cs, x, rs⟩ m A c ns w1 (HT.out.step B.out) (HN.out.step B.out) HI.out HM.out).mono ?_
        simp only []
        rw [← hv.out]
        rintro e w2 ⟨rfl, b2⟩
        obtain ⟨r, hr⟩ : ∃ r, ruV ⟨cs, x, rs⟩ (m : Int) ns = r := ⟨_, rfl⟩
        have HR := Lib.hid hr
        rw [hr]
        clear hr
        go_wp2
        go_ret
        exact ⟨by rw [HR.out]; rfl, B.out.trans (b2.mono B.out.size)⟩

set_option maxRecDepth 100000 in
set_option maxHeartbeats 2000000 in
theorem index_any (A : Option Addr) (c : Nat) (L : List Int) (y : Int) (w : World) (h : IntsAt w w.heap.size A c L) (_hl : L.length ≤ 1048576) :
    Calls Tryz.prog 55 #[.slice A L.length c, .int .i64 y] w fun e w' => (∃ r : Int, e = .returned (.int .i64 r) ∧ ((r = -1 ∧ ∀ j, j < L.length → L.getD j 0 ≠ y) ∨ ∃ p : Nat, r = p ∧ p < L.length ∧ L.getD p 0 = y ∧ ∀ j, j < p → L.getD j 0 ≠ y)) ∧ w = w' := by
  obtain ⟨hfit, hlc, hc, hrow⟩ := h
  clear hfit
  go_enter Tryz.func55, Tryz.ntmps55
  go_wp2
  go_loop [8] (fun i => ∃ m : Nat, m ≤ L.length ∧ i = .int .i64 m ∧ Hid (∀ j, j < m → L.getD j 0 ≠ y)) (fun i => L.length - (intOf i).toNat)
  case atStart => exact ⟨0, Nat.zero_le _, rfl, Lib.hid (fun j hj => absurd hj (by omega))⟩
  case round =>
    obtain ⟨m, hm, rfl, hall⟩ := hrel
    by_cases hlt : m < L.length
    · rcases hrow with hz | ⟨b, off, rfl, hB, hrow⟩
      · omega
      have hml : (m : Int) < (L.length : Int) := by omega
      have d1 := hrow m hlt
      rw [Nat.mul_one] at d1
      obtain ⟨z, hz⟩ : ∃ z, L.getD m 0 = z := ⟨_, rfl⟩
      rw [hz] at d1
      have HLT := Lib.hid hlt
      have HZ := Lib.hid hz
      clear hrow hz
      by_cases e : y = z
      · have e' : (y == z) = true := beq_iff_eq.2 e
        have HE := Lib.hid e
        clear e
        go_wp2
        go_ret
        exact ⟨⟨m, rfl, .inr ⟨m, rfl, HLT.out, HZ.out.trans HE.out.symm, hall.out⟩⟩, rfl⟩
      · have e' : (y == z) = false := beq_eq_false_iff_ne.2 e
        have HE := Lib.hid e
        clear e
        go_wp2
        go_round
        case rel =>
          refine ⟨m + 1, HLT.out, by go_num, Lib.hid (fun j hj => ?_)⟩
          by_cases ej : j = m
          · rw [ej, HZ.out]; exact fun h => HE.out h.symm
          · exact hall.out j (by omega)
        case measure => simp [intOf]; omega
    · obtain rfl : m = L.length := by omega
      go_wp2
      go_ret
      exact ⟨⟨-1, rfl, .inl ⟨rfl, hall.out⟩⟩, rfl⟩

set_option maxRecDepth 100000 in
set_option maxHeartbeats 2000000 in
theorem has1_any (A : Option Addr) (c : Nat) (z y : Int) (w : World) (h : IntsAt w w.heap.size A c [z]) :
    Calls Tryz.prog 56 #[.slice A 1 c, .int .i64 y] w fun e w' => e = .returned (.bool (y == z)) ∧ w = w' := by
  have H := Lib.hid h
  clear h
  go_enter Tryz.func56, Tryz.ntmps56
  go_wp2_with fail
  refine (index_any A c [z] y w H.out (by simp)).mono ?_
  rintro e w1 ⟨⟨r, rfl, hr⟩, hw⟩
  subst hw
  rcases hr with ⟨rfl, hn⟩ | ⟨p, rfl, hp, hz, _⟩
  · have hv := Lib.hid (show (y == z) = false from beq_eq_false_iff_ne.2 (fun e => hn 0 (by simp) e.symm))
    clear hn
    go_wp2
    go_ret
    exact ⟨by rw [hv.out]; rfl, rfl⟩
  · have hp0 : p = 0 := by simp at hp; omega
    subst hp0
    have hv := Lib.hid (show (y == z) = true from beq_iff_eq.2 hz.symm)
    clear hz hp
    go_wp2
    go_ret
    exact ⟨by rw [hv.out]; rfl, rfl⟩
end Go.Proofs.YtamfmemdhldmjaaGreatDoor
