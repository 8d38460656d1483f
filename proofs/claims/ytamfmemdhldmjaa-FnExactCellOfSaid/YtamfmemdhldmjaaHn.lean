/-
  The cell of an input: the program's grid.
-/
import Derived.Test.YtamfmemdhldmjaaHm
import Derived.Test.YtamfmemdhldmjaaVdM
namespace Go.Proofs.Ytamfmemdhldmjaa
open Go.RowKit Sets

set_option maxRecDepth 100000 in
set_option maxHeartbeats 4000000 in
theorem implNum_any (A : Option Addr) (c : Nat) (gs : List (List Sp)) (A2 : Option Addr) (c2 : Nat) (ns : List Int) (w : World) (h : SetsAt w w.heap.size A c gs) (hN : IntsAt w w.heap.size A2 c2 ns) (hl : ns.length = gs.length) (_h4 : gs.length ≤ 4)
    (hpo : ∀ k, k < gs.length → IsPos (gs.getD k []) (ns.getD k 0) (posV (gs.getD k []) (ns.getD k 0))) (hok : ∀ k, k < gs.length → ∃ a b, CutsOk (gs.getD k []) a b)
    (hsm : ∀ k, k < gs.length → 0 ≤ nuP gs ns k * ((gs.getD k []).length : Int) ∧ nuP gs ns k * ((gs.getD k []).length : Int) + (posV (gs.getD k []) (ns.getD k 0) : Int) ≤ 1568239201 ∧ 0 ≤ nuP gs ns k ∧ nuP gs ns k ≤ 1568239201) :
    Calls Try.prog 72 #[.slice A gs.length c, .slice A2 ns.length c2] w fun e w' => e = .returned (.int .i64 (nuP gs ns gs.length)) ∧ Below w.heap.size w w' := by
  have hb0 : Below w.heap.size w (w.alloc (.cells #[.slice A2 ns.length c2] 26)) := (Below.refl _ _).alloc (Nat.le_refl _) _
  have q0 : (w.alloc (.cells #[.slice A2 ns.length c2] 26)).cell? ⟨w.heap.size, 0, none⟩ = some (.slice A2 ns.length c2) := by rw [World.cell?_alloc_new]; rfl
  have z0 : w.heap.size < (w.alloc (.cells #[.slice A2 ns.length c2] 26)).heap.size := by simp
  have HS := Lib.hid ((h.below hb0).mono hb0.size)
  have HN := Lib.hid (hN.step hb0)
  have HPO := Lib.hid hpo
  have HOK := Lib.hid hok
  have HSM := Lib.hid hsm
  have HLN := Lib.hid hl
  have HQ0 := Lib.hid q0
  have HZ0 := Lib.hid z0
  have HB0 := Lib.hid hb0
  have hlc := h.1
  have hlc2 := h.2.1
  clear h hN hpo hok hsm hl hb0 q0 z0
  have hmf : ∀ (fn : Fn) (first cap : Array Value) (w : World), (Instr.makeFunc fn first cap).run Try.prog w = .ok (.func fn first cap) w := fun _ _ _ _ => rfl
  go_enter Try.func72, Try.ntmps72
  go_wp2
  generalize (w.alloc (.cells #[.slice A2 ns.length c2] 26)) = W at HS HN HQ0 HZ0 HB0 ⊢
  go_loopw [5, 11] (fun q i wr => ∃ k : Nat, k ≤ gs.length ∧ i = .int .i64 k ∧ q = .int .i64 (nuP gs ns k) ∧ Below W.heap.size W wr) (fun _ i _ => gs.length - (intOf i).toNat)
  case atStart => exact ⟨0, Nat.zero_le _, rfl, rfl, Below.refl _ _⟩
  case round =>
    obtain ⟨k, hk, rfl, rfl, hb⟩ := hrel
    by_cases hlt : k < gs.length
    · have hkl : (k : Int) < (gs.length : Int) := by omega
      obtain ⟨b1, off1, A3, c3, rfl, hB1, q1, q2⟩ := set_read HS.out hlt
      have hpo := HPO.out k hlt
      obtain ⟨a, b, hok⟩ := HOK.out k hlt
      have hsm := HSM.out k hlt
      have hsu := Lib.hid (show nuP gs ns (k + 1) = nuP gs ns k * ((gs.getD k []).length : Int) + (posV (gs.getD k []) (ns.getD k 0) : Int) from rfl)
      obtain ⟨y, hy⟩ : ∃ y, ns.getD k 0 = y := ⟨_, rfl⟩
      have HY := Lib.hid hy
      rw [hy] at hpo hsm hsu
      have d1 := (hb.cell (p := ⟨b1, off1 + k, none⟩) hB1).trans q1
      have HQ2 := Lib.hid q2
      generalize gs.getD k [] = xs at d1 HQ2 hpo hok hsm hsu
      obtain ⟨p, hp⟩ : ∃ p, posV xs y = p := ⟨_, rfl⟩
      rw [hp] at hpo hsm hsu
      have HPP := Lib.hid hpo
      have HPL := Lib.hid hpo.1
      have HBF := Lib.hid (fun m (hm : m < p) => pos_before hok hpo hm)
      have HSM2 := Lib.hid hsm
      have HB := Lib.hid hb
      have HLT := Lib.hid hlt
      have ba : Below wr.heap.size wr (wr.alloc (.cells #[.int .i64 (k : Int)] 3)) := (Below.refl _ _).alloc (Nat.le_refl _) _
      have c6 : (wr.alloc (.cells #[.int .i64 (k : Int)] 3)).cell? ⟨wr.heap.size, 0, none⟩ = some (.int .i64 (k : Int)) := by rw [World.cell?_alloc_new]; rfl
      have C6 := Lib.hid (And.intro c6 (show wr.heap.size < (wr.alloc (.cells #[.int .i64 (k : Int)] 3)).heap.size by simp))
      have HB5 := Lib.hid (hb.trans (ba.mono hb.size))
      clear q1 q2 hpo hok hp hsm hb hy ba c6
      go_wp2_with fail
      refine (idxFn_any A3 c3 xs y p k A2 c2 ns w.heap.size wr.heap.size _ ((HQ2.out.below HB5.out).mono HB5.out.size) HPP.out HBF.out ((HB5.out.cell (p := ⟨w.heap.size, 0, none⟩) HZ0.out).trans HQ0.out) C6.out.1 (Nat.lt_of_lt_of_le HZ0.out HB5.out.size) C6.out.2 (HN.out.step HB5.out) (by rw [HLN.out]; exact HLT.out) HY.out).mono ?_
      rintro e w2 ⟨rfl, b2⟩
      have HB6 := Lib.hid (HB5.out.trans (b2.mono HB5.out.size))
      have HSM4 := HSM2.out
      have hpl := HPL.out
      clear b2 d1
      go_wp2
      go_roundw
      case rel => exact ⟨k + 1, HLT.out, by go_num, by rw [hsu.out], HB6.out⟩
      case measure => simp [intOf]; have := HLT.out; omega
    · obtain rfl : k = gs.length := by omega
      go_wp2
      go_ret
      exact ⟨rfl, HB0.out.trans (hb.mono HB0.out.size)⟩
set_option maxRecDepth 100000 in
set_option maxHeartbeats 4000000 in
theorem implCOf_any (v : Value) (t : Tb) (A : Option Addr) (c : Nat) (ns : List Int) (w : World) (hT : TabAt w w.heap.size v t) (hN : IntsAt w w.heap.size A c ns) :
    Calls Try.prog 35 #[v, .slice A ns.length c] w (CofR t ns w) := by
  have HT := Lib.hid hT
  have HN := Lib.hid hN
  obtain ⟨A1, c1, A2, c2, rfl, hC, hR⟩ := hT
  obtain ⟨cs, x, rs⟩ := t
  simp only [] at HT ⊢
  clear hC hR hN
  have hb0 : Below w.heap.size w (w.alloc (.cells #[.slice A1 cs.length c1, .int .i64 x, .slice A2 rs.length c2] 32)) := (Below.refl _ _).alloc (Nat.le_refl _) _
  have X := Lib.hid (TBox.made w A1 cs.length c1 x A2 rs.length c2 32)
  obtain ⟨p0, p1, p2, p3⟩ := X.out
  clear p3
  go_enter Try.func35, Try.ntmps35
  go_wp2_with fail
  clear p0 p1 p2
  generalize (w.alloc (.cells #[.slice A1 cs.length c1, .int .i64 x, .slice A2 rs.length c2] 32)) = W at hb0 X ⊢
  refine (implGO_any _ ⟨cs, x, rs⟩ W (HT.out.step hb0)).mono ?_
  rintro e w1 ⟨g, rfl, hG, b1⟩
  have B := Lib.hid (hb0.trans (b1.mono hb0.size))
  have HG := Lib.hid hG
  replace X := Lib.hid (X.out.step b1)
  obtain ⟨p0, p1, p2, p3⟩ := X.out
  clear p3 b1 hb0 hG
  cases hg : gridB ⟨cs, x, rs⟩
  · have hb : Hid (cobV ⟨cs, x, rs⟩ ns = false) := Lib.hid (by unfold cobV; rw [hg]; rfl)
    clear hg
    go_wp2
    try trivial
    go_ret2
    exact ⟨by rw [cof_no hb.out, hb.out]; rfl, B.out⟩
  · obtain ⟨A', c', rfl, hS⟩ := HG.out hg
    have HGR := Lib.hid hg
    have HS := Lib.hid hS
    clear hg hS HG
    go_wp2_with fail
    clear p0 p1 p2
    refine (implInV_any _ ⟨cs, x, rs⟩ _ _ ns w1 (HT.out.step B.out) (HN.out.step B.out)).mono ?_
    rintro e w2 ⟨rfl, b2⟩
    have B2 := Lib.hid (B.out.trans (b2.mono B.out.size))
    have HS2 := Lib.hid ((HS.out.below b2).mono b2.size)
    have HN2 := Lib.hid (HN.out.step B2.out)
    clear b2
    cases hi : inpB ⟨cs, x, rs⟩ ns
    · have hb : Hid (cobV ⟨cs, x, rs⟩ ns = false) := Lib.hid (by unfold cobV; rw [hi, Bool.and_false])
      clear hi
      go_wp2
      try trivial
      go_ret2
      exact ⟨by rw [cof_no hb.out, hb.out]; rfl, B2.out⟩
    · have hco := Lib.hid (cof_yes HGR.out hi)
      have HI := Lib.hid hi
      have HLN := Lib.hid (show ns.length = (gridC ⟨cs, x, rs⟩).length by rw [gridC_len]; exact ins_len (inp_parts hi).2)
      clear hi
      go_wp2_with fail
      refine (implNum_any A' c' (gridC ⟨cs, x, rs⟩) A c ns w2 HS2.out HN2.out HLN.out (by rw [gridC_len]; exact (tab_parts (inp_parts HI.out).1).1.2.1)
        (fun k hk => by rw [gridC_len] at hk; rw [gridC_at hk]; exact in_pos HI.out hk)
        (fun k hk => by rw [gridC_len] at hk; rw [gridC_at hk]; exact ⟨_, _, col_ok (inp_parts HI.out).1 hk⟩)
        (fun k hk => by rw [gridC_len] at hk; rw [gridC_at hk]; exact nuP_small HI.out hk)).mono ?_
      rintro e w3 ⟨rfl, b3⟩
      have B3 := Lib.hid (B2.out.trans (b3.mono B2.out.size))
      obtain ⟨n, hn⟩ : ∃ n, nuP (gridC ⟨cs, x, rs⟩) ns (gridC ⟨cs, x, rs⟩).length = n := ⟨_, rfl⟩
      rw [hn]
      have HN3 := Lib.hid hn
      clear b3 hn
      go_wp2
      go_ret2
      exact ⟨by rw [hco.out.1, hco.out.2, HN3.out]; rfl, B3.out⟩
theorem specCOf_ex (v : Value) (t : Tb) (A : Option Addr) (c : Nat) (ns : List Int) (w : World) (hT : TabAt w w.heap.size v t) (hN : IntsAt w w.heap.size A c ns) :
    Calls Try.prog 34 #[v, .slice A ns.length c] w fun e w' => e = .returned (.tuple #[.int .i64 (coV t ns), .bool (cobV t ns)]) ∧ Below w.heap.size w w' := specCOf_any v t A c ns w hT hN
theorem implCOf_ex (v : Value) (t : Tb) (A : Option Addr) (c : Nat) (ns : List Int) (w : World) (hT : TabAt w w.heap.size v t) (hN : IntsAt w w.heap.size A c ns) :
    Calls Try.prog 35 #[v, .slice A ns.length c] w fun e w' => e = .returned (.tuple #[.int .i64 (coV t ns), .bool (cobV t ns)]) ∧ Below w.heap.size w w' := implCOf_any v t A c ns w hT hN
end Go.Proofs.Ytamfmemdhldmjaa
