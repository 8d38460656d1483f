/-
  The rules that match an input: the program.
-/
import Derived.Test.YtamfmemdhldmjaaGreatDoorGa
import Derived.Test.YtamfmemdhldmjaaGreatDoorVdM
import Derived.Laws.CopyOwn
namespace Go.Proofs.YtamfmemdhldmjaaGreatDoor
open Go.RowKit Sets

theorem row_snoc {w : World} {g : Nat} {ns : List Int} {x : Int} (h : IntRow w g ns ns.length) : IntRow w g (ns ++ [x]) ns.length := fun i hi => by
  rw [h i hi]
  simp only [List.getD_eq_getElem?_getD]
  rw [List.getElem?_append_left hi]
theorem snoc_at (ns : List Int) (x : Int) : (ns ++ [x]).getD ns.length 0 = x := by
  rw [List.getD_eq_getElem?_getD, List.getElem?_append_right (Nat.le_refl _)]; simp


set_option maxRecDepth 100000 in
set_option maxHeartbeats 2000000 in
theorem implAll_any (v : Value) (t : Tb) (A : Option Addr) (c : Nat) (ns : List Int) (w : World) (hT : TabAt w w.heap.size v t) (hN : IntsAt w w.heap.size A c ns) (hl : ∀ i, i < t.rules.length → ns.length = (t.rules.getD i ([], 0)).1.length) (hr : t.rules.length ≤ 12) :
    Calls Tryz.prog 46 #[v, .slice A ns.length c] w fun e w' => ∃ A' c', e = .returned (.slice A' (matK t.rules ns t.rules.length).length c') ∧ OwnN w' w.heap.size A' c' (matK t.rules ns t.rules.length) ∧ Below w.heap.size w w' := by
  obtain ⟨i0, hi0, hz0, hz1, hz2⟩ := infoI
  obtain ⟨A1, c1, A2, c2, rfl, hC, hR⟩ := hT
  obtain ⟨cs, x, rs⟩ := t
  simp only [] at hR hl hr ⊢
  have HR := Lib.hid hR
  have HN := Lib.hid hN
  have HL := Lib.hid (And.intro hl hr)
  clear hC hR hN hl
  have hb0 : Below w.heap.size w (w.alloc (.cells #[.slice A1 cs.length c1, .int .i64 x, .slice A2 rs.length c2] 34)) := (Below.refl _ _).alloc (Nat.le_refl _) _
  have X := Lib.hid (TBox.made w A1 cs.length c1 x A2 rs.length c2 34)
  obtain ⟨p0, p1, p2, p3⟩ := X.out
  clear p3
  go_enter Tryz.func46, Tryz.ntmps46
  go_wp2
  have hown0 : OwnBlk ((w.alloc (.cells #[.slice A1 cs.length c1, .int .i64 x, .slice A2 rs.length c2] 34)).alloc (.cells #[.int .i64 0, .int .i64 0, .int .i64 0, .int .i64 0, .int .i64 0, .int .i64 0, .int .i64 0, .int .i64 0, .int .i64 0, .int .i64 0, .int .i64 0, .int .i64 0] 95)) (w.heap.size + 1) 12 := by
    refine ⟨fun o ho => ?_, fun o => World.frozen?_alloc_at _ _ _ _ (by simp), by simp⟩
    rw [show w.heap.size + 1 = (w.alloc (.cells #[.slice A1 cs.length c1, .int .i64 x, .slice A2 rs.length c2] 34)).heap.size by simp, World.cell?_alloc_new]
    exact ⟨_, Array.getElem?_eq_getElem (by simpa using ho)⟩
  have hb1 : Below w.heap.size w ((w.alloc (.cells #[.slice A1 cs.length c1, .int .i64 x, .slice A2 rs.length c2] 34)).alloc (.cells #[.int .i64 0, .int .i64 0, .int .i64 0, .int .i64 0, .int .i64 0, .int .i64 0, .int .i64 0, .int .i64 0, .int .i64 0, .int .i64 0, .int .i64 0, .int .i64 0] 95)) := hb0.alloc (by simp) _
  generalize (w.alloc (.cells #[.slice A1 cs.length c1, .int .i64 x, .slice A2 rs.length c2] 34)).alloc (.cells #[.int .i64 0, .int .i64 0, .int .i64 0, .int .i64 0, .int .i64 0, .int .i64 0, .int .i64 0, .int .i64 0, .int .i64 0, .int .i64 0, .int .i64 0, .int .i64 0] 95) = W at hown0 hb1 ⊢
  clear p0 p1 p2 hb0 X
  go_loopw [6, 13] (fun q i wr => ∃ k : Nat, k ≤ rs.length ∧ i = .int .i64 k ∧ q = .int .i64 (matK rs ns k).length ∧ IntRow wr (w.heap.size + 1) (matK rs ns k) (matK rs ns k).length ∧ OwnBlk wr (w.heap.size + 1) 12 ∧ Below w.heap.size w wr) (fun _ i _ => rs.length - (intOf i).toNat)
  case atStart => exact ⟨0, Nat.zero_le _, rfl, rfl, fun i hi => absurd hi (by simp [matK]), hown0, hb1⟩
  case round =>
    clear hown0 hb1
    obtain ⟨k, hk, rfl, rfl, hrow0, hown, hb⟩ := hrel
    by_cases hlt : k < rs.length
    · rcases HR.out.2.2 with hz | ⟨b, off, rfl, hB, hrow⟩
      · omega
      · have hkl : (k : Int) < (rs.length : Int) := by omega
        obtain ⟨⟨A', c', u1, u2⟩, u3⟩ := hrow k hlt
        have d1 := (hb.cell (p := ⟨b, off + k * 2, none⟩) hB).trans u1
        have d2 := (hb.cell (p := ⟨b, off + k * 2 + 1, none⟩) hB).trans u3
        have HS := Lib.hid ((u2.below hb).mono hb.size)
        have hlen := HL.out.1 k hlt
        obtain ⟨m, hm⟩ : ∃ m, mB (rs.getD k ([], 0)).1 ns = m := ⟨_, rfl⟩
        have HM := Lib.hid hm
        have HNX : Hid ((m = true → matK rs ns (k + 1) = matK rs ns k ++ [(k : Int)]) ∧ (m = false → matK rs ns (k + 1) = matK rs ns k)) := Lib.hid ⟨fun e => matK_yes (hm.trans e), fun e => matK_no (hm.trans e)⟩
        have HKL := Lib.hid (matK_len rs ns k)
        obtain ⟨xss, y, hxs⟩ : ∃ xss y, rs.getD k ([], 0) = (xss, y) := ⟨_, _, rfl⟩
        rw [hxs] at d1 d2 HS hlen HM
        simp only [] at d1 d2 hlen HM HS
        have HLEN := Lib.hid hlen
        have hbx : Below wr.heap.size wr (wr.alloc (.cells #[.slice A' xss.length c', .int .i64 y] 70)) := (Below.refl _ _).alloc (Nat.le_refl _) _
        have HB := Lib.hid (hb.trans (hbx.mono hb.size))
        have HO := Lib.hid (hown.below hbx hown.2.2)
        have HRW := Lib.hid (hrow0.below hbx hown.2.2)
        have HS1 := Lib.hid ((HS.out.below hbx).mono hbx.size)
        obtain ⟨L, hL⟩ : ∃ L, matK rs ns k = L := ⟨_, rfl⟩
        rw [hL] at HNX HKL HRW ⊢
        clear u1 u2 u3 hrow hxs hlen hm hb hown hrow0 hbx HS hL
        go_wp2_with fail
        clear d1 d2
        generalize wr.alloc (.cells #[.slice A' xss.length c', .int .i64 y] 70) = W1 at HB HO HRW HS1 ⊢
        refine (rowOf_any _ _ _ _ _).mono ?_
        rintro e w2 ⟨rfl, b2⟩
        have HB2 := Lib.hid (HB.out.trans (b2.mono HB.out.size))
        have HO2 := Lib.hid (HO.out.below b2 HO.out.2.2)
        have HRW2 := Lib.hid (HRW.out.below b2 HO.out.2.2)
        have HS2 := Lib.hid ((HS1.out.below b2).mono b2.size)
        clear b2
        have hfld := field_row
        go_wp2_with fail
        refine (implMat_any A' c' xss A c ns w2 HS2.out ((HN.out.below HB2.out).mono HB2.out.size) HLEN.out).mono ?_
        rw [HM.out]
        rintro e w3 ⟨rfl, b3⟩
        have HB3 := Lib.hid (HB2.out.trans (b3.mono HB2.out.size))
        have HO3 := Lib.hid (HO2.out.below b3 HO2.out.2.2)
        have HRW3 := Lib.hid (HRW2.out.below b3 HO2.out.2.2)
        clear b3 hfld
        cases m
        · have hnx := Lib.hid (HNX.out.2 rfl)
          go_wp2
          go_roundw
          case rel => exact ⟨k + 1, hlt, by go_num, by rw [hnx.out], by rw [hnx.out]; exact HRW3.out, HO3.out, HB3.out⟩
          case measure => simp [intOf]; omega
        · have hnx := Lib.hid (HNX.out.1 rfl)
          have hr12 := HL.out.2
          have hkk : L.length ≤ k := HKL.out
          have hl12 : (L.length : Int) < 12 := by omega
          obtain ⟨v0, g0⟩ := HO3.out.1 L.length (by omega)
          have f0 := HO3.out.2.1 L.length
          have hp0 := Lib.hid (IntRow.put HO3.out (row_snoc (x := (k : Int)) HRW3.out) (by omega) (snoc_at L k))
          have hp1 := Lib.hid (HO3.out.set L.length (.int .i64 (k : Int)))
          have hp2 := Lib.hid (HB3.out.setCell (p := ⟨w.heap.size + 1, L.length, none⟩) (by simp) (.int .i64 (k : Int)))
          go_wp2
          go_roundw
          case rel => exact ⟨k + 1, hlt, by go_num, by rw [hnx.out, List.length_append]; exact congrArg (Value.int .i64) (by simp), by rw [hnx.out, List.length_append]; exact hp0.out, hp1.out, hp2.out⟩
          case measure => simp [intOf]; omega
    · obtain rfl : k = rs.length := by omega
      have HKL := Lib.hid (matK_len rs ns rs.length)
      have HF := Lib.hid (matK_fits (rs := rs) (ns := ns) (k := rs.length) (by have := HL.out.2; omega))
      have HR12 := Lib.hid HL.out.2
      have HB := Lib.hid hb
      have HO := Lib.hid hown
      have HRW := Lib.hid hrow0
      obtain ⟨L, hL⟩ : ∃ L, matK rs ns rs.length = L := ⟨_, rfl⟩
      have HLL := Lib.hid hL
      rw [hL] at HKL HRW HF ⊢
      have hl12 : L.length ≤ 12 := Nat.le_trans HKL.out HR12.out
      have hmk := fun W => run_make (P := Tryz.prog) W 26 3 i0 _ Tryz.underlying26 hi0 hz0 .i64 .i64 L.length L.length (by omega) (by omega) (by rw [hz2]; omega) (by omega)
      simp only [Int.toNat_natCast, hz1, Nat.mul_one] at hmk
      have hq12 : (L.length : Int) ≤ 12 := by omega
      have hg : (wr.alloc (.cells (madeCells #[Value.int .i64 0] L.length) 3)).heap[wr.heap.size]? = some (.cells (List.replicate L.length (Value.int .i64 0)).toArray 3 (0, 0)) := by
        show (wr.heap.push _)[wr.heap.size]? = _
        rw [Array.getElem?_push, if_pos rfl]
        have := toList_madeCells_one (Value.int .i64 0) L.length
        rw [← this]
      have HG := Lib.hid hg
      have HSRC := Lib.hid (show ∀ j u, (intCells L)[j]? = some u → (wr.alloc (.cells (madeCells #[Value.int .i64 0] L.length) 3)).cell? ((⟨w.heap.size + 1, 0, none⟩ : Addr).add j) = some u from ints_cells (fun i hi => by
        have hbz : Below wr.heap.size wr (wr.alloc (.cells (madeCells #[Value.int .i64 0] L.length) 3)) := (Below.refl _ _).alloc (Nat.le_refl _) _
        rw [Nat.zero_add, Nat.mul_one]
        exact (hbz.cell (p := ⟨w.heap.size + 1, i, none⟩) HO.out.2.2).trans (HRW.out i hi)))
      have HBB := Lib.hid (show Below w.heap.size w (wr.alloc (.cells (madeCells #[Value.int .i64 0] L.length) 3)) from HB.out.alloc HB.out.size _)
      have hlc : (intCells L).length = L.length := by simp [intCells]
      have HLC := Lib.hid hlc
      have HSZ := Lib.hid HB.out.size
      have hsz0 : (Tryz.prog.info? 3).map (·.size) = some 1 := by rw [hi0]; simp [hz1]
      have HII := Lib.hid hsz0
      clear hb hown hrow0 hL hlt hk hg hlc hsz0
      go_wp2_with (with_reducible refine wpList_copy_splice rfl (.tmp 31) (.tmp 33) 26 26 rfl 3 Tryz.underlying26 HII.out (some ⟨wr.heap.size, 0, none⟩) (some ⟨w.heap.size + 1, 0, none⟩) L.length L.length L.length 12 rfl rfl wr.heap.size 0 (List.replicate L.length (Value.int .i64 0)) 3 HG.out (intCells L) (by rw [HLC.out]; exact (Nat.min_self _).symm) (fun _ => ⟨rfl, _, rfl, HSRC.out⟩) (by rw [HLC.out]; simp) (intCells_one L) w.heap.size w HBB.out HSZ.out ?_; intro w9 hg9 hb9)
      have hcells : splice (List.replicate L.length (Value.int .i64 0)) 0 (intCells L) = intCells L := by
        unfold splice
        simp [HLC.out]
      rw [hcells] at hg9
      have hrow9 : IntRow w9 wr.heap.size L L.length := fun i hi => by
        unfold World.cell?
        rw [hg9.out]
        simp [intCells_at hi]
      have HR9 := Lib.hid hrow9
      have HO9 : Hid (OwnBlk w9 wr.heap.size L.length) := Lib.hid ⟨fun o ho => ⟨_, hrow9 o ho⟩, fun o => by unfold World.frozen?; rw [hg9.out]; simp, (Array.getElem?_eq_some_iff.1 hg9.out).1⟩
      clear hcells hrow9 hg9
      go_wp2
      go_ret
      rw [HLL.out]
      exact ⟨_, _, rfl, ⟨Nat.le_refl _, by omega, HF.out, (fun g o s e => by injection e with e; injection e with e1 _; subst e1; exact ⟨HSZ.out, HO9.out.2.2⟩), .inr ⟨_, rfl, HR9.out, HO9.out⟩⟩, hb9⟩

end Go.Proofs.YtamfmemdhldmjaaGreatDoor
