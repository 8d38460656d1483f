/-
  Contract of the model's lists of parts of tests.
-/
import Derived.Test.YthkjcljhfjaabaaGreatDoorKj
import Derived.Test.YthkjcljhfjaabaaGreatDoorKf
import Derived.Test.YthkjcljhfjaabaaGreatDoorSo
import Derived.Test.YthkjcljhfjaabaaGreatDoorKh
import Derived.Test.YthkjcljhfjaabaaGreatDoorJo
namespace Go.Proofs.YthkjcljhfjaabaaGreatDoor
open Go.RowKit Go.Sort Sets

theorem txt_at {ps : List ByteArray} {k : Nat} (h : k < ps.length) : ps[k]? = some (ps.getD k ⟨#[]⟩) := by
  rw [List.getD_eq_getElem?_getD, List.getElem?_eq_getElem h]; rfl
theorem bytes_take {ps : List ByteArray} {k : Nat} (h : k < ps.length) : bytesOf (ps.take (k + 1)) = bytesOf (ps.take k) ++ [(ps.getD k ⟨#[]⟩).data.toList] := by
  rw [List.take_succ_eq_append_getElem h, bytesOf_snoc, List.getD_eq_getElem?_getD, List.getElem?_eq_getElem h]; rfl
theorem bytes_split {ps : List ByteArray} {k : Nat} (h : k < ps.length) : bytesOf ps = bytesOf (ps.take k) ++ (ps.getD k ⟨#[]⟩).data.toList :: bytesOf (ps.drop (k + 1)) := by
  have e : ps = ps.take k ++ ps.drop k := (List.take_append_drop k ps).symm
  have e2 : ps.drop k = ps.getD k ⟨#[]⟩ :: ps.drop (k + 1) := by
    rw [List.drop_eq_getElem_cons h, List.getD_eq_getElem?_getD, List.getElem?_eq_getElem h]; rfl
  have e3 := congrArg bytesOf e
  rw [e2] at e3
  rw [e3]
  simp [bytesOf]

theorem OwnT.cells {w : World} {base n bk cp : Nat} {ps : List ByteArray} (h : OwnT w base (.slice (some ⟨bk, 0, none⟩) n cp) ps) : ∀ j x, ps[j]? = some x → w.cell? ⟨bk, j, none⟩ = some (.string x) := by
  intro j x hj
  have h0 : 0 < ps.length := by have := (List.getElem?_eq_some_iff.1 hj).1; omega
  obtain ⟨bk', cp', hv, _, _, _, hc⟩ := h.form h0
  injection hv with h1
  injection h1 with h1
  injection h1 with h1
  subst h1
  exact hc j x hj
theorem own_ne {w : World} {b1 b2 n bk cp : Nat} {v : Value} {xs : List Sp} {ps : List ByteArray} (h : OwnS w b1 v xs) (h2 : OwnT w b2 (.slice (some ⟨bk, 0, none⟩) n cp) ps) : some bk ≠ v.ownBlock := by
  intro e
  rcases h.2 with ⟨rfl, _⟩ | ⟨g, cap, cur, rfl, _, hg, _⟩
  · simp [Value.ownBlock] at e
  · obtain rfl : bk = g := by simpa [Value.ownBlock] using e
    rcases h2.2 with ⟨hv, _⟩ | ⟨g', cap', cur', hv, _, hg', _⟩
    · cases hv
    · injection hv with h1
      injection h1 with h1
      injection h1 with h1
      subst h1
      rw [hg] at hg'
      injection hg' with hg'
      injection hg' with _ ht
      exact absurd ht (by decide)
theorem OwnT.kept {w w' : World} {base n bk cp : Nat} {row : Option Nat} {ps : List ByteArray} (h : OwnT w base (.slice (some ⟨bk, 0, none⟩) n cp) ps) (hg : w.grownBy w' row) (hne : some bk ≠ row) : OwnT w' base (.slice (some ⟨bk, 0, none⟩) n cp) ps := by
  refine ⟨h.1, h.2.imp id ?_⟩
  rintro ⟨g, cap, cur, hv, hb, hc, r⟩
  refine ⟨g, cap, cur, hv, hb, (hg.block g (Array.getElem?_eq_some_iff.1 hc).1 fun e => ?_).trans hc, r⟩
  injection hv with h1
  injection h1 with h1
  injection h1 with h1
  subst h1
  exact hne e

set_option maxRecDepth 100000 in
set_option maxHeartbeats 8000000 in
theorem specPieces_any (L : Bool) (a b : Int) (hc : colB L a b = true) (s : ByteArray) (hs : s.size ≤ 1048600) (w : World) :
    Calls Tryz.prog 35 #[colV L a b, .string s] w (OwnRes2 w.heap.size (listV L a b s.data.toList) (listB L a b s.data.toList) w) := by
  obtain ⟨i0, hi0, hz0, hz1, hz2⟩ := infoSp
  have b0 : Below w.heap.size w (w.alloc (.cells #[.bool L, .int .i64 a, .int .i64 b] 27)) := (Below.refl _ w).alloc (Nat.le_refl _) _
  have k := ColAt.box w L a b 27
  obtain ⟨W1, hW1⟩ : ∃ W, W = w.alloc (.cells #[.bool L, .int .i64 a, .int .i64 b] 27) := ⟨_, rfl⟩
  rw [← hW1] at b0 k
  have z1 : Hid (W1.heap.size = w.heap.size + 1) := Lib.hid (by rw [hW1]; simp)
  have HC := Lib.hid hc
  have HS := Lib.hid hs
  clear hc hs
  go_enter Tryz.func35, Tryz.ntmps35
  go_wp2_with fail
  rw [← hW1]
  clear hW1
  have ow0 := own_empty W1
  have b1 : Below W1.heap.size W1 (W1.alloc (.cells #[] 55)) := (Below.refl _ _).alloc (Nat.le_refl _) _
  refine (cut15_any s HS.out 44 44 rfl _).mono ?_
  rintro e w2 ⟨v, ps, rfl, hps, own2, b2⟩
  have hp0 : 0 < ps.length := by
    rw [← bytesOf_len, hps]
    exact Nat.pos_of_ne_zero fun e => splitG_ne 44 s.data.toList (List.eq_nil_of_length_eq_zero e)
  obtain ⟨bk, cp, rfl, hbk, hbk2, hcp, hcell⟩ := own2.form hp0
  have hpl : ps.length ≤ 1048601 := by
    have h1 := splitG_len 44 s.data.toList
    rw [← hps, bytesOf_len, ← Lib.size_eq] at h1
    have := HS.out
    omega
  have hpm : ∀ i, i < ps.length → (ps.getD i ⟨#[]⟩).size ≤ 1048600 := fun i hi => by
    have h1 : (ps.getD i ⟨#[]⟩).data.toList ∈ bytesOf ps := by
      rw [bytes_split hi]; simp
    rw [hps] at h1
    have h2 := splitG_mem_len 44 _ _ h1
    rw [← Lib.size_eq, ← Lib.size_eq] at h2
    have := HS.out
    omega
  have hsp : bytesOf ps = splitC s.data.toList := by rw [hps, splitG_44]
  clear hps
  have OT2 := Lib.hid own2
  clear own2 hcell
  have s1 := b1.size
  have s2 := b2.size
  have HB := Lib.hid hbk
  go_wp2
  go_loopw [6, 8] (fun v i wr => ∃ (k : Nat), k ≤ ps.length ∧ i = .int .i64 k ∧ OwnS wr W1.heap.size v (spansOf L a b (bytesOf (ps.take k))) ∧ (bytesOf (ps.take k)).all (pieceB L a b) = true ∧ (spansOf L a b (bytesOf (ps.take k))).length ≤ 51 ∧
    Below w.heap.size w wr ∧ ColAt wr w.heap.size L a b ∧ w2.heap.size ≤ wr.heap.size ∧ OwnT wr (W1.alloc (.cells #[] 55)).heap.size (.slice (some ⟨bk, 0, none⟩) ps.length cp) ps) (fun _ i _ => ps.length - (intOf i).toNat)
  case atStart => exact ⟨0, Nat.zero_le _, rfl, (by have h := ow0.below b2; rw [z1.out] at h ⊢; exact h), rfl, by simp [bytesOf, spansOf], (b0.trans (b1.mono b0.size)).trans (b2.mono (by have := z1.out; omega)), (k.below b1 (by have := z1.out; omega)).below b2 (by have := z1.out; omega), Nat.le_refl _, OT2.out⟩
  case round =>
    obtain ⟨k, hk, rfl, hown, hall, hlen, hB, ⟨t0, t1, t2⟩, hsz, htab⟩ := hrel
    by_cases hlt : k < ps.length
    · have hx := htab.cells k _ (txt_at hlt)
      have hxs := hpm k hlt
      have hki : (k : Int) < (ps.length : Int) := by omega
      have hnx := Lib.hid (bytes_take hlt)
      have hsl := Lib.hid (bytes_split hlt)
      generalize ps.getD k ⟨#[]⟩ = x at hx hxs hnx hsl
      have pc : ∀ w, Calls Tryz.prog 72 #[colV L a b, .string x] w fun e w' => ∃ y : Sp, e = .returned (.tuple #[spV y, .bool (pieceB L a b x.data.toList)]) ∧ (pieceB L a b x.data.toList = true → y = pieceV L a b x.data.toList) ∧ (-100 ≤ y.1 ∧ y.1 ≤ 100 ∧ -100 ≤ y.2 ∧ y.2 ≤ 100) ∧ Below w.heap.size w w' := fun w => specPiece_any L a b HC.out x hxs w
      have hbad : pieceB L a b x.data.toList = false → listB L a b s.data.toList = false ∧ listV L a b s.data.toList = [] := fun h => list_no (by rw [← hsp, hsl.out]; exact partsB_fail _ h)
      have hmany : (spansOf L a b (bytesOf (ps.take k))).length = 51 → (pieceV L a b x.data.toList).1 ≤ (pieceV L a b x.data.toList).2 → listB L a b s.data.toList = false ∧ listV L a b s.data.toList = [] := fun h1 h2 => list_no (by rw [← hsp, hsl.out]; exact partsB_many _ h1 h2)
      have hsnoc := partsB_snoc (x := x.data.toList) hall
      have hskip := spans_skip (L := L) (a := a) (b := b) (ps := bytesOf (ps.take k)) (x := x.data.toList)
      have hadd := spans_add (L := L) (a := a) (b := b) (ps := bytesOf (ps.take k)) (x := x.data.toList)
      rw [← hnx.out] at hsnoc hskip hadd
      obtain ⟨A6, c6, rfl, hr6, hb6⟩ := hown.form (spans_fits L a b _)
      generalize pieceV L a b x.data.toList = y at pc hmany hskip hadd
      generalize pieceB L a b x.data.toList = ok at pc hbad hsnoc
      obtain ⟨y1, y2⟩ := y
      simp only at hskip hadd hmany
      generalize spansOf L a b (bytesOf (ps.take k)) = acc at hown hlen hmany hskip hadd hr6
      have PC := Lib.hid pc
      have HBAD := Lib.hid hbad
      have HMANY := Lib.hid hmany
      have HSNOC := Lib.hid hsnoc
      have HSKIP := Lib.hid hskip
      have HADD := Lib.hid hadd
      have HT := Lib.hid htab
      have HOWN := Lib.hid hown
      have HLEN := Lib.hid hlen
      have HB := Lib.hid hB
      have HLT : Hid (∀ i, (Value.slice A6 acc.length c6).ownBlock = some i → W1.heap.size ≤ i) := Lib.hid fun i hi => (hown.lt i hi).1
      have hbw : bk < wr.heap.size := by omega
      have hww : w.heap.size < wr.heap.size := by have := z1.out; omega
      have hW1 : W1.heap.size ≤ wr.heap.size := by omega
      clear pc hbad hmany hsnoc hskip hadd htab hown hall hlen hsp hpm hr6 hb6 hnx hsl hB hxs
      have hal : ∀ o (p : Addr), p.block < wr.heap.size → (wr.drew.alloc o).cell? p = wr.cell? p := fun o p hp => ((Below.refl wr.heap.size wr.drew).alloc (Nat.le_refl _) o).cell hp
      have y0a : ∀ o, (wr.drew.alloc o).cell? ⟨w.heap.size, 0, none⟩ = some (.bool L) := fun o => (hal o _ hww).trans t0
      have y1a : ∀ o, (wr.drew.alloc o).cell? ⟨w.heap.size, 1, none⟩ = some (.int .i64 a) := fun o => (hal o _ hww).trans t1
      have y2a : ∀ o, (wr.drew.alloc o).cell? ⟨w.heap.size, 2, none⟩ = some (.int .i64 b) := fun o => (hal o _ hww).trans t2
      have hxa : ∀ o, (wr.drew.alloc o).cell? ⟨bk, k, none⟩ = some (.string x) := fun o => (hal o _ hbw).trans hx
      clear hal
      go_upto_region 6 with fail
      go_region_with (go_at_call 72; refine (PC.out _).mono ?_; rintro e w3 ⟨⟨p1, p2⟩, rfl, hpv, hpb, b3⟩; have HPV := Lib.hid hpv; have HPB := Lib.hid hpb; have B3 := Lib.hid b3; clear hpv hpb; unfold spV; first | (have q0 : w3.cell? ⟨wr.heap.size, 0, none⟩ = some (.int .i64 0) := (b3.cell (p := ⟨wr.heap.size, 0, none⟩) (by simp)).trans (sp_box wr.drew (.int .i64 0) (.int .i64 0) 55).1; have q1 : w3.cell? ⟨wr.heap.size, 1, none⟩ = some (.int .i64 0) := (b3.cell (p := ⟨wr.heap.size, 1, none⟩) (by simp)).trans (sp_box wr.drew (.int .i64 0) (.int .i64 0) 55).2.1; have qf0 : w3.frozen? ⟨wr.heap.size, 0, none⟩ = false := (b3.frozen (p := ⟨wr.heap.size, 0, none⟩) (by simp)).trans ((sp_box wr.drew (.int .i64 0) (.int .i64 0) 55).2.2 0); have qf1 : w3.frozen? ⟨wr.heap.size, 1, none⟩ = false := (b3.frozen (p := ⟨wr.heap.size, 1, none⟩) (by simp)).trans ((sp_box wr.drew (.int .i64 0) (.int .i64 0) 55).2.2 1)) | skip; clear b3)
      all_goals
        first
        | (have hw4 : Below wr.heap.size wr ((w3.setCell ⟨wr.heap.size, 0, none⟩ (.int .i64 p1)).setCell ⟨wr.heap.size, 1, none⟩ (.int .i64 p2)) := set_sp_below (((Below.refl _ wr).drew.alloc (Nat.le_refl _) (.cells #[.int .i64 0, .int .i64 0] 55)).trans (B3.out.mono (by simp))) (Nat.le_refl _) _ _
           obtain ⟨c0, c1⟩ := set_sp q0 q1 (.int .i64 p1) (.int .i64 p2)
           have hbx : wr.heap.size < ((w3.setCell ⟨wr.heap.size, 0, none⟩ (.int .i64 p1)).setCell ⟨wr.heap.size, 1, none⟩ (.int .i64 p2)).heap.size := cell_lt c0
           clear q0 q1 qf0 qf1 B3
           generalize (w3.setCell ⟨wr.heap.size, 0, none⟩ (.int .i64 p1)).setCell ⟨wr.heap.size, 1, none⟩ (.int .i64 p2) = w4 at hw4 c0 c1 hbx ⊢
           obtain ⟨bx, hbe⟩ : ∃ bx, bx = wr.heap.size := ⟨_, rfl⟩
           rw [← hbe] at c0 c1 hbx
           have HBE := Lib.hid hbe)
        | (have hw4 : Below wr.heap.size wr (w3.alloc (.cells #[.int .i64 p1, .int .i64 p2] 55)) := ((Below.refl _ wr).drew.trans (B3.out.mono (Nat.le_refl _))).alloc B3.out.size _
           obtain ⟨c0, c1, _⟩ := sp_box w3 (.int .i64 p1) (.int .i64 p2) 55
           have hbx : w3.heap.size < (w3.alloc (.cells #[.int .i64 p1, .int .i64 p2] 55)).heap.size := cell_lt c0
           obtain ⟨bx, hbe⟩ : ∃ bx, bx = w3.heap.size := ⟨_, rfl⟩
           clear B3
           generalize w3.alloc (.cells #[.int .i64 p1, .int .i64 p2] 55) = w4 at hw4 c0 c1 hbx ⊢
           rw [← hbe] at c0 c1 hbx
           have HBE := Lib.hid hbe)
      all_goals
        rw [← hbe]
        clear hbe HBE
        have z4 := hw4.size
        have own4 := Lib.hid (HOWN.out.below hw4)
        have tab4 := Lib.hid (HT.out.below hw4)
        have col4 : Hid (ColAt w4 w.heap.size L a b) := Lib.hid (ColAt.below ⟨t0, t1, t2⟩ hw4 hww)
        have BB : Hid (RowKit.Below w.heap.size w w4) := Lib.hid (HB.out.trans (hw4.mono HB.out.size))
        have hWz : W1.heap.size ≤ w4.heap.size := Nat.le_trans hW1 z4
        clear t0 t1 t2 y0a y1a y2a hxa hx hw4 HT HOWN PC
        cases ok
        · have hv := Lib.hid (HBAD.out rfl)
          clear c0 c1 hbx
          go_wp2
          go_ret2
          rw [hv.out.1, hv.out.2]
          exact .of ((own_empty w4).mono BB.out.size) fits_nil (BB.out.alloc BB.out.size _)
        · have hy := HPV.out rfl
          injection hy with hy1 hy2
          subst hy1 hy2
          have hsn := Lib.hid (HSNOC.out rfl)
          clear HPV HBAD HSNOC
          by_cases hle : p1 ≤ p2
          · have hsp2 := Lib.hid (HADD.out hle)
            have hmn := Lib.hid fun h => HMANY.out h hle
            have hl51 := HLEN.out
            have own4a := World.ownsRow.alloc own4.out (.cells #[.int .i64 p1, .int .i64 p2] 55)
            clear HADD HSKIP HMANY
            by_cases h51 : acc.length = 51
            · have hv := Lib.hid (hmn.out h51)
              have h51b : (51 : Int) < (acc.length : Int) + 1 := by omega
              have H51 := Lib.hid h51
              clear h51 hl51
              go_wp2_with (at_builtin; refine wpList_append_own _ rfl (.tmp 37) (.tmp 39) 24 rfl W1.heap.size 55 i0 _ 2 16 Tryz.underlying24 hi0 hz0 hz1 hz2 rfl (by decide) _ acc.length (cellsOf acc) rfl own4a ⟨w4.heap.size, 0, none⟩ 1 1 [.int .i64 p1, .int .i64 p2] rfl rfl (cell_one _ _ _ _ rfl) (by simp [Value.oneCell']) (by have := HLEN.out; unfold maxLen; omega) (by have := HLEN.out; omega) (by simp; omega) ?_; intro v' w5 own5 hgrow _; obtain ⟨gg, cc, rfl⟩ := ownsRow_succ own5)
              have B5 := Lib.hid (Below.grown (row := (Value.slice A6 acc.length c6).ownBlock) (BB.out.alloc BB.out.size (.cells #[.int .i64 p1, .int .i64 p2] 55)) hgrow (by have := BB.out.size; simp; omega) (fun i hi => by have := HLT.out i hi; have := z1.out; omega))
              go_ret2
              rw [hv.out.1, hv.out.2]
              exact .of ((own_empty w5).mono B5.out.size) fits_nil (B5.out.alloc B5.out.size _)
            · have h51b : ¬ (51 : Int) < (acc.length : Int) + 1 := by omega
              have h51c : (acc.length : Int) + 1 ≤ 51 := by omega
              have h51d : decide ((51 : Int) < (acc.length : Int) + 1) = false := decide_eq_false h51b
              go_wp2_with (at_builtin; refine wpList_append_own _ rfl (.tmp 37) (.tmp 39) 24 rfl W1.heap.size 55 i0 _ 2 16 Tryz.underlying24 hi0 hz0 hz1 hz2 rfl (by decide) _ acc.length (cellsOf acc) rfl own4a ⟨w4.heap.size, 0, none⟩ 1 1 [.int .i64 p1, .int .i64 p2] rfl rfl (cell_one _ _ _ _ rfl) (by simp [Value.oneCell']) (by have := HLEN.out; unfold maxLen; omega) (by have := HLEN.out; omega) (by simp; omega) ?_; intro v' w5 own5 hgrow _; obtain ⟨gg, cc, rfl⟩ := ownsRow_succ own5)
              have B5 := Lib.hid (Below.grown (row := (Value.slice A6 acc.length c6).ownBlock) (BB.out.alloc BB.out.size (.cells #[.int .i64 p1, .int .i64 p2] 55)) hgrow (by have := BB.out.size; simp; omega) (fun i hi => by have := HLT.out i hi; have := z1.out; omega))
              have own4b : OwnS (w4.alloc (.cells #[.int .i64 p1, .int .i64 p2] 55)) W1.heap.size (.slice A6 acc.length c6) acc := own4a
              have ot4 : OwnT (w4.alloc (.cells #[.int .i64 p1, .int .i64 p2] 55)) (W1.alloc (.cells #[] 55)).heap.size (.slice (some ⟨bk, 0, none⟩) ps.length cp) ps := World.ownsRow.alloc tab4.out _
              have ot5 := ot4.kept hgrow (own_ne own4b ot4)
              have hg5 := (grow_fact hgrow (k := w.heap.size) (by omega) (fun e => by have := HLT.out _ e.symm; have := z1.out; omega)).2.1
              have hz5 := hgrow.size
              simp at hz5
              refine ⟨⟨k + 1, hlt, by go_num, by rw [hsp2.out]; exact OwnS.of_append own5, hsn.out, by rw [hsp2.out]; simp; omega, B5.out, ⟨(hg5 0).trans col4.out.1, (hg5 1).trans col4.out.2.1, (hg5 2).trans col4.out.2.2⟩, by omega, ot5⟩, ?_⟩
              simp [intOf]
              omega
          · have hsp2 := Lib.hid (HSKIP.out (by omega))
            have hled : decide (p1 ≤ p2) = false := decide_eq_false hle
            have hl51 := HLEN.out
            have h51b : ¬ (51 : Int) < (acc.length : Int) := by omega
            have h51d : decide ((51 : Int) < (acc.length : Int)) = false := decide_eq_false h51b
            clear HADD HSKIP HMANY
            go_wp2
            go_roundw
            case rel => exact ⟨k + 1, hlt, by go_num, by rw [hsp2.out]; exact own4.out, hsn.out, by rw [hsp2.out]; exact hl51, BB.out, col4.out, by omega, tab4.out⟩
            case measure => simp [intOf]; omega
    · obtain rfl : k = ps.length := by omega
      rw [List.take_length, hsp] at hown hlen hall
      have hres := Lib.hid (list_yes hall hlen)
      obtain ⟨A6, c6, hv6, hr6, _⟩ := hown.form (spans_fits L a b _)
      generalize spansOf L a b (splitC s.data.toList) = acc at hv6 hr6 hres
      subst hv6
      have R6 := Lib.hid hr6
      have BB := Lib.hid hB
      have hWz : w.heap.size ≤ wr.heap.size := hB.size
      clear hown hlen hall hr6 hB htab hpm hsp t0 t1 t2 hcp hlt
      go_wp2_with fail
      refine (specOf_any A6 c6 acc _ R6.out).mono ?_
      rintro e w6 ⟨v6, rfl, own6, fit6, b6⟩
      have B6 := Lib.hid (BB.out.trans (b6.mono BB.out.size))
      have OW := Lib.hid (own6.mono hWz)
      clear own6 b6
      go_wp2
      go_ret2
      rw [hres.out.1, hres.out.2]
      exact .of OW.out fit6 B6.out
end Go.Proofs.YthkjcljhfjaabaaGreatDoor

namespace Go.Proofs.YthkjcljhfjaabaaGreatDoor
open Go.RowKit Go.Sort Sets

theorem notB_take (l : Bs) : notB l = (l.take 4 == [110, 111, 116, 40]) := by
  unfold notB Lib.hasPrefix
  rw [Bool.eq_iff_iff, List.isPrefixOf_iff_prefix, beq_iff_eq, List.prefix_iff_eq_take]
  exact ⟨fun h => h.symm, fun h => h.symm⟩

set_option maxRecDepth 100000 in
set_option maxHeartbeats 4000000 in
theorem specPT_any (L : Bool) (a b : Int) (s : ByteArray) (hs : s.size ≤ 1048600) (w : World) :
    Calls Tryz.prog 9 #[colV L a b, .string s] w (OwnRes2 w.heap.size (tV L a b s.data.toList) (tB L a b s.data.toList) w) := by
  have hsx : s.size ≤ 9223372036854775807 := by omega
  obtain ⟨W1, hW1⟩ : ∃ W, W = w.alloc (.cells #[.bool L, .int .i64 a, .int .i64 b] 27) := ⟨_, rfl⟩
  have b1 : Below w.heap.size w W1 := by rw [hW1]; exact (Below.refl _ w).alloc (Nat.le_refl _) _
  have k := ColAt.box w L a b 27
  rw [← hW1] at k
  have z1 : W1.heap.size = w.heap.size + 1 := by rw [hW1]; simp
  obtain ⟨W2, hW2⟩ : ∃ W, W = W1.alloc (.cells #[] 55) := ⟨_, rfl⟩
  have b2 : Below W1.heap.size W1 W2 := by rw [hW2]; exact (Below.refl _ _).alloc (Nat.le_refl _) _
  have z2 : W2.heap.size = w.heap.size + 2 := by rw [hW2]; simp; omega
  have ow : OwnS W2 w.heap.size (.slice (some ⟨w.heap.size + 1, 0, none⟩) 0 0) [] := by
    have h := own_empty W1
    rw [← hW2, z1] at h
    exact h.mono (by omega)
  obtain ⟨k0, k1, k2⟩ := k.below b2 (by omega)
  have B2 := Lib.hid (b1.trans (b2.mono b1.size))
  have OW := Lib.hid ow
  have Z2 := Lib.hid z2
  have HS := Lib.hid hs
  have HW : Hid (W2 = (w.alloc (.cells #[.bool L, .int .i64 a, .int .i64 b] 27)).alloc (.cells #[] 55)) := Lib.hid (by rw [hW2, hW1])
  clear b1 k z1 b2 z2 ow hW1 hW2
  go_enter Tryz.func9, Tryz.ntmps9
  go_wp2_with fail
  rw [← HW.out]
  refine (specCol_b L a b _).mono ?_
  cases hc : colB L a b
  · have HV := Lib.hid (t_none (l := s.data.toList) hc)
    clear hc
    rintro e w1 ⟨rfl, b3⟩
    have B3 := Lib.hid (B2.out.trans (b3.mono B2.out.size))
    have O3 := Lib.hid (OW.out.below b3)
    clear k0 k1 k2 b3
    go_wp2
    go_ret2
    rw [HV.out.1, HV.out.2]
    exact .of O3.out fits_nil B3.out
  · have HC := Lib.hid hc
    clear hc
    rintro e w1 ⟨rfl, b3⟩
    obtain ⟨g0, g1, g2⟩ := ColAt.below (g := w.heap.size) ⟨k0, k1, k2⟩ b3 (by have := Z2.out; omega)
    have B3 := Lib.hid (B2.out.trans (b3.mono B2.out.size))
    have O3 := Lib.hid (OW.out.below b3)
    have z3 : w.heap.size < w1.heap.size := by have := Z2.out; have := b3.size; omega
    clear k0 k1 k2 b3
    by_cases h45 : s.data.toList = [45]
    · have HV := Lib.hid (t_dash HC.out h45)
      have hq : (s.toList == [45]) = true := by rw [Lib.toList_data, h45]; rfl
      have hq2 : s.toList = [45] := by rw [Lib.toList_data, h45]
      clear h45
      go_wp2_with fail
      refine (specColSet_any L a b _).mono ?_
      rintro e w4 ⟨v4, rfl, own4, fit4, b4⟩
      have B4 := Lib.hid (B3.out.trans (b4.mono B3.out.size))
      have O4 := Lib.hid (own4.mono (Nat.le_of_lt z3))
      clear own4 b4
      go_wp2
      go_ret2
      rw [HV.out.1, HV.out.2]
      exact .of O4.out fit4 B4.out
    · have hq : (s.toList == [45]) = false := by rw [Lib.toList_data]; exact beq_eq_false_iff_ne.2 h45
      have hq1 : ¬ s.toList = [45] := by rw [Lib.toList_data]; exact h45
      by_cases h0 : s.data.toList = []
      · have HV := Lib.hid (t_nil HC.out h0)
        have hp1 : s.toList = [] := by rw [Lib.toList_data, h0]
        have hp2 : s.toList.isEmpty = true := by rw [hp1]; rfl
        clear h45 h0
        go_wp2
        go_ret2
        rw [HV.out.1, HV.out.2]
        exact .of O3.out fits_nil B3.out
      · have hp1 : ¬ s.toList = [] := by rw [Lib.toList_data]; exact h0
        have hp2 : s.toList.isEmpty = false := by simpa using hp1
        have H45 := Lib.hid h45
        have H0 := Lib.hid h0
        clear h45 h0
        by_cases hneg : notB s.data.toList = true ∧ 5 < s.size ∧ closeB s.data.toList = true
        · obtain ⟨hn, h5, hcb⟩ := hneg
          have h5l : 5 ≤ s.data.toList.length := by rw [← Lib.size_eq]; omega
          have hci := close_iff hn h5l
          have c1 : (5 : Int) < (s.size : Int) := by omega
          have c2 : ((s.extract 0 4).toList == [110, 111, 116, 40]) = true := by
            rw [Lib.toList_data, extL, List.drop_zero, ← notB_take]; exact hn
          have c2a : (s.extract 0 4).toList = [110, 111, 116, 40] := by simpa using c2
          have hb : s[s.size - 1]'(by omega) = 41 := by
            rw [hcb] at hci
            have h1 := byte_at s (s.size - 1) (by omega)
            rw [← h1]
            have h2 := beq_iff_eq.1 hci.symm
            rw [← h2]
            congr 1
          have c3 : (((s[s.size - 1]'(by omega)).toNat : Int) == 41) = true := by rw [hb]; rfl
          have e1 : IntKind.i64.wrap ((s.size : Int) - 1) = (s.size : Int) - 1 := IntWalk.i64_in _ (by omega)
          have e2 : (0 : Int) ≤ (s.size : Int) - 1 ∧ (s.size : Int) - 1 < (s.size : Int) := by omega
          have e3 : ((s.size : Int) - 1).toNat = s.size - 1 := by omega
          have e4 : (4 : Int) ≤ (s.size : Int) - 1 ∧ (s.size : Int) - 1 ≤ (s.size : Int) := by omega
          have e5 : (4 : Int) ≤ (s.size : Int) := by omega
          have ex : (s.extract 4 (s.size - 1)).data.toList = notP s.data.toList := by
            rw [extL]
            unfold notP
            rw [← Lib.size_eq]
            congr 1
          have pc := fun w => specPieces_any L a b HC.out (s.extract 4 (s.size - 1)) (by simp; have := HS.out; omega) w
          rw [ex] at pc
          have HN := Lib.hid hn
          have HCB := Lib.hid hcb
          have tb := fun h => t_bad (L := L) (a := a) (b := b) hn h
          have tn := fun h => t_not HC.out hn hcb h
          generalize listB L a b (notP s.data.toList) = ok at pc tb tn
          generalize listV L a b (notP s.data.toList) = ys at pc tn
          have PC := Lib.hid pc
          have TB := Lib.hid tb
          have TN := Lib.hid tn
          clear hn hcb h5l hci hb ex pc tb tn
          go_upto_region 9 with fail
          go_region_with (go_at_call 35; refine (PC.out _).mono ?_; rintro e w4 ⟨v4, rfl, own4, fit4, b4⟩)
          all_goals
            have b4' : Below w1.heap.size w1 w4 := (Below.refl _ w1).drew.trans b4
            obtain ⟨g0', g1', g2'⟩ := ColAt.below (g := w.heap.size) ⟨g0, g1, g2⟩ b4' z3
            have z4 := Nat.lt_of_lt_of_le z3 b4'.size
            have B4 := Lib.hid (B3.out.trans (b4'.mono B3.out.size))
            have O4 := Lib.hid (O3.out.below b4')
            clear g0 g1 g2 b4 b4' PC c3
            cases ok
            · have HV := Lib.hid (TB.out rfl)
              clear TB TN
              go_wp2
              go_ret2
              rw [HV.out.1, HV.out.2]
              exact .of O4.out fits_nil B4.out
            · have HV := Lib.hid (TN.out rfl)
              obtain ⟨A4, c4, rfl, hr4, _⟩ := own4.form fit4
              have R4 := Lib.hid hr4
              clear TB TN own4 hr4
              go_wp2_with fail
              refine (specColSet_any L a b _).mono ?_
              rintro e w5 ⟨v5, rfl, own5, fit5, b5⟩
              obtain ⟨A5, c5, rfl, hr5, _⟩ := own5.form fit5
              have R5 := Lib.hid hr5
              have R45 := Lib.hid (R4.out.step b5)
              have B5 := Lib.hid (B4.out.trans (b5.mono B4.out.size))
              have z5 := Nat.lt_of_lt_of_le z4 b5.size
              clear own5 hr5 b5
              go_wp2_with fail
              refine (specMinus_any A5 A4 c5 c4 (colS L a b) ys _ R5.out R45.out).mono ?_
              rintro e w6 ⟨v6, rfl, own6, fit6, b6⟩
              have B6 := Lib.hid (B5.out.trans (b6.mono B5.out.size))
              have O6 := Lib.hid (own6.mono (Nat.le_of_lt z5))
              clear own6 b6
              go_wp2
              go_ret2
              rw [HV.out.1, HV.out.2]
              exact .of O6.out fit6 B6.out
        · have hl : Hid (tB L a b s.data.toList = listB L a b s.data.toList ∧ tV L a b s.data.toList = listV L a b s.data.toList) := Lib.hid (by
            cases hn : notB s.data.toList
            · exact t_list HC.out H45.out H0.out hn
            · refine t_model hn ?_
              rw [← Lib.size_eq]
              by_cases h5 : 5 < s.size
              · right
                cases hcb : closeB s.data.toList
                · rfl
                · exact absurd ⟨hn, h5, hcb⟩ hneg
              · left; omega)
          have pc := fun w => specPieces_any L a b HC.out s HS.out w
          have PC := Lib.hid pc
          clear pc
          by_cases h5 : 5 < s.size
          · have c1 : (5 : Int) < (s.size : Int) := by omega
            have e1 : IntKind.i64.wrap ((s.size : Int) - 1) = (s.size : Int) - 1 := IntWalk.i64_in _ (by omega)
            have e2 : (0 : Int) ≤ (s.size : Int) - 1 ∧ (s.size : Int) - 1 < (s.size : Int) := by omega
            have e3 : ((s.size : Int) - 1).toNat = s.size - 1 := by omega
            have e5 : (4 : Int) ≤ (s.size : Int) := by omega
            cases hn : notB s.data.toList
            · have c2 : ((s.extract 0 4).toList == [110, 111, 116, 40]) = false := by
                rw [Lib.toList_data, extL, List.drop_zero, ← notB_take]; exact hn
              have c2a : ¬ (s.extract 0 4).toList = [110, 111, 116, 40] := by simpa using c2
              clear hn hneg
              go_wp2_with fail
              refine (PC.out _).mono ?_
              rintro e w4 ⟨v4, rfl, own4, fit4, b4⟩
              have B4 := Lib.hid (B3.out.trans (b4.mono B3.out.size))
              have O4 := Lib.hid (O3.out.below b4)
              have OV := Lib.hid (own4.mono (Nat.le_of_lt z3))
              clear own4 b4 g0 g1 g2
              cases hlb : listB L a b s.data.toList
              · have hno : Hid (tB L a b s.data.toList = false ∧ tV L a b s.data.toList = []) := Lib.hid ⟨hl.out.1.trans hlb, by rw [hl.out.2]; unfold listV; rw [hlb]; rfl⟩
                clear hlb
                go_wp2
                go_ret2
                rw [hno.out.1, hno.out.2]
                exact .of O4.out fits_nil B4.out
              · have hys : Hid (tB L a b s.data.toList = true ∧ tV L a b s.data.toList = listV L a b s.data.toList) := Lib.hid ⟨hl.out.1.trans hlb, hl.out.2⟩
                clear hlb
                go_wp2
                go_ret2
                rw [hys.out.1, hys.out.2]
                exact .of OV.out fit4 B4.out
            · have c2 : ((s.extract 0 4).toList == [110, 111, 116, 40]) = true := by
                rw [Lib.toList_data, extL, List.drop_zero, ← notB_take]; exact hn
              have c2a : (s.extract 0 4).toList = [110, 111, 116, 40] := by simpa using c2
              have hcb : closeB s.data.toList = false := by
                cases hcb : closeB s.data.toList
                · rfl
                · exact absurd ⟨hn, h5, hcb⟩ hneg
              have hci := close_iff hn (by rw [← Lib.size_eq]; omega)
              have hb : s[s.size - 1]'(by omega) ≠ 41 := by
                rw [hcb] at hci
                have h1 := byte_at s (s.size - 1) (by omega)
                rw [← h1]
                intro h2
                have h3 := beq_eq_false_iff_ne.1 hci.symm
                refine h3 ?_
                rw [← h2]
                congr 1
              have c3 : (((s[s.size - 1]'(by omega)).toNat : Int) == 41) = false := beq_eq_false_iff_ne.2 (fun e => hb (UInt8.toNat_inj.1 (by show (s[s.size - 1]'(by omega)).toNat = 41; omega)))
              clear hn hneg hcb hci hb
              go_wp2_with fail
              refine (PC.out _).mono ?_
              rintro e w4 ⟨v4, rfl, own4, fit4, b4⟩
              have B4 := Lib.hid (B3.out.trans (b4.mono B3.out.size))
              have O4 := Lib.hid (O3.out.below b4)
              have OV := Lib.hid (own4.mono (Nat.le_of_lt z3))
              clear own4 b4 g0 g1 g2
              cases hlb : listB L a b s.data.toList
              · have hno : Hid (tB L a b s.data.toList = false ∧ tV L a b s.data.toList = []) := Lib.hid ⟨hl.out.1.trans hlb, by rw [hl.out.2]; unfold listV; rw [hlb]; rfl⟩
                clear hlb
                go_wp2
                go_ret2
                rw [hno.out.1, hno.out.2]
                exact .of O4.out fits_nil B4.out
              · have hys : Hid (tB L a b s.data.toList = true ∧ tV L a b s.data.toList = listV L a b s.data.toList) := Lib.hid ⟨hl.out.1.trans hlb, hl.out.2⟩
                clear hlb
                go_wp2
                go_ret2
                rw [hys.out.1, hys.out.2]
                exact .of OV.out fit4 B4.out
          · have c1 : decide ((5 : Int) < (s.size : Int)) = false := decide_eq_false (by omega)
            have c1b : ¬ (5 : Int) < (s.size : Int) := by omega
            clear hneg h5
            go_wp2_with fail
            refine (PC.out _).mono ?_
            rintro e w4 ⟨v4, rfl, own4, fit4, b4⟩
            have B4 := Lib.hid (B3.out.trans (b4.mono B3.out.size))
            have O4 := Lib.hid (O3.out.below b4)
            have OV := Lib.hid (own4.mono (Nat.le_of_lt z3))
            clear own4 b4 g0 g1 g2
            cases hlb : listB L a b s.data.toList
            · have hno : Hid (tB L a b s.data.toList = false ∧ tV L a b s.data.toList = []) := Lib.hid ⟨hl.out.1.trans hlb, by rw [hl.out.2]; unfold listV; rw [hlb]; rfl⟩
              clear hlb
              go_wp2
              go_ret2
              rw [hno.out.1, hno.out.2]
              exact .of O4.out fits_nil B4.out
            · have hys : Hid (tB L a b s.data.toList = true ∧ tV L a b s.data.toList = listV L a b s.data.toList) := Lib.hid ⟨hl.out.1.trans hlb, hl.out.2⟩
              clear hlb
              go_wp2
              go_ret2
              rw [hys.out.1, hys.out.2]
              exact .of OV.out fit4 B4.out
end Go.Proofs.YthkjcljhfjaabaaGreatDoor
