/-
  'append' onto a row of the call's own, as one step of a region that draws its order.
-/
import Derived.Test.YtamfmemdhldmjaaGreatDoorGa
import Derived.Deep.RegionLaw
import Derived.Test.YtamfmemdhldmjaaGreatDoorWaM
import Derived.Test.YtamfmemdhldmjaaGreatDoorUaM
import Derived.StillTailTactics
import Derived.Deep.RegionHeld3
import Derived.Test.YtamfmemdhldmjaaGreatDoorGb
import Derived.Test.YtamfmemdhldmjaaGreatDoorWj
namespace Go.Proofs.YtamfmemdhldmjaaGreatDoor
open Go.RowKit

theorem step_append_own {P : Program} {ops : Array Oper} {o : Oper} {a : Act} {w : World} {K : Act → World → Prop} {Q : Exit → Act → World → Prop} {E : Prop}
    (hg : o.guard = none) (s x : Operand) (t : TypeId) (hop : o.op = Op.call { callee := Callee.builtin Builtin.append, args := #[s, x], argTypes := #[t, t] })
    (base : Nat) (e : TypeId) (i : TypeInfo) (z : Value) (size bytes : Nat) (h1 : P.underlying t = some (.slice e)) (h2 : P.info? e = some i) (h3 : i.zero = some z) (h4 : i.size = size) (h5 : i.bytes = bytes) (h6 : z.cells.size = size) (h7 : 0 < size)
    (v : Value) (n : Nat) (olds : List Value) (hs : a.eval s = v) (hown : w.ownsRow base e size v n olds)
    (ad : Addr) (m c : Nat) (news : List Value) (hx : a.eval x = .slice (some ad) m c) (hn : news.length = m * size) (hc : ∀ j u, news[j]? = some u → w.cell? (ad.add j) = some u) (h1c : ∀ u ∈ news, u.oneCell' = true)
    (b1 : n + m ≤ maxLen) (b2 : (n + m) * bytes ≤ 140737488355328) (hb : base ≤ w.heap.size)
    (hK : ∀ v' w', w'.ownsRow base e size v' (n + m) (olds ++ news) → w.grownBy w' v.ownBlock → K (a.put o.dst v') w') :
    if Region.wanted o (yielded ops a.tmps) = true then Oper.wp P o a w K Q else E := by
  have hw : Region.wanted o (yielded ops a.tmps) = true := by simp [Region.wanted, hg]
  rw [if_pos hw]
  obtain ⟨v', w', hrun, r1, r2, _⟩ := run_append_own (P := P) w base t o.type e i z size bytes h1 h2 h3 h4 h5 h6 h7 v n olds hown ad m c news hn hc h1c b1 b2 hb
  unfold Oper.wp
  simp [execOp, hop, resolve, invoke, builtin, hs, hx, hrun, Result.andThen]
  exact hK v' w' r1 r2
end Go.Proofs.YtamfmemdhldmjaaGreatDoor

namespace Go.Proofs.YtamfmemdhldmjaaGreatDoor
open Go.RowKit Sets

def outK (rs : List Rl) (L : List Int) : List Int := L.map fun i => (rs.getD i.toNat ([], 0)).2
def outsV (t : Tb) (ns : List Int) : List Int := outK t.rules (matK t.rules ns t.rules.length)
/-- what Decide answers -/
def dV (t : Tb) (ns : List Int) : Rs := if inpB t ns = true then dcV t.pol (outsV t ns) else (3, [])
theorem outK_len (rs : List Rl) (L : List Int) : (outK rs L).length = L.length := by simp [outK]
theorem outK_at (rs : List Rl) {L : List Int} {k : Nat} (hk : k < L.length) : (outK rs L).getD k 0 = (rs.getD (L.getD k 0).toNat ([], 0)).2 := by
  unfold outK
  rw [List.getD_eq_getElem?_getD, List.getElem?_map, List.getD_eq_getElem?_getD (l := L), List.getElem?_eq_getElem hk]; rfl
theorem outK_take (rs : List Rl) {L : List Int} {k : Nat} (hk : k < L.length) : outK rs (L.take (k + 1)) = outK rs (L.take k) ++ [(rs.getD (L.getD k 0).toNat ([], 0)).2] := by
  unfold outK
  rw [List.take_succ_eq_append_getElem hk, List.map_append, List.getD_eq_getElem?_getD (l := L), List.getElem?_eq_getElem hk]; rfl
theorem tab_out {t : Tb} (h : tabB t = true) {i : Nat} (hi : i < t.rules.length) : 0 ≤ (t.rules.getD i ([], 0)).2 ∧ (t.rules.getD i ([], 0)).2 ≤ 99 := by
  have := (tab_parts h).2.2 i hi
  unfold rAt at this
  exact ⟨(rule_parts this).2.1, (rule_parts this).2.2.1⟩
theorem mat_at {rs : List Rl} {ns : List Int} {k j : Nat} (hj : j < (matK rs ns k).length) : ∃ i : Nat, i < k ∧ (matK rs ns k).getD j 0 = (i : Int) := by
  have hm : (matK rs ns k).getD j 0 ∈ matK rs ns k := by
    rw [List.getD_eq_getElem?_getD, List.getElem?_eq_getElem hj]; exact List.getElem_mem hj
  obtain ⟨i, h1, h2, _⟩ := (matK_mem k _).1 hm
  exact ⟨i, h1, h2⟩
theorem outs_at {t : Tb} {ns : List Int} (h : tabB t = true) {k : Nat} (hk : k < (outsV t ns).length) : 0 ≤ (outsV t ns).getD k 0 ∧ (outsV t ns).getD k 0 ≤ 99 := by
  unfold outsV at hk ⊢
  rw [outK_len] at hk
  rw [outK_at _ hk]
  obtain ⟨i, h1, h2⟩ := mat_at hk
  rw [h2, Int.toNat_natCast]
  exact tab_out h h1
theorem outs_len (t : Tb) (ns : List Int) : (outsV t ns).length ≤ t.rules.length := by
  unfold outsV; rw [outK_len]; exact matK_len _ _ _
theorem outs_ok {t : Tb} {ns : List Int} (h : tabB t = true) : outB (outsV t ns) = true := by
  unfold outB
  have hl := outs_len t ns
  have := (tab_parts h).1.2.2.1
  rw [decide_eq_true (by omega), Bool.true_and, List.all_eq_true]
  intro k hk
  have := outs_at h (List.mem_range.1 hk)
  rw [decide_eq_true this.1, decide_eq_true this.2]; rfl
theorem outs_i64 {t : Tb} {ns : List Int} (h : tabB t = true) : ∀ x ∈ outsV t ns, I64 x := by
  intro x hx
  obtain ⟨k, hk, rfl⟩ := List.getElem_of_mem hx
  have := outs_at h hk
  rw [List.getD_eq_getElem?_getD, List.getElem?_eq_getElem hk] at this
  simp only [Option.getD_some] at this
  unfold I64; omega
theorem d_yes {t : Tb} {ns : List Int} (h : inpB t ns = true) : dV t ns = dcV t.pol (outsV t ns) := by unfold dV; rw [if_pos h]
theorem d_no {t : Tb} {ns : List Int} (h : inpB t ns = false) : dV t ns = (3, []) := by unfold dV; rw [if_neg (by rw [h]; simp)]
theorem dOut_yes {t : Tb} {ns : List Int} (h : tabB t = true) : doV t.pol (outsV t ns) = dcV t.pol (outsV t ns) := by
  have hp := (tab_parts h).1
  unfold doV
  rw [if_pos]
  rw [outs_ok h, decide_eq_true hp.2.2.2.1, decide_eq_true hp.2.2.2.2]; rfl

/-- where a rule's output lies -/
theorem out_at {w : World} {A : Option Addr} {c : Nat} {rs : List Rl} (h : RulesAt w w.heap.size A c rs) {i : Nat} (hi : i < rs.length) :
    ∃ b off, A = some ⟨b, off, none⟩ ∧ b < w.heap.size ∧ w.cell? ⟨b, off + i * 2 + 1, none⟩ = some (.int .i64 (rs.getD i ([], 0)).2) := by
  obtain ⟨_, _, hz | ⟨b, off, e, hB, hp⟩⟩ := h
  · omega
  · exact ⟨b, off, e, hB, (hp i hi).2⟩

set_option maxRecDepth 100000 in
set_option maxHeartbeats 2000000 in
theorem specOuts_any (v : Value) (t : Tb) (A : Option Addr) (c : Nat) (L : List Int) (w : World) (hT : TabAt w w.heap.size v t) (hN : IntsAt w w.heap.size A c L) (hr : t.rules.length ≤ 12)
    (hm : ∀ k, k < L.length → ∃ i : Nat, i < t.rules.length ∧ L.getD k 0 = (i : Int)) (hl : L.length ≤ 12) (hf : ∀ x ∈ outK t.rules L, I64 x) :
    Calls Tryz.prog 39 #[v, .slice A L.length c] w fun e w' => ∃ A' c', e = .returned (.slice A' (outK t.rules L).length c') ∧ OwnN w' w.heap.size A' c' (outK t.rules L) ∧ Below w.heap.size w w' := by
  obtain ⟨i0, hi0, hz0, hz1, hz2⟩ := infoI
  obtain ⟨A1, c1, A2, c2, rfl, hC, hR⟩ := hT
  obtain ⟨cs, x, rs⟩ := t
  simp only [] at hR hm hr hf ⊢
  have HR := Lib.hid hR
  have HM := Lib.hid hm
  have HF := Lib.hid hf
  have HTK := Lib.hid (fun (k : Nat) => outK_take rs (L := L) (k := k))
  have HLN := Lib.hid (fun k => outK_len rs (L.take k))
  obtain ⟨hfit, hlc, hcc, hrow⟩ := hN
  clear hC hR hm hf hfit
  have hb0 : Below w.heap.size w ((w.alloc (.cells #[.slice A1 cs.length c1, .int .i64 x, .slice A2 rs.length c2] 34)).alloc (.cells #[] 3)) := ((Below.refl _ _).alloc (Nat.le_refl _) _).alloc (by simp) _
  have X := Lib.hid ((TBox.made w A1 cs.length c1 x A2 rs.length c2 34).step ((Below.refl _ _).alloc (Nat.le_refl _) (.cells #[] 3)))
  have hown0 := ownI_empty (w.alloc (.cells #[.slice A1 cs.length c1, .int .i64 x, .slice A2 rs.length c2] 34))
  have hsz : (w.alloc (.cells #[.slice A1 cs.length c1, .int .i64 x, .slice A2 rs.length c2] 34)).heap.size = w.heap.size + 1 := by simp
  rw [hsz] at hown0
  go_enter Tryz.func39, Tryz.ntmps39
  go_wp2
  generalize (w.alloc (.cells #[.slice A1 cs.length c1, .int .i64 x, .slice A2 rs.length c2] 34)).alloc (.cells #[] 3) = W at hb0 X hown0 ⊢
  clear hsz
  go_loopw [5, 6] (fun u i wr => ∃ k : Nat, k ≤ L.length ∧ i = .int .i64 k ∧ OwnI wr (w.heap.size + 1) u (outK rs (L.take k)) ∧ Below w.heap.size w wr ∧ TBox wr w.heap.size A1 cs.length c1 x A2 rs.length c2) (fun _ i _ => L.length - (intOf i).toNat)
  case atStart => exact ⟨0, Nat.zero_le _, rfl, hown0, hb0, X.out⟩
  case round =>
    clear hb0 hown0
    obtain ⟨k, hk, rfl, hown, hb, hx⟩ := hrel
    have HX := Lib.hid hx
    obtain ⟨p0, p1, p2, p3⟩ := hx
    clear p3 p0 p1
    by_cases hlt : k < L.length
    · rcases hrow with hz | ⟨b, off, rfl, hB, hrow⟩
      · omega
      · have hkl : (k : Int) < (L.length : Int) := by omega
        have v1 := hrow k hlt
        rw [Nat.mul_one] at v1
        obtain ⟨i, hi, hLi⟩ := HM.out k hlt
        rw [hLi] at v1
        have d1 := (hb.cell (p := ⟨b, off + k, none⟩) hB).trans v1
        obtain ⟨b2, off2, rfl, hB2, u3⟩ := out_at HR.out hi
        have d2 := (hb.cell (p := ⟨b2, off2 + i * 2 + 1, none⟩) hB2).trans u3
        have hil : (i : Int) < (rs.length : Int) := by omega
        have HNX := Lib.hid (show outK rs (L.take (k + 1)) = outK rs (L.take k) ++ [(rs.getD i ([], 0)).2] by rw [HTK.out k hlt, hLi, Int.toNat_natCast])
        have hln : (outK rs (L.take k)).length ≤ 12 := by rw [HLN.out, List.length_take]; omega
        have HB := Lib.hid hb
        have HO := Lib.hid hown
        generalize (rs.getD i ([], 0)).2 = y at d2 HNX
        clear u3 hrow v1 hb hown hLi
        have hownd : OwnI wr.drew (w.heap.size + 1) u5 (outK rs (L.take k)) := HO.out
        have hbd := HB.out.drew
        have hxd : TBox wr.drew w.heap.size A1 cs.length c1 x (some ⟨b2, off2, none⟩) rs.length c2 := HX.out
        have hown4 := Lib.hid (World.ownsRow.alloc hownd (.cells #[.int .i64 y] 3))
        have hb3 := Lib.hid (show Below w.heap.size w (wr.drew.alloc (.cells #[.int .i64 y] 3)) from hbd.alloc hbd.size _)
        have HX3 := Lib.hid (hxd.step ((Below.refl _ _).alloc (Nat.le_refl _) (.cells #[.int .i64 y] 3)))
        have hgl := hownd.lt
        have HL' := Lib.hid (show ∀ i, u5.ownBlock = some i → w.heap.size + 1 ≤ i from fun i hi => (hgl i hi).1)
        have HSZ := Lib.hid (show w.heap.size + 1 ≤ wr.drew.heap.size + 1 from by have := hbd.size; omega)
        have HCE := Lib.hid (cell_int wr.drew wr.drew.heap.size y rfl)
        have HL12 := Lib.hid hln
        clear hgl hownd hr hbd hxd
        go_upto_region 5 with fail
        go_region_law (refine step_append_own rfl (.tmp 14) (.tmp 24) 26 rfl (w.heap.size + 1) 3 i0 _ 1 8 Tryz.underlying26 hi0 hz0 hz1 hz2 rfl (by decide) u5 (outK rs (L.take k)).length (intCells (outK rs (L.take k))) (by simp [Act.eval]) hown4.out ⟨wr.drew.heap.size, 0, none⟩ 1 1 [.int .i64 y] (by simp [Act.eval]) rfl HCE.out (by simp [Value.oneCell']) (by have := HL12.out; unfold maxLen; omega) (by have := HL12.out; omega) (by have := HSZ.out; simpa using this) ?_; intro v' w5 hown5 hgrow)
        all_goals
          have hb5 := hb3.out.grown hgrow hb3.out.size (fun i hi => by have := HL'.out i hi; omega)
          have hx5 := HX3.out.grown hgrow (fun i hi => by have := HL'.out i hi; omega)
          go_wp2
          go_roundw
          case rel => exact ⟨k + 1, hlt, by go_num, by rw [HNX.out]; exact OwnI.of_append hown5, hb5, hx5⟩
          case measure => simp [intOf]; omega
    · obtain rfl : k = L.length := by omega
      have HB := Lib.hid hb
      rw [List.take_of_length_le (Nat.le_refl _)] at hown
      obtain ⟨A', c', rfl, hO⟩ := hown.form HF.out
      have HO := Lib.hid hO
      clear hown hO hb
      go_wp2
      go_ret
      exact ⟨A', c', rfl, HO.out.base (by omega), HB.out⟩
end Go.Proofs.YtamfmemdhldmjaaGreatDoor

namespace Go.Proofs.YtamfmemdhldmjaaGreatDoor
open Go.RowKit Sets
/-- the block that holds a result, and its two cells -/
def ZBox (w : World) (g : Nat) : Prop := (∃ u, w.cell? ⟨g, 0, none⟩ = some u) ∧ (∃ u, w.cell? ⟨g, 1, none⟩ = some u) ∧ (∀ o, w.frozen? ⟨g, o, none⟩ = false) ∧ g < w.heap.size
theorem ZBox.step {w w' : World} {g : Nat} (h : ZBox w g) (hb : Below w.heap.size w w') : ZBox w' g := by
  obtain ⟨⟨u, h1⟩, ⟨v, h2⟩, h3, h4⟩ := h
  exact ⟨⟨u, (hb.cell (p := ⟨g, 0, none⟩) h4).trans h1⟩, ⟨v, (hb.cell (p := ⟨g, 1, none⟩) h4).trans h2⟩, fun o => (hb.frozen (p := ⟨g, o, none⟩) h4).trans (h3 o), Nat.lt_of_lt_of_le h4 hb.size⟩
theorem ZBox.made (w : World) (t : TypeId) (o : Obj) : ZBox ((w.alloc o).alloc (.cells #[.int .i64 0, .slice none 0 0] t)) (w.heap.size + 1) := by
  have hz : (w.alloc o).heap.size = w.heap.size + 1 := by simp
  obtain ⟨k0, k1, k2⟩ := box_facts (w.alloc o) t
  rw [hz] at k0 k1 k2
  exact ⟨⟨_, k0⟩, ⟨_, k1⟩, k2, by simp⟩
/-- a result written into its block, and handed back -/
theorem res_fin {r : Rs} {k : Int} {ms : List Int} {fn : Func} {a : Act} {A : Option Addr} {c : Nat} {w V : World} {g : Nat} (hv : r = (k, ms)) (hz : ZBox V g) (hg : w.heap.size ≤ g) (ho : ∃ base, g < base ∧ w.heap.size ≤ base ∧ OwnN V base A c ms) (hb : Below w.heap.size w V) (hd : a.defers = [])
    (hr : ∀ {F : World}, F.cell? ⟨g, 0, none⟩ = some (.int .i64 k) → F.cell? ⟨g, 1, none⟩ = some (.slice A ms.length c) → (results fn a.tmps).run Tryz.prog F = .ok (.agg #[.int .i64 k, .slice A ms.length c]) F) :
    bodyPost Tryz.prog fn (ResN r w) Exit.ret a ((V.setCell ⟨g, 0, none⟩ (.int .i64 k)).setCell ⟨g, 1, none⟩ (.slice A ms.length c)) := by
  subst hv
  obtain ⟨⟨u, h0⟩, ⟨v, h1⟩, _, _⟩ := hz
  obtain ⟨base, hb1, hb2, hO⟩ := ho
  obtain ⟨k0, k1⟩ := set_two h0 h1 (.int .i64 k) (.slice A ms.length c)
  exact bodyPost_ret (v := .agg #[.int .i64 k, .slice A ms.length c]) (hr k0 k1) hd ⟨A, c, rfl, (hO.two hb1 _ _).base hb2, (hb.setCell (p := ⟨g, 0, none⟩) hg _).setCell (p := ⟨g, 1, none⟩) hg _⟩
theorem res_fin2 {r : Rs} {k : Int} {ms : List Int} {fn : Func} {a : Act} {A : Option Addr} {c : Nat} {w V : World} {g : Nat} {ob : Obj} (hv : r = (k, ms)) (hz : ZBox V g) (hg : w.heap.size ≤ g) (ho : ∃ base, g < base ∧ w.heap.size ≤ base ∧ OwnN (V.alloc ob) base A c ms) (hb : Below w.heap.size w V) (hd : a.defers = [])
    (hr : ∀ {F : World}, F.cell? ⟨g, 0, none⟩ = some (.int .i64 k) → F.cell? ⟨g, 1, none⟩ = some (.slice A ms.length c) → (results fn a.tmps).run Tryz.prog F = .ok (.agg #[.int .i64 k, .slice A ms.length c]) F) :
    bodyPost Tryz.prog fn (ResN r w) Exit.ret a (((V.setCell ⟨g, 0, none⟩ (.int .i64 k)).setCell ⟨g, 1, none⟩ (.slice A ms.length c)).alloc ob) := by
  have bV : Below V.heap.size V (V.alloc ob) := (Below.refl _ _).alloc (Nat.le_refl _) _
  have hlt := hz.2.2.2
  rw [← World.setCell_alloc_past ob _ _ _ (by simpa [World.setCell] using hlt), ← World.setCell_alloc_past ob _ _ _ hlt]
  exact res_fin hv (hz.step bV) hg ho (hb.trans (bV.mono hb.size)) hd hr
theorem specOutsM_any (v : Value) (t : Tb) (A : Option Addr) (c : Nat) (ns : List Int) (w : World) (hT : TabAt w w.heap.size v t) (hN : IntsAt w w.heap.size A c (matK t.rules ns t.rules.length)) (hV : tabB t = true) :
    Calls Tryz.prog 39 #[v, .slice A (matK t.rules ns t.rules.length).length c] w fun e w' => ∃ A' c', e = .returned (.slice A' (outsV t ns).length c') ∧ OwnN w' w.heap.size A' c' (outsV t ns) ∧ Below w.heap.size w w' :=
  specOuts_any v t A c _ w hT hN (tab_parts hV).1.2.2.1 (fun k hk => mat_at hk) (by have := matK_len t.rules ns t.rules.length; have := (tab_parts hV).1.2.2.1; omega) (outs_i64 hV)

set_option maxRecDepth 100000 in
set_option maxHeartbeats 4000000 in
theorem specTab4_any (v : Value) (t : Tb) (A : Option Addr) (c : Nat) (ns : List Int) (w : World) (hT : TabAt w w.heap.size v t) (hN : IntsAt w w.heap.size A c ns) (hI : inpB t ns = true) :
    Calls Tryz.prog 22 #[v, .slice A ns.length c] w (ResN (dcV t.pol (outsV t ns)) w) := by
  have HT := Lib.hid hT
  have HN := Lib.hid hN
  have HI := Lib.hid hI
  have HV := Lib.hid (inp_parts hI).1
  have HP := Lib.hid (tab_parts (inp_parts hI).1).1
  obtain ⟨A1, c1, A2, c2, rfl, hC, hR⟩ := hT
  obtain ⟨cs, x, rs⟩ := t
  simp only [] at HT HI HV HP ⊢
  clear hC hR hN hI
  have HO := Lib.hid (outs_ok (ns := ns) HV.out)
  have HOL := Lib.hid (show outsV ⟨cs, x, rs⟩ ns = outK rs (matK rs ns rs.length) from rfl)
  have HFI := Lib.hid (outs_i64 (ns := ns) HV.out)
  have hb0 : Below w.heap.size w ((w.alloc (.cells #[.slice A1 cs.length c1, .int .i64 x, .slice A2 rs.length c2] 34)).alloc (.cells #[.int .i64 0, .slice none 0 0] 29)) := ((Below.refl _ _).alloc (Nat.le_refl _) _).alloc (by simp) _
  have X := Lib.hid ((TBox.made w A1 cs.length c1 x A2 rs.length c2 34).step ((Below.refl _ _).alloc (Nat.le_refl _) (.cells #[.int .i64 0, .slice none 0 0] 29)))
  have Z := Lib.hid (ZBox.made w 29 (.cells #[.slice A1 cs.length c1, .int .i64 x, .slice A2 rs.length c2] 34))
  go_enter Tryz.func22, Tryz.ntmps22
  go_upto_region 1 with fail
  try rw [show (w.alloc (.cells #[.slice A1 cs.length c1, .int .i64 x, .slice A2 rs.length c2] 34)).heap.size = w.heap.size + 1 by simp]
  generalize ((w.alloc (.cells #[.slice A1 cs.length c1, .int .i64 x, .slice A2 rs.length c2] 34)).alloc (.cells #[.int .i64 0, .slice none 0 0] 29)) = W at hb0 X Z ⊢
  have bd : Below W.heap.size W W.drew := (Below.refl _ _).drew
  have B := Lib.hid (hb0.trans (bd.mono hb0.size))
  replace X := Lib.hid (X.out.step bd)
  replace Z := Lib.hid (Z.out.step bd)
  clear bd hb0
  obtain ⟨x0, x1, x2, x3⟩ := X.out
  have HZ := Lib.hid x3
  clear x3 X
  go_region_held3 (fun w' => w'.cell? ⟨w.heap.size, 0, none⟩ = some (.slice A1 cs.length c1) ∧ w'.cell? ⟨w.heap.size, 1, none⟩ = some (.int .i64 x) ∧ w'.cell? ⟨w.heap.size, 2, none⟩ = some (.slice A2 rs.length c2)) (first | exact ⟨x0, x1, x2⟩ | exact ⟨(two_other (Nat.ne_of_lt (Nat.lt_succ_self _)) _ _).trans x0, (two_other (Nat.ne_of_lt (Nat.lt_succ_self _)) _ _).trans x1, (two_other (Nat.ne_of_lt (Nat.lt_succ_self _)) _ _).trans x2⟩) (first
    | (go_at_call 40; refine (specAll_any _ ⟨cs, x, rs⟩ _ _ ns _ (HT.out.step B.out) (HN.out.step B.out) (fun i hi => inp_rule HI.out hi) HP.out.2.2.1).mono ?_; rintro e w4 ⟨A4, c4, rfl, h4, b4⟩; have H4 := Lib.hid (h4.base B.out.size); have I4 := Lib.hid h4.ints; have Z := Lib.hid (Z.out.step b4); have B := Lib.hid (B.out.trans (b4.mono B.out.size)); have x0 : w4.cell? ⟨w.heap.size, 0, none⟩ = some (.slice A1 cs.length c1) := (b4.cell (p := ⟨w.heap.size, 0, none⟩) HZ.out).trans x0; have x1 : w4.cell? ⟨w.heap.size, 1, none⟩ = some (.int .i64 x) := (b4.cell (p := ⟨w.heap.size, 1, none⟩) HZ.out).trans x1; have x2 : w4.cell? ⟨w.heap.size, 2, none⟩ = some (.slice A2 rs.length c2) := (b4.cell (p := ⟨w.heap.size, 2, none⟩) HZ.out).trans x2; have HZ := Lib.hid (Nat.lt_of_lt_of_le HZ.out b4.size); clear h4 b4)
    | (go_at_call 39; refine (specOutsM_any _ ⟨cs, x, rs⟩ _ _ ns _ (HT.out.step B.out) I4.out HV.out).mono ?_; rintro e w5 ⟨A5, c5, rfl, h5, b5⟩; have I5 := Lib.hid h5.ints; have Z := Lib.hid (Z.out.step b5); have B := Lib.hid (B.out.trans (b5.mono B.out.size)); have x0 : w5.cell? ⟨w.heap.size, 0, none⟩ = some (.slice A1 cs.length c1) := (b5.cell (p := ⟨w.heap.size, 0, none⟩) HZ.out).trans x0; have x1 : w5.cell? ⟨w.heap.size, 1, none⟩ = some (.int .i64 x) := (b5.cell (p := ⟨w.heap.size, 1, none⟩) HZ.out).trans x1; have x2 : w5.cell? ⟨w.heap.size, 2, none⟩ = some (.slice A2 rs.length c2) := (b5.cell (p := ⟨w.heap.size, 2, none⟩) HZ.out).trans x2; have HZ := Lib.hid (Nat.lt_of_lt_of_le HZ.out b5.size); clear h5 b5)
    | (go_at_call 38; refine (specDec4_any x _ _ (outsV ⟨cs, x, rs⟩ ns) _ I5.out HO.out HP.out.2.2.2.1 HP.out.2.2.2.2).mono ?_; rintro e w6 ⟨A6, c6, rfl, h6, b6⟩; have H6 := Lib.hid h6; have ZL := Lib.hid Z.out.2.2.2; have Z := Lib.hid (Z.out.step b6); have BB := Lib.hid B.out.size; have B := Lib.hid (B.out.trans (b6.mono B.out.size)); have x0 : w6.cell? ⟨w.heap.size, 0, none⟩ = some (.slice A1 cs.length c1) := (b6.cell (p := ⟨w.heap.size, 0, none⟩) HZ.out).trans x0; have x1 : w6.cell? ⟨w.heap.size, 1, none⟩ = some (.int .i64 x) := (b6.cell (p := ⟨w.heap.size, 1, none⟩) HZ.out).trans x1; have x2 : w6.cell? ⟨w.heap.size, 2, none⟩ = some (.slice A2 rs.length c2) := (b6.cell (p := ⟨w.heap.size, 2, none⟩) HZ.out).trans x2; have HZ := Lib.hid (Nat.lt_of_lt_of_le HZ.out b6.size); obtain ⟨⟨u0, g0⟩, ⟨u1, g1⟩, fz, _⟩ := Z.out; have f0 := fz 0; have f1 := fz 1; clear h6 b6 fz))
  all_goals
    clear x0 x1 x2
    go_wp2
    exact res_fin rfl Z.out (by omega) ⟨_, ZL.out, BB.out, H6.out⟩ B.out rfl (fun {F} k0 k1 => by simp [results, Tryz.results22, go_sem, k0, k1])

set_option maxRecDepth 100000 in
set_option maxHeartbeats 4000000 in
theorem specDcd_any (v : Value) (t : Tb) (A : Option Addr) (c : Nat) (ns : List Int) (w : World) (hT : TabAt w w.heap.size v t) (hN : IntsAt w w.heap.size A c ns) :
    Calls Tryz.prog 6 #[v, .slice A ns.length c] w (ResN (dV t ns) w) := by
  have HT := Lib.hid hT
  have HN := Lib.hid hN
  obtain ⟨A1, c1, A2, c2, rfl, hC, hR⟩ := hT
  obtain ⟨cs, x, rs⟩ := t
  simp only [] at HT ⊢
  clear hC hR hN
  have hb0 : Below w.heap.size w ((w.alloc (.cells #[.slice A1 cs.length c1, .int .i64 x, .slice A2 rs.length c2] 34)).alloc (.cells #[.int .i64 0, .slice none 0 0] 29)) := ((Below.refl _ _).alloc (Nat.le_refl _) _).alloc (by simp) _
  have X := Lib.hid ((TBox.made w A1 cs.length c1 x A2 rs.length c2 34).step ((Below.refl _ _).alloc (Nat.le_refl _) (.cells #[.int .i64 0, .slice none 0 0] 29)))
  have Z := Lib.hid (ZBox.made w 29 (.cells #[.slice A1 cs.length c1, .int .i64 x, .slice A2 rs.length c2] 34))
  obtain ⟨p0, p1, p2, p3⟩ := X.out
  clear p3
  go_enter Tryz.func6, Tryz.ntmps6
  go_wp2_with fail
  clear p0 p1 p2
  generalize ((w.alloc (.cells #[.slice A1 cs.length c1, .int .i64 x, .slice A2 rs.length c2] 34)).alloc (.cells #[.int .i64 0, .slice none 0 0] 29)) = W at hb0 X Z ⊢
  refine (specInV_any _ ⟨cs, x, rs⟩ _ _ ns W (HT.out.step hb0) (HN.out.step hb0)).mono ?_
  rintro e w1 ⟨rfl, b1⟩
  obtain ⟨p0, p1, p2, p3⟩ := X.out.step b1
  have B := Lib.hid (hb0.trans (b1.mono hb0.size))
  replace Z := Lib.hid (Z.out.step b1)
  clear p3 X b1 hb0
  cases htv : inpB ⟨cs, x, rs⟩ ns
  · have hv := Lib.hid (d_no htv)
    have ba : Below w1.heap.size w1 (w1.alloc (.cells #[] 3)) := (Below.refl _ _).alloc (Nat.le_refl _) _
    have hO := Lib.hid (own_nil_at w1 (base := w1.heap.size) (Nat.le_refl _))
    have ZL := Lib.hid Z.out.2.2.2
    have BS := Lib.hid B.out.size
    have B2 := Lib.hid (B.out.trans (ba.mono B.out.size))
    have Z2 := Lib.hid (Z.out.step ba)
    obtain ⟨⟨u0, g0⟩, ⟨u1, g1⟩, fz, _⟩ := Z.out
    have f0 := fz 0
    have f1 := fz 1
    clear htv ba fz
    go_wp2
    exact res_fin2 hv.out Z.out (by omega) ⟨_, ZL.out, BS.out, hO.out⟩ B.out rfl (fun {F} k0 k1 => by simp [results, Tryz.results6, go_sem, k0, k1])
  · have HI := Lib.hid htv
    have hv := Lib.hid (d_yes htv)
    clear htv
    go_wp2_with fail
    clear p0 p1 p2
    refine (specTab4_any _ ⟨cs, x, rs⟩ _ _ ns w1 (HT.out.step B.out) (HN.out.step B.out) HI.out).mono ?_
    rintro e w2 ⟨A', c', rfl, hO, b2⟩
    have HO := Lib.hid hO
    have ZL := Lib.hid Z.out.2.2.2
    have BS := Lib.hid B.out.size
    have HB := Lib.hid (B.out.trans (b2.mono B.out.size))
    replace Z := Lib.hid (Z.out.step b2)
    obtain ⟨⟨u0, g0⟩, ⟨u1, g1⟩, fz, _⟩ := Z.out
    have f0 := fz 0
    have f1 := fz 1
    clear hO b2 fz
    go_wp2
    exact res_fin hv.out Z.out (by omega) ⟨_, ZL.out, BS.out, HO.out⟩ HB.out rfl (fun {F} k0 k1 => by simp [results, Tryz.results6, go_sem, k0, k1])
end Go.Proofs.YtamfmemdhldmjaaGreatDoor

namespace Go.Proofs.YtamfmemdhldmjaaGreatDoor
open Go.RowKit Sets
theorem ZBox.grown {w w' : World} {row : Option Nat} {g : Nat} (h : ZBox w g) (hg : w.grownBy w' row) (hne : ∀ i, row = some i → i ≠ g) : ZBox w' g := by
  have hh := hg.block g h.2.2.2 (fun e => hne g e.symm rfl)
  obtain ⟨⟨u, h1⟩, ⟨v, h2⟩, h3, h4⟩ := h
  exact ⟨⟨u, (World.cell?_of_block (a := ⟨g, 0, none⟩) hh).trans h1⟩, ⟨v, (World.cell?_of_block (a := ⟨g, 1, none⟩) hh).trans h2⟩, fun o => (World.frozen?_of_block (a := ⟨g, o, none⟩) hh).trans (h3 o), Nat.lt_of_lt_of_le h4 hg.size⟩

set_option maxRecDepth 100000 in
set_option maxHeartbeats 4000000 in
theorem implTab4_any (a1 a2 a3 : Addr) (v : Value) (t : Tb) (A : Option Addr) (c : Nat) (ns : List Int) (w : World) (hE : EndsIs w a1 a2 a3) (hT : TabAt w w.heap.size v t) (hN : IntsAt w w.heap.size A c ns) (hI : inpB t ns = true) :
    Calls Tryz.prog 26 #[v, .slice A ns.length c] w (ResN (dcV t.pol (outsV t ns)) w) := by
  obtain ⟨i0, hi0, hz0, hz1, hz2⟩ := infoI
  have HT := Lib.hid hT
  have HN := Lib.hid hN
  have HI := Lib.hid hI
  have HE := Lib.hid hE
  have HV := Lib.hid (inp_parts hI).1
  have HP := Lib.hid (tab_parts (inp_parts hI).1).1
  have HDO := Lib.hid (dOut_yes (ns := ns) (inp_parts hI).1)
  have HFI := Lib.hid (outs_i64 (ns := ns) (inp_parts hI).1)
  have HOV := Lib.hid (show outsV t ns = outK t.rules (matK t.rules ns t.rules.length) from rfl)
  obtain ⟨A1, c1, A2, c2, rfl, hC, hR⟩ := hT
  obtain ⟨cs, x, rs⟩ := t
  simp only [] at HT HI HV HP HDO HFI HOV hR ⊢
  have HR := Lib.hid hR
  clear hC hR hN hI hE
  obtain ⟨L, hL⟩ : ∃ L, matK rs ns rs.length = L := ⟨_, rfl⟩
  have hlen : L.length ≤ 12 := by have := matK_len rs ns rs.length; have := HP.out.2.2.1; rw [← hL]; omega
  have HM := Lib.hid (show ∀ k, k < L.length → ∃ i : Nat, i < rs.length ∧ L.getD k 0 = (i : Int) from fun k hk => by rw [← hL] at hk ⊢; exact mat_at hk)
  have HTK := Lib.hid (fun (k : Nat) => outK_take rs (L := L) (k := k))
  have HLN := Lib.hid (fun k => outK_len rs (L.take k))
  rw [hL] at HOV
  rw [← HDO.out, HOV.out]
  rw [HOV.out] at HFI
  have HL := Lib.hid hL
  have hmk := fun W => run_make (P := Tryz.prog) W 26 3 i0 _ Tryz.underlying26 hi0 hz0 .i64 .i64 0 L.length (by omega) (by omega) (by rw [hz2]; omega) (by omega)
  simp only [hz1] at hmk
  have HMK := Lib.hid hmk
  have hb0 : Below w.heap.size w ((w.alloc (.cells #[.slice A1 cs.length c1, .int .i64 x, .slice A2 rs.length c2] 34)).alloc (.cells #[.int .i64 0, .slice none 0 0] 29)) := ((Below.refl _ _).alloc (Nat.le_refl _) _).alloc (by simp) _
  have X := Lib.hid ((TBox.made w A1 cs.length c1 x A2 rs.length c2 34).step ((Below.refl _ _).alloc (Nat.le_refl _) (.cells #[.int .i64 0, .slice none 0 0] 29)))
  have Z := Lib.hid (ZBox.made w 29 (.cells #[.slice A1 cs.length c1, .int .i64 x, .slice A2 rs.length c2] 34))
  obtain ⟨p0, p1, p2, p3⟩ := X.out
  clear p3 hmk hL
  go_enter Tryz.func26, Tryz.ntmps26
  go_wp2_with fail
  clear p0 p1 p2
  generalize ((w.alloc (.cells #[.slice A1 cs.length c1, .int .i64 x, .slice A2 rs.length c2] 34)).alloc (.cells #[.int .i64 0, .slice none 0 0] 29)) = W at hb0 X Z ⊢
  refine (implAll_any _ ⟨cs, x, rs⟩ _ _ ns W (HT.out.step hb0) (HN.out.step hb0) (fun i hi => inp_rule HI.out hi) HP.out.2.2.1).mono ?_
  simp only [HL.out]
  rintro e w1 ⟨A', c', rfl, h1, b1⟩
  have HI1 := Lib.hid h1.ints
  have B1 := Lib.hid (hb0.trans (b1.mono hb0.size))
  have X1 := Lib.hid (X.out.step b1)
  have Z1 := Lib.hid (Z.out.step b1)
  clear h1 b1 X Z hb0
  have hmk := HMK.out
  go_wp2
  generalize hW4 : World.alloc w1 _ = W4
  have b4 : Below w1.heap.size w1 W4 := by rw [← hW4]; exact (Below.refl _ _).alloc (Nat.le_refl _) _
  have own0 : OwnI W4 w1.heap.size (.slice (some ⟨w1.heap.size, 0, none⟩) 0 L.length) [] := by
    rw [← hW4]
    exact World.ownsRow_made _ _ _ (Nat.le_refl _) (by unfold maxLen; omega) (by rw [size_madeCells]; simp)
  clear hW4 hmk HMK
  have B4 := Lib.hid (B1.out.trans (b4.mono B1.out.size))
  have X4 := Lib.hid (X1.out.step b4)
  have Z4 := Lib.hid (Z1.out.step b4)
  have I4 := Lib.hid (HI1.out.step b4)
  have ZL := Lib.hid Z1.out.2.2.2
  have BS := Lib.hid B1.out.size
  obtain ⟨hfit, hlc, hcc, hrow⟩ := HI1.out
  have hb4 := Lib.hid b4
  clear hfit b4
  go_loopw [6, 17] (fun u i wr => ∃ k : Nat, k ≤ L.length ∧ i = .int .i64 k ∧ OwnI wr w1.heap.size u (outK rs (L.take k)) ∧ Below w1.heap.size w1 wr ∧ Hid (Below w.heap.size w wr) ∧ Hid (ZBox wr (w.heap.size + 1)) ∧ TBox wr w.heap.size A1 cs.length c1 x A2 rs.length c2) (fun _ i _ => L.length - (intOf i).toNat)
  case atStart => exact ⟨0, Nat.zero_le _, rfl, own0, hb4.out, B4, Z4, X4.out⟩
  case round =>
    clear own0 hb4 B4 X4 Z4 I4
    obtain ⟨k, hk, rfl, hown, hb, HB, HZ, hx⟩ := hrel
    have HX := Lib.hid hx
    obtain ⟨p0, p1, p2, p3⟩ := hx
    clear p3
    by_cases hlt : k < L.length
    · clear p0 p1
      rcases hrow with hz | ⟨b, off, rfl, hB, hrow⟩
      · omega
      · have hkl : (k : Int) < (L.length : Int) := by omega
        have v1 := hrow k hlt
        rw [Nat.mul_one] at v1
        obtain ⟨i, hi, hLi⟩ := HM.out k hlt
        rw [hLi] at v1
        have d1 := (hb.cell (p := ⟨b, off + k, none⟩) hB).trans v1
        obtain ⟨b2, off2, rfl, hB2, u3⟩ := out_at HR.out hi
        have d2 := (HB.out.cell (p := ⟨b2, off2 + i * 2 + 1, none⟩) hB2).trans u3
        have hil : (i : Int) < (rs.length : Int) := by omega
        have HNX := Lib.hid (show outK rs (L.take (k + 1)) = outK rs (L.take k) ++ [(rs.getD i ([], 0)).2] by rw [HTK.out k hlt, hLi, Int.toNat_natCast])
        have hln : (outK rs (L.take k)).length ≤ 12 := by rw [HLN.out, List.length_take]; omega
        have HBB := Lib.hid hb
        have HO := Lib.hid hown
        generalize (rs.getD i ([], 0)).2 = y at d2 HNX
        have hown4 := World.ownsRow.alloc hown (.cells #[.int .i64 y] 3)
        have ba : Below wr.heap.size wr (wr.alloc (.cells #[.int .i64 y] 3)) := (Below.refl _ _).alloc (Nat.le_refl _) _
        have hb3 := Lib.hid (hb.trans (ba.mono hb.size))
        have HB3 := Lib.hid (HB.out.trans (ba.mono HB.out.size))
        have HZ3 := Lib.hid (HZ.out.step ba)
        have HX3 := Lib.hid (HX.out.step ba)
        have HL' := Lib.hid (show ∀ i, u6.ownBlock = some i → w1.heap.size ≤ i from fun i hi => (hown.lt i hi).1)
        have HSZ := Lib.hid hb.size
        clear u3 hrow v1 hb hown hLi ba
        go_wp2_with (at_builtin; refine wpList_append_own _ rfl (.tmp 21) (.tmp 28) 26 rfl w1.heap.size 3 i0 _ 1 8 Tryz.underlying26 hi0 hz0 hz1 hz2 rfl (by decide) _ (outK rs (L.take k)).length (intCells (outK rs (L.take k))) rfl hown4 ⟨wr.heap.size, 0, none⟩ 1 1 [.int .i64 y] rfl rfl ?hc1 ?hc2 ?hc3 ?hc4 ?hc5 ?_; rotate_right; intro v' w5 hown5 hgrow _)
        case hc1 => exact cell_int _ _ _ rfl
        case hc2 => simp [Value.oneCell']
        case hc3 => unfold maxLen; omega
        case hc4 => omega
        case hc5 => have := HSZ.out; simp; omega
        have hb5 := hb3.out.grown hgrow hb3.out.size HL'.out
        have hB5 := Lib.hid (HB3.out.grown hgrow HB3.out.size (fun i hi => by have := HL'.out i hi; have := BS.out; omega))
        have hz5 := Lib.hid (HZ3.out.grown hgrow (fun i hi => by have := HL'.out i hi; have := ZL.out; omega))
        have hx5 := HX3.out.grown hgrow (fun i hi => by have := HL'.out i hi; have := ZL.out; omega)
        go_roundw
        case rel => exact ⟨k + 1, hlt, by go_num, by rw [HNX.out]; exact OwnI.of_append hown5, hb5, hB5, hz5, hx5⟩
        case measure => simp [intOf]; omega
    · obtain rfl : k = L.length := by omega
      rw [List.take_of_length_le (Nat.le_refl _)] at hown
      obtain ⟨A5, c5, rfl, hO⟩ := hown.form HFI.out
      have HO := Lib.hid hO.ints
      clear hown hO hb hrow
      go_wp2_with fail
      clear p0 p1 p2
      refine (implDO_any a1 a2 a3 x _ _ (outK rs L) wr (HE.out.step HB.out) HO.out).mono ?_
      rintro e w6 ⟨A6, c6, rfl, h6, b6⟩
      have H6 := Lib.hid h6
      have ZL6 := Lib.hid HZ.out.2.2.2
      have BS6 := Lib.hid HB.out.size
      have B6 := Lib.hid (HB.out.trans (b6.mono HB.out.size))
      have Z6 := Lib.hid (HZ.out.step b6)
      obtain ⟨⟨u0, g0⟩, ⟨u1, g1⟩, fz, _⟩ := Z6.out
      have f0 := fz 0
      have f1 := fz 1
      clear h6 b6 fz
      go_wp2
      exact res_fin rfl Z6.out (by omega) ⟨_, ZL6.out, BS6.out, H6.out⟩ B6.out rfl (fun {F} k0 k1 => by simp [results, Tryz.results26, go_sem, k0, k1])

set_option maxRecDepth 100000 in
set_option maxHeartbeats 4000000 in
theorem implDcd_any (a1 a2 a3 : Addr) (v : Value) (t : Tb) (A : Option Addr) (c : Nat) (ns : List Int) (w : World) (hE : EndsIs w a1 a2 a3) (hT : TabAt w w.heap.size v t) (hN : IntsAt w w.heap.size A c ns) :
    Calls Tryz.prog 9 #[v, .slice A ns.length c] w (ResN (dV t ns) w) := by
  have HT := Lib.hid hT
  have HN := Lib.hid hN
  have HE := Lib.hid hE
  obtain ⟨A1, c1, A2, c2, rfl, hC, hR⟩ := hT
  obtain ⟨cs, x, rs⟩ := t
  simp only [] at HT ⊢
  clear hC hR hN hE
  have hb0 : Below w.heap.size w ((w.alloc (.cells #[.slice A1 cs.length c1, .int .i64 x, .slice A2 rs.length c2] 34)).alloc (.cells #[.int .i64 0, .slice none 0 0] 29)) := ((Below.refl _ _).alloc (Nat.le_refl _) _).alloc (by simp) _
  have X := Lib.hid ((TBox.made w A1 cs.length c1 x A2 rs.length c2 34).step ((Below.refl _ _).alloc (Nat.le_refl _) (.cells #[.int .i64 0, .slice none 0 0] 29)))
  have Z := Lib.hid (ZBox.made w 29 (.cells #[.slice A1 cs.length c1, .int .i64 x, .slice A2 rs.length c2] 34))
  obtain ⟨p0, p1, p2, p3⟩ := X.out
  clear p3
  go_enter Tryz.func9, Tryz.ntmps9
  go_wp2_with fail
  clear p0 p1 p2
  generalize ((w.alloc (.cells #[.slice A1 cs.length c1, .int .i64 x, .slice A2 rs.length c2] 34)).alloc (.cells #[.int .i64 0, .slice none 0 0] 29)) = W at hb0 X Z ⊢
  refine (implInV_any _ ⟨cs, x, rs⟩ _ _ ns W (HT.out.step hb0) (HN.out.step hb0)).mono ?_
  rintro e w1 ⟨rfl, b1⟩
  obtain ⟨p0, p1, p2, p3⟩ := X.out.step b1
  have B := Lib.hid (hb0.trans (b1.mono hb0.size))
  replace Z := Lib.hid (Z.out.step b1)
  clear p3 X b1 hb0
  have ZL := Lib.hid Z.out.2.2.2
  have BS := Lib.hid B.out.size
  cases htv : inpB ⟨cs, x, rs⟩ ns
  · have hv := Lib.hid (d_no htv)
    have hO := Lib.hid (OwnN.nil w1 w1.heap.size)
    obtain ⟨⟨u0, g0⟩, ⟨u1, g1⟩, fz, _⟩ := Z.out
    have f0 := fz 0
    have f1 := fz 1
    clear htv fz
    go_wp2
    exact res_fin hv.out Z.out (by omega) ⟨_, ZL.out, BS.out, hO.out⟩ B.out rfl (fun {F} k0 k1 => by simp [results, Tryz.results9, go_sem, k0, k1])
  · have HI := Lib.hid htv
    have hv := Lib.hid (d_yes htv)
    clear htv
    go_wp2_with fail
    clear p0 p1 p2
    refine (implTab4_any a1 a2 a3 _ ⟨cs, x, rs⟩ _ _ ns w1 (HE.out.step B.out) (HT.out.step B.out) (HN.out.step B.out) HI.out).mono ?_
    rintro e w2 ⟨A', c', rfl, hO, b2⟩
    have HO := Lib.hid hO
    have HB := Lib.hid (B.out.trans (b2.mono B.out.size))
    replace Z := Lib.hid (Z.out.step b2)
    obtain ⟨⟨u0, g0⟩, ⟨u1, g1⟩, fz, _⟩ := Z.out
    have f0 := fz 0
    have f1 := fz 1
    clear hO b2 fz
    go_wp2
    exact res_fin hv.out Z.out (by omega) ⟨_, ZL.out, BS.out, HO.out⟩ HB.out rfl (fun {F} k0 k1 => by simp [results, Tryz.results9, go_sem, k0, k1])
theorem dV_small {t : Tb} {ns : List Int} : (dV t ns).2.length ≤ 12 := by
  unfold dV
  split
  · rename_i h
    have hl := outs_len t ns
    have := (tab_parts (inp_parts h).1).1.2.2.1
    have hs := srK_len (outsV t ns) (outsV t ns).length
    unfold dcV
    repeat' split
    all_goals simp
    all_goals omega
  · simp
end Go.Proofs.YtamfmemdhldmjaaGreatDoor
