/-
  All cuts of a table, and the number of its cells: what they are, and the model.
-/
import Derived.Test.YtamfmemdhldmjaaHeM
namespace Go.Proofs.Ytamfmemdhldmjaa
open Go.RowKit Sets

def gridC (t : Tb) : List (List Sp) := (List.range t.cols.length).map (cutC t)
def cntP (gs : List (List Sp)) : Nat → Int
  | 0 => 1
  | k + 1 => cntP gs k * ((gs.getD k []).length : Int)
def cntV (t : Tb) : Int := cntP (gridC t) (gridC t).length
/-- the table is valid and has not too many cells -/
def gridB (t : Tb) : Bool := tabB t && decide (cntV t ≤ 20000)
def gridV (t : Tb) : List (List Sp) := if gridB t = true then gridC t else []
def ccV (t : Tb) : Int := if gridB t = true then cntV t else 0
theorem gridC_len (t : Tb) : (gridC t).length = t.cols.length := by simp [gridC]
theorem gridC_at {t : Tb} {k : Nat} (hk : k < t.cols.length) : (gridC t).getD k [] = cutC t k := by
  unfold gridC
  rw [List.getD_eq_getElem?_getD, List.getElem?_map, List.getElem?_range hk]; rfl
theorem gridC_take {t : Tb} {k : Nat} (hk : k < t.cols.length) : (gridC t).take (k + 1) = (gridC t).take k ++ [cutC t k] := by
  have h : k < (gridC t).length := by rw [gridC_len]; exact hk
  rw [List.take_succ_eq_append_getElem h]
  congr 2
  have := gridC_at hk
  rw [List.getD_eq_getElem?_getD, List.getElem?_eq_getElem h] at this
  exact this
theorem cntP_bound {t : Tb} (h : tabB t = true) : ∀ k, k ≤ t.cols.length → 1 ≤ cntP (gridC t) k ∧ cntP (gridC t) k ≤ 199 ^ k := by
  intro k
  induction k with
  | zero => intro _; exact ⟨by simp [cntP], by simp [cntP]⟩
  | succ k ih =>
    intro hk
    obtain ⟨i1, i2⟩ := ih (by omega)
    have hl := cutC_len h (k := k) (by omega)
    unfold cntP
    rw [gridC_at (by omega), Int.pow_succ]
    constructor
    · have := Int.mul_le_mul i1 (show (1 : Int) ≤ ((cutC t k).length : Int) by omega) (by omega) (by omega)
      omega
    · exact Int.mul_le_mul i2 (by omega) (by omega) (by omega)
theorem cntP_small {t : Tb} (h : tabB t = true) {k : Nat} (hk : k ≤ t.cols.length) : 1 ≤ cntP (gridC t) k ∧ cntP (gridC t) k ≤ 1568239201 := by
  obtain ⟨h1, h2⟩ := cntP_bound h k hk
  refine ⟨h1, Int.le_trans h2 ?_⟩
  have := (tab_parts h).1.2.1
  have : k = 0 ∨ k = 1 ∨ k = 2 ∨ k = 3 ∨ k = 4 := by omega
  rcases this with rfl | rfl | rfl | rfl | rfl <;> decide
theorem cntP_succ {t : Tb} {k : Nat} (hk : k < t.cols.length) : cntP (gridC t) (k + 1) = cntP (gridC t) k * ((cutC t k).length : Int) := by
  rw [cntP, gridC_at hk]
theorem fits_cutC {t : Tb} (h : tabB t = true) {k : Nat} (hk : k < t.cols.length) : Fits (cutC t k) := by
  have hc := tab_col h hk
  unfold cutC
  exact cuK_fits _ (n := ((t.cols.getD k (false, 0, 0)).2.2 - (t.cols.getD k (false, 0, 0)).2.1).toNat) hc.1 (by omega) (Nat.le_refl _)

/-- the cells of a list of slices, each of which the call owns in a block of its own -/
def SlO (w : World) (base : Nat) (vs : List Value) (xss : List (List Sp)) : Prop :=
  vs.length = xss.length ∧ (∀ i, i < xss.length → ∃ v, vs[i]? = some v ∧ OwnS w base v (xss.getD i []) ∧ Fits (xss.getD i [])) ∧
    ∀ (i j : Nat) (u v : Value) (b : Nat), i < j → vs[i]? = some u → vs[j]? = some v → u.ownBlock = some b → v.ownBlock = some b → False
theorem SlO.nil (w : World) (base : Nat) : SlO w base [] [] := ⟨rfl, fun i hi => absurd hi (by simp), fun i j u v b _ h _ _ _ => by simp at h⟩
theorem SlO.keep {w w' : World} {base : Nat} {vs : List Value} {xss : List (List Sp)} (h : SlO w base vs xss) (hb : Below w.heap.size w w') : SlO w' base vs xss :=
  ⟨h.1, fun i hi => by obtain ⟨v, q1, q2, q3⟩ := h.2.1 i hi; exact ⟨v, q1, q2.below hb, q3⟩, h.2.2⟩
theorem SlO.low {w : World} {base base' : Nat} {vs : List Value} {xss : List (List Sp)} (h : SlO w base vs xss) (hb : base' ≤ base) : SlO w base' vs xss :=
  ⟨h.1, fun i hi => by obtain ⟨v, q1, q2, q3⟩ := h.2.1 i hi; exact ⟨v, q1, q2.mono hb, q3⟩, h.2.2⟩
theorem SlO.push {w w' : World} {base : Nat} {vs : List Value} {xss : List (List Sp)} {v : Value} {xs : List Sp} (h : SlO w base vs xss) (hb : Below w.heap.size w w') (hB : base ≤ w.heap.size) (hs : OwnS w' w.heap.size v xs) (hf : Fits xs) : SlO w' base (vs ++ [v]) (xss ++ [xs]) := by
  have hk := h.keep hb
  refine ⟨by simp [h.1], fun i hi => ?_, fun i j u v' b hij hi hj hbu hbv => ?_⟩
  · rw [List.length_append] at hi
    simp at hi
    by_cases e : i = xss.length
    · subst e
      refine ⟨v, ?_, ?_⟩
      · rw [List.getElem?_append_right (by rw [h.1]; exact Nat.le_refl _), h.1]; simp
      · rw [getD_snoc_eq rfl]; exact ⟨hs.mono hB, hf⟩
    · obtain ⟨v2, q1, q2, q3⟩ := hk.2.1 i (by omega)
      refine ⟨v2, ?_, ?_⟩
      · rw [List.getElem?_append_left (by rw [h.1]; omega)]; exact q1
      · rw [getD_snoc_lt (by omega)]; exact ⟨q2, q3⟩
  · have hjl : j < (vs ++ [v]).length := (List.getElem?_eq_some_iff.1 hj).1
    rw [List.length_append] at hjl
    simp at hjl
    rw [List.getElem?_append_left (by omega)] at hi
    by_cases e : j = vs.length
    · subst e
      rw [List.getElem?_append_right (Nat.le_refl _)] at hj
      simp at hj
      subst hj
      have h1 := hs.lt b hbv
      have hil : i < xss.length := by rw [← h.1]; omega
      obtain ⟨v2, q1, q2, _⟩ := h.2.1 i hil
      rw [q1] at hi
      injection hi with hi
      subst hi
      have := q2.lt b hbu
      omega
    · rw [List.getElem?_append_left (by omega)] at hj
      exact h.2.2 i j u v' b hij hi hj hbu hbv
theorem tyNe : 78 ≠ 43 := by decide
/-- spans lie in other blocks than slices -/
theorem OwnS.apart {w w' : World} {base base' : Nat} {u v : Value} {n : Nat} {ws : List Value} {xs : List Sp} (h : OwnS w base v xs) (ho : w.ownsRow base' 43 1 u n ws) (hg : w.grownBy w' u.ownBlock) : OwnS w' base v xs := by
  refine ⟨h.1, h.2.imp id ?_⟩
  rintro ⟨g, cap, cur, rfl, hb', hgg, r⟩
  refine ⟨g, cap, cur, rfl, hb', ?_, r⟩
  rw [hg.block g (Array.getElem?_eq_some_iff.1 hgg).1 (fun e => by
    obtain ⟨_, ⟨rfl, _⟩ | ⟨g2, cap2, cur2, rfl, _, hg2, _⟩⟩ := ho
    · cases e
    · injection e with e
      simp only [] at e
      subst e
      rw [hgg] at hg2
      injection hg2 with hg2
      injection hg2 with _ h2 _
      exact tyNe h2)]
  exact hgg
theorem SlO.apart {w w' : World} {base base' : Nat} {u : Value} {vs ws : List Value} {n : Nat} {xss : List (List Sp)} (h : SlO w base vs xss) (ho : w.ownsRow base' 43 1 u n ws) (hg : w.grownBy w' u.ownBlock) : SlO w' base vs xss :=
  ⟨h.1, fun i hi => by obtain ⟨v, q1, q2, q3⟩ := h.2.1 i hi; exact ⟨v, q1, q2.apart ho hg, q3⟩, h.2.2⟩
/-- a row of slices that the call owns reads as a list of lists -/
theorem SlO.sets {w : World} {base base' : Nat} {v : Value} {vs : List Value} {xss : List (List Sp)} (ho : w.ownsRow base 43 1 v xss.length vs) (h : SlO w base' vs xss) : ∃ A c, v = .slice A xss.length c ∧ SetsAt w w.heap.size A c xss := by
  obtain ⟨_, ⟨rfl, hn⟩ | ⟨g, cap, cur, rfl, hb, hg, hnc, hcm, hcs, hcur⟩⟩ := ho
  · exact ⟨none, 0, by rw [hn], ⟨by omega, by omega, .inl hn⟩⟩
  · refine ⟨_, cap, rfl, hnc, by unfold maxLen at hcm; omega, .inr ⟨g, 0, rfl, (Array.getElem?_eq_some_iff.1 hg).1, fun i hi => ?_⟩⟩
    obtain ⟨v', q1, q2, q3⟩ := h.2.1 i hi
    obtain ⟨A', c', rfl, hr, _⟩ := q2.form q3
    refine ⟨A', c', ?_, hr⟩
    rw [Nat.zero_add, Nat.mul_one, ← q1, ← hcur, List.getElem?_take_of_lt (by omega)]
    simp [World.cell?, hg]
theorem cell_sl (w : World) (g : Nat) (v : Value) (hg : g = w.heap.size) : ∀ (j : Nat) (u : Value), [v][j]? = some u → (w.alloc (.cells #[v] 43)).cell? ((⟨g, 0, none⟩ : Addr).add j) = some u := by
  subst hg
  intro j u hu
  have hadd : (⟨w.heap.size, 0, none⟩ : Addr).add j = ⟨w.heap.size, j, none⟩ := by unfold Addr.add; split <;> simp_all
  rw [hadd, World.cell?_alloc_new]
  simpa using hu
theorem infoSl : ∃ i0, Try.prog.info? 43 = some i0 ∧ i0.zero = some (.slice none 0 0) ∧ i0.size = 1 ∧ i0.bytes = 24 := info_parts infoSlice

theorem ownsRow_low {w w' : World} {base : Nat} {e : TypeId} {size : Nat} {v : Value} {n : Nat} {xs : List Value} (h : w.ownsRow base e size v n xs) (hb : Below w.heap.size w w') : w'.ownsRow base e size v n xs := by
  refine ⟨h.1, h.2.imp id ?_⟩
  rintro ⟨g, cap, cur, rfl, hb', hg, r⟩
  exact ⟨g, cap, cur, rfl, hb', by rw [hb.block g (Array.getElem?_eq_some_iff.1 hg).1]; exact hg, r⟩
/-- what a call hands back that has made the cuts of all columns -/
def GridR (gs : List (List Sp)) (n : Int) (ok : Bool) (w : World) (e : Ending) (w' : World) : Prop := ∃ A' c', e = .returned (.tuple #[.slice A' gs.length c', .int .i64 n, .bool ok]) ∧ SetsAt w' w'.heap.size A' c' gs ∧ Below w.heap.size w w'

set_option maxRecDepth 100000 in
set_option maxHeartbeats 4000000 in
theorem specGrid_any (v : Value) (t : Tb) (w : World) (hT : TabAt w w.heap.size v t) (hV : tabB t = true) :
    Calls Try.prog 103 #[v] w (GridR (gridC t) (cntV t) (decide (cntV t ≤ 20000)) w) := by
  obtain ⟨i0, hi0, hz0, hz1, hz2⟩ := infoSl
  have HT := Lib.hid hT
  obtain ⟨A1, c1, A2, c2, rfl, hC, hR⟩ := hT
  have HV := Lib.hid hV
  have hc4 := (tab_parts hV).1.2.1
  have HSM := Lib.hid (fun (k : Nat) => cntP_small hV (k := k))
  have HSU := Lib.hid (fun (k : Nat) => cntP_succ (t := t) (k := k))
  have HTK := Lib.hid (fun (k : Nat) => gridC_take (t := t) (k := k))
  have HGL := Lib.hid (gridC_len t)
  have HCV := Lib.hid (show cntV t = cntP (gridC t) t.cols.length by unfold cntV; rw [gridC_len])
  have HCL := Lib.hid (fun (k : Nat) => cutC_len hV (k := k))
  obtain ⟨cs, x, rs⟩ := t
  simp only [] at HT HSM HSU HTK HGL HCV HCL hc4 ⊢
  obtain ⟨t, ht⟩ : ∃ t : Tb, (⟨cs, x, rs⟩ : Tb) = t := ⟨_, rfl⟩
  rw [ht] at HT HV HSM HSU HTK HGL HCV HCL ⊢
  clear hC hR hV
  have hb0 : Below w.heap.size w ((w.alloc (.cells #[.slice A1 cs.length c1, .int .i64 x, .slice A2 rs.length c2] 32)).alloc (.cells #[] 43)) := ((Below.refl _ _).alloc (Nat.le_refl _) _).alloc (by simp) _
  have X := Lib.hid ((TBox.made w A1 cs.length c1 x A2 rs.length c2 32).step ((Below.refl _ _).alloc (Nat.le_refl _) (.cells #[] 43)))
  have hsz : (w.alloc (.cells #[.slice A1 cs.length c1, .int .i64 x, .slice A2 rs.length c2] 32)).heap.size = w.heap.size + 1 := by simp
  have hown0 : ((w.alloc (.cells #[.slice A1 cs.length c1, .int .i64 x, .slice A2 rs.length c2] 32)).alloc (.cells #[] 43)).ownsRow (w.heap.size + 1) 43 1 (.slice (some ⟨w.heap.size + 1, 0, none⟩) 0 0) 0 [] := by
    have := World.ownsRow_lit (w.alloc (.cells #[.slice A1 cs.length c1, .int .i64 x, .slice A2 rs.length c2] 32)) (e := 43) (size := 1) (base := w.heap.size + 1) #[] 0 (by rw [hsz]; exact Nat.le_refl _) (by decide) rfl
    rw [hsz] at this
    exact this
  go_enter Try.func103, Try.ntmps103
  go_wp2
  clear hsz
  generalize (w.alloc (.cells #[.slice A1 cs.length c1, .int .i64 x, .slice A2 rs.length c2] 32)).alloc (.cells #[] 43) = W at hb0 X hown0 ⊢
  go_loopw [5, 6, 7] (fun u q i wr => ∃ (k : Nat) (vs : List Value), k ≤ cs.length ∧ i = .int .i64 k ∧ q = .int .i64 (cntP (gridC t) k) ∧ wr.ownsRow (w.heap.size + 1) 43 1 u k vs ∧ Hid (SlO wr (w.heap.size + 1) vs ((gridC t).take k)) ∧ Below w.heap.size w wr ∧ TBox wr w.heap.size A1 cs.length c1 x A2 rs.length c2) (fun _ _ i _ => cs.length - (intOf i).toNat)
  case atStart => exact ⟨0, [], Nat.zero_le _, rfl, rfl, hown0, Lib.hid (SlO.nil _ _), hb0, X.out⟩
  case round =>
    clear hb0 hown0 X
    obtain ⟨k, vs, hk, rfl, rfl, hown, hsl, hb, hx⟩ := hrel
    have HX := Lib.hid hx
    have HB := Lib.hid hb
    have HO := Lib.hid hown
    obtain ⟨p0, p1, p2, p3⟩ := hx
    clear p3 hb hown
    by_cases hlt : k < cs.length
    · have hkl : (k : Int) < (cs.length : Int) := by omega
      have hkt : k < t.cols.length := by rw [← ht]; exact hlt
      have hs1 := HSM.out k (by omega)
      have hs2 := HSM.out (k + 1) (by omega)
      have hsu := HSU.out k hlt
      have htk := Lib.hid (HTK.out k hlt)
      have hcl := HCL.out k hlt
      have HSU2 := Lib.hid hsu
      have hkk : ((gridC t).take k).length = k := by rw [List.length_take, HGL.out]; omega
      rw [hsu] at hs2
      clear hsu
      go_wp2_with fail
      clear p0 p1 p2
      refine (specCuts_any _ t k wr ((HT.out.below HB.out).mono HB.out.size) HV.out hkt).mono ?_
      rintro e w2 ⟨v', rfl, hO, hf, b2⟩
      have hsl2 := Lib.hid (hsl.out.push b2 (Nat.le_of_lt_succ (by have := HX.out.2.2.2; omega)) hO hf)
      have HB2 := Lib.hid (HB.out.trans (b2.mono HB.out.size))
      have HX2 := Lib.hid (HX.out.step b2)
      have hlen : lenV v' = (cutC t k).length := by obtain ⟨A', c', rfl, _⟩ := hO.form hf; rfl
      obtain ⟨A', c', hv', _, _⟩ := hO.form hf
      subst hv'
      have HO2 := Lib.hid (ownsRow_low HO.out b2)
      have hown4 := World.ownsRow.alloc HO2.out (.cells #[.slice A' (cutC t k).length c'] 43)
      have ba : Below w2.heap.size w2 (w2.alloc (.cells #[.slice A' (cutC t k).length c'] 43)) := (Below.refl _ _).alloc (Nat.le_refl _) _
      have hsl3 := Lib.hid (hsl2.out.keep ba)
      have HX3 := Lib.hid (HX2.out.step ba)
      have hb3 := Lib.hid (HB2.out.trans (ba.mono HB2.out.size))
      have HROW := Lib.hid (show ∀ r, u5.ownBlock = some r → w.heap.size + 1 ≤ r from fun i hi => (World.ownsRow.lt HO2.out i hi).1)
      have hk4 : k ≤ 4 := by omega
      have HK4 := Lib.hid hk4
      have HOW4 := Lib.hid hown4
      obtain ⟨cl, hcln⟩ : ∃ cl, (cutC t k).length = cl := ⟨_, rfl⟩
      rw [hcln] at hs2 hcl hsl2 hsl3 HX3 hb3 HSU2 hown4 HOW4 ba ⊢
      have hsz2 := HX2.out.2.2.2
      clear hO hf b2 hsl hlen ba
      go_wp2_with (at_builtin; refine wpList_append_own _ rfl (.tmp 20) (.tmp 22) 79 rfl (w.heap.size + 1) 43 i0 _ 1 24 Try.underlying79 hi0 hz0 hz1 hz2 rfl (by decide) _ k vs rfl hown4 ⟨w2.heap.size, 0, none⟩ 1 1 [.slice A' cl c'] rfl rfl ?hc1 ?hc2 ?hc3 ?hc4 ?hc5 ?_; rotate_right; intro v' w5 hown5 hgrow _)
      case hc1 => exact cell_sl _ _ _ rfl
      case hc2 => simp [Value.oneCell']
      case hc3 => have := HK4.out; unfold maxLen; omega
      case hc4 => have := HK4.out; omega
      case hc5 => simp; omega
      have hx5 := HX3.out.grown hgrow (fun i hi => by have := HROW.out i hi; omega)
      have hb5 := hb3.out.grown hgrow hb3.out.size (fun i hi => by have := HROW.out i hi; omega)
      have hsl5 := hsl3.out.apart HOW4.out hgrow
      go_roundw
      case rel => exact ⟨k + 1, _, hlt, by go_num, by rw [HSU2.out], hown5, Lib.hid (by rw [htk.out, ← hcln]; rw [← hcln] at hsl5; exact hsl5), hb5, hx5⟩
      case measure => simp [intOf]; omega
    · obtain rfl : k = cs.length := by omega
      have hkk : (gridC t).take cs.length = gridC t := List.take_of_length_le (by rw [HGL.out]; exact Nat.le_refl _)
      have hsl' := hsl.out
      rw [hkk] at hsl'
      have hgl : cs.length = (gridC t).length := HGL.out.symm
      have hown := HO.out
      rw [hgl] at hown
      obtain ⟨A', c', hu, hS⟩ := SlO.sets hown hsl'
      subst hu
      have HS := Lib.hid hS
      have HCC := Lib.hid (show cntP (gridC t) cs.length = cntV t from HCV.out.symm)
      rw [HCC.out]
      have HCN := Lib.hid (HSM.out cs.length (Nat.le_refl _))
      clear hown hsl' hsl hkk hS hgl
      go_wp2
      go_ret3
      exact ⟨A', c', rfl, HS.out, HB.out⟩
end Go.Proofs.Ytamfmemdhldmjaa
