/-
  Contracts of the program's sets of spans and unions, and of the model's unions.
-/
import Derived.Test.YthdmoaimgbffmaaJn
import Derived.Test.YthdmoaimgbffmaaSo
namespace Go.Proofs.Ythdmoaimgbffmaa
open Go.RowKit Sets

theorem flatL_one (A : Option Addr) (c : Nat) (xs : List Sp) : flatL [(A, c, xs)] 1 = xs := by simp [flatL]
theorem flatL_two (A B : Option Addr) (c d : Nat) (xs ys : List Sp) : flatL [(A, c, xs), (B, d, ys)] 2 = xs ++ ys := by simp [flatL]

theorem join1_any (lb : Nat) (A : Option Addr) (c : Nat) (xs : List Sp) (hT : xs.length ≤ 1000) (hE : Ends xs) (w : World) (hc : w.cell? ⟨lb, 0, none⟩ = some (.slice A xs.length c)) (hl : lb < w.heap.size) (h : Reads w w.heap.size A c xs) (hA : A = none → c = 0) :
    Calls Try.prog 41 #[.slice (some ⟨lb, 0, none⟩) 1 1] w (JoinRes xs w) := by
  have e := flatL_one A c xs
  have hL : LsAt w lb [(A, c, xs)] := by
    refine ⟨fun i hi => ?_, fun i hi => ?_, fun i hi => ?_, hl⟩
    all_goals
      have : i = 0 := by simp at hi; omega
      subst this
    · exact hc
    · exact h
    · exact hA
  have q := join_all lb [(A, c, xs)] (by simp) (by show (flatL [(A, c, xs)] 1).length ≤ 1000; rw [e]; exact hT) (by show Ends (flatL [(A, c, xs)] 1); rw [e]; exact hE) w hL
  have q2 : Calls Try.prog 41 #[.slice (some ⟨lb, 0, none⟩) 1 1] w (JoinRes (flatL [(A, c, xs)] 1) w) := q
  rw [e] at q2
  exact q2
theorem join2_any (lb : Nat) (A B : Option Addr) (c d : Nat) (xs ys : List Sp) (hT : xs.length + ys.length ≤ 1000) (hE : Ends (xs ++ ys)) (w : World) (hc : w.cell? ⟨lb, 0, none⟩ = some (.slice A xs.length c)) (hd : w.cell? ⟨lb, 1, none⟩ = some (.slice B ys.length d)) (hl : lb < w.heap.size)
    (h : Reads w w.heap.size A c xs) (h2 : Reads w w.heap.size B d ys) (hA : A = none → c = 0) (hB : B = none → d = 0) :
    Calls Try.prog 41 #[.slice (some ⟨lb, 0, none⟩) 2 2] w (JoinRes (xs ++ ys) w) := by
  have e := flatL_two A B c d xs ys
  have hL : LsAt w lb [(A, c, xs), (B, d, ys)] := by
    refine ⟨fun i hi => ?_, fun i hi => ?_, fun i hi => ?_, hl⟩
    all_goals
      have : i = 0 ∨ i = 1 := by simp at hi; omega
      rcases this with rfl | rfl
    · exact hc
    · exact hd
    · exact h
    · exact h2
    · exact hA
    · exact hB
  have q := join_all lb [(A, c, xs), (B, d, ys)] (by simp) (by show (flatL [(A, c, xs), (B, d, ys)] 2).length ≤ 1000; rw [e, List.length_append]; exact hT) (by show Ends (flatL [(A, c, xs), (B, d, ys)] 2); rw [e]; exact hE) w hL
  have q2 : Calls Try.prog 41 #[.slice (some ⟨lb, 0, none⟩) 2 2] w (JoinRes (flatL [(A, c, xs), (B, d, ys)] 2) w) := q
  rw [e] at q2
  exact q2

theorem fits_within {xs : List Sp} (hn : Norm xs) (h : Within xs) : Fits xs := fun x hx => by
  have a := h x hx
  have b := hn.le x hx
  unfold I64
  omega
theorem ends_lim {xs : List Sp} (h : LimAll xs) : Ends xs := fun x hx => by
  obtain ⟨i, hi, rfl⟩ := List.getElem_of_mem hx
  have := (limB_iff _ _).1 (h i hi)
  unfold Ythdmoaimgbffmaa.lo Ythdmoaimgbffmaa.hi at this
  rw [List.getD_eq_getElem?_getD, List.getElem?_eq_getElem hi] at this
  exact ⟨this.1.1, this.1.2, this.2.1, this.2.2⟩
theorem join_eq {xs rs : List Sp} (h1 : Norm rs) (h2 : Within rs) (h3 : ∀ n, memS rs n ↔ memS xs n) : fromF (flag xs) 199 = rs := eq_fromF rs h1 h2 _ fun j _ => (flag_iff xs j).trans (h3 _).symm

set_option maxRecDepth 100000 in
set_option maxHeartbeats 1000000 in
theorem implOf_any (A : Option Addr) (c : Nat) (xs : List Sp) (w : World) (h : Reads w w.heap.size A c xs) (hA : A = none → c = 0) :
    Calls Try.prog 12 #[.slice A xs.length c] w (OwnRes2 w.heap.size (setOfV xs) (setOfB xs) w) := by
  have H := Lib.hid h
  have HA := Lib.hid hA
  clear hA
  obtain ⟨hlc, hc, hfit, hrow⟩ := h
  by_cases h100 : 100 < xs.length
  · have hb := Lib.hid (setOf_long h100)
    have hv := Lib.hid (setOfV_no hb.out)
    have h1 : (100 : Int) < (xs.length : Int) := by omega
    go_enter Try.func12, Try.ntmps12
    go_wp2
    go_ret2
    unfold OwnRes2
    rw [hv.out, hb.out]
    exact ⟨_, rfl, OwnS.nil _ _, fits_nil, Below.refl _ _⟩
  · have h1 : ¬ (100 : Int) < (xs.length : Int) := by omega
    go_enter Try.func12, Try.ntmps12
    go_wp2
    go_loopw [11] (fun i wr => ∃ k : Nat, k ≤ xs.length ∧ i = .int .i64 k ∧ (∀ j, j < k → limB (lo xs j) (hi xs j) = true) ∧ Below w.heap.size w wr) (fun i _ => xs.length - (intOf i).toNat)
    case atStart => exact ⟨0, Nat.zero_le _, rfl, fun j hj => absurd hj (by omega), Below.refl _ _⟩
    case round =>
      obtain ⟨k, hk, rfl, hall, hbw⟩ := hrel
      have hsz := hbw.size
      by_cases hlt : k < xs.length
      · rcases hrow with rfl | ⟨b, off, rfl, hB, hrow⟩
        · simp at hlt
        · have hkl : (k : Int) < (xs.length : Int) := by omega
          obtain ⟨c1, c2⟩ := (hrow.below hbw hB) k hlt
          have HL := Lib.hid hall
          clear hall
          cases hL : limB (lo xs k) (hi xs k)
          · have hb := Lib.hid (setOf_out hlt hL)
            have hv := Lib.hid (setOfV_no hb.out)
            go_wp2_with (go_at_call 39; refine (inLimits_any _ _ _).mono ?_; rw [hL]; rintro e w' ⟨rfl, rfl⟩)
            go_ret2
            unfold OwnRes2
            rw [hv.out, hb.out]
            exact ⟨_, rfl, OwnS.nil _ _, fits_nil, (hbw.alloc hsz _).alloc (by simp; omega) _⟩
          · have HLk := Lib.hid hL
            go_wp2_with (go_at_call 39; refine (inLimits_any _ _ _).mono ?_; rw [hL]; rintro e w' ⟨rfl, rfl⟩)
            go_roundw
            case rel => exact ⟨k + 1, hlt, by go_num, (fun j hj => by
              rcases Nat.lt_or_ge j k with h | h
              · exact HL.out j h
              · obtain rfl : j = k := by omega
                exact HLk.out), (hbw.alloc hsz _).alloc (by simp; omega) _⟩
            case measure => simp [intOf]; omega
      · have hlim : LimAll xs := fun j hj => hall j (by omega)
        have HE := Lib.hid (ends_lim hlim)
        have hin := Lib.hid (setOf_in (xs := xs) (by omega) hlim)
        clear hall hlim
        have HR := Lib.hid (H.out.step (hbw.alloc hsz (.cells #[.slice A xs.length c] 23)))
        have BW := hbw.alloc hsz (.cells #[.slice A xs.length c] 23)
        have hcell : (wr.alloc (.cells #[.slice A xs.length c] 23)).cell? ⟨wr.heap.size, 0, none⟩ = some (.slice A xs.length c) := by rw [World.cell?_alloc_new]; rfl
        go_wp2_with fail
        refine (join1_any _ A c xs (by omega) HE.out _ hcell (by simp) HR.out HA.out).mono ?_
        generalize wr.alloc (.cells #[.slice A xs.length c] 23) = wj at BW
        rintro e w5 ⟨v5, rs, rfl, own5, n5, wi5, m5, l5, b5⟩
        have hf5 : Fits rs := fits_within n5 wi5
        obtain ⟨A5, c5, hv5, r5, _⟩ := own5.form hf5
        subst hv5
        clear r5
        have B5 := BW.trans (b5.mono BW.size)
        have hj := Lib.hid (join_eq n5 wi5 m5)
        by_cases h12 : rs.length ≤ 12
        · have hk2 : Hid (setOfB xs = true) := Lib.hid (by rw [hin.out, hj.out]; exact decide_eq_true h12)
          have hm : Hid (setOfV xs = rs) := Lib.hid (by rw [setOfV_yes hk2.out]; exact hj.out)
          go_wp2_with fail
          refine (asSet_any _ _ _ _ (by omega)).mono ?_
          rw [if_pos h12, decide_eq_true h12]
          rintro e w6 ⟨rfl, rfl⟩
          go_wp2
          go_ret2
          unfold OwnRes2
          rw [hm.out, hk2.out]
          exact ⟨_, rfl, own5.mono BW.size, hf5, B5⟩
        · have hk2 : Hid (setOfB xs = false) := Lib.hid (by rw [hin.out, hj.out]; exact decide_eq_false h12)
          have hm : Hid (setOfV xs = []) := Lib.hid (setOfV_no hk2.out)
          go_wp2_with fail
          refine (asSet_any _ _ _ _ (by omega)).mono ?_
          rw [if_neg h12, decide_eq_false h12]
          rintro e w6 ⟨rfl, rfl⟩
          go_wp2
          go_ret2
          unfold OwnRes2
          rw [hm.out, hk2.out]
          exact ⟨_, rfl, OwnS.nil _ _, fits_nil, B5⟩

def unionP (xs ys : List Sp) : List Sp := fromF (fun j => flag xs j || flag ys j) 199
def unionB (xs ys : List Sp) : Bool := bothB xs ys && decide ((unionP xs ys).length ≤ 12)
def unionV (xs ys : List Sp) : List Sp := if unionB xs ys = true then unionP xs ys else []
theorem fromF_congr (f g : Nat → Bool) (h : ∀ j, f j = g j) : ∀ k, fromF f k = fromF g k
  | 0 => rfl
  | k + 1 => by simp only [fromF]; rw [fromF_congr f g h k, h k]
theorem flag_or (xs ys : List Sp) : unionP xs ys = fromF (flag (xs ++ ys)) 199 := fromF_congr _ _ (fun j => by unfold flag; rw [haveB_append]) _
theorem ends_valid {xs : List Sp} (h : validB xs = true) : Ends xs := fun x hx => by
  obtain ⟨a, b⟩ := norm_of_valid h
  have := a.le x hx
  have := b x hx
  omega

set_option maxRecDepth 100000 in
set_option maxHeartbeats 1000000 in
theorem implUnion_any (A1 A2 : Option Addr) (c1 c2 : Nat) (xs ys : List Sp) (w : World) (h1 : Reads w w.heap.size A1 c1 xs) (h2 : Reads w w.heap.size A2 c2 ys) (z1 : A1 = none → c1 = 0) (z2 : A2 = none → c2 = 0) :
    Calls Try.prog 18 #[.slice A1 xs.length c1, .slice A2 ys.length c2] w (OwnRes2 w.heap.size (unionV xs ys) (unionB xs ys) w) := by
  have H1 := Lib.hid h1
  have H2 := Lib.hid h2
  have Z1 := Lib.hid z1
  have Z2 := Lib.hid z2
  clear h1 h2 z1 z2
  go_enter Try.func18, Try.ntmps18
  go_wp2_with fail
  refine (implValid_any _ _ xs _ H1.out).mono ?_
  rintro e w1 ⟨rfl, b1⟩
  have G1 := Lib.hid (H1.out.step b1)
  have G2 := Lib.hid (H2.out.step b1)
  cases hv1 : validB xs
  · have hk : Hid (unionB xs ys = false) := Lib.hid (by unfold unionB bothB; rw [hv1]; rfl)
    have hm : Hid (unionV xs ys = []) := Lib.hid (by unfold unionV; rw [hk.out]; rfl)
    go_wp2
    go_ret2
    unfold OwnRes2
    rw [hm.out, hk.out]
    exact ⟨_, rfl, OwnS.nil _ _, fits_nil, b1⟩
  · go_wp2_with fail
    refine (implValid_any _ _ ys _ G2.out).mono ?_
    rintro e w2 ⟨rfl, b2⟩
    have b02 := b1.trans (b2.mono b1.size)
    have F1 := Lib.hid (G1.out.step b2)
    have F2 := Lib.hid (G2.out.step b2)
    cases hv2 : validB ys
    · have hk : Hid (unionB xs ys = false) := Lib.hid (by unfold unionB bothB; rw [hv2, Bool.and_false]; rfl)
      have hm : Hid (unionV xs ys = []) := Lib.hid (by unfold unionV; rw [hk.out]; rfl)
      go_wp2
      go_ret2
      unfold OwnRes2
      rw [hm.out, hk.out]
      exact ⟨_, rfl, OwnS.nil _ _, fits_nil, b02⟩
    · have l1 := valid_len hv1
      have l2 := valid_len hv2
      have HV1 := Lib.hid hv1
      have HV2 := Lib.hid hv2
      have HE : Hid (Ends (xs ++ ys)) := Lib.hid (fun x hx => (List.mem_append.1 hx).elim (ends_valid hv1 x) (ends_valid hv2 x))
      clear hv1 hv2
      have BW := b02.alloc b02.size (.cells #[.slice A1 xs.length c1, .slice A2 ys.length c2] 23)
      have hcell : (w2.alloc (.cells #[.slice A1 xs.length c1, .slice A2 ys.length c2] 23)).cell? ⟨w2.heap.size, 0, none⟩ = some (.slice A1 xs.length c1) := by rw [World.cell?_alloc_new]; rfl
      have hcell2 : (w2.alloc (.cells #[.slice A1 xs.length c1, .slice A2 ys.length c2] 23)).cell? ⟨w2.heap.size, 1, none⟩ = some (.slice A2 ys.length c2) := by rw [World.cell?_alloc_new]; rfl
      have HR1 := Lib.hid (F1.out.step ((Below.refl _ w2).alloc (Nat.le_refl _) (.cells #[.slice A1 xs.length c1, .slice A2 ys.length c2] 23)))
      have HR2 := Lib.hid (F2.out.step ((Below.refl _ w2).alloc (Nat.le_refl _) (.cells #[.slice A1 xs.length c1, .slice A2 ys.length c2] 23)))
      go_wp2_with fail
      refine (join2_any _ A1 A2 c1 c2 xs ys (by omega) HE.out _ hcell hcell2 (by simp) HR1.out HR2.out Z1.out Z2.out).mono ?_
      generalize w2.alloc (.cells #[.slice A1 xs.length c1, .slice A2 ys.length c2] 23) = wj at BW
      rintro e w5 ⟨v5, rs, rfl, own5, n5, wi5, m5, l5, b5⟩
      have hf5 : Fits rs := fits_within n5 wi5
      obtain ⟨A5, c5, hv5, r5, _⟩ := own5.form hf5
      subst hv5
      clear r5
      have B5 := BW.trans (b5.mono BW.size)
      have hj := Lib.hid ((flag_or xs ys).trans (join_eq n5 wi5 m5))
      by_cases h12 : rs.length ≤ 12
      · have hk2 : Hid (unionB xs ys = true) := Lib.hid (by unfold unionB bothB; rw [HV1.out, HV2.out, hj.out]; exact decide_eq_true h12)
        have hm : Hid (unionV xs ys = rs) := Lib.hid (by unfold unionV; rw [hk2.out, if_pos rfl]; exact hj.out)
        go_wp2_with fail
        refine (asSet_any _ _ _ _ (by omega)).mono ?_
        rw [if_pos h12, decide_eq_true h12]
        rintro e w6 ⟨rfl, rfl⟩
        go_wp2
        go_ret2
        unfold OwnRes2
        rw [hm.out, hk2.out]
        exact ⟨_, rfl, own5.mono BW.size, hf5, B5⟩
      · have hk2 : Hid (unionB xs ys = false) := Lib.hid (by unfold unionB bothB; rw [HV1.out, HV2.out, hj.out]; exact decide_eq_false h12)
        have hm : Hid (unionV xs ys = []) := Lib.hid (by unfold unionV; rw [hk2.out]; rfl)
        go_wp2_with fail
        refine (asSet_any _ _ _ _ (by omega)).mono ?_
        rw [if_neg h12, decide_eq_false h12]
        rintro e w6 ⟨rfl, rfl⟩
        go_wp2
        go_ret2
        unfold OwnRes2
        rw [hm.out, hk2.out]
        exact ⟨_, rfl, OwnS.nil _ _, fits_nil, B5⟩

set_option maxRecDepth 100000 in
set_option maxHeartbeats 1000000 in
theorem specUnion_any (A1 A2 : Option Addr) (c1 c2 : Nat) (xs ys : List Sp) (w : World) (h1 : Reads w w.heap.size A1 c1 xs) (h2 : Reads w w.heap.size A2 c2 ys) :
    Calls Try.prog 21 #[.slice A1 xs.length c1, .slice A2 ys.length c2] w (OwnRes2 w.heap.size (unionV xs ys) (unionB xs ys) w) := by
  have H1 := Lib.hid h1
  have H2 := Lib.hid h2
  clear h1 h2
  go_enter Try.func21, Try.ntmps21
  go_wp2_with fail
  refine (toBelow (specValid_any _ _ xs w.heap.size _ H1.out)).mono ?_
  rintro e w1 ⟨rfl, b1⟩
  have G1 := Lib.hid (H1.out.step b1)
  have G2 := Lib.hid (H2.out.step b1)
  cases hv1 : validB xs
  · have hk : Hid (unionB xs ys = false) := Lib.hid (by unfold unionB bothB; rw [hv1]; rfl)
    have hm : Hid (unionV xs ys = []) := Lib.hid (by unfold unionV; rw [hk.out]; rfl)
    go_wp2
    go_ret2
    unfold OwnRes2
    rw [hm.out, hk.out]
    exact ⟨_, rfl, (own_empty _).mono b1.size, fits_nil, b1.alloc b1.size _⟩
  · go_wp2_with fail
    refine (toBelow (specValid_any _ _ ys w1.heap.size _ G2.out)).mono ?_
    rintro e w2 ⟨rfl, b2⟩
    have b02 := b1.trans (b2.mono b1.size)
    have F1 := Lib.hid (G1.out.step b2)
    have F2 := Lib.hid (G2.out.step b2)
    cases hv2 : validB ys
    · have hk : Hid (unionB xs ys = false) := Lib.hid (by unfold unionB bothB; rw [hv2, Bool.and_false]; rfl)
      have hm : Hid (unionV xs ys = []) := Lib.hid (by unfold unionV; rw [hk.out]; rfl)
      go_wp2
      go_ret2
      unfold OwnRes2
      rw [hm.out, hk.out]
      exact ⟨_, rfl, (own_empty _).mono b02.size, fits_nil, b02.alloc b02.size _⟩
    · have hk : Hid (unionB xs ys = decide ((unionP xs ys).length ≤ 12)) := Lib.hid (by unfold unionB bothB; rw [hv1, hv2]; rfl)
      have hj : Hid (fromF (fun j => jf false false (flag xs j) (flag ys j)) 199 = unionP xs ys) := Lib.hid rfl
      go_wp2_with fail
      refine (join_any _ _ _ _ xs ys false false _ F1.out F2.out).mono ?_
      unfold OwnRes
      rw [hj.out]
      rintro e w3 ⟨v, rfl, hown, hf, b3⟩
      have b03 := b02.trans (b3.mono b02.size)
      obtain ⟨A4, c4, hv4, r4, _⟩ := hown.form hf
      subst hv4
      clear r4
      go_wp2_with fail
      refine (done_any _ _ _ _).mono ?_
      rintro e w4 (⟨h12, rfl, rfl⟩ | ⟨h12, rfl, rfl⟩)
      · have hk2 := Lib.hid (hk.out.trans (decide_eq_true h12))
        have hm : Hid (unionV xs ys = unionP xs ys) := Lib.hid (by unfold unionV; rw [hk2.out]; rfl)
        clear h12
        go_wp2
        go_ret2
        unfold OwnRes2
        rw [hm.out, hk2.out]
        exact ⟨_, rfl, hown.mono b02.size, hf, b03⟩
      · have hk2 := Lib.hid (hk.out.trans (decide_eq_false h12))
        have hm : Hid (unionV xs ys = []) := Lib.hid (by unfold unionV; rw [hk2.out]; rfl)
        clear h12
        go_wp2
        go_ret2
        unfold OwnRes2
        rw [hm.out, hk2.out]
        exact ⟨_, rfl, (own_empty _).mono b03.size, fits_nil, b03.alloc b03.size _⟩

theorem setOfV_le (xs : List Sp) : (setOfV xs).length ≤ 65536 := by
  unfold setOfV
  split
  · have := fromF_len (flag xs) 199; omega
  · simp
theorem unionV_le (xs ys : List Sp) : (unionV xs ys).length ≤ 65536 := by
  unfold unionV
  split
  · have := fromF_len (fun j => flag xs j || flag ys j) 199; unfold unionP; omega
  · simp
theorem OwnS.form0 {w : World} {base : Nat} {v : Value} {xs : List Sp} (h : OwnS w base v xs) (hf : Fits xs) :
    ∃ A c, v = .slice A xs.length c ∧ Reads w w.heap.size A c xs ∧ (A = none → c = 0) := by
  obtain ⟨A, c, hv, hr, _⟩ := h.form hf
  refine ⟨A, c, hv, hr, fun hA => ?_⟩
  obtain ⟨_, ⟨h2, _⟩ | ⟨g, cap, cur, h2, _⟩⟩ := h
  · rw [h2] at hv
    injection hv with _ _ h3
    exact h3.symm
  · rw [h2, hA] at hv
    injection hv with h3
    cases h3
end Go.Proofs.Ythdmoaimgbffmaa
