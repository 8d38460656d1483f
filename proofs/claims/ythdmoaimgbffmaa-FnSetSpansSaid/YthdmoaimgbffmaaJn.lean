/-
  Contract of the program's join of lists of spans.
-/
import Derived.StillTailTactics
import Derived.Test.YthdmoaimgbffmaaDe
import Derived.Test.YthdmoaimgbffmaaCo
import Derived.Test.YthdmoaimgbffmaaSr
import Derived.Test.YthdmoaimgbffmaaFr
import Derived.Test.YthdmoaimgbffmaaIm
namespace Go.Proofs.Ythdmoaimgbffmaa
open Go.RowKit Sets

set_option maxRecDepth 100000 in
theorem deleteNil_any (w : World) :
    Calls Try.prog 58 #[.slice none 0 0, .func (.func 47) #[] #[]] w
      fun e w' => e = .returned (.slice none 0 0) ∧ Below w.heap.size w w' := by
  have hR : Reads w w.heap.size none 0 [] := ⟨by simp, by omega, fits_nil, .inl rfl⟩
  go_enter Try.func58, Try.ntmps58
  go_wp2_with fail
  refine (idxE_any _ 0 [] w hR).mono ?_
  rintro e w1 ⟨hidx, b1⟩
  rcases hidx with ⟨rfl, hall⟩ | ⟨k0, hk0, _⟩
  · go_wp2
    go_ret
    exact ⟨rfl, b1⟩
  · simp at hk0

theorem OwnS.cases {w : World} {base : Nat} {v : Value} {xs : List Sp} (h : OwnS w base v xs) :
    (v = .slice none 0 0 ∧ xs = []) ∨ ∃ g cap, v = .slice (some ⟨g, 0, none⟩) xs.length cap ∧ base ≤ g ∧ g < w.heap.size ∧ xs.length ≤ cap ∧ cap ≤ 9223372036854775807 ∧ RowAt w g 0 xs ∧ OwnRow w g xs.length := by
  rcases Nat.eq_zero_or_pos xs.length with hz | hp
  · have he : xs = [] := List.eq_nil_of_length_eq_zero hz
    subst he
    obtain ⟨_, ⟨rfl, _⟩ | ⟨g, cap, cur, rfl, hb, hg, hnc, hcm, hcs, hcur⟩⟩ := h
    · exact .inl ⟨rfl, rfl⟩
    · have hlt := (Array.getElem?_eq_some_iff.1 hg).1
      exact .inr ⟨g, cap, rfl, hb, hlt, hnc, by unfold maxLen at hcm; omega, (fun i hi => absurd hi (by simp)), (fun o ho => absurd ho (by simp)), (fun o => by simp [World.frozen?, hg]), hlt⟩
  · obtain ⟨g, cap, hv, hb, hg, hlc, hcm, hrow, hfr, _⟩ := h.block hp
    refine .inr ⟨g, cap, hv, hb, hg, hlc, hcm, hrow, (fun o ho => ?_), hfr, hg⟩
    obtain ⟨c1, c2⟩ := hrow (o / 2) (by omega)
    rw [Nat.zero_add] at c1 c2
    have hm : o % 2 = 0 ∨ o % 2 = 1 := by omega
    rcases hm with hm | hm
    · exact ⟨_, by rw [show o = o / 2 * 2 by omega]; exact c1⟩
    · exact ⟨_, by rw [show o = o / 2 * 2 + 1 by omega]; exact c2⟩

/-- all ends are numbers -/
def Ends (xs : List Sp) : Prop := ∀ x ∈ xs, -99 ≤ x.1 ∧ x.1 ≤ 99 ∧ -99 ≤ x.2 ∧ x.2 ≤ 99
theorem ends_kept {xs ys : List Sp} (h : Ends xs) (hp : ys.Perm (keptE xs)) : Ends ys := fun x hx => h x (List.mem_filter.1 (hp.mem_iff.1 hx)).1
theorem asc_kept {xs ys : List Sp} (hp : ys.Perm (keptE xs)) (hs : ∀ i j, i < j → j < ys.length → lo ys i ≤ lo ys j) : Asc ys := by
  refine ⟨fun k hk => ?_, hs⟩
  have hm : ys[k] ∈ keptE xs := hp.mem_iff.1 (List.getElem_mem hk)
  have := of_decide_eq_true (List.mem_filter.1 hm).2
  unfold Ythdmoaimgbffmaa.lo Ythdmoaimgbffmaa.hi
  rw [List.getD_eq_getElem?_getD, List.getElem?_eq_getElem hk]
  exact this
theorem memS_perm {xs ys : List Sp} (hp : ys.Perm xs) (n : Int) : memS ys n ↔ memS xs n := by
  unfold memS
  constructor
  · rintro ⟨x, hx, h⟩; exact ⟨x, hp.mem_iff.1 hx, h⟩
  · rintro ⟨x, hx, h⟩; exact ⟨x, hp.mem_iff.2 hx, h⟩
theorem ends_within {ys : List Sp} (h : Ends ys) : Within ys := fun x hx => by have := h x hx; omega
theorem lohi_within {xs : List Sp} (h : Within xs) {i : Nat} (hi : i < xs.length) : -99 ≤ lo xs i ∧ Ythdmoaimgbffmaa.hi xs i ≤ 99 := by
  have := h _ (List.getElem_mem hi)
  unfold Ythdmoaimgbffmaa.lo Ythdmoaimgbffmaa.hi
  rw [List.getD_eq_getElem?_getD, List.getElem?_eq_getElem hi]
  exact this
theorem joinF_within {ys : List Sp} (ha : Asc ys) (he : Ends ys) (k : Nat) (hk : k ≤ ys.length) : Within (joinF ys k) := fun x hx => by
  obtain ⟨h1, _, h3⟩ := joinF_spec ys ha k hk
  have hle := h1.le x hx
  have hw := ends_within he
  obtain ⟨i, hi, a⟩ := (h3 x.1).1 ⟨x, hx, Int.le_refl _, hle⟩
  obtain ⟨j, hj, b⟩ := (h3 x.2).1 ⟨x, hx, hle, Int.le_refl _⟩
  have e1 := lohi_within hw (show i < ys.length by omega)
  have e2 := lohi_within hw (show j < ys.length by omega)
  omega

def JoinRes (xs : List Sp) (w : World) (e : Ending) (w' : World) : Prop :=
  ∃ (v : Value) (rs : List Sp), e = .returned v ∧ OwnS w' w.heap.size v rs ∧ Norm rs ∧ Within rs ∧ (∀ n, memS rs n ↔ memS xs n) ∧ rs.length ≤ 1000 ∧ Below w.heap.size w w'

theorem stepJ_ext {s : List Sp} {x : Sp} (h : 0 < s.length) (e : x.1 ≤ hi s (s.length - 1) + 1) : stepJ s x = s.set (s.length - 1) (lo s (s.length - 1), max (hi s (s.length - 1)) x.2) := by
  unfold stepJ
  exact if_pos ⟨h, e⟩
theorem stepJ_new {s : List Sp} {x : Sp} (h : ¬ (0 < s.length ∧ x.1 ≤ hi s (s.length - 1) + 1)) : stepJ s x = s ++ [x] := by
  unfold stepJ
  exact if_neg h

theorem cell_new1 (w : World) (a b : Int) : (w.alloc (.cells #[.int .i64 a, .int .i64 b] 29)).cell? ⟨w.heap.size, 0, none⟩ = some (.int .i64 a) := by
  rw [World.cell?_alloc_new]; rfl
theorem cell_new3 (w : World) (a b : Int) : (w.alloc (.cells #[.int .i64 a, .int .i64 b] 29)).cell? ⟨w.heap.size, 1, none⟩ = some (.int .i64 b) := by
  rw [World.cell?_alloc_new]; rfl

set_option maxRecDepth 100000 in
set_option maxHeartbeats 2000000 in
theorem join_all (lb : Nat) (L : List (Option Addr × Nat × List Sp)) (hL : L.length ≤ 4) (hT : (flatL L L.length).length ≤ 1000) (hE : Ends (flatL L L.length)) (w : World) (h : LsAt w lb L) :
    Calls Try.prog 41 #[.slice (some ⟨lb, 0, none⟩) L.length L.length] w (JoinRes (flatL L L.length) w) := by
  obtain ⟨i0, hi0, hz0, hz1', hz2'⟩ := infoSp
  have H := Lib.hid h
  clear h
  have HE := Lib.hid hE
  clear hE
  go_enter Try.func41, Try.ntmps41
  go_wp2_with fail
  refine (concat_any lb L hL hT w H.out).mono ?_
  rintro e w1 ⟨v1, rfl, own1, hf1, b1⟩
  have hs1 := b1.size
  generalize hfl : flatL L L.length = xs at hT own1 hf1 HE
  have HF := Lib.hid hfl
  clear hfl
  rcases own1.cases with ⟨rfl, rfl⟩ | ⟨g, cap, rfl, hbg, hgl, hlc, hcm, hrow, hownr⟩
  · clear own1
    go_wp2_with fail
    refine (deleteNil_any w1).mono ?_
    rintro e w2 ⟨rfl, b2⟩
    go_wp2_with fail
    refine (sortNil_any w2).mono ?_
    rintro e w3 ⟨rfl, rfl⟩
    go_wp2
    refine wp_loop_rounds 1 ?_
    rw [rounds_succ]
    go_wp2
    go_ret
    rw [HF.out]
    have b02 := b1.trans (b2.mono hs1)
    exact ⟨_, [], rfl, OwnS.nil _ _, trivial, (fun x hx => by cases hx), fun n => Iff.rfl, by simp, b02⟩
  · clear own1
    go_wp2_with fail
    refine (delete_any g cap w.heap.size xs w1 hrow hownr hbg hf1 hlc hcm).mono ?_
    rintro e w2 ⟨rfl, hrow2, hown2, b2⟩
    have hkl := List.length_filter_le (fun x : Sp => decide (x.1 ≤ x.2)) xs
    go_wp2_with fail
    refine (sort_any g cap w.heap.size (keptE xs) w2 hrow2 hown2 hbg (by unfold keptE; omega)).mono ?_
    rintro e w3 ⟨rfl, ys, hperm, hsort, hrow3, b3⟩
    have hlen : (keptE xs).length = ys.length := hperm.length_eq.symm
    rw [hlen]
    have hys : ys.length ≤ 1000 := by unfold keptE at hlen; omega
    have hg3 : g < w3.heap.size := by have := b2.size; have := b3.size; omega
    have HA := Lib.hid (asc_kept hperm hsort)
    have HW := Lib.hid (ends_within (ends_kept HE.out hperm))
    have HK := Lib.hid (joinF_within HA.out (ends_kept HE.out hperm))
    have HM := Lib.hid (fun n => (memS_perm hperm n).trans (keptE_mem xs n))
    have hs3 : w.heap.size ≤ w3.heap.size := by have := b2.size; have := b3.size; omega
    have B3 : Below w.heap.size w w3 := b1.trans (b2.trans b3)
    clear b1 b2 b3 hperm hsort hown2 hrow2 hrow hownr hf1 hkl hlen
    go_wp2
    go_loopw [4, 15] (fun jv iv wr => ∃ (k : Nat) (rs : List Sp), k ≤ ys.length ∧ iv = .int .i64 k ∧ Hid (joinF ys k = rs) ∧ OwnS wr w3.heap.size jv rs ∧ Below w3.heap.size w3 wr) (fun _ iv _ => ys.length - (intOf iv).toNat)
    case atStart => exact ⟨0, [], Nat.zero_le _, rfl, Lib.hid rfl, OwnS.nil _ _, Below.refl _ _⟩
    case round =>
      obtain ⟨k, rs, hk, rfl, HR, hown, hb⟩ := hrel
      by_cases hlt : k < ys.length
      · have hkl : (k : Int) < (ys.length : Int) := by omega
        obtain ⟨c1, c2⟩ := (hrow3.below hb hg3) k hlt
        simp only [Nat.zero_add] at c1 c2
        obtain ⟨p1, p2⟩ := lohi_within HW.out hlt
        have p3 := HA.out.1 k hlt
        have hlen : rs.length ≤ k := by rw [← HR.out]; exact joinF_len ys k
        have hsz := hb.size
        have x1 := cell_new1 wr (lo ys k) (hi ys k)
        have x2 := cell_new3 wr (lo ys k) (hi ys k)
        have hown1 : OwnS (wr.alloc (.cells #[.int .i64 (lo ys k), .int .i64 (hi ys k)] 29)) w3.heap.size _ rs := World.ownsRow.alloc hown _
        have hb1 := hb.alloc hsz (.cells #[.int .i64 (lo ys k), .int .i64 (hi ys k)] 29)
        have hz1 : wr.heap.size < (wr.alloc (.cells #[.int .i64 (lo ys k), .int .i64 (hi ys k)] 29)).heap.size := by simp
        have HC := Lib.hid (And.intro c1 c2)
        rcases Nat.eq_zero_or_pos rs.length with hz | hp
        · have he : rs = [] := List.eq_nil_of_length_eq_zero hz
          subst he
          have HN : Hid (joinF ys (k + 1) = [] ++ [(lo ys k, hi ys k)]) := Lib.hid (by
            have := HR.out; simp only [joinF]; rw [this, stepJ_new (by simp)])
          obtain ⟨A0, c0, hv, _, _⟩ := hown.form fits_nil
          subst hv
          go_wp2
          obtain ⟨W2, hW2⟩ : ∃ W2 : World, wr.alloc (.cells #[.int .i64 (lo ys k), .int .i64 (hi ys k)] 29) = W2 := ⟨_, rfl⟩
          rw [hW2] at x1 x2 hown1 hb1 hz1 ⊢
          clear hW2 hown hb c1 c2
          go_quiet (fail)
          have y1 : (W2.drewN nq).cell? ⟨wr.heap.size, 0, none⟩ = some (.int .i64 (lo ys k)) := x1
          have y2 : (W2.drewN nq).cell? ⟨wr.heap.size, 1, none⟩ = some (.int .i64 (hi ys k)) := x2
          have ho2 : OwnS (W2.drewN nq) w3.heap.size _ _ := hown1
          have hb2 := below_drewN hb1 nq
          have hz2 : wr.heap.size < (W2.drewN nq).heap.size := hz1
          generalize W2.drewN nq = Wd at y1 y2 ho2 hb2 hz2 ⊢
          clear x1 x2 hown1 hb1 hz1
          have ho3 := World.ownsRow.alloc ho2 (.cells #[.int .i64 (lo ys k), .int .i64 (hi ys k)] 29)
          have hsz2 := hb2.size
          go_wp2_with (at_builtin; refine wpList_append_own _ rfl (.tmp 47) (.tmp 49) 23 rfl w3.heap.size 29 i0 _ 2 16 Try.underlying23 hi0 hz0 hz1' hz2' rfl (by decide) _ ([] : List Sp).length (cellsOf []) rfl ho3 ⟨Wd.heap.size, 0, none⟩ 1 1 [.int .i64 (lo ys k), .int .i64 (hi ys k)] rfl rfl ?hc1 ?hc2 ?hc3 ?hc4 ?hc5 ?_; rotate_right; intro v' w5 hown2 hgrow _)
          case hc1 => exact cell_one _ _ _ _ rfl
          case hc2 => simp [Value.oneCell']
          case hc3 => simp [maxLen]
          case hc4 => simp
          case hc5 => simp; omega
          go_roundw
          case rel => exact ⟨k + 1, _, by omega, by go_num, HN, OwnS.of_append (xs := []) hown2, Below.grown (row := (Value.slice A0 ([] : List Sp).length c0).ownBlock) (hb2.alloc hsz2 _) hgrow (by simp; omega) (fun k hk => (ho2.lt k hk).1)⟩
          case measure => simp [intOf]; omega
        · obtain ⟨g2, cap2, hv, hb2g, hg2, hlc2, hcm2, hrow2, hfr2, _⟩ := hown1.block hp
          subst hv
          obtain ⟨d1, d2⟩ := hrow2 (rs.length - 1) (by omega)
          simp only [Nat.zero_add] at d1 d2
          have f2 := hfr2 ((rs.length - 1) * 2 + 1)
          have hk1 : (1 : Int) ≤ (rs.length : Int) := by omega
          have hk2 : (0 : Int) ≤ (rs.length : Int) - 1 := by omega
          have hk3 : (rs.length : Int) - 1 < (rs.length : Int) := by omega
          have hk4 : (0 : Int) < (rs.length : Int) := by omega
          have e1 : IntKind.i64.wrap ((rs.length : Int) - 1) = (rs.length : Int) - 1 := IntWalk.i64_in _ (by omega)
          have e2 : ((rs.length : Int) - 1).toNat = rs.length - 1 := by omega
          have hwr := HK.out k (by omega)
          rw [HR.out] at hwr
          obtain ⟨q1, q2⟩ := lohi_within hwr (show rs.length - 1 < rs.length by omega)
          have hnr := (joinF_spec ys HA.out k (by omega)).1
          rw [HR.out] at hnr
          have q3 : lo rs (rs.length - 1) ≤ hi rs (rs.length - 1) := by
            have := hnr.le _ (List.getElem_mem (show rs.length - 1 < rs.length by omega))
            unfold Ythdmoaimgbffmaa.lo Ythdmoaimgbffmaa.hi
            rw [List.getD_eq_getElem?_getD, List.getElem?_eq_getElem (show rs.length - 1 < rs.length by omega)]
            exact this
          have e3 : IntKind.i64.wrap (hi rs (rs.length - 1) + 1) = hi rs (rs.length - 1) + 1 := IntWalk.i64_in _ (by omega)
          go_wp2
          obtain ⟨W2, hW2⟩ : ∃ W2 : World, wr.alloc (.cells #[.int .i64 (lo ys k), .int .i64 (hi ys k)] 29) = W2 := ⟨_, rfl⟩
          rw [hW2] at x1 x2 hown1 hb1 hz1 d1 d2 f2 hg2 ⊢
          clear hW2 hown hb c1 c2 hrow2 hfr2
          by_cases he : lo ys k ≤ hi rs (rs.length - 1) + 1
          · have HN : Hid (joinF ys (k + 1) = rs.set (rs.length - 1) (lo rs (rs.length - 1), max (hi rs (rs.length - 1)) (hi ys k))) := Lib.hid (by
              have := HR.out; simp only [joinF]; rw [this, stepJ_ext (x := (lo ys k, hi ys k)) hp he])
            go_quiet (fail)
            have y1 : (W2.drewN nq).cell? ⟨wr.heap.size, 0, none⟩ = some (.int .i64 (lo ys k)) := x1
            have y2 : (W2.drewN nq).cell? ⟨wr.heap.size, 1, none⟩ = some (.int .i64 (hi ys k)) := x2
            have y3 : (W2.drewN nq).cell? ⟨g2, (rs.length - 1) * 2, none⟩ = some (.int .i64 (lo rs (rs.length - 1))) := d1
            have y4 : (W2.drewN nq).cell? ⟨g2, (rs.length - 1) * 2 + 1, none⟩ = some (.int .i64 (hi rs (rs.length - 1))) := d2
            have y5 : (W2.drewN nq).frozen? ⟨g2, (rs.length - 1) * 2 + 1, none⟩ = false := f2
            have ho2 : OwnS (W2.drewN nq) w3.heap.size _ _ := hown1
            have hb2 := below_drewN hb1 nq
            generalize W2.drewN nq = Wd at y1 y2 y3 y4 y5 ho2 hb2 ⊢
            clear x1 x2 d1 d2 f2 hown1 hb1 hz1 hg2
            go_wp2
            go_still_tail 12, (by kernel_rfl)
            change wpList _ _ _ _ _ Wd.drew
            have t4 : Wd.drew.cell? ⟨g2, (rs.length - 1) * 2 + 1, none⟩ = some (.int .i64 (hi rs (rs.length - 1))) := y4
            have t5 : Wd.drew.frozen? ⟨g2, (rs.length - 1) * 2 + 1, none⟩ = false := y5
            have ho3 : OwnS Wd.drew w3.heap.size (.slice (some ⟨g2, 0, none⟩) rs.length cap2) rs := ho2
            have hb3 := hb2.drew
            generalize Wd.drew = We at t4 t5 ho3 hb3 ⊢
            clear y1 y2 y3 y4 y5 ho2 hb2
            have hset := Lib.hid (OwnS.set_hi ho3 (i := rs.length - 1) (by omega) (max (hi rs (rs.length - 1)) (hi ys k)))
            clear ho3
            go_wp2
            go_roundw
            case rel => exact ⟨k + 1, _, by omega, by go_num, HN, hset.out, hb3.setCell (p := ⟨g2, (rs.length - 1) * 2 + 1, none⟩) hb2g _⟩
            case measure => simp [intOf]; omega
          · have HN : Hid (joinF ys (k + 1) = rs ++ [(lo ys k, hi ys k)]) := Lib.hid (by
              have := HR.out; simp only [joinF]; rw [this, stepJ_new (x := (lo ys k, hi ys k)) (fun q => he q.2)])
            have he1 : decide (lo ys k ≤ hi rs (rs.length - 1) + 1) = false := decide_eq_false he
            go_quiet (fail)
            have y1 : (W2.drewN nq).cell? ⟨wr.heap.size, 0, none⟩ = some (.int .i64 (lo ys k)) := x1
            have y2 : (W2.drewN nq).cell? ⟨wr.heap.size, 1, none⟩ = some (.int .i64 (hi ys k)) := x2
            have ho2 : OwnS (W2.drewN nq) w3.heap.size (.slice (some ⟨g2, 0, none⟩) rs.length cap2) rs := hown1
            have hb2 := below_drewN hb1 nq
            have hz2 : wr.heap.size < (W2.drewN nq).heap.size := hz1
            generalize W2.drewN nq = Wd at y1 y2 ho2 hb2 hz2 ⊢
            clear x1 x2 d1 d2 f2 hown1 hb1 hz1 hg2
            have ho3 := World.ownsRow.alloc ho2 (.cells #[.int .i64 (lo ys k), .int .i64 (hi ys k)] 29)
            have hsz2 := hb2.size
            go_wp2_with (at_builtin; refine wpList_append_own _ rfl (.tmp 47) (.tmp 49) 23 rfl w3.heap.size 29 i0 _ 2 16 Try.underlying23 hi0 hz0 hz1' hz2' rfl (by decide) _ rs.length (cellsOf rs) rfl ho3 ⟨Wd.heap.size, 0, none⟩ 1 1 [.int .i64 (lo ys k), .int .i64 (hi ys k)] rfl rfl ?hc1 ?hc2 ?hc3 ?hc4 ?hc5 ?_; rotate_right; intro v' w5 hown2 hgrow _)
            case hc2 => simp [Value.oneCell']
            case hc3 => unfold maxLen; omega
            case hc4 => omega
            case hc5 => first | omega | (simp; omega) | exact cell_one _ _ _ _ rfl
            go_roundw
            case rel => exact ⟨k + 1, _, by omega, by go_num, HN, OwnS.of_append hown2, Below.grown (row := (Value.slice (some ⟨g2, 0, none⟩) rs.length cap2).ownBlock) (hb2.alloc hsz2 _) hgrow (by simp; omega) (fun k hk => (ho2.lt k hk).1)⟩
            case measure => simp [intOf]; omega
      · obtain rfl : k = ys.length := by omega
        have hall := Lib.hid (joinF_all ys HA.out HW.out)
        have hjl := joinF_len ys ys.length
        rw [HR.out] at hjl
        go_wp2
        go_ret
        rw [HF.out]
        have q := hall.out
        rw [HR.out] at q
        exact ⟨_, rs, rfl, hown.mono hs3, q.1, q.2.1, (fun n => (q.2.2 n).trans (HM.out n)), by omega, B3.trans (hb.mono hs3)⟩
end Go.Proofs.Ythdmoaimgbffmaa
