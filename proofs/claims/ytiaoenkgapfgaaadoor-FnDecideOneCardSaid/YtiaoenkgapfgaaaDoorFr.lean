/-
  Contract of the model's set of marked numbers.
-/
import Derived.Test.YtiaoenkgapfgaaaDoorFl
import Derived.Test.YtiaoenkgapfgaaaDoorOw
namespace Go.Proofs.YtiaoenkgapfgaaaDoor
open Go.RowKit Sets

theorem cellsOf_set (b : Int) : ∀ (xs : List Sp) (i : Nat), i < xs.length → cellsOf (xs.set i (lo xs i, b)) = (cellsOf xs).set (i * 2 + 1) (.int .i64 b)
  | [], i, h => by simp at h
  | x :: xs, 0, _ => rfl
  | x :: xs, i + 1, h => by
    have ih := cellsOf_set b xs i (by simpa using h)
    rw [show (i + 1) * 2 + 1 = i * 2 + 1 + 1 + 1 by omega]
    simp only [List.set_cons_succ, cellsOf, List.cons.injEq, true_and]
    rw [← ih]
    rfl
theorem OwnS.block {w : World} {base : Nat} {v : Value} {xs : List Sp} (h : OwnS w base v xs) (hp : 0 < xs.length) :
    ∃ g cap, v = .slice (some ⟨g, 0, none⟩) xs.length cap ∧ base ≤ g ∧ g < w.heap.size ∧ xs.length ≤ cap ∧ cap ≤ 9223372036854775807 ∧ RowAt w g 0 xs ∧ (∀ o, w.frozen? ⟨g, o, none⟩ = false) ∧ w.ownsRow base 126 2 (.slice (some ⟨g, 0, none⟩) xs.length cap) xs.length (cellsOf xs) := by
  have h' := h
  obtain ⟨h0, ⟨rfl, hn⟩ | ⟨g, cap, cur, rfl, hb, hg, hnc, hcm, hcs, hcur⟩⟩ := h
  · omega
  · refine ⟨g, cap, rfl, hb, (Array.getElem?_eq_some_iff.1 hg).1, hnc, by unfold maxLen at hcm; omega, fun i hi => ?_, fun o => by simp [World.frozen?, hg], h'⟩
    have hc := cellsOf_at xs i hi
    have hcell : ∀ o, o < xs.length * 2 → w.cell? ⟨g, 0 + o, none⟩ = (cellsOf xs)[o]? := by
      intro o ho
      rw [← hcur, List.getElem?_take_of_lt ho, Nat.zero_add]
      simp [World.cell?, hg]
    exact ⟨by rw [hcell _ (by omega)]; exact hc.1, by rw [Nat.add_assoc, hcell _ (by omega)]; exact hc.2⟩
theorem OwnS.set_hi {w : World} {base g cap : Nat} {xs : List Sp} (h : w.ownsRow base 126 2 (.slice (some ⟨g, 0, none⟩) xs.length cap) xs.length (cellsOf xs)) {i : Nat} (hi : i < xs.length) (b : Int) :
    OwnS (w.setCell ⟨g, i * 2 + 1, none⟩ (.int .i64 b)) base (.slice (some ⟨g, 0, none⟩) xs.length cap) (xs.set i (lo xs i, b)) := by
  unfold OwnS
  rw [cellsOf_set b xs i hi, List.length_set]
  exact (World.ownsRow.stored h (i * 2 + 1) (.int .i64 b)).1

theorem step_no (s : List Sp) (n : Int) : stepF s n false = s := by unfold stepF; simp
theorem step_ext {s : List Sp} {n : Int} (h : 0 < s.length) (e : hi s (s.length - 1) = n - 1) : stepF s n true = s.set (s.length - 1) (lo s (s.length - 1), n) := by
  unfold stepF
  rw [if_pos rfl, if_pos ⟨h, e⟩]; rfl
theorem step_new {s : List Sp} {n : Int} (h : ¬ (0 < s.length ∧ hi s (s.length - 1) = n - 1)) : stepF s n true = s ++ [(n, n)] := by
  unfold stepF
  rw [if_pos rfl]
  exact if_neg h
theorem fromF_fits (f : Nat → Bool) (k : Nat) (hk : k ≤ 199) : Fits (fromF f k) := fun x hx => by
  have h := (fromF_spec f k).2.1 x hx
  have h1 := (fromF_spec f k).1.le x hx
  unfold I64
  omega
theorem fits_nil' : Fits [] := fun x hx => by cases hx
theorem stepF_len (s : List Sp) (n : Int) (f : Bool) : (stepF s n f).length ≤ s.length + 1 := by
  unfold stepF
  split
  · split
    · rw [List.length_set]; omega
    · rw [List.length_append]; simp
  · omega
theorem fromF_len (f : Nat → Bool) : ∀ k, (fromF f k).length ≤ k
  | 0 => Nat.le_refl _
  | k + 1 => by have := fromF_len f k; have := stepF_len (fromF f k) ((k : Int) - 99) (f k); simp only [fromF]; omega

set_option maxRecDepth 100000 in
set_option maxHeartbeats 1000000 in
theorem from_any (g : Nat) (f : Nat → Bool) (w : World) (h : FlagRow w g f) :
    Calls Tryd.prog 116 #[.slice (some ⟨g, 0, none⟩) 199 199] w fun e w' => ∃ v, e = .returned v ∧ OwnS w' w.heap.size v (fromF f 199) ∧ Fits (fromF f 199) ∧ Below w.heap.size w w' := by
  obtain ⟨i0, hi0, hz0, hz1, hz2⟩ := infoSp
  have hg := h.2.2
  go_enter Tryd.func116, Tryd.ntmps116
  go_wp2
  have hown0 : OwnS (w.alloc (.cells #[] 126)) w.heap.size (.slice (some ⟨w.heap.size, 0, none⟩) 0 0) [] := World.ownsRow_lit w #[] 0 (Nat.le_refl _) (by decide) rfl
  go_loopw [3, 4] (fun v i wr => ∃ (k : Nat) (rs : List Sp), k ≤ 199 ∧ i = .int .i64 k ∧ Hid (fromF f k = rs) ∧ OwnS wr w.heap.size v rs ∧ Below w.heap.size w wr) (fun _ i _ => 199 - (intOf i).toNat)
  case atStart => exact ⟨0, [], by omega, rfl, Lib.hid rfl, hown0, (Below.refl _ _).alloc (Nat.le_refl _) _⟩
  case round =>
    obtain ⟨k, rs, hk, rfl, HR, hown, hb⟩ := hrel
    by_cases hlt : k < 199
    · have hkl : (k : Int) < 199 := by omega
      have c1 := (h.below hb hg).1 k hlt
      have hlen : rs.length ≤ k := by rw [← HR.out]; exact fromF_len f k
      cases hfk : f k
      · rw [hfk] at c1
        have HN : Hid (fromF f (k + 1) = rs) := Lib.hid (by rw [← HR.out]; simp only [fromF]; rw [hfk, step_no])
        clear hfk
        go_wp2
        go_roundw
        case rel => exact ⟨k + 1, rs, by omega, by go_num, HN, hown, hb⟩
        case measure => simp [intOf]; omega
      · rw [hfk] at c1
        have HF := Lib.hid hfk
        clear hfk
        have hown1 := World.ownsRow.alloc hown (.cells #[.int .i64 (-99 + (k : Int)), .int .i64 (-99 + (k : Int))] 126)
        rcases Nat.eq_zero_or_pos rs.length with hz | hp
        · have he : rs = [] := List.eq_nil_of_length_eq_zero hz
          subst he
          have HN : Hid (fromF f (k + 1) = [] ++ [(-99 + (k : Int), -99 + (k : Int))]) := Lib.hid (by
            have := HR.out; simp only [fromF]; rw [HF.out, this, step_new (by simp), show ((k : Int) - 99) = -99 + (k : Int) by omega])
          obtain ⟨A0, c0, hv, _, _⟩ := hown.form fits_nil'
          subst hv
          go_wp2_with (at_builtin; refine wpList_append_own _ rfl (.tmp 42) (.tmp 46) 106 rfl w.heap.size 126 i0 _ 2 16 Tryd.underlying106 hi0 hz0 hz1 hz2 rfl (by decide) _ ([] : List Sp).length (cellsOf []) rfl hown1 ⟨wr.heap.size, 0, none⟩ 1 1 [.int .i64 (-99 + (k : Int)), .int .i64 (-99 + (k : Int))] rfl rfl ?hc1 ?hc2 ?hc3 ?hc4 ?hc5 ?_; rotate_right; intro v' w1 hown2 hgrow _)
          case hc1 => exact cell_one _ _ _ _ rfl
          case hc2 => simp [Value.oneCell']
          case hc3 => simp [maxLen]
          case hc4 => simp
          case hc5 => have := hb.size; simp; omega
          go_roundw
          case rel => exact ⟨k + 1, _, by omega, by go_num, HN, OwnS.of_append (xs := []) hown2, Below.grown (row := (Value.slice A0 ([] : List Sp).length c0).ownBlock) (hb.alloc hb.size _) hgrow (by have := hb.size; simp; omega) (fun k hk => (hown.lt k hk).1)⟩
          case measure => simp [intOf]; omega
        · obtain ⟨g2, cap2, hv, hb2, hg2, hlc2, hcm2, hrow2, hfr2, hown2⟩ := hown.block hp
          subst hv
          obtain ⟨d1, d2⟩ := hrow2 (rs.length - 1) (by omega)
          simp only [Nat.zero_add] at d1 d2
          have f2 := hfr2 ((rs.length - 1) * 2 + 1)
          have hk1 : (1 : Int) ≤ (rs.length : Int) := by omega
          have hk2 : (0 : Int) ≤ (rs.length : Int) - 1 := by omega
          have hk3 : (rs.length : Int) - 1 < (rs.length : Int) := by omega
          have hk4 : (0 : Int) < (rs.length : Int) := by omega
          by_cases he : hi rs (rs.length - 1) = -99 + (k : Int) - 1
          · have HN : Hid (fromF f (k + 1) = rs.set (rs.length - 1) (lo rs (rs.length - 1), -99 + (k : Int))) := Lib.hid (by
              have := HR.out; simp only [fromF]; rw [HF.out, this, step_ext hp (by omega), show ((k : Int) - 99) = -99 + (k : Int) by omega])
            have hset := Lib.hid (OwnS.set_hi hown2 (i := rs.length - 1) (by omega) (-99 + (k : Int)))
            have he1 : (hi rs (rs.length - 1) == -99 + (k : Int) - 1) = true := beq_iff_eq.2 he
            clear he
            go_wp2
            go_roundw
            case rel => exact ⟨k + 1, _, by omega, by go_num, HN, hset.out, hb.setCell (p := ⟨g2, (rs.length - 1) * 2 + 1, none⟩) hb2 _⟩
            case measure => simp [intOf]; omega
          · have HN : Hid (fromF f (k + 1) = rs ++ [(-99 + (k : Int), -99 + (k : Int))]) := Lib.hid (by
              have := HR.out; simp only [fromF]; rw [HF.out, this, step_new (fun h => he (by omega)), show ((k : Int) - 99) = -99 + (k : Int) by omega])
            have he1 : (hi rs (rs.length - 1) == -99 + (k : Int) - 1) = false := beq_eq_false_iff_ne.2 he
            clear he
            go_wp2_with (at_builtin; refine wpList_append_own _ rfl (.tmp 42) (.tmp 46) 106 rfl w.heap.size 126 i0 _ 2 16 Tryd.underlying106 hi0 hz0 hz1 hz2 rfl (by decide) _ rs.length (cellsOf rs) rfl hown1 ⟨wr.heap.size, 0, none⟩ 1 1 [.int .i64 (-99 + (k : Int)), .int .i64 (-99 + (k : Int))] rfl rfl ?hc1 ?hc2 ?hc3 ?hc4 ?hc5 ?_; rotate_right; intro v' w1 hown2 hgrow _)
            case hc1 => exact cell_one _ _ _ _ rfl
            case hc2 => simp [Value.oneCell']
            case hc3 => unfold maxLen; omega
            case hc4 => omega
            case hc5 => have := hb.size; simp; omega
            go_roundw
            case rel => exact ⟨k + 1, _, by omega, by go_num, HN, OwnS.of_append hown2, Below.grown (row := (Value.slice (some ⟨g2, 0, none⟩) rs.length cap2).ownBlock) (hb.alloc hb.size _) hgrow (by have := hb.size; simp; omega) (fun k hk => (hown.lt k hk).1)⟩
            case measure => simp [intOf]; omega
    · obtain rfl : k = 199 := by omega
      go_wp2
      go_ret
      have := HR.out
      exact ⟨_, rfl, this ▸ hown, this ▸ fromF_fits f 199 (by omega), hb⟩
end Go.Proofs.YtiaoenkgapfgaaaDoor
