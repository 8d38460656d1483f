/-
  Contract of the program's complement of a set.
-/
import Derived.Test.YthkjcljhfjaabaaGreatDoorSz
import Derived.Test.YthkjcljhfjaabaaGreatDoorOw
namespace Go.Proofs.YthkjcljhfjaabaaGreatDoor
open Go.RowKit Sets

theorem drop_lohi {xs : List Sp} {k : Nat} (h : k < xs.length) : xs.drop k = (lo xs k, hi xs k) :: xs.drop (k + 1) := by
  rw [List.drop_eq_getElem_cons h]
  unfold lo YthkjcljhfjaabaaGreatDoor.hi
  rw [List.getD_eq_getElem?_getD, List.getElem?_eq_getElem h]
  rfl
theorem other_more {acc xs : List Sp} {k : Nat} {next : Int} (h : acc ++ otherP next (xs.drop k) = otherP (-99) xs) (hk : k < xs.length) (hlt : next < lo xs k) :
    acc ++ [(next, lo xs k - 1)] ++ otherP (hi xs k + 1) (xs.drop (k + 1)) = otherP (-99) xs := by
  rw [← h, drop_lohi hk, otherP, gapS, if_pos hlt, List.append_assoc]
theorem other_same {acc xs : List Sp} {k : Nat} {next : Int} (h : acc ++ otherP next (xs.drop k) = otherP (-99) xs) (hk : k < xs.length) (hlt : ¬ next < lo xs k) :
    acc ++ otherP (hi xs k + 1) (xs.drop (k + 1)) = otherP (-99) xs := by
  rw [← h, drop_lohi hk, otherP, gapS, if_neg hlt, List.nil_append]
theorem other_end {acc xs : List Sp} {next : Int} (h : acc ++ otherP next (xs.drop xs.length) = otherP (-99) xs) : acc ++ lastS next = otherP (-99) xs := by
  rw [← h, List.drop_length, otherP]
theorem fits_snoc {acc : List Sp} {a b : Int} (h : Fits acc) (ha : I64 a) (hb : I64 b) : Fits (acc ++ [(a, b)]) := by
  intro z hz
  rcases List.mem_append.1 hz with hz | hz
  · exact h z hz
  · rw [List.mem_singleton.1 hz]; exact ⟨ha, hb⟩

/-- The loop variable's block is not the row that an append may have written. -/
theorem x_at {wr w1 : World} {a b c d : Int} {row : Option Nat} (hg : World.grownBy ((wr.alloc (.cells #[.int .i64 a, .int .i64 b] 55)).alloc (.cells #[.int .i64 c, .int .i64 d] 55)) w1 row) (hr : ∀ k, row = some k → k < wr.heap.size) :
    w1.cell? ⟨wr.heap.size, 1, none⟩ = some (.int .i64 b) := by
  refine World.grownBy.cell hg ?_ (fun e => by have := hr _ e.symm; simp at this)
  rw [World.cell?_alloc_lt _ _ _ (by simp)]
  exact World.cell?_alloc_new _ _ _ _

set_option maxRecDepth 100000 in
set_option maxHeartbeats 1000000 in
theorem otherSpans_any (A : Option Addr) (c : Nat) (xs : List Sp) (w : World) (h : Reads w w.heap.size A c xs) (hv : validB xs = true) :
    Calls Tryz.prog 82 #[.slice A xs.length c] w fun e w' => ∃ v, e = .returned v ∧ OwnS w' w.heap.size v (otherP (-99) xs) ∧ Fits (otherP (-99) xs) ∧ Below w.heap.size w w' := by
  obtain ⟨hlc, hc, hfit, hrow⟩ := h
  obtain ⟨i0, hi0, hz0, hz1, hz2⟩ := infoSp
  have HV := Lib.hid hv
  have h12 := valid_len hv
  clear hv
  go_enter Tryz.func82, Tryz.ntmps82
  go_wp2
  go_loopw [3, 4, 9] (fun v nx i wr => ∃ (k : Nat) (next : Int) (acc : List Sp), k ≤ xs.length ∧ i = .int .i64 k ∧ nx = .int .i64 next ∧ OwnS wr w.heap.size v acc ∧ Fits acc ∧ Hid (acc ++ otherP next (xs.drop k) = otherP (-99) xs) ∧ acc.length ≤ k ∧ -99 ≤ next ∧ next ≤ 100 ∧ Below w.heap.size w wr) (fun _ _ i _ => xs.length - (intOf i).toNat)
  case atStart => exact ⟨0, -99, [], Nat.zero_le _, rfl, rfl, OwnS.nil _ _, (fun x hx => by cases hx), Lib.hid rfl, Nat.le_refl _, by omega, by omega, Below.refl _ _⟩
  case round =>
    obtain ⟨k, next, acc, hk, rfl, rfl, hown, hfa, HA, hal, hn1, hn2, hb⟩ := hrel
    by_cases hlt : k < xs.length
    · rcases hrow with rfl | ⟨b, off, rfl, hB, hrow⟩
      · simp at hlt
      · have hkl : (k : Int) < (xs.length : Int) := by omega
        obtain ⟨c1, c2⟩ := (hrow.below hb hB) k hlt
        obtain ⟨v1, v2, v3⟩ := valid_at HV.out hlt
        by_cases hg : next < lo xs k
        · have hown1 := (World.ownsRow.alloc hown (.cells #[.int .i64 (lo xs k), .int .i64 (hi xs k)] 55)).alloc (.cells #[.int .i64 next, .int .i64 (lo xs k - 1)] 55)
          have hf2 := fits_snoc (a := next) (b := lo xs k - 1) hfa (by unfold I64; omega) (by unfold I64; omega)
          have HN := Lib.hid (other_more HA.out hlt hg)
          go_wp2_with (at_builtin; refine wpList_append_own _ rfl (.tmp 17) (.tmp 23) 24 rfl w.heap.size 55 i0 _ 2 16 Tryz.underlying24 hi0 hz0 hz1 hz2 rfl (by decide) _ acc.length (cellsOf acc) rfl hown1 ⟨wr.heap.size + 1, 0, none⟩ 1 1 [.int .i64 next, .int .i64 (lo xs k - 1)] rfl rfl ?hc1 ?hc2 ?hc3 ?hc4 ?hc5 ?_; rotate_right; intro v' w1 hown2 hgrow _; have x1 := x_at (row := u3.ownBlock) hgrow (fun k hk => (hown.lt k hk).2))
          case hc1 => exact cell_one _ _ _ _ (by simp)
          case hc2 => simp [Value.oneCell']
          case hc3 => unfold maxLen; omega
          case hc4 => omega
          case hc5 => have := hb.size; simp; omega
          go_roundw
          case rel => exact ⟨k + 1, hi xs k + 1, acc ++ [(next, lo xs k - 1)], hlt, by go_num, rfl, OwnS.of_append hown2, hf2, HN, by rw [List.length_append]; simp; omega, by omega, by omega,
            Below.grown (row := u3.ownBlock) (((hb.alloc hb.size _)).alloc (by have := hb.size; simp; omega) _) hgrow (by have := hb.size; simp; omega) (fun k hk => (hown.lt k hk).1)⟩
          case measure => simp [intOf]; omega
        · have HN := Lib.hid (other_same HA.out hlt hg)
          go_wp2
          go_roundw
          case rel => exact ⟨k + 1, hi xs k + 1, acc, hlt, by go_num, rfl, hown.below ((Below.refl _ _).alloc (Nat.le_refl _) _), hfa, HN, by omega, by omega, by omega, hb.alloc hb.size _⟩
          case measure => simp [intOf]; omega
    · obtain rfl : k = xs.length := by omega
      have HE := Lib.hid (other_end HA.out)
      by_cases hg : next ≤ 99
      · have hl := Lib.hid (show lastS next = [(next, 99)] from if_pos hg)
        have hown1 := World.ownsRow.alloc hown (.cells #[.int .i64 next, .int .i64 99] 55)
        have hf2 := fits_snoc (a := next) (b := 99) hfa (by unfold I64; omega) (by unfold I64; omega)
        go_wp2_with (at_builtin; refine wpList_append_own _ rfl (.tmp 31) (.tmp 34) 24 rfl w.heap.size 55 i0 _ 2 16 Tryz.underlying24 hi0 hz0 hz1 hz2 rfl (by decide) _ acc.length (cellsOf acc) rfl hown1 ⟨wr.heap.size, 0, none⟩ 1 1 [.int .i64 next, .int .i64 99] rfl rfl ?hc1 ?hc2 ?hc3 ?hc4 ?hc5 ?_; rotate_right; intro v' w1 hown2 hgrow _)
        case hc1 => exact cell_one _ _ _ _ rfl
        case hc2 => simp [Value.oneCell']
        case hc3 => unfold maxLen; omega
        case hc4 => omega
        case hc5 => have := hb.size; simp; omega
        go_ret
        have he : acc ++ [(next, 99)] = otherP (-99) xs := by rw [← HE.out, hl.out]
        exact ⟨_, rfl, he ▸ OwnS.of_append hown2, he ▸ hf2, Below.grown (row := u3.ownBlock) (hb.alloc hb.size _) hgrow (by have := hb.size; simp; omega) (fun k hk => (hown.lt k hk).1)⟩
      · have hl := Lib.hid (show lastS next = [] from if_neg hg)
        go_wp2
        go_ret
        have he : acc = otherP (-99) xs := by rw [← HE.out, hl.out, List.append_nil]
        exact ⟨_, rfl, he ▸ hown, he ▸ hfa, hb⟩
end Go.Proofs.YthkjcljhfjaabaaGreatDoor
