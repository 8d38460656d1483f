/-
  The library's growth and concatenation of lists of spans.
-/
import Derived.Shelf.Spec.SlicesGrow
import Derived.Laws.AppendOwnNone
import Derived.Test.YthdmoaimgbffmaaSh
import Derived.Test.YthdmoaimgbffmaaOw
namespace Go.Proofs.Ythdmoaimgbffmaa
open Go.RowKit Sets

theorem grow_any (n : Nat) (hn : n ≤ 1000) (w : World) :
    Calls Try.prog 67 #[.slice none 0 0, .int .i64 n] w fun e w' => ∃ v, e = .returned v ∧ OwnS w' w.heap.size v [] ∧ Below w.heap.size w w' := by
  rcases Nat.eq_zero_or_pos n with rfl | hp
  · have h := Any8.slices_Grow_room Try.growSpans none 0 0 0 w (by omega) (by omega) (by omega) (by omega)
    refine (show Calls Try.prog _ _ _ _ from h).mono ?_
    rintro e w' ⟨rfl, rfl⟩
    exact ⟨_, rfl, OwnS.nil _ _, Below.refl _ _⟩
  · obtain ⟨i0, hi0, hz0, hz1, hz2⟩ := infoSp
    have h := Any8.slices_Grow_grow Try.growSpans i0 _ hi0 hz0 (by omega) none 0 0 n [] w (by omega) (by omega) (by rw [hz2]; omega) (by omega) (by simp) (fun _ => rfl) (fun a h => by cases h)
    refine (show Calls Try.prog _ _ _ _ from h).mono ?_
    rintro e w' ⟨rfl, rfl⟩
    have hge := grownCap_ge w (0 + n) 0 29
    have hle := grownCap_le_maxLen w (0 + n) 0 29 (by unfold maxLen; omega)
    have e25 : Try.growSpans_ren.t 25 = 29 := rfl
    rw [e25]
    obtain ⟨G, hG⟩ : ∃ G, grownCap w (0 + n) 0 29 = G := ⟨_, rfl⟩
    rw [hG] at hge hle ⊢
    have hnew : ∀ o : Obj, (w.drew.alloc o).heap[w.heap.size]? = some o := fun o => by show (w.heap.push o)[w.heap.size]? = some o; simp
    refine ⟨_, rfl, ⟨rfl, .inr ⟨w.heap.size, G, _, rfl, Nat.le_refl _, hnew _, Nat.zero_le _, hle, ?_, rfl⟩⟩, ((Below.refl _ w).drew).alloc (Nat.le_refl _) _⟩
    simp [Builtin.zeroCells, Value.cells]
    omega

theorem cellsOf_one (xs : List Sp) : ∀ u ∈ cellsOf xs, u.oneCell' = true := by
  induction xs with
  | nil => intro u hu; cases hu
  | cons x xs ih =>
    intro u hu
    simp only [cellsOf, List.mem_cons] at hu
    rcases hu with rfl | rfl | hu
    · rfl
    · rfl
    · exact ih u hu
theorem reads_cells {w : World} {B c : Nat} {ad : Addr} {xs : List Sp} (h : Reads w B (some ad) c xs) : ∀ (j : Nat) (u : Value), (cellsOf xs)[j]? = some u → w.cell? (ad.add j) = some u := by
  intro j u hu
  have hj : j < (cellsOf xs).length := (List.getElem?_eq_some_iff.1 hu).1
  rw [cellsOf_length] at hj
  rcases h.2.2.2 with rfl | ⟨b, off, e, hB, hrow⟩
  · simp at hj
  · injection e with e
    subst e
    have hadd : (⟨b, off, none⟩ : Addr).add j = ⟨b, off + j, none⟩ := by unfold Addr.add; split <;> simp_all
    rw [hadd]
    obtain ⟨r1, r2⟩ := hrow (j / 2) (by omega)
    obtain ⟨q1, q2⟩ := cellsOf_at xs (j / 2) (by omega)
    have hm : j % 2 = 0 ∨ j % 2 = 1 := by omega
    rcases hm with hm | hm
    · have e : j = j / 2 * 2 := by omega
      rw [e] at hu ⊢
      rw [q1] at hu
      rw [← hu]; exact r1
    · have e : j = j / 2 * 2 + 1 := by omega
      rw [e] at hu ⊢
      rw [q2] at hu
      rw [← hu]; exact r2
theorem OwnS.of_append2 {w : World} {base : Nat} {v : Value} {xs ys : List Sp} (h : w.ownsRow base 29 2 v (xs.length + ys.length) (cellsOf xs ++ cellsOf ys)) : OwnS w base v (xs ++ ys) := by
  unfold OwnS
  rw [cellsOf_append, List.length_append]
  exact h

/-- Lists of spans that lie one after the other in a block. -/
structure LsAt (w : World) (lb : Nat) (L : List (Option Addr × Nat × List Sp)) : Prop where
  cell : ∀ i (h : i < L.length), w.cell? ⟨lb, i, none⟩ = some (.slice L[i].1 L[i].2.2.length L[i].2.1)
  reads : ∀ i (h : i < L.length), Reads w w.heap.size L[i].1 L[i].2.1 L[i].2.2
  nocap : ∀ i (h : i < L.length), L[i].1 = none → L[i].2.1 = 0
  lt : lb < w.heap.size
theorem LsAt.below {w w' : World} {lb : Nat} {L : List (Option Addr × Nat × List Sp)} (h : LsAt w lb L) (hb : Below w.heap.size w w') : LsAt w' lb L :=
  ⟨fun i hi => (hb.cell (p := ⟨lb, i, none⟩) h.lt).trans (h.cell i hi), fun i hi => (h.reads i hi).step hb, h.nocap, Nat.lt_of_lt_of_le h.lt hb.size⟩
def flatL (L : List (Option Addr × Nat × List Sp)) (k : Nat) : List Sp := ((L.take k).map fun x => x.2.2).flatten
theorem flatL_succ {L : List (Option Addr × Nat × List Sp)} {k : Nat} (h : k < L.length) : flatL L (k + 1) = flatL L k ++ L[k].2.2 := by
  unfold flatL
  rw [List.take_succ_eq_append_getElem h, List.map_append, List.flatten_append]
  simp only [List.map_cons, List.map_nil, List.flatten_cons, List.flatten_nil, List.append_nil]
theorem flatL_fits {w : World} {lb : Nat} {L : List (Option Addr × Nat × List Sp)} (h : LsAt w lb L) : ∀ k, k ≤ L.length → Fits (flatL L k)
  | 0, _ => by unfold flatL; intro x hx; simp at hx
  | k + 1, hk => by
    rw [flatL_succ (by omega)]
    intro x hx
    rcases List.mem_append.1 hx with hx | hx
    · exact flatL_fits h k (by omega) x hx
    · exact (h.reads k (by omega)).2.2.1 x hx
theorem flatL_mono (L : List (Option Addr × Nat × List Sp)) : ∀ k, k ≤ L.length → (flatL L k).length ≤ (flatL L L.length).length := by
  intro k hk
  unfold flatL
  rw [List.take_length]
  have h : L = L.take k ++ L.drop k := (List.take_append_drop k L).symm
  calc ((L.take k).map fun x => x.2.2).flatten.length ≤ (((L.take k).map fun x => x.2.2) ++ ((L.drop k).map fun x => x.2.2)).flatten.length := by
        rw [List.flatten_append, List.length_append]; omega
    _ = _ := by rw [← List.map_append, ← h]

set_option maxRecDepth 100000 in
set_option maxHeartbeats 2000000 in
theorem concat_any (lb : Nat) (L : List (Option Addr × Nat × List Sp)) (hL : L.length ≤ 4) (hT : (flatL L L.length).length ≤ 1000) (w : World) (h : LsAt w lb L) :
    Calls Try.prog 59 #[.slice (some ⟨lb, 0, none⟩) L.length L.length] w
      fun e w' => ∃ v, e = .returned v ∧ OwnS w' w.heap.size v (flatL L L.length) ∧ Fits (flatL L L.length) ∧ Below w.heap.size w w' := by
  obtain ⟨i0, hi0, hz0, hz1, hz2⟩ := infoSp
  have H := Lib.hid h
  clear h
  go_enter Try.func59, Try.ntmps59
  go_wp2
  go_loopw [3, 11] (fun sv iv wr => ∃ k : Nat, k ≤ L.length ∧ iv = .int .i64 k ∧ sv = .int .i64 (flatL L k).length ∧ wr = w) (fun _ iv _ => L.length - (intOf iv).toNat)
  case atStart => exact ⟨0, Nat.zero_le _, rfl, rfl, rfl⟩
  case round =>
    obtain ⟨k, hk, rfl, rfl, hwr⟩ := hrel
    have hwr' := hwr.symm
    clear hwr
    subst hwr'
    by_cases hlt : k < L.length
    · have hkl : (k : Int) < (L.length : Int) := by omega
      have c1 := H.out.cell k hlt
      have hs := Lib.hid (flatL_succ hlt)
      have hm1 := flatL_mono L k (by omega)
      have hm2 := flatL_mono L (k + 1) (by omega)
      have hl2 : (flatL L (k + 1)).length = (flatL L k).length + (L[k].2.2).length := by rw [hs.out, List.length_append]
      generalize hA : L[k] = A at c1 hl2
      go_wp2
      go_roundw
      case rel => exact ⟨k + 1, hlt, by go_num, by rw [hl2]; go_num, trivial⟩
      case measure => simp [intOf]; omega
    · obtain rfl : k = L.length := by omega
      have hfits := Lib.hid (flatL_fits H.out L.length (Nat.le_refl _))
      go_wp2_with fail
      refine (grow_any _ hT w).mono ?_
      rintro e w1 ⟨v1, rfl, own1, b1⟩
      go_wp2
      go_loopw [6, 27] (fun nv iv w2 => ∃ k : Nat, k ≤ L.length ∧ iv = .int .i64 k ∧ OwnS w2 w.heap.size nv (flatL L k) ∧ Below w.heap.size w w2) (fun _ iv _ => L.length - (intOf iv).toNat)
      case atStart => exact ⟨0, Nat.zero_le _, rfl, own1, b1⟩
      case round =>
        obtain ⟨k, hk, rfl, own2, b2⟩ := hrel
        by_cases hlt : k < L.length
        · have hkl : (k : Int) < (L.length : Int) := by omega
          have H2 := H.out.below b2
          have c1 := H2.cell k hlt
          have r1 := Lib.hid (H2.reads k hlt)
          have z1 := Lib.hid (H2.nocap k hlt)
          clear H2
          have hs := Lib.hid (flatL_succ hlt)
          have hm2 := flatL_mono L (k + 1) (by omega)
          have hl2 : (flatL L (k + 1)).length = (flatL L k).length + (L[k].2.2).length := by rw [hs.out, List.length_append]
          generalize hA : L[k] = A at c1 hl2 r1 z1 hs
          clear hA
          obtain ⟨A5, c5, hv5, _, _⟩ := own2.form (flatL_fits H.out k (by omega))
          subst hv5
          have hsz := b2.size
          obtain ⟨A0, c0, ys⟩ := A
          cases A0 with
          | none =>
            have hc0 : c0 = 0 := z1.out rfl
            subst hc0
            have hy : ys = [] := by
              rcases r1.out.2.2.2 with h | ⟨b, off, h, _⟩
              · exact h
              · cases h
            subst hy
            go_wp2_with (at_builtin; refine wpList_append_own_none rfl (.tmp 31) (.tmp 32) 23 rfl w.heap.size 29 i0 2 Try.underlying23 hi0 _ (flatL L k).length (cellsOf (flatL L k)) rfl own2 rfl ?_)
            go_roundw
            case rel => exact ⟨k + 1, hlt, by go_num, by rw [hs.out, List.append_nil]; exact own2, b2⟩
            case measure => simp [intOf]; omega
          | some ad =>
            have hnews := Lib.hid (reads_cells r1.out)
            have hlen := Lib.hid (cellsOf_length ys)
            have hone := Lib.hid (cellsOf_one ys)
            go_wp2_with (at_builtin; refine wpList_append_own _ rfl (.tmp 31) (.tmp 32) 23 rfl w.heap.size 29 i0 _ 2 16 Try.underlying23 hi0 hz0 hz1 hz2 rfl (by decide) _ (flatL L k).length (cellsOf (flatL L k)) rfl own2 ad ys.length c0 (cellsOf ys) rfl hlen.out ?hc1 ?hc2 ?hc3 ?hc4 ?hc5 ?_; rotate_right; intro v' w4 hown2 hgrow _)
            case hc1 => exact hnews.out
            case hc2 => exact hone.out
            case hc3 => unfold maxLen; omega
            case hc4 => omega
            go_roundw
            case rel => exact ⟨k + 1, hlt, by go_num, by rw [hs.out]; exact OwnS.of_append2 hown2, Below.grown b2 hgrow hsz (fun k hk => (own2.lt k hk).1)⟩
            case measure => simp [intOf]; omega
        · obtain rfl : k = L.length := by omega
          go_wp2
          go_ret
          exact ⟨_, rfl, own2, hfits.out, b2⟩
end Go.Proofs.Ythdmoaimgbffmaa
