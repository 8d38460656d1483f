/-
  The walk of the law on the lengths of tests.
-/
import Derived.Test.YtajjmdnbmicefaaDoorDl
import Derived.Test.YtajjmdnbmicefaaDoorTjM
import Derived.Test.YtajjmdnbmicefaaDoorTn
namespace Go.Proofs.YtajjmdnbmicefaaDoor
open Go.RowKit Go.Sort Sets

theorem count_take (l : Bs) (k : Nat) (hk : k < l.length) : (l.take (k + 1)).count 44 = (l.take k).count 44 + if l[k] = 44 then 1 else 0 := by
  rw [List.take_add_one, List.getElem?_eq_getElem hk, List.count_append]
  simp [List.count_singleton]
theorem fT_size {L : Bool} {a b : Int} {xs : List Sp} : (fT L a b xs).length ≤ 108 := by
  cases h : isT L a b xs
  · rw [fT_no h]; simp
  · cases h1 : sameB xs (colS L a b)
    · rw [fT_list h h1]
      have := upT_len (isT_spans h) xs.length (Nat.le_refl _)
      have := isT_len h
      omega
    · rw [fT_all h h1]; simp

set_option maxRecDepth 100000 in
set_option maxHeartbeats 2000000 in
theorem testLength_walk (A : Option Addr) (n c : Nat) (z : Nat → Int) (w : World) (h : Bytes w A n c z) (hL : LibIs w) :
    Calls Tryd.prog 7 #[.slice A n c] w fun e w' => e = .returned (.bool true) ∧ Below w.heap.size w w' := by
  have hnc := h.1
  have hc := h.2.1
  by_cases hn : 1048576 < n
  · have hn' : (1048576 : Int) < (n : Int) := by omega
    go_enter Tryd.func7, Tryd.ntmps7
    go_wp2
    go_ret
    exact ⟨rfl, Below.refl _ _⟩
  · have hn' : ¬ (1048576 : Int) < (n : Int) := by omega
    have P0 := Lib.hid hL
    clear hL
    go_enter Tryd.func7, Tryd.ntmps7
    go_wp2_with fail
    refine (drawFT_any A n c z w h).mono ?_
    rintro e w1 ⟨L, a, b, v1, xs, rfl, a1, a2, b1, b2, own1, fit1, len1, bl1⟩
    obtain ⟨A1, c1, rfl, hr1, _⟩ := own1.form fit1
    have bx : Below w1.heap.size w1 (w1.alloc (.cells #[.bool L, .int .i64 a, .int .i64 b] 24)) := (Below.refl _ _).alloc (Nat.le_refl _) _
    have B2 := bl1.trans (bx.mono bl1.size)
    obtain ⟨k0, k1, k2⟩ := ColAt.box w1 L a b 24
    have zz : w1.heap.size < (w1.alloc (.cells #[.bool L, .int .i64 a, .int .i64 b] 24)).heap.size := by simp
    have R2 := Lib.hid (hr1.step bx)
    have P2 := Lib.hid (P0.out.step B2)
    have fi := fun w h hp => implFT_any L a b A1 c1 xs w h hp
    have fs := fun w h => specFT_any L a b A1 c1 xs w h
    have hlaw := fun h0 h1 => length_law (L := L) (a := a) (b := b) (xs := xs) h0 h1
    have hsz := fT_size (L := L) (a := a) (b := b) (xs := xs)
    generalize fT L a b xs = l at fi fs hlaw hsz
    obtain ⟨s, hse⟩ : ∃ s : ByteArray, s = ⟨l.toArray⟩ := ⟨_, rfl⟩
    have e1 : s.data.toList = l := by rw [hse]
    simp only [strV, ← hse] at fi fs
    have FI := Lib.hid fi
    have FS := Lib.hid fs
    have LAW := Lib.hid hlaw
    have hs1 : s.size ≤ 108 := by rw [Lib.size_eq, e1]; exact hsz
    have hsx : s.size ≤ 9223372036854775807 := by omega
    have E1 := Lib.hid e1
    have hq : (s.toList != s.toList) = false := by simp
    clear fi fs hlaw hse own1 hr1 bx bl1 e1 hsz
    go_wp2_with fail
    refine (FI.out _ R2.out P2.out.1).mono ?_
    rintro e w3 ⟨rfl, b3⟩
    obtain ⟨g0, g1, g2⟩ := ColAt.below (g := w1.heap.size) ⟨k0, k1, k2⟩ b3 zz
    have B3 := B2.trans (b3.mono B2.size)
    have R3 := Lib.hid (R2.out.step b3)
    clear k0 k1 k2 zz b3 B2
    go_wp2_with fail
    refine (FS.out _ R3.out).mono ?_
    rintro e w4 ⟨rfl, b4⟩
    have B4 := Lib.hid (B3.trans (b4.mono B3.size))
    clear g0 g1 g2 b4 B3
    go_wp2
    go_loop [6, 7] (fun cm i => ∃ k : Nat, k ≤ s.size ∧ i = .int .i64 k ∧ cm = .int .i64 ((s.data.toList.take k).count 44 : Nat)) (fun _ i => s.size - (intOf i).toNat)
    case atStart => exact ⟨0, Nat.zero_le _, rfl, rfl⟩
    case round =>
      obtain ⟨k, hk, rfl, rfl⟩ := hrel
      by_cases hlt : k < s.size
      · have hkl : (k : Int) < (s.size : Int) := by omega
        have hkd : k < s.data.toList.length := by rw [← Lib.size_eq]; exact hlt
        have hct := Lib.hid (count_take s.data.toList k hkd)
        have hcl : (s.data.toList.take k).count 44 ≤ 108 := Nat.le_trans List.count_le_length (by simp; omega)
        generalize (s.data.toList.take k).count 44 = m at hct hcl
        have hby : s.data.toList[k] = s[k] := by rw [Array.getElem_toList]; rfl
        go_wp2
        · have h44 : ((s[k].toNat : Int) == 44) = true := by assumption
          have he : s[k] = 44 := UInt8.toNat_inj.1 (by have h := beq_iff_eq.1 h44; show s[k].toNat = 44; omega)
          refine ⟨⟨k + 1, hlt, by go_num, ?_⟩, ?_⟩
          · rw [hct.out, hby, if_pos he]; go_num
          · simp [intOf]; omega
        · have h44 : ((s[k].toNat : Int) == 44) = false := by assumption
          have he : ¬ s[k] = 44 := fun e => by rw [e] at h44; revert h44; decide
          refine ⟨⟨k + 1, hlt, by go_num, ?_⟩, ?_⟩
          · rw [hct.out, hby, if_neg he]; rfl
          · simp [intOf]; omega
      · obtain rfl : k = s.size := by omega
        have hcl : (s.data.toList.take s.size).count 44 ≤ 108 := Nat.le_trans List.count_le_length (by simp; omega)
        have hall : Hid (s.data.toList.take s.size = s.data.toList) := Lib.hid (List.take_of_length_le (by rw [Lib.size_eq]; exact Nat.le_refl _))
        go_wp2
        · go_ret
          exact ⟨rfl, B4.out⟩
        · go_ret
          exact ⟨rfl, B4.out⟩
        · have g0 : ¬ s.toList = [] := by assumption
          have g1 : ¬ s.toList = [45] := by assumption
          rw [Lib.toList_data, E1.out] at g0 g1
          obtain ⟨q1, q2⟩ := LAW.out g0 g1
          have hcount : Hid (((s.data.toList.take s.size).count 44 : Nat) = xs.length - 1) := Lib.hid (by rw [hall.out, E1.out]; exact q1)
          go_ret
          refine ⟨?_, B4.out⟩
          have hi : (((s.data.toList.take s.size).count 44 : Nat) : Int) = (xs.length : Int) - 1 := by rw [hcount.out]; omega
          refine congrArg (fun x => Ending.returned (.bool x)) ?_
          rw [hi]
          simp
end Go.Proofs.YtajjmdnbmicefaaDoor
