/-
  Contract of the program's reader of values of columns.
-/
import Derived.Test.YtajjmdnbmicefabDoorTc
namespace Go.Proofs.YtajjmdnbmicefabDoor
open Go.RowKit Sets

theorem reader_let (w : World) : Calls Tryd.prog 29 #[.bool true] w fun e w' => e = .returned (.func (.func 46) #[] #[]) ∧ w = w' := by
  go_enter Tryd.func29, Tryd.ntmps29
  go_wp2
  go_ret
  exact ⟨rfl, rfl⟩
theorem reader_num (w : World) : Calls Tryd.prog 29 #[.bool false] w fun e w' => e = .returned (.func (.func 47) #[] #[]) ∧ w = w' := by
  go_enter Tryd.func29, Tryd.ntmps29
  go_wp2
  go_ret
  exact ⟨rfl, rfl⟩

theorem pv_cmp1 {L : Bool} {a b n : Int} {s : ByteArray} (hn : (rdO L s.data.toList).1 = n) (h : (!fV L a b n == s.toList) = true) : pvN L a b s.data.toList = 0 ∧ pvB L a b s.data.toList = false := by
  refine parse_no2 ?_
  rw [hn, ← Lib.toList_data]
  intro e
  rw [e] at h
  simp at h
theorem pv_cmp2 {L : Bool} {a b n : Int} {s : ByteArray} (hn : (rdO L s.data.toList).1 = n) (ho : (rdO L s.data.toList).2 = true) (h : (!fV L a b n == s.toList) = false) : pvN L a b s.data.toList = n ∧ pvB L a b s.data.toList = true := by
  have := parse_yes (L := L) (a := a) (b := b) ho (by rw [hn, ← Lib.toList_data]; simpa using h)
  rw [hn] at this
  exact this

set_option maxRecDepth 100000 in
set_option maxHeartbeats 1000000 in
theorem implPV_any (L : Bool) (a b : Int) (s : ByteArray) (hs : s.size ≤ 9223372036854775807) (w : World) (hp : PowIs w) :
    Calls Tryd.prog 12 #[colV L a b, .string s] w fun e w' => e = .returned (.tuple #[.int .i64 (pvN L a b s.data.toList), .bool (pvB L a b s.data.toList)]) ∧ Below w.heap.size w w' := by
  have b0 : Below w.heap.size w (w.alloc (.cells #[.bool L, .int .i64 a, .int .i64 b] 25)) := (Below.refl _ w).alloc (Nat.le_refl _) _
  have hp0 := Lib.hid (hp.step b0)
  obtain ⟨k0, k1, k2⟩ := ColAt.box w L a b 25
  clear hp
  cases L
  · go_enter Tryd.func12, Tryd.ntmps12
    go_wp2_with fail
    refine (reader_num _).mono ?_
    rintro e w' ⟨rfl, rfl⟩
    go_wp2_with fail
    refine (readNumber_any s hs _).mono ?_
    cases hr : (rdN s.data.toList).2
    · have hv := Lib.hid (parse_no1 (L := false) (a := a) (b := b) (l := s.data.toList) hr)
      clear hr
      generalize (rdN s.data.toList).1 = n
      rintro e w1 ⟨rfl, b1⟩
      go_wp2
      go_ret2
      exact ⟨by rw [hv.out.1, hv.out.2]; rfl, b0.trans (b1.mono b0.size)⟩
    · have HR := Lib.hid hr
      clear hr
      have hbn := rdN_bound s.data.toList
      generalize hn : (rdN s.data.toList).1 = n at hbn
      have HN := Lib.hid hn
      clear hn
      rintro e w1 ⟨rfl, b1⟩
      obtain ⟨g0, g1, g2⟩ := ColAt.below (g := w.heap.size) ⟨k0, k1, k2⟩ b1 (by simp)
      have b01 := b0.trans (b1.mono b0.size)
      have hp1 := Lib.hid (hp0.out.step b1)
      clear k0 k1 k2
      go_wp2_with fail
      refine (implFV_any false a b n _ hp1.out).mono ?_
      rintro e w2 ⟨rfl, b2⟩
      go_wp2
      all_goals first
        | (have h1 : (!fV false a b n == s.toList) = true := by assumption
           have hv := pv_cmp1 (L := false) HN.out h1
           go_ret2
           exact ⟨by rw [hv.1, hv.2]; rfl, b01.trans (b2.mono b01.size)⟩)
        | (have h1 : (!fV false a b n == s.toList) = false := by assumption
           have hv := pv_cmp2 (L := false) HN.out HR.out h1
           go_ret2
           exact ⟨by rw [hv.1, hv.2]; rfl, b01.trans (b2.mono b01.size)⟩)
  · go_enter Tryd.func12, Tryd.ntmps12
    go_wp2_with fail
    refine (reader_let _).mono ?_
    rintro e w' ⟨rfl, rfl⟩
    go_wp2_with fail
    refine (readLetter_any s hs _).mono ?_
    cases hr : (rdL s.data.toList).2
    · have hv := Lib.hid (parse_no1 (L := true) (a := a) (b := b) (l := s.data.toList) hr)
      clear hr
      generalize (rdL s.data.toList).1 = n
      rintro e w1 ⟨rfl, b1⟩
      go_wp2
      go_ret2
      exact ⟨by rw [hv.out.1, hv.out.2]; rfl, b0.trans (b1.mono b0.size)⟩
    · have HR := Lib.hid hr
      clear hr
      have hbn := rdL_bound s.data.toList
      generalize hn : (rdL s.data.toList).1 = n at hbn
      have HN := Lib.hid hn
      clear hn
      rintro e w1 ⟨rfl, b1⟩
      obtain ⟨g0, g1, g2⟩ := ColAt.below (g := w.heap.size) ⟨k0, k1, k2⟩ b1 (by simp)
      have b01 := b0.trans (b1.mono b0.size)
      have hp1 := Lib.hid (hp0.out.step b1)
      clear k0 k1 k2
      go_wp2_with fail
      refine (implFV_any true a b n _ hp1.out).mono ?_
      rintro e w2 ⟨rfl, b2⟩
      go_wp2
      all_goals first
        | (have h1 : (!fV true a b n == s.toList) = true := by assumption
           have hv := pv_cmp1 (L := true) HN.out h1
           go_ret2
           exact ⟨by rw [hv.1, hv.2]; rfl, b01.trans (b2.mono b01.size)⟩)
        | (have h1 : (!fV true a b n == s.toList) = false := by assumption
           have hv := pv_cmp2 (L := true) HN.out HR.out h1
           go_ret2
           exact ⟨by rw [hv.1, hv.2]; rfl, b01.trans (b2.mono b01.size)⟩)
end Go.Proofs.YtajjmdnbmicefabDoor
