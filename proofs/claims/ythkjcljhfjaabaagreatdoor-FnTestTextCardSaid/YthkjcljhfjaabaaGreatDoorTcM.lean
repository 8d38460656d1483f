/-
  Contracts of the program's readers of numbers and letters, and of its reader of values.
-/
import Derived.Test.YthkjcljhfjaabaaGreatDoorTb
import Derived.Laws.RangeAny
import Derived.Laws.Strings3
import Derived.Laws.Strings2
import Derived.Laws.Strings
namespace Go.Proofs.YthkjcljhfjaabaaGreatDoor
open Go.RowKit Sets

theorem trim_neg (l : Bs) : Lib.trimPrefix l [45] = digsOf l := rfl
theorem drop_cons (d : ByteArray) (pos : Nat) (h : pos < d.size) : d.data.toList.drop pos = d[pos] :: d.data.toList.drop (pos + 1) := by
  rw [List.drop_eq_getElem_cons (by rw [← Lib.size_eq]; exact h)]
  rfl
theorem iter_below (w : World) (s : ByteArray) (pos : Nat) : Below w.heap.size w (w.iter s pos) := (Below.refl _ w).alloc (Nat.le_refl _) _
theorem rdN_none {l : Bs} (h : rdF (digsOf l) 0 = none) : rdN l = (0, false) := by unfold rdN; rw [h]
theorem rdN_some {l : Bs} {n : Int} (h : rdF (digsOf l) 0 = some n) : rdN l = (if negB l = true then -n else n, !(digsOf l).isEmpty) := by unfold rdN; rw [h]
theorem ret_two {v1 v2 : Value} {p : Int × Bool} (h1 : v1 = .int .i64 p.1) (h2 : v2 = .bool p.2) : Ending.returned (.tuple #[v1, v2]) = .returned (.tuple #[.int .i64 p.1, .bool p.2]) := by rw [h1, h2]

set_option maxRecDepth 100000 in
set_option maxHeartbeats 1000000 in
theorem readNumber_any (s : ByteArray) (hs : s.size ≤ 9223372036854775807) (w : World) :
    Calls Tryz.prog 94 #[.string s] w fun e w' => e = .returned (.tuple #[.int .i64 (rdN s.data.toList).1, .bool (rdN s.data.toList).2]) ∧ Below w.heap.size w w' := by
  obtain ⟨d, hd⟩ : ∃ d : ByteArray, d.data.toList = digsOf s.data.toList := ⟨⟨(digsOf s.data.toList).toArray⟩, by simp⟩
  have hds : d.size ≤ 9223372036854775807 := by
    have e1 := Lib.size_eq d
    have e2 := Lib.size_eq s
    rw [hd] at e1
    unfold digsOf at e1
    split at e1
    · rw [List.length_drop] at e1; omega
    · omega
  have hsv := Lib.hid (str_eq hd)
  have HD := Lib.hid hd
  clear hd
  cases hn : negB s.data.toList
  all_goals
    have HN := Lib.hid hn
    clear hn
    go_enter Tryz.func94, Tryz.ntmps94
    go_wp2_with fail
    refine (Tryz.strings_CutPrefix s ⟨#[45]⟩ _).mono ?_
    have htr : Lib.hasPrefix s.data.toList (⟨#[45]⟩ : ByteArray).data.toList = negB s.data.toList := rfl
    have htv : Value.string ⟨(Lib.trimPrefix s.data.toList (⟨#[45]⟩ : ByteArray).data.toList).toArray⟩ = Value.string d := hsv.out.symm
    rw [htr, htv, HN.out]
    clear htr htv
    rintro e w1 ⟨rfl, hw1⟩
    subst w1
    go_wp2
    go_loopw [6] (fun n wr => ∃ (pos : Nat) (m : Int), wr = w.iter d pos ∧ n = .int .i64 m ∧ 0 ≤ m ∧ m ≤ 99 ∧ pos ≤ d.size ∧ Hid (rdF (digsOf s.data.toList) 0 = rdF (d.data.toList.drop pos) m)) (fun _ wr => d.size - wr.iterPos w.heap.size)
    case atStart => exact ⟨0, 0, rfl, rfl, by omega, by omega, by omega, Lib.hid (by rw [HD.out, List.drop_zero])⟩
    case round =>
      obtain ⟨pos, m, rfl, rfl, hm0, hm1, hpl, HR⟩ := hrel
      by_cases hp : pos < d.size
      · have HC := Lib.hid (drop_cons d pos hp)
        have hnx : ∀ ty, (Instr.next (.pointer (some ⟨w.heap.size, 0, none⟩)) true ty).run Tryz.prog (w.iter d pos) = _ := fun ty => run_next_any w d pos ty hp
        have hdl := decode_le d pos
        by_cases hdig : isDig d[pos] = true
        · obtain ⟨g1, g2⟩ := (isDig_iff _).1 hdig
          have hda := decode_ascii d pos hp (by omega)
          have hdd : Hid (isDig d[pos] = true) := Lib.hid hdig
          rw [hda] at hnx
          clear hda hdig hdl
          generalize hcg : (d[pos]).toNat = c at hnx g1 g2
          have HG := Lib.hid hcg
          clear hcg
          by_cases hov : 10 * m + ((c : Int) - 48) ≤ 99
          · have hb : isNumB (10 * m + ((c : Int) - 48)) = true := by unfold isNumB; simp; omega
            have HB := Lib.hid hb
            clear hb
            go_wp2_with fail
            refine (isNumber_any _ _).mono ?_
            rw [HB.out]
            rintro e w1 ⟨rfl, rfl⟩
            go_wp2
            go_roundw
            case rel =>
              refine ⟨pos + 1, _, rfl, rfl, by omega, by omega, by omega, Lib.hid ?_⟩
              rw [HR.out, HC.out, rdF, if_pos ⟨hdd.out, by rw [HG.out]; omega⟩, HG.out]
            case measure => simp; omega
          · have hb : isNumB (10 * m + ((c : Int) - 48)) = false := by unfold isNumB; simp; omega
            have HB := Lib.hid hb
            have HF : Hid (rdN s.data.toList = (0, false)) := Lib.hid (rdN_none (by rw [HR.out, HC.out, rdF, if_neg (by rw [HG.out]; exact fun h => hov h.2)]))
            clear hb
            go_wp2_with fail
            refine (isNumber_any _ _).mono ?_
            rw [HB.out]
            rintro e w1 ⟨rfl, rfl⟩
            go_wp2
            go_ret2
            exact ⟨by rw [HF.out]; rfl, iter_below _ _ _⟩
        · have HF : Hid (rdN s.data.toList = (0, false)) := Lib.hid (rdN_none (by rw [HR.out, HC.out, rdF, if_neg (fun h => hdig h.1)]))
          have hr : (Utf8.decode d pos).1 < 48 ∨ 57 < (Utf8.decode d pos).1 := by
            by_cases ha : (d[pos]).toNat < 128
            · rw [decode_ascii d pos hp ha]
              have h5 : ¬ (48 ≤ (d[pos]).toNat ∧ (d[pos]).toNat ≤ 57) := fun h => hdig ((isDig_iff _).2 h)
              show (d[pos]).toNat < 48 ∨ 57 < (d[pos]).toNat
              omega
            · have := (decode_high d pos hp (by omega)).1
              omega
          generalize Utf8.decode d pos = q at hnx hdl hr
          obtain ⟨q1, q2⟩ := q
          simp only at hnx hdl hr
          clear hdig
          by_cases h1 : q1 < 48
          · have h1' : (q1 : Int) < 48 := by omega
            go_wp2
            go_ret2
            exact ⟨by rw [HF.out]; rfl, iter_below _ _ _⟩
          · have h1' : ¬ (q1 : Int) < 48 := by omega
            have h1d : decide ((q1 : Int) < 48) = false := decide_eq_false h1'
            have h2' : (57 : Int) < (q1 : Int) := by omega
            go_wp2
            go_ret2
            exact ⟨by rw [HF.out]; rfl, iter_below _ _ _⟩
      · have hnx : ∀ ty, (Instr.next (.pointer (some ⟨w.heap.size, 0, none⟩)) true ty).run Tryz.prog (w.iter d pos) = _ := fun ty => run_next_end w d pos ty hp
        have HF := Lib.hid (rdN_some (l := s.data.toList) (n := m) (by rw [HR.out, List.drop_eq_nil_of_le (by rw [← Lib.size_eq]; omega)]; rfl))
        go_wp2
        go_ret2
        refine ⟨ret_two (p := rdN s.data.toList) ?_ ?_, iter_below _ _ _⟩
        · rw [HF.out, HN.out]; rfl
        · show Value.bool (!d.toList.isEmpty) = _
          rw [HF.out, Lib.toList_data d, HD.out]

theorem rdL_two {l : Bs} {c : UInt8} {t : Bs} {p : Nat} (hp : 0 < p) (h : l.drop p = c :: t) : rdL l = (0, false) := by
  match l, p, hp with
  | [], _, _ => simp at h
  | [x], p + 1, _ => simp at h
  | _ :: _ :: _, _, _ => rfl
theorem rdL_bad {l : Bs} {c : UInt8} {t : Bs} (h : l = c :: t) (hc : isLet c = false) : rdL l = (0, false) := by
  subst h
  cases t with
  | nil => rw [rdL, hc]; rfl
  | cons _ _ => rfl
theorem rdL_good {l : Bs} {c : UInt8} (h : l = [c]) (hc : isLet c = true) : rdL l = ((c.toNat : Int) - 65, true) := by
  subst h
  rw [rdL, if_pos hc]
/-- what the reader of letters holds after pos bytes -/
def letN (l : Bs) (pos : Nat) (m : Int) : Prop := (pos = 0 ∧ m = 0) ∨ (pos = 1 ∧ ∃ c t, l = c :: t ∧ isLet c = true ∧ m = (c.toNat : Int) - 65)

set_option maxRecDepth 100000 in
set_option maxHeartbeats 1000000 in
theorem readLetter_any (s : ByteArray) (hs : s.size ≤ 9223372036854775807) (w : World) :
    Calls Tryz.prog 93 #[.string s] w fun e w' => e = .returned (.tuple #[.int .i64 (rdL s.data.toList).1, .bool (rdL s.data.toList).2]) ∧ Below w.heap.size w w' := by
  go_enter Tryz.func93, Tryz.ntmps93
  go_wp2
  go_loopw [4] (fun n wr => ∃ (pos : Nat) (m : Int), wr = w.iter s pos ∧ n = .int .i64 m ∧ 0 ≤ m ∧ m ≤ 99 ∧ pos ≤ s.size ∧ Hid (letN s.data.toList pos m)) (fun _ wr => s.size - wr.iterPos w.heap.size)
  case atStart => exact ⟨0, 0, rfl, rfl, by omega, by omega, by omega, Lib.hid (.inl ⟨rfl, rfl⟩)⟩
  case round =>
    obtain ⟨pos, m, rfl, rfl, hm0, hm1, hpl, HR⟩ := hrel
    by_cases hp : pos < s.size
    · have HC := Lib.hid (drop_cons s pos hp)
      have hnx : ∀ ty, (Instr.next (.pointer (some ⟨w.heap.size, 0, none⟩)) true ty).run Tryz.prog (w.iter s pos) = _ := fun ty => run_next_any w s pos ty hp
      have hdl := decode_le s pos
      by_cases h0 : 0 < pos
      · have HF : Hid (rdL s.data.toList = (0, false)) := Lib.hid (rdL_two h0 HC.out)
        have h0' : (0 : Int) < (pos : Int) := by omega
        generalize Utf8.decode s pos = q at hnx hdl
        obtain ⟨q1, q2⟩ := q
        simp only at hnx hdl
        go_wp2
        go_ret2
        exact ⟨by rw [HF.out]; rfl, iter_below _ _ _⟩
      · obtain rfl : pos = 0 := by omega
        by_cases hlet : isLet s[0] = true
        · obtain ⟨g1, g2⟩ := (isLet_iff _).1 hlet
          have hda := decode_ascii s 0 hp (by omega)
          have hdd : Hid (isLet s[0] = true) := Lib.hid hlet
          rw [hda] at hnx
          clear hda hlet hdl
          generalize hcg : (s[0]).toNat = c at hnx g1 g2
          have HG := Lib.hid hcg
          clear hcg
          have d0 : decide ((0 : Int) < 0) = false := by decide
          go_wp2
          go_roundw
          case rel =>
            refine ⟨1, _, rfl, rfl, by omega, by omega, by omega, Lib.hid (.inr ⟨rfl, s[0], s.data.toList.drop 1, ?_, hdd.out, by rw [HG.out]⟩)⟩
            have := HC.out
            simpa using this
          case measure => simp; omega
        · have HF : Hid (rdL s.data.toList = (0, false)) := Lib.hid (rdL_bad (by simpa using HC.out) (by simpa using hlet))
          have hr : (Utf8.decode s 0).1 < 65 ∨ 90 < (Utf8.decode s 0).1 := by
            by_cases ha : (s[0]).toNat < 128
            · rw [decode_ascii s 0 hp ha]
              have h5 : ¬ (65 ≤ (s[0]).toNat ∧ (s[0]).toNat ≤ 90) := fun h => hlet ((isLet_iff _).2 h)
              show (s[0]).toNat < 65 ∨ 90 < (s[0]).toNat
              omega
            · have := (decode_high s 0 hp (by omega)).1
              omega
          generalize Utf8.decode s 0 = q at hnx hdl hr
          obtain ⟨q1, q2⟩ := q
          simp only at hnx hdl hr
          clear hlet
          by_cases h1 : q1 < 65
          · have h1' : (q1 : Int) < 65 := by omega
            go_wp2
            go_ret2
            exact ⟨by rw [HF.out]; rfl, iter_below _ _ _⟩
          · have h1' : ¬ (q1 : Int) < 65 := by omega
            have h1d : decide ((q1 : Int) < 65) = false := decide_eq_false h1'
            have h2' : (90 : Int) < (q1 : Int) := by omega
            go_wp2
            go_ret2
            exact ⟨by rw [HF.out]; rfl, iter_below _ _ _⟩
    · have hnx : ∀ ty, (Instr.next (.pointer (some ⟨w.heap.size, 0, none⟩)) true ty).run Tryz.prog (w.iter s pos) = _ := fun ty => run_next_end w s pos ty hp
      have HF : Hid (rdL s.data.toList = (m, !s.data.toList.isEmpty)) := Lib.hid (by
        have hl := Lib.size_eq s
        have hpe : pos = s.size := by omega
        rw [← hpe] at hl
        rcases HR.out with ⟨h1, rfl⟩ | ⟨h1, c, t, h2, h3, rfl⟩
        · rw [h1] at hl
          rw [List.eq_nil_of_length_eq_zero hl.symm]; rfl
        · rw [h1, h2] at hl
          have : t = [] := List.eq_nil_of_length_eq_zero (by simpa using hl.symm)
          subst this
          rw [rdL_good h2 h3, h2]; rfl)
      go_wp2
      go_ret2
      refine ⟨ret_two (p := rdL s.data.toList) ?_ ?_, iter_below _ _ _⟩
      · rw [HF.out]; rfl
      · show Value.bool (!s.toList.isEmpty) = _
        rw [HF.out, Lib.toList_data s]
end Go.Proofs.YthkjcljhfjaabaaGreatDoor

namespace Go.Proofs.YthkjcljhfjaabaaGreatDoor
open Go.RowKit Sets

set_option maxRecDepth 100000 in
theorem reader_let (w : World) : Calls Tryz.prog 64 #[.bool true] w fun e w' => e = .returned (.func (.func 93) #[] #[]) ∧ w = w' := by
  go_enter Tryz.func64, Tryz.ntmps64
  go_wp2
  go_ret
  exact ⟨rfl, rfl⟩
set_option maxRecDepth 100000 in
theorem reader_num (w : World) : Calls Tryz.prog 64 #[.bool false] w fun e w' => e = .returned (.func (.func 94) #[] #[]) ∧ w = w' := by
  go_enter Tryz.func64, Tryz.ntmps64
  go_wp2
  go_ret
  exact ⟨rfl, rfl⟩

theorem pv_cmp1 {L : Bool} {a b n : Int} {s : ByteArray} (hn : (rdO L s.data.toList).1 = n) (h : (!fV L a b n == s.toList) = true) : pvN L a b s.data.toList = 0 ∧ pvB L a b s.data.toList = false := by
  refine parse_no2 ?_
  rw [hn, ← Lib.toList_data]
  intro e
  rw [e] at h
  simp at h
theorem pv_cmp2 {L : Bool} {a b n : Int} {s : ByteArray} (hn : (rdO L s.data.toList).1 = n) (ho : (rdO L s.data.toList).2 = true) (h : (!fV L a b n == s.toList) = false) : pvN L a b s.data.toList = n ∧ pvB L a b s.data.toList = true := by
  have := parse_yes (L := L) (a := a) (b := b) ho (by rw [hn, ← Lib.toList_data]; simpa using h)
  rw [hn] at this
  exact this

set_option maxRecDepth 100000 in
set_option maxHeartbeats 1000000 in
theorem implPV_any (L : Bool) (a b : Int) (s : ByteArray) (hs : s.size ≤ 9223372036854775807) (w : World) (hp : PowIs w) :
    Calls Tryz.prog 25 #[colV L a b, .string s] w fun e w' => e = .returned (.tuple #[.int .i64 (pvN L a b s.data.toList), .bool (pvB L a b s.data.toList)]) ∧ Below w.heap.size w w' := by
  have b0 : Below w.heap.size w (w.alloc (.cells #[.bool L, .int .i64 a, .int .i64 b] 27)) := (Below.refl _ w).alloc (Nat.le_refl _) _
  have hp0 := Lib.hid (hp.step b0)
  obtain ⟨k0, k1, k2⟩ := ColAt.box w L a b 27
  clear hp
  cases L
  · go_enter Tryz.func25, Tryz.ntmps25
    go_wp2_with fail
    refine (reader_num _).mono ?_
    rintro e w' ⟨rfl, rfl⟩
    go_wp2_with fail
    refine (readNumber_any s hs _).mono ?_
    cases hr : (rdN s.data.toList).2
    · have hv := Lib.hid (parse_no1 (L := false) (a := a) (b := b) (l := s.data.toList) hr)
      clear hr
      generalize (rdN s.data.toList).1 = n
      rintro e w1 ⟨rfl, b1⟩
      go_wp2
      go_ret2
      exact ⟨by rw [hv.out.1, hv.out.2]; rfl, b0.trans (b1.mono b0.size)⟩
    · have HR := Lib.hid hr
      clear hr
      have hbn := rdN_bound s.data.toList
      generalize hn : (rdN s.data.toList).1 = n at hbn
      have HN := Lib.hid hn
      clear hn
      rintro e w1 ⟨rfl, b1⟩
      obtain ⟨g0, g1, g2⟩ := ColAt.below (g := w.heap.size) ⟨k0, k1, k2⟩ b1 (by simp)
      have b01 := b0.trans (b1.mono b0.size)
      have hp1 := Lib.hid (hp0.out.step b1)
      clear k0 k1 k2
      go_wp2_with fail
      refine (implFV_any false a b n _ hp1.out).mono ?_
      rintro e w2 ⟨rfl, b2⟩
      go_wp2
      all_goals first
        | (have h1 : (!fV false a b n == s.toList) = true := by assumption
           have hv := pv_cmp1 (L := false) HN.out h1
           go_ret2
           exact ⟨by rw [hv.1, hv.2]; rfl, b01.trans (b2.mono b01.size)⟩)
        | (have h1 : (!fV false a b n == s.toList) = false := by assumption
           have hv := pv_cmp2 (L := false) HN.out HR.out h1
           go_ret2
           exact ⟨by rw [hv.1, hv.2]; rfl, b01.trans (b2.mono b01.size)⟩)
  · go_enter Tryz.func25, Tryz.ntmps25
    go_wp2_with fail
    refine (reader_let _).mono ?_
    rintro e w' ⟨rfl, rfl⟩
    go_wp2_with fail
    refine (readLetter_any s hs _).mono ?_
    cases hr : (rdL s.data.toList).2
    · have hv := Lib.hid (parse_no1 (L := true) (a := a) (b := b) (l := s.data.toList) hr)
      clear hr
      generalize (rdL s.data.toList).1 = n
      rintro e w1 ⟨rfl, b1⟩
      go_wp2
      go_ret2
      exact ⟨by rw [hv.out.1, hv.out.2]; rfl, b0.trans (b1.mono b0.size)⟩
    · have HR := Lib.hid hr
      clear hr
      have hbn := rdL_bound s.data.toList
      generalize hn : (rdL s.data.toList).1 = n at hbn
      have HN := Lib.hid hn
      clear hn
      rintro e w1 ⟨rfl, b1⟩
      obtain ⟨g0, g1, g2⟩ := ColAt.below (g := w.heap.size) ⟨k0, k1, k2⟩ b1 (by simp)
      have b01 := b0.trans (b1.mono b0.size)
      have hp1 := Lib.hid (hp0.out.step b1)
      clear k0 k1 k2
      go_wp2_with fail
      refine (implFV_any true a b n _ hp1.out).mono ?_
      rintro e w2 ⟨rfl, b2⟩
      go_wp2
      all_goals first
        | (have h1 : (!fV true a b n == s.toList) = true := by assumption
           have hv := pv_cmp1 (L := true) HN.out h1
           go_ret2
           exact ⟨by rw [hv.1, hv.2]; rfl, b01.trans (b2.mono b01.size)⟩)
        | (have h1 : (!fV true a b n == s.toList) = false := by assumption
           have hv := pv_cmp2 (L := true) HN.out HR.out h1
           go_ret2
           exact ⟨by rw [hv.1, hv.2]; rfl, b01.trans (b2.mono b01.size)⟩)
end Go.Proofs.YthkjcljhfjaabaaGreatDoor
