/-
  Contract of the program's reader of columns.
-/
import Derived.Test.YtajjmdnbmicefaaDoorTh
import Derived.Test.YtajjmdnbmicefaaDoorLi
namespace Go.Proofs.YtajjmdnbmicefaaDoor
open Go.RowKit Go.Sort Sets

/-- The world between two rounds of the program's loop over the kinds of columns. -/
def Kinds2 (w wr : World) : Prop := Below w.heap.size w wr ∧ (ColAt wr w.heap.size false 0 0 ∧ (∀ o, wr.frozen? ⟨w.heap.size, o, none⟩ = false)) ∧ w.heap.size + 1 < wr.heap.size ∧
  (wr.cell? ⟨w.heap.size + 1, 0, none⟩ = some (.bool false) ∧ wr.cell? ⟨w.heap.size + 1, 1, none⟩ = some (.bool true))
theorem Kinds2.below {w wr w' : World} (h : Kinds2 w wr) (hb : Below wr.heap.size wr w') : Kinds2 w w' := by
  obtain ⟨h1, ⟨h2, hf⟩, h3, a0, a1⟩ := h
  refine ⟨h1.trans (hb.mono h1.size), ⟨h2.below hb (by omega), fun o => (hb.frozen (p := ⟨w.heap.size, o, none⟩) (by simp only; omega)).trans (hf o)⟩, Nat.lt_of_lt_of_le h3 hb.size, ?_, ?_⟩ <;> (rw [hb.cell h3]; assumption)
theorem Kinds2.start (w : World) (n : Nat) (t u : TypeId) : Kinds2 w (((w.alloc (.cells #[.bool false, .int .i64 0, .int .i64 0] t)).drewN n).alloc (.cells #[.bool false, .bool true] u)) := by
  have z0 : ((w.alloc (.cells #[.bool false, .int .i64 0, .int .i64 0] t)).drewN n).heap.size = w.heap.size + 1 := by simp
  obtain ⟨W1, h1⟩ : ∃ W1, W1 = (w.alloc (.cells #[.bool false, .int .i64 0, .int .i64 0] t)).drewN n := ⟨_, rfl⟩
  have k1 : ColAt W1 w.heap.size false 0 0 := by rw [h1]; exact ColAt.box w false 0 0 t
  have b1 : Below w.heap.size w W1 := by rw [h1]; exact below_drewN ((Below.refl _ w).alloc (Nat.le_refl _) _) n
  have f1 : ∀ o, W1.frozen? ⟨w.heap.size, o, none⟩ = false := fun o => by rw [h1]; exact World.frozen?_alloc_at _ _ _ _ rfl
  rw [← h1] at z0 ⊢
  have b4 : Below W1.heap.size W1 (W1.alloc (.cells #[.bool false, .bool true] u)) := (Below.refl _ W1).alloc (Nat.le_refl _) _
  refine ⟨b1.trans (b4.mono (by omega)), ⟨k1.below b4 (by omega), fun o => (b4.frozen (p := ⟨w.heap.size, o, none⟩) (by simp only; omega)).trans (f1 o)⟩, by simp [z0], ?_⟩
  rw [← z0]
  refine ⟨?_, ?_⟩ <;> (rw [World.cell?_alloc_new]; rfl)
theorem same_eq {s : ByteArray} {l : Bs} (h : (l == s.toList) = true) : l = s.data.toList := by
  rw [Lib.toList_data] at h
  simpa using h
theorem same_ne {s : ByteArray} {l : Bs} (h : (l == s.toList) = false) : l ≠ s.data.toList := by
  rw [Lib.toList_data] at h
  simpa using h
theorem cut_sizes (l p : Bs) : (Lib.cut l p).1.length ≤ l.length ∧ (Lib.cut l p).2.1.length ≤ l.length := by
  unfold Lib.cut
  split
  · simp only [List.length_take, List.length_drop]; omega
  · simp

set_option maxRecDepth 100000 in
set_option maxHeartbeats 2000000 in
theorem implPC_any (s : ByteArray) (hs : s.size ≤ 1048576) (w : World) (hL : LibIs w) :
    Calls Tryd.prog 17 #[.string s] w fun e w' => e = .returned (.tuple #[colV (pcV s.data.toList).1 (pcV s.data.toList).2.1 (pcV s.data.toList).2.2, .bool (pcB s.data.toList)]) ∧ Below w.heap.size w w' := by
  have hsx : s.size ≤ 9223372036854775807 := by omega
  have P0 := Lib.hid hL
  have b0 : Below w.heap.size w (w.alloc (.cells #[.bool false, .int .i64 0, .int .i64 0] 24)) := (Below.refl _ w).alloc (Nat.le_refl _) _
  obtain ⟨mx, hmx⟩ := (hL.step b0).2.here
  clear hL
  obtain ⟨hc1, hc2⟩ := cut_sizes s.data.toList dots
  rw [← Lib.size_eq] at hc1 hc2
  obtain ⟨s1, hs1⟩ : ∃ s1 : ByteArray, s1 = ⟨(Lib.cut s.data.toList dots).1.toArray⟩ := ⟨_, rfl⟩
  obtain ⟨s2, hs2⟩ : ∃ s2 : ByteArray, s2 = ⟨(Lib.cut s.data.toList dots).2.1.toArray⟩ := ⟨_, rfl⟩
  have e1 : s1.data.toList = (Lib.cut s.data.toList dots).1 := by rw [hs1]
  have e2 : s2.data.toList = (Lib.cut s.data.toList dots).2.1 := by rw [hs2]
  have g1 : s1.size ≤ 9223372036854775807 := by rw [Lib.size_eq, e1]; omega
  have g2 : s2.size ≤ 9223372036854775807 := by rw [Lib.size_eq, e2]; omega
  have CUT := fun w hm => Tryd.strings_Cut s ⟨#[46, 46]⟩ mx w (by omega) hm
  change ∀ w, w.cell? ⟨0, 0, none⟩ = some (.int .i64 mx) → Calls Tryd.prog 46 #[.string s, .string ⟨#[46, 46]⟩] w fun e w' => e = .returned (.tuple #[.string ⟨(Lib.cut s.data.toList dots).1.toArray⟩, .string ⟨(Lib.cut s.data.toList dots).2.1.toArray⟩, .bool (Lib.cut s.data.toList dots).2.2]) ∧ ∃ n, w' = w.drewN n at CUT
  rw [← hs1, ← hs2] at CUT
  have E1 := Lib.hid e1
  have E2 := Lib.hid e2
  clear hs1 hs2 e1 e2 hc1 hc2
  generalize (Lib.cut s.data.toList dots).2.2 = fnd at CUT
  have HC := Lib.hid CUT
  clear CUT
  go_enter Tryd.func17, Tryd.ntmps17
  go_wp2_with fail
  refine (HC.out _ hmx).mono ?_
  rintro e w0 ⟨rfl, nc, rfl⟩
  clear hmx HC
  go_wp2
  go_loopw [23] (fun i wr => ∃ k : Nat, k ≤ 2 ∧ i = .int .i64 k ∧ (0 < k → cO false s.data.toList = none) ∧ (1 < k → cO true s.data.toList = none) ∧ Kinds2 w wr) (fun i _ => 2 - (intOf i).toNat)
  case atStart => exact ⟨0, by omega, rfl, (fun h => absurd h (by omega)), (fun h => absurd h (by omega)), Kinds2.start w nc _ _⟩
  case round =>
    obtain ⟨k, hk, rfl, hn0, hn1, hK⟩ := hrel
    have KK := Lib.hid hK
    obtain ⟨hB, ⟨⟨r0, r1, r2⟩, hfr⟩, hz, q0, q1⟩ := hK
    have HB := Lib.hid hB
    have PR := Lib.hid (P0.out.step hB)
    clear hB
    rcases (by omega : k = 0 ∨ k = 1 ∨ k = 2) with rfl | rfl | rfl
    · clear hn0 hn1
      have rd1 := fun w => readNumber_any s1 g1 w
      have rd2 := fun w => readNumber_any s2 g2 w
      have m1 : (rdN (Lib.cut s.data.toList dots).1).2 = false → cO false s.data.toList = none := cO_bad1 (L := false)
      have m2 : (rdN (Lib.cut s.data.toList dots).2.1).2 = false → cO false s.data.toList = none := cO_bad2 (L := false)
      have m3 : fC false (rdN (Lib.cut s.data.toList dots).1).1 (rdN (Lib.cut s.data.toList dots).2.1).1 ≠ s.data.toList → cO false s.data.toList = none := cO_bad3 (L := false)
      have m4 : (rdN (Lib.cut s.data.toList dots).1).2 = true → (rdN (Lib.cut s.data.toList dots).2.1).2 = true → fC false (rdN (Lib.cut s.data.toList dots).1).1 (rdN (Lib.cut s.data.toList dots).2.1).1 = s.data.toList →
          cO false s.data.toList = some ((rdN (Lib.cut s.data.toList dots).1).1, (rdN (Lib.cut s.data.toList dots).2.1).1) := cO_good (L := false)
      rw [← E1.out] at m1 m3 m4
      rw [← E2.out] at m2 m3 m4
      generalize rdN s1.data.toList = p1 at rd1 m1 m3 m4
      generalize rdN s2.data.toList = p2 at rd2 m2 m3 m4
      obtain ⟨x1, ok1⟩ := p1
      obtain ⟨x2, ok2⟩ := p2
      simp only at rd1 rd2 m1 m2 m3 m4
      have M1 := Lib.hid m1
      have M2 := Lib.hid m2
      have M3 := Lib.hid m3
      have M4 := Lib.hid m4
      have R1 := Lib.hid rd1
      have R2 := Lib.hid rd2
      clear m1 m2 m3 m4 rd1 rd2
      go_wp2_with fail
      refine (reader_num _).mono ?_
      rintro e w' ⟨rfl, rfl⟩
      go_wp2_with fail
      refine (R1.out _).mono ?_
      rintro e w1 ⟨rfl, b1⟩
      have K1 := Lib.hid (KK.out.below b1)
      have P1 := Lib.hid (PR.out.step b1)
      go_wp2_with fail
      refine (R2.out _).mono ?_
      rintro e w2 ⟨rfl, b2⟩
      have K2 := Lib.hid (K1.out.below b2)
      have P2 := Lib.hid (P1.out.step b2)
      clear r0 r1 r2 q0 q1 hz hfr R1 R2
      have b3 : Below w2.heap.size w2 (w2.alloc (.cells #[.bool false, .int .i64 x1, .int .i64 x2] 24)) := (Below.refl _ w2).alloc (Nat.le_refl _) _
      have K3 := Lib.hid (K2.out.below b3)
      have P3 := Lib.hid (P2.out.step b3)
      cases ok1
      · have hno := Lib.hid (M1.out (by first | rfl | trivial))
        clear M1 M2 M3 M4
        go_wp2
        go_roundw
        case rel => exact ⟨0 + 1, by omega, rfl, (fun _ => hno.out), (fun h => absurd h (by omega)), K3.out⟩
        case measure => simp [intOf]
      · cases ok2
        · have hno := Lib.hid (M2.out (by first | rfl | trivial))
          clear M1 M2 M3 M4
          go_wp2
          go_roundw
          case rel => exact ⟨0 + 1, by omega, rfl, (fun _ => hno.out), (fun h => absurd h (by omega)), K3.out⟩
          case measure => simp [intOf]
        · obtain ⟨c0, c1, c2⟩ := ColAt.box w2 false x1 x2 24
          have fc := fun w hp => implFC_any false x1 x2 w hp
          generalize hfc : fC false x1 x2 = l at fc
          have HF2 := Lib.hid hfc
          clear hfc
          go_wp2_with fail
          refine (fc _ P3.out.1).mono ?_
          rintro e w4 ⟨rfl, b4⟩
          have K4 := Lib.hid (K3.out.below b4)
          obtain ⟨d0, d1, d2⟩ := ColAt.below (g := w2.heap.size) ⟨c0, c1, c2⟩ b4 (by simp)
          obtain ⟨bz, ⟨⟨u0, u1, u2⟩, hf4⟩, hz4, _⟩ := K4.out
          have f0 := hf4 0
          have f1 := hf4 1
          have f2 := hf4 2
          have BZ := Lib.hid bz
          clear c0 c1 c2 hf4 bz fc
          go_wp2
          · have hq : (l == s.toList) = true := by assumption
            have hys := Lib.hid (M4.out (by first | rfl | trivial) (by first | rfl | trivial) (HF2.out.trans (same_eq hq)))
            have hv := Lib.hid (pc_num hys.out)
            obtain ⟨k0, k1, k2⟩ := set_col u0 u1 u2 false x1 x2
            refine bodyPost_ret (v := .tuple #[colV false x1 x2, .bool true]) (by simp [results, Tryd.results17, go_sem, k0, k1, k2]) rfl ⟨by rw [hv.out.1, hv.out.2], set_below BZ.out (Nat.le_refl _) _ _ _⟩
          · have hq : (l == s.toList) = false := by assumption
            have hno := Lib.hid (M3.out (by rw [HF2.out]; exact same_ne hq))
            go_roundw
            case rel => exact ⟨0 + 1, by omega, rfl, (fun _ => hno.out), (fun h => absurd h (by omega)), K4.out⟩
            case measure => simp [intOf]
    · have HF := Lib.hid (hn0 (by omega)); clear hn0 hn1
      have rd1 := fun w => readLetter_any s1 g1 w
      have rd2 := fun w => readLetter_any s2 g2 w
      have m1 : (rdL (Lib.cut s.data.toList dots).1).2 = false → cO true s.data.toList = none := cO_bad1 (L := true)
      have m2 : (rdL (Lib.cut s.data.toList dots).2.1).2 = false → cO true s.data.toList = none := cO_bad2 (L := true)
      have m3 : fC true (rdL (Lib.cut s.data.toList dots).1).1 (rdL (Lib.cut s.data.toList dots).2.1).1 ≠ s.data.toList → cO true s.data.toList = none := cO_bad3 (L := true)
      have m4 : (rdL (Lib.cut s.data.toList dots).1).2 = true → (rdL (Lib.cut s.data.toList dots).2.1).2 = true → fC true (rdL (Lib.cut s.data.toList dots).1).1 (rdL (Lib.cut s.data.toList dots).2.1).1 = s.data.toList →
          cO true s.data.toList = some ((rdL (Lib.cut s.data.toList dots).1).1, (rdL (Lib.cut s.data.toList dots).2.1).1) := cO_good (L := true)
      rw [← E1.out] at m1 m3 m4
      rw [← E2.out] at m2 m3 m4
      generalize rdL s1.data.toList = p1 at rd1 m1 m3 m4
      generalize rdL s2.data.toList = p2 at rd2 m2 m3 m4
      obtain ⟨x1, ok1⟩ := p1
      obtain ⟨x2, ok2⟩ := p2
      simp only at rd1 rd2 m1 m2 m3 m4
      have M1 := Lib.hid m1
      have M2 := Lib.hid m2
      have M3 := Lib.hid m3
      have M4 := Lib.hid m4
      have R1 := Lib.hid rd1
      have R2 := Lib.hid rd2
      clear m1 m2 m3 m4 rd1 rd2
      go_wp2_with fail
      refine (reader_let _).mono ?_
      rintro e w' ⟨rfl, rfl⟩
      go_wp2_with fail
      refine (R1.out _).mono ?_
      rintro e w1 ⟨rfl, b1⟩
      have K1 := Lib.hid (KK.out.below b1)
      have P1 := Lib.hid (PR.out.step b1)
      go_wp2_with fail
      refine (R2.out _).mono ?_
      rintro e w2 ⟨rfl, b2⟩
      have K2 := Lib.hid (K1.out.below b2)
      have P2 := Lib.hid (P1.out.step b2)
      clear r0 r1 r2 q0 q1 hz hfr R1 R2
      have b3 : Below w2.heap.size w2 (w2.alloc (.cells #[.bool true, .int .i64 x1, .int .i64 x2] 24)) := (Below.refl _ w2).alloc (Nat.le_refl _) _
      have K3 := Lib.hid (K2.out.below b3)
      have P3 := Lib.hid (P2.out.step b3)
      cases ok1
      · have hno := Lib.hid (M1.out (by first | rfl | trivial))
        clear M1 M2 M3 M4
        go_wp2
        go_roundw
        case rel => exact ⟨1 + 1, by omega, rfl, (fun _ => HF.out), (fun _ => hno.out), K3.out⟩
        case measure => simp [intOf]
      · cases ok2
        · have hno := Lib.hid (M2.out (by first | rfl | trivial))
          clear M1 M2 M3 M4
          go_wp2
          go_roundw
          case rel => exact ⟨1 + 1, by omega, rfl, (fun _ => HF.out), (fun _ => hno.out), K3.out⟩
          case measure => simp [intOf]
        · obtain ⟨c0, c1, c2⟩ := ColAt.box w2 true x1 x2 24
          have fc := fun w hp => implFC_any true x1 x2 w hp
          generalize hfc : fC true x1 x2 = l at fc
          have HF2 := Lib.hid hfc
          clear hfc
          go_wp2_with fail
          refine (fc _ P3.out.1).mono ?_
          rintro e w4 ⟨rfl, b4⟩
          have K4 := Lib.hid (K3.out.below b4)
          obtain ⟨d0, d1, d2⟩ := ColAt.below (g := w2.heap.size) ⟨c0, c1, c2⟩ b4 (by simp)
          obtain ⟨bz, ⟨⟨u0, u1, u2⟩, hf4⟩, hz4, _⟩ := K4.out
          have f0 := hf4 0
          have f1 := hf4 1
          have f2 := hf4 2
          have BZ := Lib.hid bz
          clear c0 c1 c2 hf4 bz fc
          go_wp2
          · have hq : (l == s.toList) = true := by assumption
            have hys := Lib.hid (M4.out (by first | rfl | trivial) (by first | rfl | trivial) (HF2.out.trans (same_eq hq)))
            have hv := Lib.hid (pc_let HF.out hys.out)
            obtain ⟨k0, k1, k2⟩ := set_col u0 u1 u2 true x1 x2
            refine bodyPost_ret (v := .tuple #[colV true x1 x2, .bool true]) (by simp [results, Tryd.results17, go_sem, k0, k1, k2]) rfl ⟨by rw [hv.out.1, hv.out.2], set_below BZ.out (Nat.le_refl _) _ _ _⟩
          · have hq : (l == s.toList) = false := by assumption
            have hno := Lib.hid (M3.out (by rw [HF2.out]; exact same_ne hq))
            go_roundw
            case rel => exact ⟨1 + 1, by omega, rfl, (fun _ => HF.out), (fun _ => hno.out), K4.out⟩
            case measure => simp [intOf]
    · have hv := Lib.hid (pc_none (hn0 (by omega)) (hn1 (by omega)))
      have f0 := hfr 0
      have f1 := hfr 1
      have f2 := hfr 2
      clear hn0 hn1 KK hfr
      go_wp2
      obtain ⟨k0, k1, k2⟩ := set_col r0 r1 r2 false 0 0
      refine bodyPost_ret (v := .tuple #[colV false 0 0, .bool false]) (by simp [results, Tryd.results17, go_sem, k0, k1, k2]) rfl ⟨by rw [hv.out.1, hv.out.2], set_below HB.out (Nat.le_refl _) _ _ _⟩
end Go.Proofs.YtajjmdnbmicefaaDoor
