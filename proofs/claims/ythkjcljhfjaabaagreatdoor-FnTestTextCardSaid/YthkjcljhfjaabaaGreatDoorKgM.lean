/-
  Rows of texts that a call makes and appends to.
-/
import Derived.Test.YthkjcljhfjaabaaGreatDoorOw
import Derived.Test.YthkjcljhfjaabaaGreatDoorKa
namespace Go.Proofs.YthkjcljhfjaabaaGreatDoor
open Go.RowKit Sets

theorem infoStr : (Tryz.prog.info? 9).map (fun i => (i.zero, i.size, i.bytes)) = some (some (.string ⟨#[]⟩), 1, 16) := by kernel_rfl
theorem own_texts {w : World} {base k : Nat} {v : Value} {ps : List ByteArray} (h : w.ownsRow base 9 1 v k (ps.map Value.string)) (h0 : 0 < k) :
    ∃ bk cp, v = .slice (some ⟨bk, 0, none⟩) k cp ∧ bk < w.heap.size ∧ k ≤ cp ∧ ∀ j x, ps[j]? = some x → w.cell? ⟨bk, 0 + j, none⟩ = some (.string x) := by
  obtain ⟨hl, ⟨rfl, hn⟩ | ⟨g, cap, cur, rfl, hb, hg, hnc, hcm, hcs, hcur⟩⟩ := h
  · omega
  · refine ⟨g, cap, rfl, (Array.getElem?_eq_some_iff.1 hg).1, hnc, fun j x hj => ?_⟩
    have hjl : j < k * 1 := by
      have := (List.getElem?_eq_some_iff.1 hj).1
      rw [List.length_map] at hl
      omega
    have e : (ps.map Value.string)[j]? = some (.string x) := by rw [List.getElem?_map, hj]; rfl
    rw [← hcur, List.getElem?_take_of_lt hjl] at e
    rw [Nat.zero_add]
    simp [World.cell?, hg]
    simpa using e
theorem ownsRow_below {w w' : World} {base k : Nat} {v : Value} {zs : List Value} (h : w.ownsRow base 9 1 v k zs) (hb : Below w.heap.size w w') : w'.ownsRow base 9 1 v k zs := by
  refine ⟨h.1, h.2.imp id ?_⟩
  rintro ⟨g, cap, cur, rfl, hb', hg, r⟩
  exact ⟨g, cap, cur, rfl, hb', by rw [hb.block g (Array.getElem?_eq_some_iff.1 hg).1]; exact hg, r⟩
theorem own_form {w : World} {base k : Nat} {v : Value} {zs : List Value} (h : w.ownsRow base 9 1 v k zs) : ∃ A cp, v = .slice A k cp := by
  obtain ⟨_, ⟨rfl, hn⟩ | ⟨g, cap, cur, rfl, _⟩⟩ := h
  · exact ⟨none, 0, by rw [hn]⟩
  · exact ⟨_, cap, rfl⟩

theorem infoSt : ∃ i0, Tryz.prog.info? 9 = some i0 ∧ i0.zero = some (.string ⟨#[]⟩) ∧ i0.size = 1 ∧ i0.bytes = 16 := info_parts infoStr
/-- v is a slice of the call's own that holds the texts ps -/
def OwnT (w : World) (base : Nat) (v : Value) (ps : List ByteArray) : Prop := w.ownsRow base 9 1 v ps.length (ps.map Value.string)
theorem OwnT.below {w w' : World} {base : Nat} {v : Value} {ps : List ByteArray} (h : OwnT w base v ps) (hb : Below w.heap.size w w') : OwnT w' base v ps := ownsRow_below h hb
theorem OwnT.of_append {w : World} {base : Nat} {v : Value} {ps : List ByteArray} {x : ByteArray} (h : w.ownsRow base 9 1 v (ps.length + 1) (ps.map Value.string ++ [.string x])) : OwnT w base v (ps ++ [x]) := by
  unfold OwnT
  rw [List.map_append, List.length_append]
  exact h
theorem OwnT.lt {w : World} {base : Nat} {v : Value} {ps : List ByteArray} (h : OwnT w base v ps) : ∀ k, v.ownBlock = some k → base ≤ k ∧ k < w.heap.size := World.ownsRow.lt h
/-- a slice of texts: where it lies -/
theorem OwnT.form {w : World} {base : Nat} {v : Value} {ps : List ByteArray} (h : OwnT w base v ps) (h0 : 0 < ps.length) :
    ∃ bk cp, v = .slice (some ⟨bk, 0, none⟩) ps.length cp ∧ base ≤ bk ∧ bk < w.heap.size ∧ ps.length ≤ cp ∧ ∀ j x, ps[j]? = some x → w.cell? ⟨bk, j, none⟩ = some (.string x) := by
  obtain ⟨bk, cp, rfl, h1, h2, h3⟩ := own_texts h h0
  refine ⟨bk, cp, rfl, (h.lt bk rfl).1, h1, h2, fun j x hj => ?_⟩
  have := h3 j x hj
  rwa [Nat.zero_add] at this
theorem own_no_texts (w : World) : OwnT (w.alloc (.cells #[] 9)) w.heap.size (.slice (some ⟨w.heap.size, 0, none⟩) 0 0) [] := World.ownsRow_lit w #[] 0 (Nat.le_refl _) (by decide) rfl
theorem cell_txt (w : World) (g : Nat) (x : ByteArray) (hg : g = w.heap.size) : ∀ (j : Nat) (u : Value), [Value.string x][j]? = some u → (w.alloc (.cells #[.string x] 9)).cell? ((⟨g, 0, none⟩ : Addr).add j) = some u := by
  subst hg
  intro j u hu
  have hadd : (⟨w.heap.size, 0, none⟩ : Addr).add j = ⟨w.heap.size, j, none⟩ := by unfold Addr.add; split <;> simp_all
  rw [hadd, World.cell?_alloc_new]
  simpa using hu
end Go.Proofs.YthkjcljhfjaabaaGreatDoor

namespace Go.Proofs.YthkjcljhfjaabaaGreatDoor
open Go.RowKit Sets

def bytesOf (xs : List ByteArray) : List Bs := xs.map fun x => x.data.toList
theorem bytesOf_snoc (xs : List ByteArray) (x : ByteArray) : bytesOf (xs ++ [x]) = bytesOf xs ++ [x.data.toList] := by simp [bytesOf]
theorem bytesOf_len (xs : List ByteArray) : (bytesOf xs).length = xs.length := by simp [bytesOf]
theorem extL (s : ByteArray) (i j : Nat) : (s.extract i j).data.toList = (s.data.toList.drop i).take (j - i) := by
  rw [ByteArray.data_extract, Array.toList_extract, List.extract_eq_take_drop]
theorem byte_at (s : ByteArray) (k : Nat) (h : k < s.size) : s.data.toList[k]'(by rw [← Lib.size_eq]; exact h) = s[k] := by rw [Array.getElem_toList]; rfl
theorem u8_eq {a b : UInt8} (h : ((a.toNat : Int) == (b.toNat : Int)) = true) : a = b := UInt8.toNat_inj.1 (by have h := beq_iff_eq.1 h; omega)
theorem u8_ne {a b : UInt8} (h : ((a.toNat : Int) == (b.toNat : Int)) = false) : a ≠ b := fun e => by rw [e] at h; simp at h

theorem ext_toList (s : ByteArray) (i j : Nat) : (s.extract i j).toList = (s.data.toList.drop i).take (j - i) := by
  rw [Lib.toList_data]
  simp [List.take_drop]
theorem ext_ne {s : ByteArray} {z : Nat} (h : (!(s.extract z (z + 2)).toList == [46, 46]) = true) : (s.data.toList.drop z).take 2 ≠ dots := by
  rw [ext_toList, show z + 2 - z = 2 by omega] at h
  intro e
  rw [e] at h
  simp [dots] at h
theorem ext_eq {s : ByteArray} {z : Nat} (h : (!(s.extract z (z + 2)).toList == [46, 46]) = false) : (s.data.toList.drop z).take 2 = dots := by
  rw [ext_toList, show z + 2 - z = 2 by omega] at h
  simpa [dots] using h
theorem ext_drop (s : ByteArray) (i : Nat) : (s.extract i s.size).data.toList = s.data.toList.drop i := by
  have := ext_toList s i s.size
  rw [Lib.toList_data] at this
  rw [this, List.take_of_length_le]
  rw [List.length_drop, Lib.size_eq]
  exact Nat.le_refl _

def CutRes (c : UInt8) (s : ByteArray) (w : World) (e : Ending) (w' : World) : Prop := ∃ v ps, e = .returned v ∧ bytesOf ps = splitG c s.data.toList ∧ OwnT w' w.heap.size v ps ∧ Below w.heap.size w w'

set_option maxRecDepth 100000 in
set_option maxHeartbeats 1000000 in
theorem cut15_any (s : ByteArray) (hs : s.size ≤ 1048600) (c : UInt8) (n : Int) (hn : n = (c.toNat : Int)) (w : World) :
    Calls Tryz.prog 71 #[.string s, .int .u8 n] w (CutRes c s w) := by
  subst hn
  obtain ⟨i0, hi0, hz0, hz1, hz2⟩ := infoSt
  have hsx : s.size ≤ 9223372036854775807 := by omega
  go_enter Tryz.func71, Tryz.ntmps71
  go_wp2
  go_loopw [5, 6, 7] (fun v f i wr => ∃ (ps : List ByteArray) (fk ik : Nat), f = .int .i64 fk ∧ i = .int .i64 ik ∧ cutAt c s.data.toList (bytesOf ps) fk ik ∧ OwnT wr w.heap.size v ps ∧ Below w.heap.size w wr) (fun _ _ i _ => s.size + 1 - (intOf i).toNat)
  case atStart => exact ⟨[], 0, 0, rfl, rfl, cutAt_start _ _, own_no_texts w, (Below.refl _ _).alloc (Nat.le_refl _) _⟩
  case round =>
    obtain ⟨ps, fk, ik, rfl, rfl, hcut, hown, hb⟩ := hrel
    have hl := cutAt_len hcut
    rw [bytesOf_len, ← Lib.size_eq] at hl
    obtain ⟨hl1, hl2⟩ := hl
    have hsz := hb.size
    have hrow : ∀ i, u5.ownBlock = some i → w.heap.size ≤ i := fun i hi => (hown.lt i hi).1
    by_cases hlt : ik < s.size
    · have h1 : (ik : Int) ≤ (s.size : Int) := by omega
      have h2 : ((ik : Int) == (s.size : Int)) = false := beq_eq_false_iff_ne.2 (by omega)
      have hkl : ik < s.data.toList.length := by rw [← Lib.size_eq]; exact hlt
      have hby := byte_at s ik hlt
      by_cases hc : s[ik]'hlt = c
      · have h3 : (((s[ik]'hlt).toNat : Int) == (c.toNat : Int)) = true := by rw [hc]; simp
        have hfk := cutAt_le hcut hkl
        have h4 : (0 : Int) ≤ (fk : Int) ∧ (fk : Int) ≤ (ik : Int) := by omega
        have hnx := Lib.hid (cutAt_hit hcut hkl (hby.trans hc))
        have hx := Lib.hid (extL s fk ik)
        have hown1 := World.ownsRow.alloc hown (.cells #[.string (s.extract fk ik)] 9)
        have hb1 := hb.alloc hsz (.cells #[.string (s.extract fk ik)] 9)
        clear hcut hown hc hby hkl
        go_wp2_with (at_builtin; refine wpList_append_own _ rfl (.tmp 26) (.tmp 31) 63 rfl w.heap.size 9 i0 _ 1 16 Tryz.underlying63 hi0 hz0 hz1 hz2 rfl (by decide) _ ps.length (ps.map Value.string) rfl hown1 ⟨wr.heap.size, 0, none⟩ 1 1 [.string (s.extract fk ik)] rfl rfl (cell_txt _ _ _ rfl) (by simp [Value.oneCell']) (by unfold maxLen; omega) (by omega) (by simp; omega) ?_; intro v' w5 hown5 hgrow _)
        refine ⟨⟨ps ++ [s.extract fk ik], ik + 1, ik + 1, by go_num, by go_num, by rw [bytesOf_snoc, hx.out]; exact hnx.out, OwnT.of_append hown5, Below.grown (row := u5.ownBlock) hb1 hgrow (by simp; omega) hrow⟩, ?_⟩
        simp [intOf]
        omega
      · have h3 : (((s[ik]'hlt).toNat : Int) == (c.toNat : Int)) = false := beq_eq_false_iff_ne.2 (fun e => hc (UInt8.toNat_inj.1 (by omega)))
        have hnx := Lib.hid (cutAt_miss hcut hkl (by rw [hby]; exact hc))
        clear hcut hc hby hkl
        go_wp2
        go_roundw
        case rel => exact ⟨ps, fk, ik + 1, rfl, by go_num, hnx.out, hown, hb⟩
        case measure => simp [intOf]; omega
    · by_cases heq : ik = s.size
      · subst heq
        have h1 : (s.size : Int) ≤ (s.size : Int) := Int.le_refl _
        have h2 : ((s.size : Int) == (s.size : Int)) = true := by simp
        have hnx := cutAt_last (l := s.data.toList) (by rw [← Lib.size_eq]; exact hcut)
        rw [← Lib.size_eq] at hnx
        obtain ⟨hfk, hnx⟩ := hnx
        have hnx := Lib.hid hnx
        have h4 : (0 : Int) ≤ (fk : Int) ∧ (fk : Int) ≤ (s.size : Int) := by omega
        have hx : Hid ((s.extract fk s.size).data.toList = s.data.toList.drop fk) := Lib.hid (by rw [extL, Lib.size_eq, List.take_of_length_le (by simp)])
        have hown1 := World.ownsRow.alloc hown (.cells #[.string (s.extract fk s.size)] 9)
        have hb1 := hb.alloc hsz (.cells #[.string (s.extract fk s.size)] 9)
        clear hcut hown
        go_wp2_with (at_builtin; refine wpList_append_own _ rfl (.tmp 26) (.tmp 31) 63 rfl w.heap.size 9 i0 _ 1 16 Tryz.underlying63 hi0 hz0 hz1 hz2 rfl (by decide) _ ps.length (ps.map Value.string) rfl hown1 ⟨wr.heap.size, 0, none⟩ 1 1 [.string (s.extract fk s.size)] rfl rfl (cell_txt _ _ _ rfl) (by simp [Value.oneCell']) (by unfold maxLen; omega) (by omega) (by simp; omega) ?_; intro v' w5 hown5 hgrow _)
        refine ⟨⟨ps ++ [s.extract fk s.size], s.size + 1, s.size + 1, by go_num, by go_num, by rw [bytesOf_snoc, hx.out]; exact hnx.out, OwnT.of_append hown5, Below.grown (row := u5.ownBlock) hb1 hgrow (by simp; omega) hrow⟩, ?_⟩
        simp [intOf]
      · have h1 : ¬ (ik : Int) ≤ (s.size : Int) := by omega
        have hend := Lib.hid (cutAt_end hcut (by rw [← Lib.size_eq]; omega))
        clear hcut
        go_wp2
        go_ret
        exact ⟨_, ps, rfl, hend.out, hown, hb⟩
end Go.Proofs.YthkjcljhfjaabaaGreatDoor
