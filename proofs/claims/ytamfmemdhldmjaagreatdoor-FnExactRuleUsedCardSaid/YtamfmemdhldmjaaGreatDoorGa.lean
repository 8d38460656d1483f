/-
  The rules that match an input: what they are, and the model.
-/
import Derived.Test.YtamfmemdhldmjaaGreatDoorVcM
import Derived.Test.YtamfmemdhldmjaaGreatDoorWaM
namespace Go.Proofs.YtamfmemdhldmjaaGreatDoor
open Go.RowKit Sets

/-- the first k rules that match -/
def matK (rs : List Rl) (ns : List Int) : Nat → List Int
  | 0 => []
  | k + 1 => if mB (rs.getD k ([], 0)).1 ns = true then matK rs ns k ++ [(k : Int)] else matK rs ns k
def matV (t : Tb) (ns : List Int) : List Int := if inpB t ns = true then matK t.rules ns t.rules.length else []
theorem mat_yes {t : Tb} {ns : List Int} (h : inpB t ns = true) : matV t ns = matK t.rules ns t.rules.length := if_pos h
theorem mat_no {t : Tb} {ns : List Int} (h : inpB t ns = false) : matV t ns = [] := if_neg (by rw [h]; simp)
theorem matK_len (rs : List Rl) (ns : List Int) : ∀ k, (matK rs ns k).length ≤ k := by
  intro k
  induction k with
  | zero => exact Nat.le_refl _
  | succ k ih =>
    unfold matK
    split
    · rw [List.length_append]; simp; omega
    · omega
theorem matK_mem {rs : List Rl} {ns : List Int} : ∀ k x, x ∈ matK rs ns k ↔ ∃ i : Nat, i < k ∧ x = (i : Int) ∧ mB (rs.getD i ([], 0)).1 ns = true := by
  intro k
  induction k with
  | zero => intro x; simp [matK]
  | succ k ih =>
    intro x
    unfold matK
    split
    · rename_i h
      rw [List.mem_append, ih, List.mem_singleton]
      constructor
      · rintro (⟨i, h1, h2, h3⟩ | rfl)
        · exact ⟨i, by omega, h2, h3⟩
        · exact ⟨k, by omega, rfl, h⟩
      · rintro ⟨i, h1, h2, h3⟩
        rcases Nat.lt_or_ge i k with h4 | h4
        · exact .inl ⟨i, h4, h2, h3⟩
        · exact .inr (by rw [h2]; congr 1; omega)
    · rename_i h
      rw [ih]
      constructor
      · rintro ⟨i, h1, h2, h3⟩; exact ⟨i, by omega, h2, h3⟩
      · rintro ⟨i, h1, h2, h3⟩
        rcases Nat.lt_or_ge i k with h4 | h4
        · exact ⟨i, h4, h2, h3⟩
        · have : i = k := by omega
          subst this; exact absurd h3 h
theorem matK_fits {rs : List Rl} {ns : List Int} {k : Nat} (hk : k ≤ 9223372036854775807) : ∀ x ∈ matK rs ns k, I64 x := by
  intro x hx
  obtain ⟨i, h1, rfl, _⟩ := (matK_mem k x).1 hx
  unfold I64; omega
theorem matK_yes {rs : List Rl} {ns : List Int} {k : Nat} (h : mB (rs.getD k ([], 0)).1 ns = true) : matK rs ns (k + 1) = matK rs ns k ++ [(k : Int)] := by rw [matK, if_pos h]
theorem matK_no {rs : List Rl} {ns : List Int} {k : Nat} (h : mB (rs.getD k ([], 0)).1 ns = false) : matK rs ns (k + 1) = matK rs ns k := by rw [matK, if_neg (by rw [h]; simp)]
theorem mat_small {t : Tb} {ns : List Int} : (matV t ns).length ≤ 12 := by
  unfold matV
  split
  · rename_i h
    have := (tab_parts (inp_parts h).1).1
    have := matK_len t.rules ns t.rules.length
    omega
  · simp
theorem mat_fits {t : Tb} {ns : List Int} : ∀ x ∈ matV t ns, I64 x := by
  unfold matV
  split
  · rename_i h
    have := (tab_parts (inp_parts h).1).1
    exact matK_fits (by omega)
  · intro x hx; cases hx

theorem TBox.grown {w w' : World} {row : Option Nat} {g : Nat} {A1 : Option Addr} {n1 c1 : Nat} {x : Int} {A2 : Option Addr} {n2 c2 : Nat} (h : TBox w g A1 n1 c1 x A2 n2 c2) (hg : w.grownBy w' row) (hne : ∀ i, row = some i → i ≠ g) : TBox w' g A1 n1 c1 x A2 n2 c2 := by
  have hh := hg.block g h.2.2.2 (fun e => hne g e.symm rfl)
  exact ⟨(World.cell?_of_block (a := ⟨g, 0, none⟩) hh).trans h.1, (World.cell?_of_block (a := ⟨g, 1, none⟩) hh).trans h.2.1, (World.cell?_of_block (a := ⟨g, 2, none⟩) hh).trans h.2.2.1, Nat.lt_of_lt_of_le h.2.2.2 hg.size⟩

set_option maxRecDepth 100000 in
set_option maxHeartbeats 2000000 in
theorem specAll_any (v : Value) (t : Tb) (A : Option Addr) (c : Nat) (ns : List Int) (w : World) (hT : TabAt w w.heap.size v t) (hN : IntsAt w w.heap.size A c ns) (hl : ∀ i, i < t.rules.length → ns.length = (t.rules.getD i ([], 0)).1.length) (hr : t.rules.length ≤ 12) :
    Calls Tryz.prog 40 #[v, .slice A ns.length c] w fun e w' => ∃ A' c', e = .returned (.slice A' (matK t.rules ns t.rules.length).length c') ∧ OwnN w' w.heap.size A' c' (matK t.rules ns t.rules.length) ∧ Below w.heap.size w w' := by
  obtain ⟨i0, hi0, hz0, hz1, hz2⟩ := infoI
  obtain ⟨A1, c1, A2, c2, rfl, hC, hR⟩ := hT
  obtain ⟨cs, x, rs⟩ := t
  simp only [] at hR hl hr ⊢
  have HR := Lib.hid hR
  have HN := Lib.hid hN
  have HL := Lib.hid (And.intro hl hr)
  clear hC hR hN hl
  have hb0 : Below w.heap.size w ((w.alloc (.cells #[.slice A1 cs.length c1, .int .i64 x, .slice A2 rs.length c2] 34)).alloc (.cells #[] 3)) := ((Below.refl _ _).alloc (Nat.le_refl _) _).alloc (by simp) _
  have X := Lib.hid ((TBox.made w A1 cs.length c1 x A2 rs.length c2 34).step ((Below.refl _ _).alloc (Nat.le_refl _) (.cells #[] 3)))
  have hown0 := ownI_empty (w.alloc (.cells #[.slice A1 cs.length c1, .int .i64 x, .slice A2 rs.length c2] 34))
  have hsz : (w.alloc (.cells #[.slice A1 cs.length c1, .int .i64 x, .slice A2 rs.length c2] 34)).heap.size = w.heap.size + 1 := by simp
  rw [hsz] at hown0
  go_enter Tryz.func40, Tryz.ntmps40
  go_wp2
  rw [show some (⟨w.heap.size + 1, 0, none⟩ : Addr) = some ⟨w.heap.size + 1, 0, none⟩ from rfl]
  generalize (w.alloc (.cells #[.slice A1 cs.length c1, .int .i64 x, .slice A2 rs.length c2] 34)).alloc (.cells #[] 3) = W at hb0 X hown0 ⊢
  clear hsz
  go_loopw [5, 6] (fun u i wr => ∃ k : Nat, k ≤ rs.length ∧ i = .int .i64 k ∧ OwnI wr (w.heap.size + 1) u (matK rs ns k) ∧ Below w.heap.size w wr ∧ TBox wr w.heap.size A1 cs.length c1 x A2 rs.length c2) (fun _ i _ => rs.length - (intOf i).toNat)
  case atStart => exact ⟨0, Nat.zero_le _, rfl, hown0, hb0, X.out⟩
  case round =>
    clear hb0 hown0
    obtain ⟨k, hk, rfl, hown, hb, hx⟩ := hrel
    have HX := Lib.hid hx
    obtain ⟨p0, p1, p2, p3⟩ := hx
    clear p3 p0 p1
    by_cases hlt : k < rs.length
    · rcases HR.out.2.2 with hz | ⟨b, off, rfl, hB, hrow⟩
      · omega
      · have hkl : (k : Int) < (rs.length : Int) := by omega
        obtain ⟨⟨A', c', u1, u2⟩, u3⟩ := hrow k hlt
        have d1 := (hb.cell (p := ⟨b, off + k * 2, none⟩) hB).trans u1
        have d2 := (hb.cell (p := ⟨b, off + k * 2 + 1, none⟩) hB).trans u3
        have HS := Lib.hid ((u2.below hb).mono hb.size)
        have hlen := HL.out.1 k hlt
        obtain ⟨m, hm⟩ : ∃ m, mB (rs.getD k ([], 0)).1 ns = m := ⟨_, rfl⟩
        have HM := Lib.hid hm
        have HNX : Hid ((m = true → matK rs ns (k + 1) = matK rs ns k ++ [(k : Int)]) ∧ (m = false → matK rs ns (k + 1) = matK rs ns k)) := Lib.hid ⟨fun e => matK_yes (hm.trans e), fun e => matK_no (hm.trans e)⟩
        have HKL := Lib.hid (matK_len rs ns k)
        obtain ⟨xss, y, hxs⟩ : ∃ xss y, rs.getD k ([], 0) = (xss, y) := ⟨_, _, rfl⟩
        rw [hxs] at d1 d2 HS hlen HM
        simp only [] at d1 d2 hlen HM HS
        have HLEN := Lib.hid hlen
        have HB := Lib.hid hb
        have HO := Lib.hid hown
        clear u1 u2 u3 hrow hxs hlen hm hb hown
        go_wp2_with fail
        clear d1 d2 p2
        refine (specMat_any A' c' xss y A c ns wr HS.out ((HN.out.below HB.out).mono HB.out.size) HLEN.out).mono ?_
        rw [HM.out]
        rintro e w2 ⟨rfl, b2⟩
        have HX2 := Lib.hid (HX.out.step b2)
        have hown2 := HO.out.below b2
        have HB2 := Lib.hid (HB.out.trans (b2.mono HB.out.size))
        clear b2
        cases m
        · have hnx := HNX.out.2 rfl
          go_wp2
          go_roundw
          case rel => exact ⟨k + 1, hlt, by go_num, by rw [hnx]; exact hown2, HB2.out, HX2.out⟩
          case measure => simp [intOf]; omega
        · have hnx := Lib.hid (HNX.out.1 rfl)
          have hown4 := World.ownsRow.alloc hown2 (.cells #[.int .i64 (k : Int)] 3)
          have hb3 : Below w.heap.size w (w2.alloc (.cells #[.int .i64 (k : Int)] 3)) := HB2.out.alloc HB2.out.size _
          have HX3 := Lib.hid (HX2.out.step ((Below.refl _ _).alloc (Nat.le_refl _) (.cells #[.int .i64 (k : Int)] 3)))
          have hgl := hown2.lt
          have hkk : (matK rs ns k).length ≤ k := HKL.out
          have hr12 := HL.out.2
          have HL' := Lib.hid (show ∀ i, u5.ownBlock = some i → w.heap.size + 1 ≤ i from fun i hi => (hgl i hi).1)
          clear hgl hown2 hr
          go_wp2_with (at_builtin; refine wpList_append_own _ rfl (.tmp 22) (.tmp 24) 26 rfl (w.heap.size + 1) 3 i0 _ 1 8 Tryz.underlying26 hi0 hz0 hz1 hz2 rfl (by decide) _ (matK rs ns k).length (intCells (matK rs ns k)) rfl hown4 ⟨w2.heap.size, 0, none⟩ 1 1 [.int .i64 (k : Int)] rfl rfl ?hc1 ?hc2 ?hc3 ?hc4 ?hc5 ?_; rotate_right; intro v' w5 hown5 hgrow _)
          case hc1 => exact cell_int _ _ _ rfl
          case hc2 => simp [Value.oneCell']
          case hc3 => unfold maxLen; omega
          case hc4 => omega
          case hc5 => have hsz2 := HB2.out.size; simp; omega
          have hb5 := hb3.grown hgrow hb3.size (fun i hi => by have := HL'.out i hi; omega)
          have hx5 := HX3.out.grown hgrow (fun i hi => by have := HL'.out i hi; omega)
          go_roundw
          case rel => exact ⟨k + 1, hlt, by go_num, by rw [hnx.out]; exact OwnI.of_append hown5, hb5, hx5⟩
          case measure => simp [intOf]; omega
    · obtain rfl : k = rs.length := by omega
      have HB := Lib.hid hb
      obtain ⟨A', c', rfl, hO⟩ := hown.form (matK_fits (by have := HL.out.2; omega))
      have HO := Lib.hid hO
      clear hown hO hb
      go_wp2
      go_ret
      exact ⟨A', c', rfl, HO.out.base (by omega), HB.out⟩

end Go.Proofs.YtamfmemdhldmjaaGreatDoor
