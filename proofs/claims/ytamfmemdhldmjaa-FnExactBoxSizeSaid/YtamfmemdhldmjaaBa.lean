/-
  Boxes: what they are, and the model.
-/
import Derived.Test.YtamfmemdhldmjaaWaM
import Derived.Test.YtamfmemdhldmjaaRdM
namespace Go.Proofs.Ytamfmemdhldmjaa
open Go.RowKit Sets

def bxAt (xs : List Sp) (i : Nat) : Bool := decide (-99 ≤ lo xs i) && (decide (hi xs i ≤ 99) && decide (lo xs i ≤ hi xs i))
/-- the spans are a box -/
def boxB (xs : List Sp) : Bool := decide (1 ≤ xs.length ∧ xs.length ≤ 4) && (List.range xs.length).all (bxAt xs)
def szP (xs : List Sp) : Nat → Int
  | 0 => 1
  | k + 1 => szP xs k * (hi xs k - lo xs k + 1)
def bszV (xs : List Sp) : Int := if boxB xs = true then szP xs xs.length else 0
def losP (xs : List Sp) : List Int := xs.map (·.1)
def bfsV (xs : List Sp) : List Int := if boxB xs = true then losP xs else []
def hsAt (xs : List Sp) (ns : List Int) (i : Nat) : Bool := decide (lo xs i ≤ ns.getD i 0) && decide (ns.getD i 0 ≤ hi xs i)
def bhsV (xs : List Sp) (ns : List Int) : Bool := boxB xs && (decide (xs.length = ns.length) && (List.range xs.length).all (hsAt xs ns))
theorem box_no {xs : List Sp} (h : ¬ (1 ≤ xs.length ∧ xs.length ≤ 4)) : boxB xs = false := by unfold boxB; rw [decide_eq_false h]; rfl
theorem box_at {xs : List Sp} (h : boxB xs = true) : (1 ≤ xs.length ∧ xs.length ≤ 4) ∧ ∀ i, i < xs.length → -99 ≤ lo xs i ∧ hi xs i ≤ 99 ∧ lo xs i ≤ hi xs i := by
  unfold boxB at h
  rw [Bool.and_eq_true, decide_eq_true_eq, List.all_eq_true] at h
  refine ⟨h.1, fun i hi' => ?_⟩
  have := h.2 i (List.mem_range.2 hi')
  unfold bxAt at this
  simpa using this
theorem box_bad {xs : List Sp} {k : Nat} (hk : k < xs.length) (h : bxAt xs k = false) : boxB xs = false := by unfold boxB; rw [all_no hk h]; simp
theorem box_good {xs : List Sp} (h1 : 1 ≤ xs.length ∧ xs.length ≤ 4) (h : ∀ i, i < xs.length → bxAt xs i = true) : boxB xs = true := by unfold boxB; rw [all_yes h, decide_eq_true h1]; rfl
theorem szP_bound {xs : List Sp} (h : boxB xs = true) : ∀ k, k ≤ xs.length → 1 ≤ szP xs k ∧ szP xs k ≤ 199 ^ k := by
  intro k
  induction k with
  | zero => intro _; exact ⟨by simp [szP], by simp [szP]⟩
  | succ k ih =>
    intro hk
    obtain ⟨i1, i2⟩ := ih (by omega)
    have hc := (box_at h).2 k (by omega)
    have e1 : 1 ≤ hi xs k - lo xs k + 1 := by omega
    have e2 : hi xs k - lo xs k + 1 ≤ 199 := by omega
    unfold szP
    rw [Int.pow_succ]
    constructor
    · have := Int.mul_le_mul i1 e1 (by omega) (by omega)
      omega
    · exact Int.mul_le_mul i2 e2 (by omega) (by omega)
theorem szP_small {xs : List Sp} (h : boxB xs = true) {k : Nat} (hk : k ≤ xs.length) : 1 ≤ szP xs k ∧ szP xs k ≤ 1568239201 := by
  obtain ⟨h1, h2⟩ := szP_bound h k hk
  refine ⟨h1, Int.le_trans h2 ?_⟩
  have := (box_at h).1.2
  have : k = 0 ∨ k = 1 ∨ k = 2 ∨ k = 3 ∨ k = 4 := by omega
  rcases this with rfl | rfl | rfl | rfl | rfl <;> decide
theorem losP_len (xs : List Sp) : (losP xs).length = xs.length := by simp [losP]
theorem losP_at {xs : List Sp} {i : Nat} (hi' : i < xs.length) : (losP xs).getD i 0 = lo xs i := by
  unfold losP lo
  rw [List.getD_eq_getElem?_getD, List.getElem?_map, List.getD_eq_getElem?_getD, List.getElem?_eq_getElem hi']; rfl
theorem losP_take {xs : List Sp} {k : Nat} (hk : k < xs.length) : (losP xs).take (k + 1) = (losP xs).take k ++ [lo xs k] := by
  have h : k < (losP xs).length := by rw [losP_len]; exact hk
  rw [List.take_succ_eq_append_getElem h]
  congr 2
  have := losP_at hk
  rw [List.getD_eq_getElem?_getD, List.getElem?_eq_getElem h] at this
  exact this
theorem bfs_small {xs : List Sp} : (bfsV xs).length ≤ 1048576 := by
  unfold bfsV
  split
  · rename_i h
    have := (box_at h).1.2
    rw [losP_len]; omega
  · simp
theorem losP_fits {xs : List Sp} (h : Fits xs) : ∀ x ∈ losP xs, I64 x := by
  intro x hx
  obtain ⟨y, hy, rfl⟩ := List.mem_map.1 hx
  exact (h y hy).1

set_option maxRecDepth 100000 in
set_option maxHeartbeats 2000000 in
theorem specBox_any (A : Option Addr) (c : Nat) (xs : List Sp) (w : World) (h : Reads w w.heap.size A c xs) :
    Calls Try.prog 73 #[.slice A xs.length c] w fun e w' => e = .returned (.bool (boxB xs)) ∧ Below w.heap.size w w' := by
  obtain ⟨hlc, hc, hfit, hrow⟩ := h
  have HF := Lib.hid hfit
  clear hfit
  go_enter Try.func73, Try.ntmps73
  go_wp2
  go_loopw [3] (fun i wr => ∃ k : Nat, k ≤ xs.length ∧ k ≤ 4 ∧ i = .int .i64 k ∧ Hid (∀ j, j < k → bxAt xs j = true) ∧ Below w.heap.size w wr) (fun i _ => xs.length - (intOf i).toNat)
  case atStart => exact ⟨0, Nat.zero_le _, by omega, rfl, Lib.hid (fun i hi => absurd hi (by omega)), Below.refl _ _⟩
  case round =>
    obtain ⟨k, hk, hk4, rfl, hall, hb⟩ := hrel
    by_cases hlt : k < xs.length ∧ k < 4
    · obtain ⟨hlt, hlt4⟩ := hlt
      rcases hrow with rfl | ⟨b, off, rfl, hB, hrow⟩
      · simp at hlt
      · have hkl : (k : Int) < (xs.length : Int) := by omega
        have hk4' : (k : Int) < 4 := by omega
        obtain ⟨d1, d2⟩ := (hrow.below hb hB) k hlt
        have HB := Lib.hid hb
        obtain ⟨x, hx⟩ : ∃ x, lo xs k = x := ⟨_, rfl⟩
        obtain ⟨y, hy⟩ : ∃ y, hi xs k = y := ⟨_, rfl⟩
        have HXY := Lib.hid (show bxAt xs k = (decide (-99 ≤ x) && (decide (y ≤ 99) && decide (x ≤ y))) by unfold bxAt; rw [hx, hy])
        rw [hx] at d1
        rw [hy] at d2
        clear hrow hb hx hy
        by_cases q1 : x < -99
        · have hv := Lib.hid (box_bad hlt (by rw [HXY.out, decide_eq_false (show ¬ -99 ≤ x by omega)]; rfl))
          go_wp2
          go_quiet (fail)
          go_wp2
          go_ret
          exact ⟨by rw [hv.out]; rfl, below_drewN HB.out _⟩
        · have q1' : decide (x < -99) = false := decide_eq_false q1
          by_cases q2 : 99 < y
          · have hv := Lib.hid (box_bad hlt (by rw [HXY.out, decide_eq_false (show ¬ y ≤ 99 by omega)]; simp))
            go_wp2
            go_quiet (fail)
            go_wp2
            go_ret
            exact ⟨by rw [hv.out]; rfl, below_drewN HB.out _⟩
          · have q2' : decide (99 < y) = false := decide_eq_false q2
            by_cases q3 : y < x
            · have hv := Lib.hid (box_bad hlt (by rw [HXY.out, decide_eq_false (show ¬ x ≤ y by omega)]; simp))
              go_wp2
              go_quiet (fail)
              go_wp2
              go_ret
              exact ⟨by rw [hv.out]; rfl, below_drewN HB.out _⟩
            · have q3' : decide (y < x) = false := decide_eq_false q3
              have hok := Lib.hid (show bxAt xs k = true by rw [HXY.out, decide_eq_true (show -99 ≤ x by omega), decide_eq_true (show y ≤ 99 by omega), decide_eq_true (show x ≤ y by omega)]; rfl)
              go_wp2
              go_quiet (fail)
              go_wp2
              go_roundw
              case rel =>
                refine ⟨k + 1, hlt, by omega, by go_num, Lib.hid (fun i hi => ?_), below_drewN HB.out _⟩
                by_cases e : i = k
                · rw [e]; exact hok.out
                · exact hall.out i (by omega)
              case measure => simp [intOf]; omega
    · by_cases hl : k < xs.length
      · have hk5 : k = 4 := by omega
        have hv := Lib.hid (box_no (xs := xs) (by omega))
        have hkl : (k : Int) < (xs.length : Int) := by omega
        subst hk5
        have hp : (0 : Int) < (xs.length : Int) := by omega
        have hq : decide ((xs.length : Int) ≤ 4) = false := decide_eq_false (by omega)
        clear hlt
        go_wp2
        try trivial
        go_ret
        exact ⟨by rw [hv.out]; rfl, hb⟩
      · obtain rfl : k = xs.length := by omega
        clear hlt
        by_cases hz : 1 ≤ xs.length
        · have hv := Lib.hid (box_good (xs := xs) (by omega) hall.out)
          have hp : (0 : Int) < (xs.length : Int) := by omega
          have hq : (xs.length : Int) ≤ 4 := by omega
          clear hall
          go_wp2
          try trivial
          go_ret
          exact ⟨by rw [hv.out]; rfl, hb⟩
        · have hv := Lib.hid (box_no (xs := xs) (by omega))
          have hp : decide ((0 : Int) < (xs.length : Int)) = false := decide_eq_false (by omega)
          clear hall
          go_wp2
          try trivial
          go_ret
          exact ⟨by rw [hv.out]; rfl, hb⟩

set_option maxRecDepth 100000 in
set_option maxHeartbeats 2000000 in
theorem specSzP_any (A : Option Addr) (c : Nat) (xs : List Sp) (w : World) (h : Reads w w.heap.size A c xs) (hbx : boxB xs = true) :
    Calls Try.prog 74 #[.slice A xs.length c] w fun e w' => e = .returned (.int .i64 (szP xs xs.length)) ∧ Below w.heap.size w w' := by
  obtain ⟨hlc, hc, hfit, hrow⟩ := h
  have HBX := Lib.hid hbx
  clear hfit hbx
  go_enter Try.func74, Try.ntmps74
  go_wp2
  go_loopw [3, 4] (fun q i wr => ∃ k : Nat, k ≤ xs.length ∧ i = .int .i64 k ∧ q = .int .i64 (szP xs k) ∧ Below w.heap.size w wr) (fun _ i _ => xs.length - (intOf i).toNat)
  case atStart => exact ⟨0, Nat.zero_le _, rfl, rfl, Below.refl _ _⟩
  case round =>
    obtain ⟨k, hk, rfl, rfl, hb⟩ := hrel
    by_cases hlt : k < xs.length
    · rcases hrow with rfl | ⟨b, off, rfl, hB, hrow⟩
      · simp at hlt
      · have hkl : (k : Int) < (xs.length : Int) := by omega
        obtain ⟨d1, d2⟩ := (hrow.below hb hB) k hlt
        have HB := Lib.hid hb
        have hbk := (box_at HBX.out).2 k hlt
        have hs1 := szP_small HBX.out (k := k) (by omega)
        have hs2 := szP_small HBX.out (k := k + 1) (by omega)
        have hnx : szP xs (k + 1) = szP xs k * (hi xs k - lo xs k + 1) := rfl
        have HNX := Lib.hid hnx
        rw [hnx] at hs2
        obtain ⟨x, hx⟩ : ∃ x, lo xs k = x := ⟨_, rfl⟩
        obtain ⟨y, hy⟩ : ∃ y, hi xs k = y := ⟨_, rfl⟩
        obtain ⟨p, hp⟩ : ∃ p, szP xs k = p := ⟨_, rfl⟩
        rw [hx] at d1 hbk hs2 HNX
        rw [hy] at d2 hbk hs2 HNX
        rw [hp] at hs1 hs2 HNX ⊢
        clear hrow hb hx hy hp hnx
        go_wp2
        go_quiet (fail)
        go_wp2
        go_roundw
        case rel => exact ⟨k + 1, hlt, by go_num, by rw [HNX.out], below_drewN HB.out _⟩
        case measure => simp [intOf]; omega
    · obtain rfl : k = xs.length := by omega
      go_wp2
      go_ret
      exact ⟨rfl, hb⟩

set_option maxRecDepth 100000 in
set_option maxHeartbeats 2000000 in
theorem specBSz_any (A : Option Addr) (c : Nat) (xs : List Sp) (w : World) (h : Reads w w.heap.size A c xs) :
    Calls Try.prog 37 #[.slice A xs.length c] w fun e w' => e = .returned (.int .i64 (bszV xs)) ∧ Below w.heap.size w w' := by
  have H := Lib.hid h
  clear h
  go_enter Try.func37, Try.ntmps37
  go_wp2_with fail
  refine (specBox_any _ _ xs _ H.out).mono ?_
  rintro e w1 ⟨rfl, b1⟩
  cases htv : boxB xs
  · have hv := Lib.hid (show bszV xs = 0 by unfold bszV; rw [htv]; rfl)
    clear htv
    go_wp2
    go_ret
    exact ⟨by rw [hv.out]; rfl, b1⟩
  · have HV := Lib.hid (show bszV xs = szP xs xs.length by unfold bszV; rw [if_pos htv])
    have HBX := Lib.hid htv
    have B1 := Lib.hid b1
    have H1 := Lib.hid ((H.out.below b1).mono b1.size)
    clear htv b1
    go_wp2_with fail
    refine (specSzP_any _ _ xs _ H1.out HBX.out).mono ?_
    rintro e w2 ⟨rfl, b2⟩
    go_wp2
    go_ret
    exact ⟨by rw [HV.out]; rfl, B1.out.trans (b2.mono B1.out.size)⟩

set_option maxRecDepth 100000 in
set_option maxHeartbeats 2000000 in
/-- the least numbers of the spans -/
theorem specFst_any (A : Option Addr) (c : Nat) (xs : List Sp) (w : World) (h : Reads w w.heap.size A c xs) (hn : xs.length ≤ 1048576) :
    Calls Try.prog 77 #[.slice A xs.length c] w fun e w' => ∃ A' c', e = .returned (.slice A' (losP xs).length c') ∧ OwnN w' w.heap.size A' c' (losP xs) ∧ Below w.heap.size w w' := by
  obtain ⟨i0, hi0, hz0, hz1, hz2⟩ := infoI
  obtain ⟨hlc, hc, hfit, hrow⟩ := h
  have HF := Lib.hid (losP_fits hfit)
  have HN := Lib.hid hn
  have HFX := Lib.hid hfit
  clear hfit hn
  have hb0 : Below w.heap.size w (w.alloc (.cells #[] 3)) := (Below.refl _ _).alloc (Nat.le_refl _) _
  have hown0 := ownI_empty w
  go_enter Try.func77, Try.ntmps77
  go_wp2
  generalize w.alloc (.cells #[] 3) = W at hb0 hown0 ⊢
  go_loopw [3, 4] (fun u i wr => ∃ k : Nat, k ≤ xs.length ∧ i = .int .i64 k ∧ OwnI wr w.heap.size u ((losP xs).take k) ∧ Below w.heap.size w wr) (fun _ i _ => xs.length - (intOf i).toNat)
  case atStart => exact ⟨0, Nat.zero_le _, rfl, hown0, hb0⟩
  case round =>
    clear hb0 hown0
    obtain ⟨k, hk, rfl, hown, hb⟩ := hrel
    by_cases hlt : k < xs.length
    · rcases hrow with rfl | ⟨b, off, rfl, hB, hrow⟩
      · simp at hlt
      · have hkl : (k : Int) < (xs.length : Int) := by omega
        obtain ⟨d1, d2⟩ := (hrow.below hb hB) k hlt
        have hnx := Lib.hid (losP_take hlt)
        have hkk : ((losP xs).take k).length = k := by rw [List.length_take, losP_len]; omega
        obtain ⟨x, hx⟩ : ∃ x, lo xs k = x := ⟨_, rfl⟩
        rw [hx] at d1 hnx
        have hown4 := World.ownsRow.alloc hown (.cells #[.int .i64 x] 3)
        have hb3 : Below w.heap.size w (wr.alloc (.cells #[.int .i64 x] 3)) := hb.alloc hb.size _
        have HL' := Lib.hid (show ∀ i, u3.ownBlock = some i → w.heap.size ≤ i from fun i hi => (hown.lt i hi).1)
        have HSZ := Lib.hid hb.size
        have HK20 := Lib.hid (show k ≤ 1048576 by have := HN.out; omega)
        obtain ⟨L, hL⟩ : ∃ L, (losP xs).take k = L := ⟨_, rfl⟩
        rw [hL] at hown hown4 hnx hkk
        have HKK := Lib.hid hkk
        clear hrow hx hown hL hkk hb d2
        go_wp2_with (at_builtin; refine wpList_append_own _ rfl (.tmp 12) (.tmp 18) 26 rfl w.heap.size 3 i0 _ 1 8 Try.underlying26 hi0 hz0 hz1 hz2 rfl (by decide) _ L.length (intCells L) rfl hown4 ⟨wr.heap.size, 0, none⟩ 1 1 [.int .i64 x] rfl rfl ?hc1 ?hc2 ?hc3 ?hc4 ?hc5 ?_; rotate_right; intro v' w5 hown5 hgrow _)
        case hc1 => exact cell_int _ _ _ rfl
        case hc2 => simp [Value.oneCell']
        case hc3 => have := HKK.out; have := HK20.out; unfold maxLen; omega
        case hc4 => have := HKK.out; have := HK20.out; omega
        case hc5 => have := HSZ.out; simp; omega
        have hb5 := hb3.grown hgrow hb3.size (fun i hi => HL'.out i hi)
        go_roundw
        case rel => exact ⟨k + 1, hlt, by go_num, by rw [hnx.out]; exact OwnI.of_append hown5, hb5⟩
        case measure => simp [intOf]; omega
    · obtain rfl : k = xs.length := by omega
      have HB := Lib.hid hb
      rw [show (losP xs).take xs.length = losP xs from List.take_of_length_le (by rw [losP_len]; exact Nat.le_refl _)] at hown
      obtain ⟨A', c', rfl, hO⟩ := hown.form HF.out
      have HO := Lib.hid hO
      clear hown hO hb
      go_wp2
      go_ret
      exact ⟨A', c', rfl, HO.out, HB.out⟩

set_option maxRecDepth 100000 in
set_option maxHeartbeats 2000000 in
theorem specBF_any (A : Option Addr) (c : Nat) (xs : List Sp) (w : World) (h : Reads w w.heap.size A c xs) :
    Calls Try.prog 40 #[.slice A xs.length c] w fun e w' => ∃ A' c', e = .returned (.tuple #[.slice A' (bfsV xs).length c', .bool (boxB xs)]) ∧ OwnN w' w.heap.size A' c' (bfsV xs) ∧ Below w.heap.size w w' := by
  have H := Lib.hid h
  clear h
  go_enter Try.func40, Try.ntmps40
  go_wp2_with fail
  refine (specBox_any _ _ xs _ H.out).mono ?_
  rintro e w1 ⟨rfl, b1⟩
  cases htv : boxB xs
  · have hv := Lib.hid (show bfsV xs = [] by unfold bfsV; rw [htv]; rfl)
    have hO := Lib.hid (show OwnN (w1.alloc (.cells #[] 3)) w.heap.size (some ⟨w1.heap.size, 0, none⟩) 0 [] from ⟨Nat.le_refl _, by omega, (fun x hx => by cases hx), (fun g o s e => by injection e with e; injection e with e1 _; subst e1; exact ⟨b1.size, by simp⟩), .inl rfl⟩)
    have HB := Lib.hid (b1.alloc b1.size (.cells #[] 3))
    have HTV := Lib.hid htv
    clear htv b1
    go_wp2
    go_ret2
    exact ⟨_, _, by rw [hv.out, HTV.out]; rfl, by rw [hv.out]; exact hO.out, HB.out⟩
  · have HV := Lib.hid (show bfsV xs = losP xs by unfold bfsV; rw [if_pos htv])
    have B1 := Lib.hid b1
    have H1 := Lib.hid ((H.out.below b1).mono b1.size)
    have hn := (box_at htv).1.2
    have HTV := Lib.hid htv
    clear htv b1
    go_wp2_with fail
    refine (specFst_any _ _ xs _ H1.out (by omega)).mono ?_
    rintro e w2 ⟨A', c', rfl, hO, b2⟩
    have HO := Lib.hid (hO.base B1.out.size)
    have HB := Lib.hid (B1.out.trans (b2.mono B1.out.size))
    clear hO b2
    go_wp2
    go_ret2
    exact ⟨A', c', by rw [HV.out, HTV.out]; rfl, by rw [HV.out]; exact HO.out, HB.out⟩

set_option maxRecDepth 100000 in
set_option maxHeartbeats 2000000 in
theorem specBH_any (A : Option Addr) (c : Nat) (xs : List Sp) (A2 : Option Addr) (c2 : Nat) (ns : List Int) (w : World) (h : Reads w w.heap.size A c xs) (h2 : IntsAt w w.heap.size A2 c2 ns) :
    Calls Try.prog 42 #[.slice A xs.length c, .slice A2 ns.length c2] w fun e w' => e = .returned (.bool (bhsV xs ns)) ∧ Below w.heap.size w w' := by
  have H := Lib.hid h
  have H2 := Lib.hid h2
  clear h h2
  go_enter Try.func42, Try.ntmps42
  cases htv : boxB xs
  · have hv := Lib.hid (show bhsV xs ns = false by unfold bhsV; rw [htv]; rfl)
    have HTV := Lib.hid htv
    clear htv
    go_wp2_with (go_at_call 73; refine (specBox_any _ _ xs _ H.out).mono ?_; rw [HTV.out]; rintro e w1 ⟨rfl, b1⟩)
    go_ret
    exact ⟨by rw [hv.out]; rfl, b1⟩
  · have HTV := Lib.hid htv
    clear htv
    by_cases hl : xs.length = ns.length
    · have hne : ((ns.length : Int) != (xs.length : Int)) = false := by simp [hl]
      have HL := Lib.hid hl
      have HV := Lib.hid (show bhsV xs ns = (List.range xs.length).all (hsAt xs ns) by unfold bhsV; rw [HTV.out, decide_eq_true hl]; rfl)
      clear hl
      go_wp2_with (go_at_call 73; refine (specBox_any _ _ xs _ H.out).mono ?_; rw [HTV.out]; rintro e w1 ⟨rfl, b1⟩)
      have B1 := Lib.hid b1
      clear b1
      obtain ⟨hfit, hlc2, hcc2, hrow2⟩ := H2.out
      obtain ⟨hlc, hc, hfit1, hrow⟩ := H.out
      clear hfit hfit1
      go_loopw [5] (fun i wr => ∃ k : Nat, k ≤ ns.length ∧ i = .int .i64 k ∧ Hid (∀ j, j < k → hsAt xs ns j = true) ∧ Below w.heap.size w wr) (fun i _ => ns.length - (intOf i).toNat)
      case atStart => exact ⟨0, Nat.zero_le _, rfl, Lib.hid (fun i hi => absurd hi (by omega)), B1.out⟩
      case round =>
        obtain ⟨k, hk, rfl, hall, hb⟩ := hrel
        by_cases hlt : k < ns.length
        · rcases hrow with hz | ⟨b, off, rfl, hB, hrow⟩
          · have := HL.out; rw [hz] at this; simp at this; omega
          · rcases hrow2 with hz | ⟨b2, off2, rfl, hB2, hrow2⟩
            · omega
            · have hkl : (k : Int) < (ns.length : Int) := by omega
              have hkl2 : (k : Int) < (xs.length : Int) := by have := HL.out; omega
              have hkx : k < xs.length := by have := HL.out; omega
              obtain ⟨d1, d2⟩ := (hrow.below hb hB) k hkx
              have e1 := (hb.cell (p := ⟨b2, off2 + k * 1, none⟩) hB2).trans (hrow2 k hlt)
              rw [Nat.mul_one] at e1
              have HB := Lib.hid hb
              obtain ⟨x, hx⟩ : ∃ x, lo xs k = x := ⟨_, rfl⟩
              obtain ⟨y, hy⟩ : ∃ y, hi xs k = y := ⟨_, rfl⟩
              obtain ⟨n, hn⟩ : ∃ n, ns.getD k 0 = n := ⟨_, rfl⟩
              have HXY := Lib.hid (show hsAt xs ns k = (decide (x ≤ n) && decide (n ≤ y)) by unfold hsAt; rw [hx, hy, hn])
              rw [hx] at d1
              rw [hy] at d2
              rw [hn] at e1
              clear hrow hrow2 hb hx hy hn
              by_cases q1 : n < x
              · have hv := Lib.hid (show bhsV xs ns = false by rw [HV.out]; exact all_no hkx (by rw [HXY.out, decide_eq_false (show ¬ x ≤ n by omega)]; rfl))
                go_wp2
                go_quiet (fail)
                go_wp2
                go_ret
                exact ⟨by rw [hv.out]; rfl, below_drewN HB.out _⟩
              · have q1' : decide (n < x) = false := decide_eq_false q1
                by_cases q2 : y < n
                · have hv := Lib.hid (show bhsV xs ns = false by rw [HV.out]; exact all_no hkx (by rw [HXY.out, decide_eq_false (show ¬ n ≤ y by omega)]; simp))
                  go_wp2
                  go_quiet (fail)
                  go_wp2
                  go_ret
                  exact ⟨by rw [hv.out]; rfl, below_drewN HB.out _⟩
                · have q2' : decide (y < n) = false := decide_eq_false q2
                  have hok := Lib.hid (show hsAt xs ns k = true by rw [HXY.out, decide_eq_true (show x ≤ n by omega), decide_eq_true (show n ≤ y by omega)]; rfl)
                  go_wp2
                  go_quiet (fail)
                  go_wp2
                  go_roundw
                  case rel =>
                    refine ⟨k + 1, hlt, by go_num, Lib.hid (fun i hi => ?_), below_drewN HB.out _⟩
                    by_cases e : i = k
                    · rw [e]; exact hok.out
                    · exact hall.out i (by omega)
                  case measure => simp [intOf]; omega
        · obtain rfl : k = ns.length := by omega
          have hv := Lib.hid (show bhsV xs ns = true by rw [HV.out]; exact all_yes (fun i hi => hall.out i (by have := HL.out; omega)))
          clear hall
          go_wp2
          go_ret
          exact ⟨by rw [hv.out]; rfl, hb⟩
    · have hne : ((ns.length : Int) != (xs.length : Int)) = true := by simp; omega
      have hv := Lib.hid (show bhsV xs ns = false by unfold bhsV; rw [decide_eq_false hl]; simp)
      clear hl
      go_wp2_with (go_at_call 73; refine (specBox_any _ _ xs _ H.out).mono ?_; rw [HTV.out]; rintro e w1 ⟨rfl, b1⟩)
      try trivial
      go_ret
      exact ⟨by rw [hv.out]; rfl, b1⟩
end Go.Proofs.Ytamfmemdhldmjaa
