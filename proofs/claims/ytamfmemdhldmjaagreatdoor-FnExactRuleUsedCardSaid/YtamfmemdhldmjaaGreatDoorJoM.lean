/-
  Contract of the model's flags: the numbers of spans, marked.
-/
import Derived.Test.YtamfmemdhldmjaaGreatDoorRdM
import Derived.Maps.AppendAt
import Derived.Deep.RegionHeld3
import Derived.Deep.LoopGhost
import Derived.Deep.DeepCutAuto
namespace Go.Proofs.YtamfmemdhldmjaaGreatDoor
open Go.RowKit Sets

theorem infoBool : (Tryz.prog.info? 4).map (fun i => (i.zero, i.size, i.bytes)) = some (some (.bool false), 1, 1) := by kernel_rfl

/-- A row of 199 flags of the call's own. -/
def FlagRow (w : World) (g : Nat) (f : Nat → Bool) : Prop := (∀ j, j < 199 → w.cell? ⟨g, j, none⟩ = some (.bool (f j))) ∧ (∀ o, w.frozen? ⟨g, o, none⟩ = false) ∧ g < w.heap.size
theorem FlagRow.congr {w : World} {g : Nat} {f f' : Nat → Bool} (h : FlagRow w g f) (he : ∀ j, j < 199 → f j = f' j) : FlagRow w g f' := ⟨fun j hj => by rw [← he j hj]; exact h.1 j hj, h.2⟩
theorem FlagRow.below {w w' : World} {B g : Nat} {f : Nat → Bool} (h : FlagRow w g f) (hb : Below B w w') (hB : g < B) : FlagRow w' g f :=
  ⟨fun j hj => by rw [hb.cell (p := ⟨g, j, none⟩) hB]; exact h.1 j hj, fun o => by rw [hb.frozen (p := ⟨g, o, none⟩) hB]; exact h.2.1 o, Nat.lt_of_lt_of_le h.2.2 hb.size⟩
theorem FlagRow.set {w : World} {g : Nat} {f : Nat → Bool} (h : FlagRow w g f) (i : Nat) (hi : i < 199) (b : Bool) : FlagRow (w.setCell ⟨g, i, none⟩ (.bool b)) g (fun j => if j = i then b else f j) := by
  refine ⟨fun j hj => ?_, fun o => by rw [World.frozen?_setCell]; exact h.2.1 o, by simpa [World.setCell] using h.2.2⟩
  show _ = some (Value.bool (if j = i then b else f j))
  by_cases e : j = i
  · subst e
    rw [if_pos rfl]
    exact World.cell?_setCell_same' _ _ _ (by rw [h.1 j hj]; rfl)
  · rw [if_neg e, World.cell?_setCell_other _ _ _ _ (fun h => by injection h with _ h; omega)]
    exact h.1 j hj

def flagK (xs : List Sp) (k : Nat) (j : Nat) : Bool := haveB (xs.take k) ((j : Int) - 99)
def inS (xs : List Sp) (k : Nat) (m : Int) : Bool := decide (lo xs k ≤ m) && decide (m ≤ hi xs k)
def flagN (xs : List Sp) (k : Nat) (m : Int) (j : Nat) : Bool := flagK xs k j || (decide ((j : Int) < m + 99) && inS xs k ((j : Int) - 99))
theorem haveB_append (s t : List Sp) (n : Int) : haveB (s ++ t) n = (haveB s n || haveB t n) := by unfold haveB; rw [List.any_append]
theorem flagK_succ {xs : List Sp} {k : Nat} (hk : k < xs.length) (j : Nat) : flagK xs (k + 1) j = (flagK xs k j || inS xs k ((j : Int) - 99)) := by
  unfold flagK inS
  rw [take_lohi hk, haveB_append]
  congr 1
  simp [haveB]
theorem flagN_start (xs : List Sp) (k j : Nat) : flagN xs k (-99) j = flagK xs k j := by
  unfold flagN
  rw [decide_eq_false (by omega)]; simp
theorem flagN_end {xs : List Sp} {k : Nat} (hk : k < xs.length) (j : Nat) (hj : j < 199) : flagN xs k 100 j = flagK xs (k + 1) j := by
  unfold flagN
  rw [flagK_succ hk, decide_eq_true (by omega)]; simp
theorem flagN_hit {xs : List Sp} {k : Nat} {m : Int} {i : Nat} (hi : (i : Int) = m + 99) (h : inS xs k m = true) (j : Nat) : (if j = i then true else flagN xs k m j) = flagN xs k (m + 1) j := by
  by_cases e : j = i
  · subst e
    rw [if_pos rfl]
    unfold flagN
    rw [decide_eq_true (by omega), show ((j : Int) - 99) = m by omega, h]; simp
  · rw [if_neg e]
    unfold flagN
    by_cases hlt : (j : Int) < m + 99
    · rw [decide_eq_true hlt, decide_eq_true (show (j : Int) < m + 1 + 99 by omega)]
    · rw [decide_eq_false hlt, decide_eq_false (show ¬ (j : Int) < m + 1 + 99 by omega)]
theorem flagN_miss {xs : List Sp} {k : Nat} {m : Int} (h : inS xs k m = false) (j : Nat) : flagN xs k m j = flagN xs k (m + 1) j := by
  unfold flagN
  by_cases hlt : (j : Int) < m + 99
  · rw [decide_eq_true hlt, decide_eq_true (show (j : Int) < m + 1 + 99 by omega)]
  · by_cases e : (j : Int) < m + 1 + 99
    · rw [show ((j : Int) - 99) = m by omega, h]; simp
    · rw [decide_eq_false hlt, decide_eq_false e]

set_option maxRecDepth 100000 in
set_option maxHeartbeats 1000000 in
theorem flags_any (A : Option Addr) (c : Nat) (xs : List Sp) (w : World) (h : Reads w w.heap.size A c xs) :
    Calls Tryz.prog 106 #[.slice A xs.length c] w fun e w' => e = .returned (.slice (some ⟨w.heap.size, 0, none⟩) 199 199) ∧ FlagRow w' w.heap.size (flag xs) ∧ Below w.heap.size w w' := by
  obtain ⟨hlc, hc, hfit, hrow⟩ := h
  obtain ⟨i0, hi, hz0, hz1, hz2⟩ := info_parts infoBool
  have hmk := fun W => run_make (P := Tryz.prog) W 147 4 i0 _ Tryz.underlying147 hi hz0 .i64 .i64 199 199 (by omega) (by omega) (by rw [hz2]; omega) (by omega)
  simp only [hz1, show ((199 : Int).toNat) = 199 from rfl] at hmk
  clear hi hz0 hz1 hz2
  go_enter Tryz.func106, Tryz.ntmps106
  go_wp2
  obtain ⟨W0, hW0⟩ : ∃ W0 : World, w.alloc (.cells (madeCells #[Value.bool false] 199) 4) = W0 := ⟨_, rfl⟩
  have hf0 : FlagRow W0 w.heap.size (flagK xs 0) := by
    rw [← hW0]
    refine ⟨fun j hj => ?_, fun o => World.frozen?_alloc_at _ _ _ _ rfl, by simp⟩
    rw [World.cell?_alloc_new]
    have hjs : j < (madeCells #[Value.bool false] 199).size := by rw [size_madeCells]; exact hj
    rw [Array.getElem?_eq_getElem hjs]
    unfold madeCells flagK haveB
    simp
    rw [Nat.mod_one]; rfl
  have hb0 : Below w.heap.size w W0 := by rw [← hW0]; exact (Below.refl _ _).alloc (Nat.le_refl _) _
  rw [hW0]
  clear hW0 hmk
  have hg := hf0.2.2
  go_loopw [4] (fun i wr => ∃ k : Nat, k ≤ xs.length ∧ i = .int .i64 k ∧ FlagRow wr w.heap.size (flagK xs k) ∧ Below w.heap.size w wr) (fun i _ => xs.length - (intOf i).toNat)
  case atStart => exact ⟨0, Nat.zero_le _, rfl, hf0, hb0⟩
  case round =>
    obtain ⟨k, hk, rfl, hfk, hb⟩ := hrel
    by_cases hlt : k < xs.length
    · rcases hrow with rfl | ⟨b, off, rfl, hB, hrow⟩
      · simp at hlt
      · have hkl : (k : Int) < (xs.length : Int) := by omega
        obtain ⟨wo, hwo⟩ : ∃ wo : World, wo = wr := ⟨_, rfl⟩
        subst hwo
        go_wp2
        go_loopw [5] (fun n wr => ∃ m : Int, -99 ≤ m ∧ m ≤ 100 ∧ n = .int .i64 m ∧ FlagRow wr w.heap.size (flagN xs k m) ∧ Below w.heap.size w wr) (fun n _ => (100 - intOf n).toNat)
        case atStart => exact ⟨-99, by omega, by omega, rfl, hfk.congr fun j _ => (flagN_start xs k j).symm, hb⟩
        case round =>
          obtain ⟨m, hm1, hm2, rfl, hfm, hbm⟩ := hrel
          obtain ⟨c1, c2⟩ := (hrow.below hbm hB) k hlt
          by_cases hm : m ≤ 99
          · have e1 : 0 ≤ m - -99 := by omega
            have e2 : m - -99 < 199 := by omega
            have e3 : 0 ≤ m + 99 := by omega
            have e4 : m + 99 < 199 := by omega
            have hi2 : (m + 99).toNat < 199 := by omega
            have g1 := hfm.1 _ hi2
            have g2 := hfm.2.1 (m + 99).toNat
            have hset := hfm.set _ hi2 true
            have hin : Hid (inS xs k m = true → FlagRow (wr.setCell ⟨w.heap.size, (m + 99).toNat, none⟩ (.bool true)) w.heap.size (flagN xs k (m + 1))) :=
              Lib.hid fun h => hset.congr fun j _ => flagN_hit (by omega) h j
            have hout : Hid (inS xs k m = false → FlagRow wr w.heap.size (flagN xs k (m + 1))) := Lib.hid fun h => hfm.congr fun j _ => flagN_miss h j
            clear hset
            go_wp2
            all_goals
              go_roundw
              case rel => first
                | exact ⟨m + 1, by omega, by omega, rfl, hin.out (by unfold inS; rw [decide_eq_true ‹lo xs k ≤ m›, decide_eq_true ‹m ≤ hi xs k›]; rfl), hbm.setCell (p := ⟨w.heap.size, (m + 99).toNat, none⟩) (Nat.le_refl _) _⟩
                | exact ⟨m + 1, by omega, by omega, rfl, hout.out (by unfold inS; rw [decide_eq_false (show ¬ m ≤ hi xs k by omega)]; simp), hbm⟩
                | exact ⟨m + 1, by omega, by omega, rfl, hout.out (by unfold inS; rw [decide_eq_false (show ¬ lo xs k ≤ m by omega)]; simp), hbm⟩
              case measure => simp [intOf]; omega
          · obtain rfl : m = 100 := by omega
            have hend := hfm.congr fun j hj => flagN_end hlt j hj
            go_wp2
            go_roundw
            case rel => exact ⟨k + 1, hlt, by go_num, hend, hbm⟩
            case measure => simp [intOf]; omega
    · obtain rfl : k = xs.length := by omega
      go_wp2
      go_ret
      exact ⟨rfl, hfk.congr fun j _ => by unfold flagK flag; rw [List.take_length], hb⟩
end Go.Proofs.YtamfmemdhldmjaaGreatDoor

namespace Go.Proofs.YtamfmemdhldmjaaGreatDoor
open Go.RowKit Sets

/-- The cells of a list of spans. -/
def cellsOf : List Sp → List Value
  | [] => []
  | x :: xs => .int .i64 x.1 :: .int .i64 x.2 :: cellsOf xs
theorem cellsOf_append (xs ys : List Sp) : cellsOf (xs ++ ys) = cellsOf xs ++ cellsOf ys := by
  induction xs with
  | nil => rfl
  | cons x xs ih => simp [cellsOf, ih]
theorem cellsOf_length (xs : List Sp) : (cellsOf xs).length = xs.length * 2 := by
  induction xs with
  | nil => rfl
  | cons x xs ih => simp [cellsOf, ih]; omega
theorem cellsOf_at (xs : List Sp) : ∀ i, i < xs.length → (cellsOf xs)[i * 2]? = some (.int .i64 (lo xs i)) ∧ (cellsOf xs)[i * 2 + 1]? = some (.int .i64 (hi xs i)) := by
  induction xs with
  | nil => intro i hi; simp at hi
  | cons x xs ih =>
    intro i hi
    cases i with
    | zero => exact ⟨rfl, rfl⟩
    | succ i =>
      have := ih i (by simpa using hi)
      rw [show (i + 1) * 2 = i * 2 + 1 + 1 by omega]
      simpa [cellsOf, lo, YtamfmemdhldmjaaGreatDoor.hi] using this

/-- v is a slice of the call's own (blocks from base on) that holds xs. -/
def OwnS (w : World) (base : Nat) (v : Value) (xs : List Sp) : Prop := w.ownsRow base 93 2 v xs.length (cellsOf xs)
theorem OwnS.nil (w : World) (base : Nat) : OwnS w base (.slice none 0 0) [] := World.ownsRow_nil w base _ 2
theorem OwnS.form {w : World} {base : Nat} {v : Value} {xs : List Sp} (h : OwnS w base v xs) (hf : Fits xs) :
    ∃ A c, v = .slice A xs.length c ∧ Reads w w.heap.size A c xs ∧ ∀ b off, A = some ⟨b, off, none⟩ → base ≤ b := by
  obtain ⟨_, ⟨rfl, hn⟩ | ⟨g, cap, cur, rfl, hb, hg, hnc, hcm, hcs, hcur⟩⟩ := h
  · have : xs = [] := List.eq_nil_of_length_eq_zero hn
    subst this
    exact ⟨none, 0, rfl, ⟨by simp, by omega, hf, .inl rfl⟩, fun b off h => by cases h⟩
  · refine ⟨_, cap, rfl, ⟨hnc, by unfold maxLen at hcm; omega, hf, .inr ⟨g, 0, rfl, ?_, fun i hi => ?_⟩⟩, fun b off h => by injection h with h; injection h with h; omega⟩
    · exact (Array.getElem?_eq_some_iff.1 hg).1
    · have hc := cellsOf_at xs i hi
      have hcell : ∀ o, o < xs.length * 2 → w.cell? ⟨g, 0 + o, none⟩ = (cellsOf xs)[o]? := by
        intro o ho
        rw [← hcur, List.getElem?_take_of_lt ho, Nat.zero_add]
        simp [World.cell?, hg]
      exact ⟨by rw [hcell _ (by omega)]; exact hc.1, by rw [Nat.add_assoc, hcell _ (by omega)]; exact hc.2⟩
theorem OwnS.grown {w w' : World} {base : Nat} {v : Value} {xs : List Sp} {B : Nat} (h : OwnS w base v xs) (hb : Below B w w') (hB : ∀ k, v.ownBlock = some k → k < B) : OwnS w' base v xs := by
  refine ⟨h.1, h.2.imp id ?_⟩
  rintro ⟨g, cap, cur, rfl, hb', hg, r⟩
  exact ⟨g, cap, cur, rfl, hb', by rw [hb.block g (hB g rfl)]; exact hg, r⟩
theorem OwnS.below {w w' : World} {base : Nat} {v : Value} {xs : List Sp} (h : OwnS w base v xs) (hb : Below w.heap.size w w') : OwnS w' base v xs :=
  h.grown hb fun k hk => (World.ownsRow.lt h k hk).2
theorem OwnS.mono {w : World} {base base' : Nat} {v : Value} {xs : List Sp} (h : OwnS w base v xs) (hb : base' ≤ base) : OwnS w base' v xs := by
  refine ⟨h.1, h.2.imp id ?_⟩
  rintro ⟨g, cap, cur, hv, hb', r⟩
  exact ⟨g, cap, cur, hv, by omega, r⟩

theorem OwnS.of_append {w : World} {base : Nat} {v : Value} {xs : List Sp} {a b : Int} (h : w.ownsRow base 93 2 v (xs.length + 1) (cellsOf xs ++ [.int .i64 a, .int .i64 b])) : OwnS w base v (xs ++ [(a, b)]) := by
  unfold OwnS
  rw [cellsOf_append, List.length_append]
  exact h
theorem OwnS.lt {w : World} {base : Nat} {v : Value} {xs : List Sp} (h : OwnS w base v xs) : ∀ k, v.ownBlock = some k → base ≤ k ∧ k < w.heap.size := World.ownsRow.lt h
theorem cell_one (w : World) (g : Nat) (a b : Int) (hg : g = w.heap.size) : ∀ (j : Nat) (u : Value), [Value.int .i64 a, .int .i64 b][j]? = some u → (w.alloc (.cells #[.int .i64 a, .int .i64 b] 93)).cell? ((⟨g, 0, none⟩ : Addr).add j) = some u := by
  subst hg
  intro j u hu
  have hadd : (⟨w.heap.size, 0, none⟩ : Addr).add j = ⟨w.heap.size, j, none⟩ := by unfold Addr.add; split <;> simp_all
  rw [hadd, World.cell?_alloc_new]
  simpa using hu
theorem infoSp : ∃ i0, Tryz.prog.info? 93 = some i0 ∧ i0.zero = some (.agg #[.int .i64 0, .int .i64 0]) ∧ i0.size = 2 ∧ i0.bytes = 16 := info_parts infoSpan
def lenV : Value → Nat | .slice _ n _ => n | _ => 0
end Go.Proofs.YtamfmemdhldmjaaGreatDoor

namespace Go.Proofs.YtamfmemdhldmjaaGreatDoor
open Go.RowKit Sets

theorem cellsOf_set (b : Int) : ∀ (xs : List Sp) (i : Nat), i < xs.length → cellsOf (xs.set i (lo xs i, b)) = (cellsOf xs).set (i * 2 + 1) (.int .i64 b)
  | [], i, h => by simp at h
  | x :: xs, 0, _ => rfl
  | x :: xs, i + 1, h => by
    have ih := cellsOf_set b xs i (by simpa using h)
    rw [show (i + 1) * 2 + 1 = i * 2 + 1 + 1 + 1 by omega]
    simp only [List.set_cons_succ, cellsOf, List.cons.injEq, true_and]
    rw [← ih]
    rfl
theorem OwnS.block {w : World} {base : Nat} {v : Value} {xs : List Sp} (h : OwnS w base v xs) (hp : 0 < xs.length) :
    ∃ g cap, v = .slice (some ⟨g, 0, none⟩) xs.length cap ∧ base ≤ g ∧ g < w.heap.size ∧ xs.length ≤ cap ∧ cap ≤ 9223372036854775807 ∧ RowAt w g 0 xs ∧ (∀ o, w.frozen? ⟨g, o, none⟩ = false) ∧ w.ownsRow base 93 2 (.slice (some ⟨g, 0, none⟩) xs.length cap) xs.length (cellsOf xs) := by
  have h' := h
  obtain ⟨h0, ⟨rfl, hn⟩ | ⟨g, cap, cur, rfl, hb, hg, hnc, hcm, hcs, hcur⟩⟩ := h
  · omega
  · refine ⟨g, cap, rfl, hb, (Array.getElem?_eq_some_iff.1 hg).1, hnc, by unfold maxLen at hcm; omega, fun i hi => ?_, fun o => by simp [World.frozen?, hg], h'⟩
    have hc := cellsOf_at xs i hi
    have hcell : ∀ o, o < xs.length * 2 → w.cell? ⟨g, 0 + o, none⟩ = (cellsOf xs)[o]? := by
      intro o ho
      rw [← hcur, List.getElem?_take_of_lt ho, Nat.zero_add]
      simp [World.cell?, hg]
    exact ⟨by rw [hcell _ (by omega)]; exact hc.1, by rw [Nat.add_assoc, hcell _ (by omega)]; exact hc.2⟩
theorem OwnS.set_hi {w : World} {base g cap : Nat} {xs : List Sp} (h : w.ownsRow base 93 2 (.slice (some ⟨g, 0, none⟩) xs.length cap) xs.length (cellsOf xs)) {i : Nat} (hi : i < xs.length) (b : Int) :
    OwnS (w.setCell ⟨g, i * 2 + 1, none⟩ (.int .i64 b)) base (.slice (some ⟨g, 0, none⟩) xs.length cap) (xs.set i (lo xs i, b)) := by
  unfold OwnS
  rw [cellsOf_set b xs i hi, List.length_set]
  exact (World.ownsRow.stored h (i * 2 + 1) (.int .i64 b)).1

theorem step_no (s : List Sp) (n : Int) : stepF s n false = s := by unfold stepF; simp
theorem step_ext {s : List Sp} {n : Int} (h : 0 < s.length) (e : hi s (s.length - 1) = n - 1) : stepF s n true = s.set (s.length - 1) (lo s (s.length - 1), n) := by
  unfold stepF
  rw [if_pos rfl, if_pos ⟨h, e⟩]; rfl
theorem step_new {s : List Sp} {n : Int} (h : ¬ (0 < s.length ∧ hi s (s.length - 1) = n - 1)) : stepF s n true = s ++ [(n, n)] := by
  unfold stepF
  rw [if_pos rfl]
  exact if_neg h
theorem fromF_fits (f : Nat → Bool) (k : Nat) (hk : k ≤ 199) : Fits (fromF f k) := fun x hx => by
  have h := (fromF_spec f k).2.1 x hx
  have h1 := (fromF_spec f k).1.le x hx
  unfold I64
  omega
theorem fits_nil' : Fits [] := fun x hx => by cases hx
theorem stepF_len (s : List Sp) (n : Int) (f : Bool) : (stepF s n f).length ≤ s.length + 1 := by
  unfold stepF
  split
  · split
    · rw [List.length_set]; omega
    · rw [List.length_append]; simp
  · omega
theorem fromF_len (f : Nat → Bool) : ∀ k, (fromF f k).length ≤ k
  | 0 => Nat.le_refl _
  | k + 1 => by have := fromF_len f k; have := stepF_len (fromF f k) ((k : Int) - 99) (f k); simp only [fromF]; omega

set_option maxRecDepth 100000 in
set_option maxHeartbeats 1000000 in
theorem from_any (g : Nat) (f : Nat → Bool) (w : World) (h : FlagRow w g f) :
    Calls Tryz.prog 107 #[.slice (some ⟨g, 0, none⟩) 199 199] w fun e w' => ∃ v, e = .returned v ∧ OwnS w' w.heap.size v (fromF f 199) ∧ Fits (fromF f 199) ∧ Below w.heap.size w w' := by
  obtain ⟨i0, hi0, hz0, hz1, hz2⟩ := infoSp
  have hg := h.2.2
  go_enter Tryz.func107, Tryz.ntmps107
  go_wp2
  have hown0 : OwnS (w.alloc (.cells #[] 93)) w.heap.size (.slice (some ⟨w.heap.size, 0, none⟩) 0 0) [] := World.ownsRow_lit w #[] 0 (Nat.le_refl _) (by decide) rfl
  go_loopw [3, 4] (fun v i wr => ∃ (k : Nat) (rs : List Sp), k ≤ 199 ∧ i = .int .i64 k ∧ Hid (fromF f k = rs) ∧ OwnS wr w.heap.size v rs ∧ Below w.heap.size w wr) (fun _ i _ => 199 - (intOf i).toNat)
  case atStart => exact ⟨0, [], by omega, rfl, Lib.hid rfl, hown0, (Below.refl _ _).alloc (Nat.le_refl _) _⟩
  case round =>
    obtain ⟨k, rs, hk, rfl, HR, hown, hb⟩ := hrel
    by_cases hlt : k < 199
    · have hkl : (k : Int) < 199 := by omega
      have c1 := (h.below hb hg).1 k hlt
      have hlen : rs.length ≤ k := by rw [← HR.out]; exact fromF_len f k
      cases hfk : f k
      · rw [hfk] at c1
        have HN : Hid (fromF f (k + 1) = rs) := Lib.hid (by rw [← HR.out]; simp only [fromF]; rw [hfk, step_no])
        clear hfk
        go_wp2
        go_roundw
        case rel => exact ⟨k + 1, rs, by omega, by go_num, HN, hown, hb⟩
        case measure => simp [intOf]; omega
      · rw [hfk] at c1
        have HF := Lib.hid hfk
        clear hfk
        have hown1 := World.ownsRow.alloc hown (.cells #[.int .i64 (-99 + (k : Int)), .int .i64 (-99 + (k : Int))] 93)
        rcases Nat.eq_zero_or_pos rs.length with hz | hp
        · have he : rs = [] := List.eq_nil_of_length_eq_zero hz
          subst he
          have HN : Hid (fromF f (k + 1) = [] ++ [(-99 + (k : Int), -99 + (k : Int))]) := Lib.hid (by
            have := HR.out; simp only [fromF]; rw [HF.out, this, step_new (by simp), show ((k : Int) - 99) = -99 + (k : Int) by omega])
          obtain ⟨A0, c0, hv, _, _⟩ := hown.form fits_nil'
          subst hv
          go_wp2_with (at_builtin; refine wpList_append_own _ rfl (.tmp 42) (.tmp 46) 73 rfl w.heap.size 93 i0 _ 2 16 Tryz.underlying73 hi0 hz0 hz1 hz2 rfl (by decide) _ ([] : List Sp).length (cellsOf []) rfl hown1 ⟨wr.heap.size, 0, none⟩ 1 1 [.int .i64 (-99 + (k : Int)), .int .i64 (-99 + (k : Int))] rfl rfl ?hc1 ?hc2 ?hc3 ?hc4 ?hc5 ?_; rotate_right; intro v' w1 hown2 hgrow _)
          case hc1 => exact cell_one _ _ _ _ rfl
          case hc2 => simp [Value.oneCell']
          case hc3 => simp [maxLen]
          case hc4 => simp
          case hc5 => have := hb.size; simp; omega
          go_roundw
          case rel => exact ⟨k + 1, _, by omega, by go_num, HN, OwnS.of_append (xs := []) hown2, Below.grown (row := (Value.slice A0 ([] : List Sp).length c0).ownBlock) (hb.alloc hb.size _) hgrow (by have := hb.size; simp; omega) (fun k hk => (hown.lt k hk).1)⟩
          case measure => simp [intOf]; omega
        · obtain ⟨g2, cap2, hv, hb2, hg2, hlc2, hcm2, hrow2, hfr2, hown2⟩ := hown.block hp
          subst hv
          obtain ⟨d1, d2⟩ := hrow2 (rs.length - 1) (by omega)
          simp only [Nat.zero_add] at d1 d2
          have f2 := hfr2 ((rs.length - 1) * 2 + 1)
          have hk1 : (1 : Int) ≤ (rs.length : Int) := by omega
          have hk2 : (0 : Int) ≤ (rs.length : Int) - 1 := by omega
          have hk3 : (rs.length : Int) - 1 < (rs.length : Int) := by omega
          have hk4 : (0 : Int) < (rs.length : Int) := by omega
          by_cases he : hi rs (rs.length - 1) = -99 + (k : Int) - 1
          · have HN : Hid (fromF f (k + 1) = rs.set (rs.length - 1) (lo rs (rs.length - 1), -99 + (k : Int))) := Lib.hid (by
              have := HR.out; simp only [fromF]; rw [HF.out, this, step_ext hp (by omega), show ((k : Int) - 99) = -99 + (k : Int) by omega])
            have hset := Lib.hid (OwnS.set_hi hown2 (i := rs.length - 1) (by omega) (-99 + (k : Int)))
            have he1 : (hi rs (rs.length - 1) == -99 + (k : Int) - 1) = true := beq_iff_eq.2 he
            clear he
            go_wp2
            go_roundw
            case rel => exact ⟨k + 1, _, by omega, by go_num, HN, hset.out, hb.setCell (p := ⟨g2, (rs.length - 1) * 2 + 1, none⟩) hb2 _⟩
            case measure => simp [intOf]; omega
          · have HN : Hid (fromF f (k + 1) = rs ++ [(-99 + (k : Int), -99 + (k : Int))]) := Lib.hid (by
              have := HR.out; simp only [fromF]; rw [HF.out, this, step_new (fun h => he (by omega)), show ((k : Int) - 99) = -99 + (k : Int) by omega])
            have he1 : (hi rs (rs.length - 1) == -99 + (k : Int) - 1) = false := beq_eq_false_iff_ne.2 he
            clear he
            go_wp2_with (at_builtin; refine wpList_append_own _ rfl (.tmp 42) (.tmp 46) 73 rfl w.heap.size 93 i0 _ 2 16 Tryz.underlying73 hi0 hz0 hz1 hz2 rfl (by decide) _ rs.length (cellsOf rs) rfl hown1 ⟨wr.heap.size, 0, none⟩ 1 1 [.int .i64 (-99 + (k : Int)), .int .i64 (-99 + (k : Int))] rfl rfl ?hc1 ?hc2 ?hc3 ?hc4 ?hc5 ?_; rotate_right; intro v' w1 hown2 hgrow _)
            case hc1 => exact cell_one _ _ _ _ rfl
            case hc2 => simp [Value.oneCell']
            case hc3 => unfold maxLen; omega
            case hc4 => omega
            case hc5 => have := hb.size; simp; omega
            go_roundw
            case rel => exact ⟨k + 1, _, by omega, by go_num, HN, OwnS.of_append hown2, Below.grown (row := (Value.slice (some ⟨g2, 0, none⟩) rs.length cap2).ownBlock) (hb.alloc hb.size _) hgrow (by have := hb.size; simp; omega) (fun k hk => (hown.lt k hk).1)⟩
            case measure => simp [intOf]; omega
    · obtain rfl : k = 199 := by omega
      go_wp2
      go_ret
      have := HR.out
      exact ⟨_, rfl, this ▸ hown, this ▸ fromF_fits f 199 (by omega), hb⟩
end Go.Proofs.YtamfmemdhldmjaaGreatDoor

namespace Go.Proofs.YtamfmemdhldmjaaGreatDoor
open Go.RowKit Sets

def mxI (a b : Int) : Int := if a < b then b else a
def mnI (a b : Int) : Int := if b < a then b else a
theorem mxI_eq (a b : Int) : mxI a b = max a b := by unfold mxI; split <;> omega
theorem mnI_eq (a b : Int) : mnI a b = min a b := by unfold mnI; split <;> omega

structure MeetRel (w : World) (xs ys : List Sp) (k : Nat) (a b m : Value) (wr : World) (rs ts acc : List Sp) (B1 B2 : Option Addr) (d1 d2 : Nat) : Prop where
  ha : a = .slice B1 rs.length d1
  hb : b = .slice B2 ts.length d2
  r1 : Reads wr w.heap.size B1 d1 rs
  r2 : Reads wr w.heap.size B2 d2 ts
  own : OwnS wr w.heap.size m acc
  fit : Fits acc
  eq : acc ++ meetP rs ts = meetP xs ys
  len : acc.length + k ≤ 65536
  num : k = rs.length + ts.length
  bel : Below w.heap.size w wr

theorem RowAt.tail {w : World} {b o : Nat} {x : Sp} {rs : List Sp} (h : RowAt w b o (x :: rs)) : RowAt w b (o + 2) rs := fun i hi => by
  have := h (i + 1) (by simpa using hi)
  rw [show o + (i + 1) * 2 = o + 2 + i * 2 by omega] at this
  simpa [lo, YtamfmemdhldmjaaGreatDoor.hi] using this
theorem Fits.tail {x : Sp} {rs : List Sp} (h : Fits (x :: rs)) : Fits rs := fun y hy => h y (List.mem_cons_of_mem _ hy)
theorem tail_full {w : World} {B b o : Nat} {x : Sp} {rs : List Sp} (hf : Fits (x :: rs)) (hl : (x :: rs).length ≤ 1) : Reads w B (some ⟨b, o, none⟩) 0 rs := by
  have : rs = [] := List.eq_nil_of_length_eq_zero (by simp at hl; exact List.length_eq_zero_iff.2 hl)
  subst this
  exact ⟨by simp, by omega, (fun y hy => by cases hy), .inl rfl⟩
theorem tail_more {w : World} {B b o d : Nat} {x : Sp} {rs : List Sp} (hr : RowAt w b o (x :: rs)) (hf : Fits (x :: rs)) (hl : (x :: rs).length ≤ d) (hd : d ≤ 9223372036854775807) (hB : b < B) : Reads w B (some ⟨b, o + 2, none⟩) (d - 1) rs :=
  ⟨by simp at hl; omega, by omega, hf.tail, .inr ⟨b, o + 2, rfl, hB, hr.tail⟩⟩
theorem whole_reads {w : World} {B b o d : Nat} {rs : List Sp} (hr : RowAt w b o rs) (hf : Fits rs) (hl : rs.length ≤ d) (hd : d ≤ 9223372036854775807) (hB : b < B) : Reads w B (some ⟨b, o, none⟩) d rs :=
  ⟨hl, hd, hf, .inr ⟨b, o, rfl, hB, hr⟩⟩
theorem capS_fits {x y : Sp} {rs ts : List Sp} {acc : List Sp} (ha : Fits acc) (h1 : Fits (x :: rs)) (h2 : Fits (y :: ts)) : Fits (acc ++ capS x y) := by
  intro z hz
  rcases List.mem_append.1 hz with hz | hz
  · exact ha z hz
  · have := capS_of x y z hz
    have a := h1 x List.mem_cons_self
    have b := h2 y List.mem_cons_self
    unfold I64 at *
    omega
theorem meet_left {acc xs ys rs ts : List Sp} {x y : Sp} (h : acc ++ meetP (x :: rs) (y :: ts) = meetP xs ys) (hlt : x.2 < y.2) : acc ++ capS x y ++ meetP rs (y :: ts) = meetP xs ys := by
  rw [← h, meetP, if_pos hlt, List.append_assoc]
theorem meet_right {acc xs ys rs ts : List Sp} {x y : Sp} (h : acc ++ meetP (x :: rs) (y :: ts) = meetP xs ys) (hlt : ¬ x.2 < y.2) : acc ++ capS x y ++ meetP (x :: rs) ts = meetP xs ys := by
  rw [← h, meetP, if_neg hlt, List.append_assoc]
theorem cap_len {acc : List Sp} {x y : Sp} {n : Nat} (h : acc.length + (n + 1) ≤ 65536) : (acc ++ capS x y).length + n ≤ 65536 := by
  have := capS_len x y
  rw [List.length_append]; omega

end Go.Proofs.YtamfmemdhldmjaaGreatDoor

namespace Go.Proofs.YtamfmemdhldmjaaGreatDoor
open Go.RowKit Sets

theorem drop_lohi {xs : List Sp} {k : Nat} (h : k < xs.length) : xs.drop k = (lo xs k, hi xs k) :: xs.drop (k + 1) := by
  rw [List.drop_eq_getElem_cons h]
  unfold lo YtamfmemdhldmjaaGreatDoor.hi
  rw [List.getD_eq_getElem?_getD, List.getElem?_eq_getElem h]
  rfl
theorem other_more {acc xs : List Sp} {k : Nat} {next : Int} (h : acc ++ otherP next (xs.drop k) = otherP (-99) xs) (hk : k < xs.length) (hlt : next < lo xs k) :
    acc ++ [(next, lo xs k - 1)] ++ otherP (hi xs k + 1) (xs.drop (k + 1)) = otherP (-99) xs := by
  rw [← h, drop_lohi hk, otherP, gapS, if_pos hlt, List.append_assoc]
theorem other_same {acc xs : List Sp} {k : Nat} {next : Int} (h : acc ++ otherP next (xs.drop k) = otherP (-99) xs) (hk : k < xs.length) (hlt : ¬ next < lo xs k) :
    acc ++ otherP (hi xs k + 1) (xs.drop (k + 1)) = otherP (-99) xs := by
  rw [← h, drop_lohi hk, otherP, gapS, if_neg hlt, List.nil_append]
theorem other_end {acc xs : List Sp} {next : Int} (h : acc ++ otherP next (xs.drop xs.length) = otherP (-99) xs) : acc ++ lastS next = otherP (-99) xs := by
  rw [← h, List.drop_length, otherP]
theorem fits_snoc {acc : List Sp} {a b : Int} (h : Fits acc) (ha : I64 a) (hb : I64 b) : Fits (acc ++ [(a, b)]) := by
  intro z hz
  rcases List.mem_append.1 hz with hz | hz
  · exact h z hz
  · rw [List.mem_singleton.1 hz]; exact ⟨ha, hb⟩

/-- The loop variable's block is not the row that an append may have written. -/
theorem x_at {wr w1 : World} {a b c d : Int} {row : Option Nat} (hg : World.grownBy ((wr.alloc (.cells #[.int .i64 a, .int .i64 b] 93)).alloc (.cells #[.int .i64 c, .int .i64 d] 93)) w1 row) (hr : ∀ k, row = some k → k < wr.heap.size) :
    w1.cell? ⟨wr.heap.size, 1, none⟩ = some (.int .i64 b) := by
  refine World.grownBy.cell hg ?_ (fun e => by have := hr _ e.symm; simp at this)
  rw [World.cell?_alloc_lt _ _ _ (by simp)]
  exact World.cell?_alloc_new _ _ _ _

end Go.Proofs.YtamfmemdhldmjaaGreatDoor

namespace Go.Proofs.YtamfmemdhldmjaaGreatDoor
open Go.RowKit Sets

def bothB (xs ys : List Sp) : Bool := validB xs && validB ys
def meetV (xs ys : List Sp) : List Sp := if bothB xs ys = true then meetP xs ys else []
def minusB (xs ys : List Sp) : Bool := bothB xs ys && decide ((minusP xs ys).length ≤ 12)
def minusV (xs ys : List Sp) : List Sp := if minusB xs ys = true then minusP xs ys else []

def OwnRes (base : Nat) (xs : List Sp) (w : World) (e : Ending) (w' : World) : Prop := ∃ v, e = .returned v ∧ OwnS w' base v xs ∧ Fits xs ∧ Below w.heap.size w w'
def OwnRes2 (base : Nat) (xs : List Sp) (ok : Bool) (w : World) (e : Ending) (w' : World) : Prop := ∃ v, e = .returned (.tuple #[v, .bool ok]) ∧ OwnS w' base v xs ∧ Fits xs ∧ Below w.heap.size w w'

theorem fits_nil : Fits [] := fun x hx => by cases hx

theorem meetV_len (xs ys : List Sp) : (meetV xs ys).length ≤ 65536 := by
  unfold meetV
  split
  · rename_i h
    unfold bothB at h
    rw [Bool.and_eq_true] at h
    have := valid_len h.1; have := valid_len h.2; have := meetP_len xs ys
    omega
  · simp
theorem minusV_len (xs ys : List Sp) : (minusV xs ys).length ≤ 65536 := by
  unfold minusV
  split
  · rename_i h
    unfold minusB at h
    rw [Bool.and_eq_true] at h
    have := of_decide_eq_true h.2
    omega
  · simp
end Go.Proofs.YtamfmemdhldmjaaGreatDoor

namespace Go.Proofs.YtamfmemdhldmjaaGreatDoor
open Go.RowKit Sets

def jf (both minus p q : Bool) : Bool := if minus then p && !q else if both then p && q else p || q
def jfK (both minus : Bool) (xs ys : List Sp) (k j : Nat) : Bool := if j < k then jf both minus (flag xs j) (flag ys j) else flag xs j
theorem jfK_set (both minus : Bool) (xs ys : List Sp) (k j : Nat) (b : Bool) (hb : b = jf both minus (flag xs k) (flag ys k)) : (if j = k then b else jfK both minus xs ys k j) = jfK both minus xs ys (k + 1) j := by
  unfold jfK
  by_cases e : j = k
  · subst e; rw [if_pos rfl, if_pos (by omega), hb]
  · rw [if_neg e]
    by_cases h : j < k
    · rw [if_pos h, if_pos (by omega)]
    · rw [if_neg h, if_neg (by omega)]

theorem Reads.stepB {w w' : World} {A : Option Addr} {c : Nat} {xs : List Sp} (h : Reads w w.heap.size A c xs) (hb : Below w.heap.size w w') : Reads w' w'.heap.size A c xs := h.step hb

set_option maxRecDepth 100000 in
set_option maxHeartbeats 2000000 in
theorem join_any (A1 A2 : Option Addr) (c1 c2 : Nat) (xs ys : List Sp) (both minus : Bool) (w : World) (h1 : Reads w w.heap.size A1 c1 xs) (h2 : Reads w w.heap.size A2 c2 ys) :
    Calls Tryz.prog 103 #[.slice A1 xs.length c1, .slice A2 ys.length c2, .bool both, .bool minus] w (OwnRes w.heap.size (fromF (fun j => jf both minus (flag xs j) (flag ys j)) 199) w) := by
  have H1 := Lib.hid h1
  have H2 := Lib.hid h2
  clear h1 h2
  go_enter Tryz.func103, Tryz.ntmps103
  go_wp2_with fail
  refine (flags_any _ _ xs _ H1.out).mono ?_
  rintro e w1 ⟨rfl, hx1, b1⟩
  have G2 := Lib.hid (H2.out.step b1)
  go_wp2_with fail
  refine (flags_any _ _ ys _ G2.out).mono ?_
  rintro e w2 ⟨rfl, hy2, b2⟩
  have hx2 := hx1.below b2 hx1.2.2
  have b02 := b1.trans (b2.mono b1.size)
  have hgx := hx1.2.2
  have hgx0 := b1.size
  clear hx1
  go_wp2
  go_loopw [11] (fun i wr => ∃ k : Nat, k ≤ 199 ∧ i = .int .i64 k ∧ FlagRow wr w.heap.size (jfK both minus xs ys k) ∧ FlagRow wr w1.heap.size (flag ys) ∧ Below w.heap.size w wr) (fun i _ => 199 - (intOf i).toNat)
  case atStart => exact ⟨0, by omega, rfl, hx2.congr fun j _ => by unfold jfK; rw [if_neg (by omega)], hy2, b02⟩
  case round =>
    obtain ⟨k, hk, rfl, hx, hy, hb⟩ := hrel
    by_cases hlt : k < 199
    · have hkl : (k : Int) < 199 := by omega
      have cx := hx.1 k hlt
      have fx := hx.2.1 k
      have cy := hy.1 k hlt
      have e0 : jfK both minus xs ys k k = flag xs k := by unfold jfK; rw [if_neg (by omega)]
      rw [e0] at cx
      clear e0
      have hset : Hid (∀ b, b = jf both minus (flag xs k) (flag ys k) → FlagRow (wr.setCell ⟨w.heap.size, k, none⟩ (.bool b)) w.heap.size (jfK both minus xs ys (k + 1))) :=
        Lib.hid fun b hb => (hx.set k hlt b).congr fun j _ => jfK_set both minus xs ys k j b hb
      have hsety : Hid (∀ b, FlagRow (wr.setCell ⟨w.heap.size, k, none⟩ (.bool b)) w1.heap.size (flag ys)) :=
        Lib.hid fun b => ⟨fun j hj => by rw [World.cell?_setCell_other _ _ _ _ (fun h => by injection h with h _; omega)]; exact hy.1 j hj, fun o => by rw [World.frozen?_setCell]; exact hy.2.1 o, by simpa [World.setCell] using hy.2.2⟩
      cases hp : flag xs k <;> cases hq : flag ys k <;> rw [hp] at cx <;> rw [hq] at cy <;> (have HP := Lib.hid hp) <;> (have HQ := Lib.hid hq) <;> clear hp hq <;> cases both <;> cases minus
      all_goals
        go_wp2
        go_roundw
        case rel => exact ⟨k + 1, by omega, by go_num, hset.out _ (by rw [HP.out, HQ.out]; rfl), hsety.out _, hb.setCell (p := ⟨w.heap.size, k, none⟩) (Nat.le_refl _) _⟩
        case measure => simp [intOf]; omega
    · obtain rfl : k = 199 := by omega
      have hx' := hx.congr (f' := fun j => jf both minus (flag xs j) (flag ys j)) fun j hj => by unfold jfK; rw [if_pos hj]
      go_wp2_with fail
      refine (from_any _ _ _ hx').mono ?_
      rintro e w3 ⟨v, rfl, hown, hf, b3⟩
      go_wp2
      go_ret
      exact ⟨_, rfl, hown.mono hb.size, hf, hb.trans (b3.mono hb.size)⟩

def DoneRes (A : Option Addr) (n c : Nat) (w : World) (e : Ending) (w' : World) : Prop :=
  (n ≤ 12 ∧ e = .returned (.tuple #[.slice A n c, .bool true]) ∧ w = w') ∨
      (¬ n ≤ 12 ∧ e = .returned (.tuple #[.slice (some ⟨w.heap.size, 0, none⟩) 0 0, .bool false]) ∧ w.alloc (.cells #[] 93) = w')
theorem own_empty (w : World) : OwnS (w.alloc (.cells #[] 93)) w.heap.size (.slice (some ⟨w.heap.size, 0, none⟩) 0 0) [] := World.ownsRow_lit w #[] 0 (Nat.le_refl _) (by decide) rfl

theorem norm_of_valid {xs : List Sp} (h : validB xs = true) : Norm xs ∧ Within xs := ((valid_iff xs).1 ((validB_iff xs).1 h)).2
theorem join_meet {xs ys : List Sp} (h1 : validB xs = true) (h2 : validB ys = true) : fromF (fun j => jf true false (flag xs j) (flag ys j)) 199 = meetP xs ys :=
  meet_flags xs ys (norm_of_valid h1).1 (norm_of_valid h1).2 (norm_of_valid h2).1
theorem join_minus {xs ys : List Sp} (h1 : validB xs = true) (h2 : validB ys = true) : fromF (fun j => jf false true (flag xs j) (flag ys j)) 199 = minusP xs ys :=
  minus_flags xs ys (norm_of_valid h1).1 (norm_of_valid h1).2 (norm_of_valid h2).1 (norm_of_valid h2).2

end Go.Proofs.YtamfmemdhldmjaaGreatDoor
