/-
  Contracts of the model's reader of drawn bytes: what it hands back is in range, and only its own block turns.
-/
import Derived.Test.YtiaoenkgapfgaaaDoorGn
import Derived.Laws.BitsAllLaws
import Derived.Laws.BitsLemmas
namespace Go.Proofs.YtiaoenkgapfgaaaDoor
open Go.RowKit Sets

/-- The reader in block g: the bytes (slice A, n, c) below block B, the place p. -/
structure Rdr (w : World) (g B : Nat) (A : Option Addr) (n c p : Nat) (z : Nat → Int) : Prop where
  blk : w.heap[g]? = some (.cells #[.slice A n c, .int .i64 p] 80 (0, 0))
  hn : n ≤ 2000
  hc : n ≤ c
  hB : B ≤ g
  byte : ∀ i, 0 ≤ z i ∧ z i ≤ 255
  row : 0 < n → ∃ b off, A = some ⟨b, off, none⟩ ∧ b < B ∧ ∀ i, i < n → w.cell? ⟨b, off + i, none⟩ = some (.int .u8 (z i))
theorem Rdr.lt {w : World} {g B : Nat} {A : Option Addr} {n c p : Nat} {z : Nat → Int} (h : Rdr w g B A n c p z) : g < w.heap.size := (Array.getElem?_eq_some_iff.1 h.blk).1
theorem Rdr.cell0 {w : World} {g B : Nat} {A : Option Addr} {n c p : Nat} {z : Nat → Int} (h : Rdr w g B A n c p z) : w.cell? ⟨g, 0, none⟩ = some (.slice A n c) := by simp [World.cell?, h.blk]
theorem Rdr.cell1 {w : World} {g B : Nat} {A : Option Addr} {n c p : Nat} {z : Nat → Int} (h : Rdr w g B A n c p z) : w.cell? ⟨g, 1, none⟩ = some (.int .i64 p) := by simp [World.cell?, h.blk]
theorem Rdr.free {w : World} {g B : Nat} {A : Option Addr} {n c p : Nat} {z : Nat → Int} (h : Rdr w g B A n c p z) (o : Nat) : w.frozen? ⟨g, o, none⟩ = false := by simp [World.frozen?, h.blk]
theorem Rdr.below {w w' : World} {g B : Nat} {A : Option Addr} {n c p : Nat} {z : Nat → Int} (h : Rdr w g B A n c p z) (hb : Below w.heap.size w w') : Rdr w' g B A n c p z where
  blk := by rw [hb.block g h.lt]; exact h.blk
  hn := h.hn
  hc := h.hc
  hB := h.hB
  byte := h.byte
  row hp := by
    obtain ⟨b, off, e, hb', hr⟩ := h.row hp
    exact ⟨b, off, e, hb', fun i hi => by rw [hb.cell (p := ⟨b, off + i, none⟩) (by have := h.lt; have := h.hB; simp; omega)]; exact hr i hi⟩
theorem Rdr.next {w : World} {g B : Nat} {A : Option Addr} {n c p : Nat} {z : Nat → Int} (h : Rdr w g B A n c p z) (k : Nat) : Rdr ((w.setCell ⟨g, 1, none⟩ (.int .i64 ((p + 1 : Nat) : Int))).drewN k) g B A n c (p + 1) z where
  blk := by
    show (w.setCell ⟨g, 1, none⟩ _).heap[g]? = _
    simp [World.setCell, Array.getElem?_modify, h.blk]
  hn := h.hn
  hc := h.hc
  hB := h.hB
  byte := h.byte
  row hp := by
    obtain ⟨b, off, e, hb', hr⟩ := h.row hp
    refine ⟨b, off, e, hb', fun i hi => ?_⟩
    show (w.setCell ⟨g, 1, none⟩ _).cell? ⟨b, off + i, none⟩ = _
    rw [World.cell?_setCell_other _ _ _ _ (fun h' => by injection h' with h' _; have := h.hB; omega)]
    exact hr i hi

theorem ofInt_nat (a : Nat) (ha : a < 9223372036854775808) : (BitVec.ofInt 64 (a : Int)).toNat = a := by
  rw [BitVec.ofInt_natCast, BitVec.toNat_ofNat]; exact Nat.mod_eq_of_lt (by omega)
theorem xor_small (a b : Int) (ha : 0 ≤ a) (ha2 : a < 4611686018427387904) (hb : 0 ≤ b) (hb2 : b < 4611686018427387904) : 0 ≤ bits .xor .i64 a b ∧ bits .xor .i64 a b < 4611686018427387904 := by
  obtain ⟨m, rfl⟩ := Int.eq_ofNat_of_zero_le ha
  obtain ⟨n, rfl⟩ := Int.eq_ofNat_of_zero_le hb
  have hx : m ^^^ n < 2 ^ 62 := Nat.xor_lt_two_pow (by omega) (by omega)
  have e : bits .xor .i64 (m : Int) (n : Int) = ((m ^^^ n : Nat) : Int) := by
    show IntKind.i64.wrap ((BitVec.ofInt 64 (m : Int) ^^^ BitVec.ofInt 64 (n : Int)).toNat : Int) = _
    rw [BitVec.toNat_xor, ofInt_nat m (by omega), ofInt_nat n (by omega), IntKind.wrap_i64]
    omega
  rw [e]; omega

/-- What pick hands back. -/
def PickRes (m : Int) (g p : Nat) (w : World) (e : Ending) (w' : World) : Prop :=
  ∃ (v : Int) (k : Nat), e = .returned (.int .i64 v) ∧ 0 ≤ v ∧ (1 ≤ m → v < m) ∧ (m < 1 → v = 0) ∧ w' = (w.setCell ⟨g, 1, none⟩ (.int .i64 ((p + 1 : Nat) : Int))).drewN k

set_option maxRecDepth 100000 in
theorem pick_any (g B : Nat) (A : Option Addr) (n c p : Nat) (z : Nat → Int) (m : Int) (w : World) (h : Rdr w g B A n c p z) (hp : p ≤ 1000000) (hm : -4611686018427387904 ≤ m) (hm2 : m ≤ 4611686018427387904) :
    Calls Tryd.prog 20 #[.pointer (some ⟨g, 0, none⟩), .int .i64 m] w (PickRes m g p w) := by
  have c0 := h.cell0
  have c1 := h.cell1
  have f1 := h.free 1
  have hg := h.lt
  by_cases hm1 : m < 1
  · go_enter Tryd.func20, Tryd.ntmps20
    go_wp2
    go_ret
    exact ⟨0, 0, rfl, by omega, by omega, fun _ => rfl, by go_num⟩
  · rcases Nat.eq_zero_or_pos n with hn0 | hn0
    · subst hn0
      go_enter Tryd.func20, Tryd.ntmps20
      go_wp2
      go_ret
      exact ⟨0, 0, rfl, by omega, by omega, fun _ => rfl, by go_num⟩
    · obtain ⟨b, off, rfl, hb, hrow⟩ := h.row hn0
      have hn2000 := h.hn
      have hnc := h.hc
      have hne : ((n : Int) == 0) = false := beq_eq_false_iff_ne.2 (by omega)
      have hbg : b ≠ g := by have := h.hB; omega
      by_cases hlt : p < n
      · have r1 := hrow p hlt
        have z1 := h.byte p
        have hpl : (p : Int) < (n : Int) := by omega
        go_enter Tryd.func20, Tryd.ntmps20
        go_wp2
        go_ret
        exact ⟨z p % m, 0, rfl, Int.emod_nonneg _ (by omega), fun _ => Int.emod_lt_of_pos _ (by omega), fun h => by omega, by go_num⟩
      · have hpl : ¬ (p : Int) < (n : Int) := by omega
        have i1 : p % n < n := Nat.mod_lt _ hn0
        have i2 : (p * 7 + 3) % n < n := Nat.mod_lt _ hn0
        have r1 := hrow _ i1
        have r2 := hrow _ i2
        have z1 := h.byte (p % n)
        have z2 := h.byte ((p * 7 + 3) % n)
        have hq : 0 ≤ (p : Int) / (n : Int) := Int.ediv_nonneg (by omega) (by omega)
        have hq2 : (p : Int) / (n : Int) ≤ 1000000 := Int.le_trans (Int.ediv_le_self _ (by omega)) (by omega)
        have e1 : ((p : Int) % (n : Int)).toNat = p % n := by omega
        have e2 : (((p : Int) * 7 + 3) % (n : Int)).toNat = (p * 7 + 3) % n := by
          rw [show ((p : Int) * 7 + 3) = ((p * 7 + 3 : Nat) : Int) by omega, ← Int.natCast_emod, Int.toNat_natCast]
        have b1 : 0 ≤ (p : Int) % (n : Int) := Int.emod_nonneg _ (by omega)
        have b2 : (p : Int) % (n : Int) < (n : Int) := Int.emod_lt_of_pos _ (by omega)
        have b3 : 0 ≤ ((p : Int) * 7 + 3) % (n : Int) := Int.emod_nonneg _ (by omega)
        have b4 : ((p : Int) * 7 + 3) % (n : Int) < (n : Int) := Int.emod_lt_of_pos _ (by omega)
        go_enter Tryd.func20, Tryd.ntmps20
        go_wp2
        have w1 : IntKind.i64.wrap ((p : Int) * 7) = (p : Int) * 7 := IntWalk.i64_in _ (by omega)
        have w2 : IntKind.i64.wrap ((p : Int) * 7 + 3) = (p : Int) * 7 + 3 := IntWalk.i64_in _ (by omega)
        have w3 : IntKind.i64.wrap (z (p % n) * 131) = z (p % n) * 131 := IntWalk.i64_in _ (by omega)
        have w4 : IntKind.i64.wrap (z ((p * 7 + 3) % n) * 1117) = z ((p * 7 + 3) % n) * 1117 := IntWalk.i64_in _ (by omega)
        have w5 : IntKind.i64.wrap (z (p % n) * 131 + z ((p * 7 + 3) % n) * 1117) = z (p % n) * 131 + z ((p * 7 + 3) % n) * 1117 := IntWalk.i64_in _ (by omega)
        have w6 : IntKind.i64.wrap ((p : Int) * 29) = (p : Int) * 29 := IntWalk.i64_in _ (by omega)
        have w7 : IntKind.i64.wrap (z (p % n) * 131 + z ((p * 7 + 3) % n) * 1117 + (p : Int) * 29) = z (p % n) * 131 + z ((p * 7 + 3) % n) * 1117 + (p : Int) * 29 := IntWalk.i64_in _ (by omega)
        have w8 : IntKind.i64.wrap ((p : Int) / (n : Int) * 53) = (p : Int) / (n : Int) * 53 := IntWalk.i64_in _ (by omega)
        have w9 : IntKind.i64.wrap (z (p % n) * 131 + z ((p * 7 + 3) % n) * 1117 + (p : Int) * 29 + (p : Int) / (n : Int) * 53) = z (p % n) * 131 + z ((p * 7 + 3) % n) * 1117 + (p : Int) * 29 + (p : Int) / (n : Int) * 53 := IntWalk.i64_in _ (by omega)
        go_quiet (fail)
        have x0 : 0 ≤ z (p % n) * 131 + z ((p * 7 + 3) % n) * 1117 + (p : Int) * 29 + (p : Int) / (n : Int) * 53 := by omega
        have x1 : z (p % n) * 131 + z ((p * 7 + 3) % n) * 1117 + (p : Int) * 29 + (p : Int) / (n : Int) * 53 ≤ 100000000 := by omega
        clear w1 w2 w3 w4 w5 w6 w7 w8 w9 e1 e2
        generalize z (p % n) * 131 + z ((p * 7 + 3) % n) * 1117 + (p : Int) * 29 + (p : Int) / (n : Int) * 53 = X at x0 x1 ⊢
        have x2 : 0 ≤ X / 64 := Int.ediv_nonneg x0 (by omega)
        have x3 : X / 64 ≤ X := Int.ediv_le_self _ x0
        obtain ⟨y0, y1⟩ := xor_small X (X / 64) x0 (by omega) x2 (by omega)
        go_wp2
        go_ret
        exact ⟨_, _, rfl, Int.emod_nonneg _ (by omega), fun _ => Int.emod_lt_of_pos _ (by omega), fun h => by omega, by go_num⟩
/-- A list of numbers that a call has laid. -/
def Nums (w : World) (b : Nat) (l : List Int) : Prop := ∀ i, i < l.length → w.cell? ⟨b, i, none⟩ = some (.int .i64 (l.getD i 0))
def NumRes (l : List Int) (g p : Nat) (w : World) (e : Ending) (w' : World) : Prop :=
  ∃ (v : Int) (k : Nat), e = .returned (.int .i64 v) ∧ v ∈ l ∧ w' = (w.setCell ⟨g, 1, none⟩ (.int .i64 ((p + 1 : Nat) : Int))).drewN k

set_option maxRecDepth 100000 in
theorem num_any (g B : Nat) (A : Option Addr) (n c p : Nat) (z : Nat → Int) (b : Nat) (l : List Int) (w : World) (h : Rdr w g B A n c p z) (hp : p ≤ 1000000) (hl : Nums w b l) (hl0 : 0 < l.length) (hl1 : l.length ≤ 1000) (hb : b ≠ g) :
    Calls Tryd.prog 19 #[.pointer (some ⟨g, 0, none⟩), .slice (some ⟨b, 0, none⟩) l.length l.length] w (NumRes l g p w) := by
  have HR := Lib.hid h
  clear h
  go_enter Tryd.func19, Tryd.ntmps19
  go_wp2_with fail
  refine (pick_any g B A n c p z _ w HR.out hp (by omega) (by omega)).mono ?_
  rintro e w1 ⟨v, k, rfl, hv0, hv1, _, hw1⟩
  have hv2 := hv1 (by omega)
  clear hv1
  obtain ⟨i, rfl⟩ := Int.eq_ofNat_of_zero_le hv0
  have hi : i < l.length := by omega
  have c1 : w1.cell? ⟨b, i, none⟩ = some (.int .i64 (l.getD i 0)) := by
    rw [hw1]
    show (w.setCell ⟨g, 1, none⟩ _).cell? ⟨b, i, none⟩ = _
    rw [World.cell?_setCell_other _ _ _ _ (fun h' => by injection h' with h' _; omega)]
    exact hl i hi
  have hm : Hid (l.getD i 0 ∈ l) := Lib.hid (by rw [List.getD_eq_getElem?_getD, List.getElem?_eq_getElem hi]; exact List.getElem_mem hi)
  generalize l.getD i 0 = y at c1 hm
  have HW := Lib.hid hw1
  clear hw1
  go_wp2
  go_ret
  exact ⟨_, k, rfl, hm.out, HW.out⟩

/-- The bytes of an argument. -/
def Bytes (w : World) (A : Option Addr) (n c : Nat) (z : Nat → Int) : Prop :=
  n ≤ c ∧ c ≤ 9223372036854775807 ∧ (∀ i, 0 ≤ z i ∧ z i ≤ 255) ∧ (0 < n → ∃ b off, A = some ⟨b, off, none⟩ ∧ b < w.heap.size ∧ ∀ i, i < n → w.cell? ⟨b, off + i, none⟩ = some (.int .u8 (z i)))

set_option maxRecDepth 100000 in
theorem open_any (A : Option Addr) (n c : Nat) (z : Nat → Int) (w : World) (h : Bytes w A n c z) :
    Calls Tryd.prog 18 #[.slice A n c] w fun e w' => e = .returned (.pointer (some ⟨w.heap.size, 0, none⟩)) ∧ Rdr w' w.heap.size w.heap.size A (min n 2000) c 0 z ∧ Below w.heap.size w w' := by
  have H := Lib.hid h
  obtain ⟨hnc, hc, hz, hrow⟩ := h
  have hr : ∀ m, m ≤ n → m ≤ 2000 → Rdr (w.alloc (.cells #[.slice A m c, .int .i64 0] 80)) w.heap.size w.heap.size A m c 0 z := fun m hm hm2 =>
    { blk := by rw [heap_alloc_new]; rfl
      hn := hm2
      hc := by omega
      hB := Nat.le_refl _
      byte := hz
      row := fun h0 => by
        obtain ⟨b, off, e, hb, hcell⟩ := H.out.2.2.2 (by omega)
        exact ⟨b, off, e, hb, fun i hi => by rw [World.cell?_alloc_lt _ _ _ hb]; exact hcell i (by omega)⟩ }
  have HR := Lib.hid hr
  clear hr
  by_cases h2 : 2000 < n
  · have hm : min n 2000 = 2000 := by omega
    rw [hm]
    have h3 : (2000 : Int) < (n : Int) := by omega
    have hp : 0 < n := by omega
    obtain ⟨b, off, rfl, _, _⟩ := hrow hp
    have h4 : (2000 : Int) ≤ (c : Int) := by omega
    have h5 : 2000 ≤ c := by omega
    go_enter Tryd.func18, Tryd.ntmps18
    go_wp2
    go_ret
    exact ⟨rfl, HR.out 2000 (by omega) (by omega), (Below.refl _ _).alloc (Nat.le_refl _) _⟩
  · have hm : min n 2000 = n := by omega
    rw [hm]
    have h3 : ¬ (2000 : Int) < (n : Int) := by omega
    go_enter Tryd.func18, Tryd.ntmps18
    go_wp2
    go_ret
    exact ⟨rfl, HR.out n (by omega) (by omega), (Below.refl _ _).alloc (Nat.le_refl _) _⟩
end Go.Proofs.YtiaoenkgapfgaaaDoor
