/-
  Marks of lists of numbers, and what they leave.
-/
import Derived.Test.YtppciomdbabepaaDoorWe

namespace Go.Proofs.YtppciomdbabepaaDoor
open Go.RowKit Sets

def marksN (k : Int) (n : Nat) : List Int := (List.range n).map fun (i : Nat) => k + (i : Int)
theorem marksN_len (k : Int) (n : Nat) : (marksN k n).length = n := by simp [marksN]
theorem marksN_at {k : Int} {n i : Nat} (hi : i < n) : (marksN k n).getD i 0 = k + i := by
  unfold marksN
  rw [List.getD_eq_getElem?_getD, List.getElem?_map, List.getElem?_range hi]; rfl
theorem marksN_fit {k : Int} {n : Nat} (h0 : 0 ≤ k) (h1 : k ≤ 4194304) (hn : n ≤ 1048576) : ∀ x ∈ marksN k n, I64 x := by
  intro x hx
  obtain ⟨i, hi, rfl⟩ := List.mem_map.1 hx
  have := List.mem_range.1 hi
  unfold I64; omega
/-- A list of the call's own, in a block from lo on and below hi. -/
def OwnR (w : World) (lo hi : Nat) (A : Option Addr) (c : Nat) (ns : List Int) : Prop := OwnN w lo A c ns ∧ (∀ g o s, A = some ⟨g, o, s⟩ → g < hi) ∧ hi ≤ w.heap.size
theorem OwnR.of {w : World} {base : Nat} {A : Option Addr} {c : Nat} {ns : List Int} (h : OwnN w base A c ns) : OwnR w base w.heap.size A c ns := ⟨h, fun g o s e => (h.2.2.2.1 g o s e).2, Nat.le_refl _⟩
theorem OwnR.step {w w' : World} {lo hi : Nat} {A : Option Addr} {c : Nat} {ns : List Int} (h : OwnR w lo hi A c ns) (hb : Below w.heap.size w w') : OwnR w' lo hi A c ns := ⟨h.1.step hb, h.2.1, Nat.le_trans h.2.2 hb.size⟩
theorem OwnR.copy {w : World} {g : Nat} {ns : List Int} (hr : IntRow w g ns ns.length) (ho : OwnBlk w g ns.length) (hf : ∀ x ∈ ns, I64 x) (hn : ns.length ≤ 1048576) : OwnR w g (g + 1) (some ⟨g, 0, none⟩) ns.length ns :=
  ⟨⟨Nat.le_refl _, by omega, hf, (fun g' o s e => by injection e with e; injection e with e1 _; subst e1; exact ⟨Nat.le_refl _, ho.2.2⟩), .inr ⟨g, rfl, hr, ho⟩⟩, (fun g' o s e => by injection e with e; injection e with e1 _; omega), ho.2.2⟩
/-- At most the block of one slice has turned. -/
def Turned (w w' : World) (A : Option Addr) : Prop := ∃ row : Option Nat, (∀ g, row = some g → A = some ⟨g, 0, none⟩) ∧ w.grownBy w' row
theorem Turned.size {w w' : World} {A : Option Addr} (h : Turned w w' A) : w.heap.size ≤ w'.heap.size := by obtain ⟨_, _, hg⟩ := h; exact hg.size
theorem Turned.blk {w w' : World} {A : Option Addr} (h : Turned w w' A) {k : Nat} (hk : k < w.heap.size) (hne : ∀ g, A = some ⟨g, 0, none⟩ → g ≠ k) : w'.heap[k]? = w.heap[k]? := by
  obtain ⟨row, hr, hg⟩ := h
  exact hg.block k hk (fun e => hne k (hr k e.symm) rfl)
theorem Turned.own {w w' : World} {lo hi : Nat} {A A' : Option Addr} {c : Nat} {ns : List Int} (h : Turned w w' A) (ho : OwnR w lo hi A' c ns) (hd : ∀ g, A = some ⟨g, 0, none⟩ → g < lo ∨ hi ≤ g) : OwnR w' lo hi A' c ns := by
  obtain ⟨⟨h1, h2, h3, h4, h5⟩, h6, h7⟩ := ho
  refine ⟨⟨h1, h2, h3, fun g o s e => ⟨(h4 g o s e).1, Nat.lt_of_lt_of_le (h4 g o s e).2 h.size⟩, h5.imp id ?_⟩, h6, Nat.le_trans h7 h.size⟩
  rintro ⟨g, e, hr, hb⟩
  have hk := h.blk hb.2.2 (fun g' e' => by have := hd g' e'; have := h6 g 0 none e; have := (h4 g 0 none e).1; omega)
  exact ⟨g, e, fun i hi => by rw [World.cell?_of_block (a := ⟨g, i, none⟩) hk]; exact hr i hi, fun o ho => by rw [World.cell?_of_block (a := ⟨g, o, none⟩) hk]; exact hb.1 o ho, fun o => by rw [World.frozen?_of_block (a := ⟨g, o, none⟩) hk]; exact hb.2.1 o, Nat.lt_of_lt_of_le hb.2.2 h.size⟩
theorem Turned.rbox {w w' : World} {A A' : Option Addr} {g n c : Nat} {x : Int} (h : Turned w w' A) (hb : RBox w g x A' n c) (hd : ∀ g', A = some ⟨g', 0, none⟩ → g' ≠ g) : RBox w' g x A' n c := by
  have hk := h.blk hb.2.2 hd
  exact ⟨by rw [World.cell?_of_block (a := ⟨g, 0, none⟩) hk]; exact hb.1, by rw [World.cell?_of_block (a := ⟨g, 1, none⟩) hk]; exact hb.2.1, Nat.lt_of_lt_of_le hb.2.2 h.size⟩
theorem Turned.bel {w w' w0 : World} {B : Nat} {A : Option Addr} (h : Turned w w' A) (hb : Below B w0 w) (hB : B ≤ w.heap.size) (hd : ∀ g, A = some ⟨g, 0, none⟩ → B ≤ g) : Below B w0 w' := by
  obtain ⟨row, hr, hg⟩ := h
  exact hb.trans ((Below.refl _ _).grown hg hB (fun k e => hd k (hr k e)))

theorem grownBy_cell {w a : World} {g : Nat} (h : w.grownBy a (some g)) (o : Nat) (v : Value) : w.grownBy (a.setCell ⟨g, o, none⟩ v) (some g) :=
  ⟨h.os, h.tape, h.output, by simpa [World.setCell] using h.size, fun k hk hne => by
    have hkg : k ≠ g := fun e => hne (by rw [e])
    rw [Below.heap_setCell _ _ _ _ hkg]
    exact h.block k hk hne⟩

set_option maxRecDepth 100000 in
set_option maxHeartbeats 2000000 in
theorem markI_any (A : Option Addr) (c : Nat) (ns : List Int) (lo hi : Nat) (k0 : Int) (w : World) (h : OwnR w lo hi A c ns) (hk0 : 0 ≤ k0) (hk1 : k0 ≤ 4194304) (hn : ns.length ≤ 1048576) :
    Calls Tryd.prog 10 #[.slice A ns.length c, .int .i64 k0] w fun e w' => e = .returned (.int .i64 (k0 + ns.length)) ∧ OwnR w' lo hi A c (marksN k0 ns.length) ∧ Turned w w' A := by
  obtain ⟨⟨h1, h2, h3, h4, h5⟩, h6, h7⟩ := h
  obtain ⟨n, hnn⟩ : ∃ n, ns.length = n := ⟨_, rfl⟩
  rw [hnn] at h1 h5 hn ⊢
  have hc9 : n ≤ 9223372036854775807 := by omega
  rcases h5 with hz | ⟨g, rfl, hr, hb⟩
  · subst hz
    have HO := Lib.hid (show OwnR w lo hi A c (marksN k0 0) from ⟨⟨Nat.zero_le _, h2, (fun x hx => by cases hx), h4, .inl rfl⟩, h6, h7⟩)
    clear h1 h2 h3 h4 h6 h7 hnn
    go_enter Tryd.func10, Tryd.ntmps10
    go_wp2
    go_loop [1, 5] (fun q i => q = .int .i64 k0 ∧ i = .int .i64 0) (fun _ _ => 0)
    case atStart => exact ⟨rfl, rfl⟩
    case round =>
      obtain ⟨rfl, rfl⟩ := hrel
      go_wp2
      go_ret
      exact ⟨by simp, HO.out, none, (fun g e => by cases e), World.grownBy.refl _ _⟩
  · have HC := Lib.hid (And.intro h1 (And.intro h2 (And.intro h4 (And.intro h6 h7))))
    clear h1 h2 h3 h4 h6 h7 hnn
    go_enter Tryd.func10, Tryd.ntmps10
    go_wp2
    go_loopw [1, 5] (fun q i wr => ∃ k : Nat, k ≤ n ∧ i = .int .i64 k ∧ q = .int .i64 (k0 + k) ∧ (∀ j, j < k → wr.cell? ⟨g, j, none⟩ = some (.int .i64 (k0 + j))) ∧ OwnBlk wr g n ∧ w.grownBy wr (some g)) (fun _ i _ => n - (intOf i).toNat)
    case atStart => exact ⟨0, Nat.zero_le _, rfl, by simp, (fun j hj => absurd hj (by omega)), hb, World.grownBy.refl w _⟩
    case round =>
      obtain ⟨k, hk, rfl, rfl, hrow, ho, hgr⟩ := hrel
      by_cases hlt : k < n
      · have hkl : (k : Int) < (n : Int) := by omega
        obtain ⟨v0, g0⟩ := ho.1 k hlt
        have f0 := ho.2.1 k
        have HP := Lib.hid (show (∀ j, j < k + 1 → (wr.setCell ⟨g, k, none⟩ (.int .i64 (k0 + k))).cell? ⟨g, j, none⟩ = some (.int .i64 (k0 + j))) ∧ OwnBlk (wr.setCell ⟨g, k, none⟩ (.int .i64 (k0 + k))) g n ∧ w.grownBy (wr.setCell ⟨g, k, none⟩ (.int .i64 (k0 + k))) (some g) from by
          refine ⟨fun j hj => ?_, ho.set k _, grownBy_cell hgr k _⟩
          rw [set_at ho hlt]
          by_cases e : j = k
          · rw [if_pos e, e]
          · rw [if_neg e]; exact hrow j (by omega))
        clear hrow hgr
        go_wp2
        go_roundw
        case rel => exact ⟨k + 1, hlt, by go_num, congrArg (Value.int .i64) (by omega), HP.out.1, HP.out.2.1, HP.out.2.2⟩
        case measure => simp [intOf]; omega
      · obtain rfl : k = n := by omega
        go_wp2
        go_ret
        refine ⟨rfl, ⟨⟨by rw [marksN_len]; exact HC.out.1, HC.out.2.1, marksN_fit hk0 hk1 hn, fun g' o s e => ⟨(HC.out.2.2.1 g' o s e).1, Nat.lt_of_lt_of_le (HC.out.2.2.1 g' o s e).2 hgr.size⟩, .inr ⟨g, rfl, ?_, by rw [marksN_len]; exact ho⟩⟩, HC.out.2.2.2.1, Nat.le_trans HC.out.2.2.2.2 hgr.size⟩, some g, (fun g' e => by injection e with e; rw [e]), hgr⟩
        rw [marksN_len]
        intro i hi
        rw [hrow i hi, marksN_at hi]

set_option maxRecDepth 100000 in
set_option maxHeartbeats 2000000 in
theorem heldI_any (A : Option Addr) (c n : Nat) (k0 : Int) (w : World) (h : IntsAt w w.heap.size A c (marksN k0 n)) (hk0 : 0 ≤ k0) (hk1 : k0 ≤ 4194304) (hn : n ≤ 1048576) :
    Calls Tryd.prog 20 #[.slice A n c, .int .i64 k0] w fun e w' => e = .returned (.int .i64 (k0 + n)) ∧ w = w' := by
  obtain ⟨_, hlc, hc, hrow⟩ := h
  rw [marksN_len] at hlc hrow
  have hc9 : n ≤ 9223372036854775807 := by omega
  go_enter Tryd.func20, Tryd.ntmps20
  go_wp2
  go_loop [1, 5] (fun q i => ∃ k : Nat, k ≤ n ∧ i = .int .i64 k ∧ q = .int .i64 (k0 + k)) (fun _ i => n - (intOf i).toNat)
  case atStart => exact ⟨0, Nat.zero_le _, rfl, by simp⟩
  case round =>
    obtain ⟨k, hk, rfl, rfl⟩ := hrel
    by_cases hlt : k < n
    · rcases hrow with he | ⟨b, off, rfl, hB, hrow⟩
      · omega
      · have hkl : (k : Int) < (n : Int) := by omega
        have c1 := hrow k hlt
        rw [marksN_at hlt, Nat.mul_one] at c1
        have t1 : (k0 + (k : Int) != k0 + (k : Int)) = false := by simp
        go_wp2
        go_round
        case rel => exact ⟨k + 1, hlt, by go_num, congrArg (Value.int .i64) (by omega)⟩
        case measure => simp [intOf]; omega
    · obtain rfl : k = n := by omega
      go_wp2
      go_ret
      exact ⟨rfl, rfl⟩

set_option maxRecDepth 100000 in
theorem markR_any (A : Option Addr) (c : Nat) (x : Int) (ns : List Int) (lo hi : Nat) (k0 : Int) (w : World) (h : OwnR w lo hi A c ns) (hk0 : 0 ≤ k0) (hk1 : k0 ≤ 4194304) (hn : ns.length ≤ 1048576) :
    Calls Tryd.prog 11 #[.agg #[.int .i64 x, .slice A ns.length c], .int .i64 k0] w fun e w' => e = .returned (.int .i64 (k0 + ns.length)) ∧ OwnR w' lo hi A c (marksN k0 ns.length) ∧ ∃ w1, Below w.heap.size w w1 ∧ Turned w1 w' A := by
  have hb : Below w.heap.size w (w.alloc (.cells #[.int .i64 x, .slice A ns.length c] 24)) := (Below.refl _ _).alloc (Nat.le_refl _) _
  have H := Lib.hid (h.step hb)
  have HB := Lib.hid hb
  clear h hb
  go_enter Tryd.func11, Tryd.ntmps11
  go_wp2_with fail
  refine (markI_any A c ns lo hi k0 _ H.out hk0 hk1 hn).mono ?_
  rintro e w1 ⟨rfl, ho, ht⟩
  go_wp2
  go_ret
  exact ⟨rfl, ho, _, HB.out, ht⟩
set_option maxRecDepth 100000 in
theorem heldR_any (A : Option Addr) (c n : Nat) (x : Int) (k0 : Int) (w : World) (h : IntsAt w w.heap.size A c (marksN k0 n)) (hk0 : 0 ≤ k0) (hk1 : k0 ≤ 4194304) (hn : n ≤ 1048576) :
    Calls Tryd.prog 12 #[.agg #[.int .i64 x, .slice A n c], .int .i64 k0] w fun e w' => e = .returned (.int .i64 (k0 + n)) ∧ Below w.heap.size w w' := by
  have hb : Below w.heap.size w (w.alloc (.cells #[.int .i64 x, .slice A n c] 24)) := (Below.refl _ _).alloc (Nat.le_refl _) _
  have H := Lib.hid (h.step hb)
  have HB := Lib.hid hb
  have hq : decide (k0 + (n : Int) < 0) = false := decide_eq_false (by omega)
  clear h hb
  go_enter Tryd.func12, Tryd.ntmps12
  go_wp2_with (go_at_call 20; refine (heldI_any A c n k0 _ H.out hk0 hk1 hn).mono ?_; rintro e w' ⟨rfl, rfl⟩)
  go_ret
  exact ⟨rfl, HB.out⟩
end Go.Proofs.YtppciomdbabepaaDoor
