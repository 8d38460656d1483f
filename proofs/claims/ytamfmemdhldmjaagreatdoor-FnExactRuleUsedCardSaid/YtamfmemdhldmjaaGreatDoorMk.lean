/-
  Contracts of the laws' marks: a slice is overwritten by numbers that are all different, and read again.
-/
import Derived.Test.YtamfmemdhldmjaaGreatDoorJoM
import Derived.Test.YtamfmemdhldmjaaGreatDoorRdM
namespace Go.Proofs.YtamfmemdhldmjaaGreatDoor
open Go.RowKit Sets

/-- The marks from k on. -/
def marks (k : Int) : Nat → List Sp
  | 0 => []
  | n + 1 => marks k n ++ [(k + 2 * n, k + 2 * n + 1)]
theorem marks_length (k : Int) (n : Nat) : (marks k n).length = n := by
  induction n with
  | zero => rfl
  | succ n ih => simp [marks, ih]
theorem marks_at (k : Int) (n : Nat) : ∀ i, i < n → lo (marks k n) i = k + 2 * i ∧ hi (marks k n) i = k + 2 * i + 1 := by
  induction n with
  | zero => intro i hi; omega
  | succ n ih =>
    intro i hi'
    unfold lo YtamfmemdhldmjaaGreatDoor.hi at *
    simp only [marks, List.getD_eq_getElem?_getD] at *
    rcases Nat.lt_or_ge i n with h | h
    · rw [List.getElem?_append_left (by rw [marks_length]; exact h)]
      exact ih i h
    · obtain rfl : i = n := by omega
      rw [List.getElem?_append_right (by rw [marks_length]; exact Nat.le_refl _), marks_length]
      simp
theorem marks_fits {k : Int} {n : Nat} (h0 : 0 ≤ k) (h1 : k ≤ 4194304) (hn : n ≤ 2097152) : Fits (marks k n) := by
  induction n with
  | zero => intro x hx; cases hx
  | succ n ih => exact fits_snoc (ih (by omega)) (by unfold I64; omega) (by unfold I64; omega)

/-- A slice that reads as xs, in a block from L on and below B. -/
def Rd (w : World) (L B : Nat) (A : Option Addr) (c : Nat) (xs : List Sp) : Prop :=
  xs.length ≤ c ∧ c ≤ 9223372036854775807 ∧ Fits xs ∧ (xs = [] ∨ ∃ b off, A = some ⟨b, off, none⟩ ∧ L ≤ b ∧ b < B ∧ RowAt w b off xs)
theorem Rd.of {w : World} {B : Nat} {A : Option Addr} {c : Nat} {xs : List Sp} (h : Reads w B A c xs) : Rd w 0 B A c xs :=
  ⟨h.1, h.2.1, h.2.2.1, h.2.2.2.imp id fun ⟨b, o, e, hb, hr⟩ => ⟨b, o, e, Nat.zero_le _, hb, hr⟩⟩
theorem Rd.reads {w : World} {L B : Nat} {A : Option Addr} {c : Nat} {xs : List Sp} (h : Rd w L B A c xs) (hB : B ≤ w.heap.size) : Reads w w.heap.size A c xs :=
  ⟨h.1, h.2.1, h.2.2.1, h.2.2.2.imp id fun ⟨b, o, e, _, hb, hr⟩ => ⟨b, o, e, by omega, hr⟩⟩
theorem Rd.below {w w' : World} {L B B' : Nat} {A : Option Addr} {c : Nat} {xs : List Sp} (h : Rd w L B A c xs) (hb : Below B' w w') (hB : B ≤ B') : Rd w' L B A c xs :=
  ⟨h.1, h.2.1, h.2.2.1, h.2.2.2.imp id fun ⟨b, o, e, h1, h2, hr⟩ => ⟨b, o, e, h1, h2, hr.below hb (by omega)⟩⟩
theorem Rd.grown {w w' : World} {L B g : Nat} {A : Option Addr} {c : Nat} {xs : List Sp} (h : Rd w L B A c xs) (hg : w.grownBy w' (some g)) (hB : B ≤ w.heap.size) (hd : g < L ∨ B ≤ g) : Rd w' L B A c xs :=
  ⟨h.1, h.2.1, h.2.2.1, h.2.2.2.imp id fun ⟨b, o, e, h1, h2, hr⟩ => ⟨b, o, e, h1, h2, hr.keep fun o' => World.cell?_of_block (hg.block b (by omega) (fun e => by injection e with e; omega))⟩⟩
theorem OwnRow.grown {w w' : World} {g g' n : Nat} (h : OwnRow w g n) (hg : w.grownBy w' (some g')) (hd : g ≠ g') : OwnRow w' g n := by
  have hb := hg.block g h.2.2 (fun e => by injection e with e; omega)
  exact ⟨fun o ho => by rw [World.cell?_of_block (a := ⟨g, o, none⟩) hb]; exact h.1 o ho, fun o => by rw [World.frozen?_of_block (a := ⟨g, o, none⟩) hb]; exact h.2.1 o, Nat.lt_of_lt_of_le h.2.2 hg.size⟩
theorem OwnS.mark {w : World} {base : Nat} {v : Value} {xs : List Sp} (h : OwnS w base v xs) (hf : Fits xs) :
    ∃ A c, v = .slice A xs.length c ∧ Rd w base w.heap.size A c xs ∧ (xs.length = 0 ∨ ∃ g, A = some ⟨g, 0, none⟩ ∧ OwnRow w g xs.length) ∧ ∀ g, A = some ⟨g, 0, none⟩ → base ≤ g ∧ g < w.heap.size := by
  rcases Nat.eq_zero_or_pos xs.length with hz | hp
  · obtain ⟨A, c, hv, hr, _⟩ := h.form hf
    have he : xs = [] := List.eq_nil_of_length_eq_zero hz
    refine ⟨A, c, hv, ⟨hr.1, hr.2.1, hf, .inl he⟩, .inl hz, fun g hg => ?_⟩
    subst hg
    exact h.lt g (by rw [hv]; rfl)
  · obtain ⟨g, cap, hv, hb, hg, hlc, hcm, hrow, hfr, hown⟩ := h.block hp
    refine ⟨_, cap, hv, ⟨hlc, hcm, hf, .inr ⟨g, 0, rfl, hb, hg, hrow⟩⟩, .inr ⟨g, rfl, fun o ho => ?_, hfr, hg⟩, fun g' hg' => by injection hg' with hg'; injection hg' with hg'; omega⟩
    have hi : o / 2 < xs.length := by omega
    have := hrow (o / 2) hi
    rcases Nat.mod_two_eq_zero_or_one o with e | e
    · exact ⟨_, by rw [show o = 0 + o / 2 * 2 by omega]; exact this.1⟩
    · exact ⟨_, by rw [show o = 0 + o / 2 * 2 + 1 by omega]; exact this.2⟩

def MarkOK (w : World) (A : Option Addr) (n : Nat) : Prop := n = 0 ∨ ∃ g, A = some ⟨g, 0, none⟩ ∧ OwnRow w g n
def MarkRes (w : World) (A : Option Addr) (n : Nat) (k : Int) (e : Ending) (w' : World) : Prop :=
  e = .returned (.int .i64 (k + 2 * n)) ∧ ((n = 0 ∧ w = w') ∨ ∃ g, A = some ⟨g, 0, none⟩ ∧ RowAt w' g 0 (marks k n) ∧ OwnRow w' g n ∧ w.grownBy w' (some g))

theorem grownBy_put2 {w a : World} {g : Nat} (h : w.grownBy a (some g)) (o : Nat) (x y : Int) : w.grownBy (put2 a g o x y) (some g) :=
  ⟨h.os, h.tape, h.output, by simpa [put2, World.setCell] using h.size, fun k hk hne => by
    have hkg : k ≠ g := fun e => hne (by rw [e])
    unfold put2
    rw [Below.heap_setCell _ _ _ _ hkg, Below.heap_setCell _ _ _ _ hkg]
    exact h.block k hk hne⟩

set_option maxRecDepth 100000 in
theorem mark_any (A : Option Addr) (n c : Nat) (k0 : Int) (w : World) (h : MarkOK w A n) (hk0 : 0 ≤ k0) (hk1 : k0 ≤ 4194304) (hn : n ≤ 1048576) :
    Calls Tryz.prog 72 #[.slice A n c, .int .i64 k0] w (MarkRes w A n k0) := by
  have hnn : n ≤ 9223372036854775807 := by omega
  rcases h with rfl | ⟨g, rfl, hown⟩
  · go_enter Tryz.func72, Tryz.ntmps72
    go_wp2
    go_loop [1, 5] (fun q i => q = .int .i64 k0 ∧ i = .int .i64 0) (fun _ _ => 0)
    case atStart => exact ⟨rfl, rfl⟩
    case round =>
      obtain ⟨rfl, rfl⟩ := hrel
      go_wp2
      go_ret
      exact ⟨by simp, .inl ⟨rfl, rfl⟩⟩
  · go_enter Tryz.func72, Tryz.ntmps72
    go_wp2
    go_loopw [1, 5] (fun q i wr => ∃ k : Nat, k ≤ n ∧ i = .int .i64 k ∧ q = .int .i64 (k0 + 2 * k) ∧ RowAt wr g 0 (marks k0 k) ∧ OwnRow wr g n ∧ w.grownBy wr (some g)) (fun _ i _ => n - (intOf i).toNat)
    case atStart => exact ⟨0, Nat.zero_le _, rfl, by simp, (fun i hi => by simp [marks] at hi), hown, World.grownBy.refl w _⟩
    case round =>
      obtain ⟨k, hk, rfl, rfl, hrow, ho, hgr⟩ := hrel
      by_cases hlt : k < n
      · have hkl : (k : Int) < (n : Int) := by omega
        obtain ⟨v0, g0⟩ := ho.1 (k * 2) (by omega)
        obtain ⟨v1, g1⟩ := ho.1 (k * 2 + 1) (by omega)
        have f0 := ho.2.1 (k * 2)
        have f1 := ho.2.1 (k * 2 + 1)
        have hp0 := put2_row (k := k) (ys := marks k0 k) hrow (marks_length k0 k).symm (k0 + 2 * k) (k0 + 2 * k + 1) ⟨_, g0⟩ ⟨_, g1⟩
        have hp1 := put2_own ho (k0 + 2 * k) (k0 + 2 * k + 1) ⟨_, g0⟩ ⟨_, g1⟩
        have hp2 := grownBy_put2 hgr (k * 2) (k0 + 2 * k) (k0 + 2 * k + 1)
        have HP := Lib.hid (And.intro hp0 (And.intro hp1 hp2))
        clear hp0 hp1 hp2
        go_wp2
        go_roundw
        case rel => exact ⟨k + 1, hlt, by go_num, congrArg (Value.int .i64) (by omega), HP.out.1, HP.out.2.1, HP.out.2.2⟩
        case measure => simp [intOf]; omega
      · obtain rfl : k = n := by omega
        go_wp2
        go_ret
        exact ⟨rfl, .inr ⟨g, rfl, hrow, ho, hgr⟩⟩
theorem MarkOK.below {w w' : World} {A : Option Addr} {n : Nat} (h : MarkOK w A n) (hb : Below w.heap.size w w') : MarkOK w' A n :=
  h.imp id fun ⟨g, e, ho⟩ => ⟨g, e, ho.below hb ho.2.2⟩
/-- What a mark leaves: only the slice's own block has turned. -/
structure Marked (w w' : World) (A : Option Addr) : Prop where
  size : w.heap.size ≤ w'.heap.size
  rd : ∀ {L B : Nat} {A' : Option Addr} {c' : Nat} {xs : List Sp}, Rd w L B A' c' xs → B ≤ w.heap.size → (∀ g, A = some ⟨g, 0, none⟩ → g < L ∨ B ≤ g) → Rd w' L B A' c' xs
  ok : ∀ {A' : Option Addr} {n : Nat}, MarkOK w A' n → (∀ g g', A = some ⟨g, 0, none⟩ → A' = some ⟨g', 0, none⟩ → g' ≠ g) → MarkOK w' A' n
  bel : ∀ {B : Nat}, B ≤ w.heap.size → (∀ g, A = some ⟨g, 0, none⟩ → B ≤ g) → Below B w w'
theorem mark_to (A : Option Addr) (n c : Nat) (k0 : Int) (w : World) (h : MarkOK w A n) (hk0 : 0 ≤ k0) (hk1 : k0 ≤ 4194304) (hn : n ≤ 1048576) :
    Calls Tryz.prog 72 #[.slice A n c, .int .i64 k0] w fun e w' => e = .returned (.int .i64 (k0 + 2 * n)) ∧ Marked w w' A ∧ (n = 0 ∨ ∃ g, A = some ⟨g, 0, none⟩ ∧ RowAt w' g 0 (marks k0 n)) :=
  (mark_any A n c k0 w h hk0 hk1 hn).mono fun e w' ⟨he, hr⟩ => by
    refine ⟨he, ?_⟩
    rcases hr with ⟨hn0, rfl⟩ | ⟨g, rfl, hrow, ho, hg⟩
    · exact ⟨⟨Nat.le_refl _, fun h _ _ => h, fun h _ => h, fun _ _ => Below.refl _ _⟩, .inl hn0⟩
    · refine ⟨⟨hg.size, fun h hB hd => h.grown hg hB (hd g rfl), fun h hd => h.imp id fun ⟨g', e', ho'⟩ => ⟨g', e', ho'.grown hg (hd g g' rfl e')⟩, fun hB hd => ?_⟩, .inr ⟨g, rfl, hrow⟩⟩
      exact (Below.refl _ _).grown hg hB (fun k e => by injection e with e; have := hd g rfl; omega)
theorem marked_rd {w : World} {L B : Nat} {A : Option Addr} {c n : Nat} {k0 : Int} (h : n = 0 ∨ ∃ g, A = some ⟨g, 0, none⟩ ∧ RowAt w g 0 (marks k0 n)) (hc : n ≤ c) (hc2 : c ≤ 9223372036854775807) (hA : ∀ g, A = some ⟨g, 0, none⟩ → L ≤ g ∧ g < B) (hk0 : 0 ≤ k0) (hk1 : k0 ≤ 4194304) (hn : n ≤ 1048576) : Rd w L B A c (marks k0 n) := by
  refine ⟨by rw [marks_length]; exact hc, hc2, marks_fits hk0 hk1 (by omega), ?_⟩
  rcases h with rfl | ⟨g, e, hr⟩
  · exact .inl rfl
  · exact .inr ⟨g, 0, e, (hA g e).1, (hA g e).2, hr⟩
theorem rd_copy {w : World} {g : Nat} {xs : List Sp} (hr : RowAt w g 0 xs) (ho : OwnRow w g xs.length) (hf : Fits xs) (hn : xs.length ≤ 1048576) : Rd w g w.heap.size (some ⟨g, 0, none⟩) xs.length xs :=
  ⟨Nat.le_refl _, by omega, hf, .inr ⟨g, 0, rfl, Nat.le_refl _, ho.2.2, hr⟩⟩
end Go.Proofs.YtamfmemdhldmjaaGreatDoor
