/-
  Contracts of the model's union, meet and difference of sets.
-/
import Derived.Test.YtiaoenkgapfgaaaDoorFr
import Derived.Test.YtiaoenkgapfgaaaDoorIm
namespace Go.Proofs.YtiaoenkgapfgaaaDoor
open Go.RowKit Sets

def jf (both minus p q : Bool) : Bool := if minus then p && !q else if both then p && q else p || q
def jfK (both minus : Bool) (xs ys : List Sp) (k j : Nat) : Bool := if j < k then jf both minus (flag xs j) (flag ys j) else flag xs j
theorem jfK_set (both minus : Bool) (xs ys : List Sp) (k j : Nat) (b : Bool) (hb : b = jf both minus (flag xs k) (flag ys k)) : (if j = k then b else jfK both minus xs ys k j) = jfK both minus xs ys (k + 1) j := by
  unfold jfK
  by_cases e : j = k
  · subst e; rw [if_pos rfl, if_pos (by omega), hb]
  · rw [if_neg e]
    by_cases h : j < k
    · rw [if_pos h, if_pos (by omega)]
    · rw [if_neg h, if_neg (by omega)]

theorem Reads.stepB {w w' : World} {A : Option Addr} {c : Nat} {xs : List Sp} (h : Reads w w.heap.size A c xs) (hb : Below w.heap.size w w') : Reads w' w'.heap.size A c xs := h.step hb

set_option maxRecDepth 100000 in
set_option maxHeartbeats 2000000 in
theorem join_any (A1 A2 : Option Addr) (c1 c2 : Nat) (xs ys : List Sp) (both minus : Bool) (w : World) (h1 : Reads w w.heap.size A1 c1 xs) (h2 : Reads w w.heap.size A2 c2 ys) :
    Calls Tryd.prog 109 #[.slice A1 xs.length c1, .slice A2 ys.length c2, .bool both, .bool minus] w (OwnRes w.heap.size (fromF (fun j => jf both minus (flag xs j) (flag ys j)) 199) w) := by
  have H1 := Lib.hid h1
  have H2 := Lib.hid h2
  clear h1 h2
  go_enter Tryd.func109, Tryd.ntmps109
  go_wp2_with fail
  refine (flags_any _ _ xs _ H1.out).mono ?_
  rintro e w1 ⟨rfl, hx1, b1⟩
  have G2 := Lib.hid (H2.out.step b1)
  go_wp2_with fail
  refine (flags_any _ _ ys _ G2.out).mono ?_
  rintro e w2 ⟨rfl, hy2, b2⟩
  have hx2 := hx1.below b2 hx1.2.2
  have b02 := b1.trans (b2.mono b1.size)
  have hgx := hx1.2.2
  have hgx0 := b1.size
  clear hx1
  go_wp2
  go_loopw [11] (fun i wr => ∃ k : Nat, k ≤ 199 ∧ i = .int .i64 k ∧ FlagRow wr w.heap.size (jfK both minus xs ys k) ∧ FlagRow wr w1.heap.size (flag ys) ∧ Below w.heap.size w wr) (fun i _ => 199 - (intOf i).toNat)
  case atStart => exact ⟨0, by omega, rfl, hx2.congr fun j _ => by unfold jfK; rw [if_neg (by omega)], hy2, b02⟩
  case round =>
    obtain ⟨k, hk, rfl, hx, hy, hb⟩ := hrel
    by_cases hlt : k < 199
    · have hkl : (k : Int) < 199 := by omega
      have cx := hx.1 k hlt
      have fx := hx.2.1 k
      have cy := hy.1 k hlt
      have e0 : jfK both minus xs ys k k = flag xs k := by unfold jfK; rw [if_neg (by omega)]
      rw [e0] at cx
      clear e0
      have hset : Hid (∀ b, b = jf both minus (flag xs k) (flag ys k) → FlagRow (wr.setCell ⟨w.heap.size, k, none⟩ (.bool b)) w.heap.size (jfK both minus xs ys (k + 1))) :=
        Lib.hid fun b hb => (hx.set k hlt b).congr fun j _ => jfK_set both minus xs ys k j b hb
      have hsety : Hid (∀ b, FlagRow (wr.setCell ⟨w.heap.size, k, none⟩ (.bool b)) w1.heap.size (flag ys)) :=
        Lib.hid fun b => ⟨fun j hj => by rw [World.cell?_setCell_other _ _ _ _ (fun h => by injection h with h _; omega)]; exact hy.1 j hj, fun o => by rw [World.frozen?_setCell]; exact hy.2.1 o, by simpa [World.setCell] using hy.2.2⟩
      cases hp : flag xs k <;> cases hq : flag ys k <;> rw [hp] at cx <;> rw [hq] at cy <;> (have HP := Lib.hid hp) <;> (have HQ := Lib.hid hq) <;> clear hp hq <;> cases both <;> cases minus
      all_goals
        go_wp2
        go_roundw
        case rel => exact ⟨k + 1, by omega, by go_num, hset.out _ (by rw [HP.out, HQ.out]; rfl), hsety.out _, hb.setCell (p := ⟨w.heap.size, k, none⟩) (Nat.le_refl _) _⟩
        case measure => simp [intOf]; omega
    · obtain rfl : k = 199 := by omega
      have hx' := hx.congr (f' := fun j => jf both minus (flag xs j) (flag ys j)) fun j hj => by unfold jfK; rw [if_pos hj]
      go_wp2_with fail
      refine (from_any _ _ _ hx').mono ?_
      rintro e w3 ⟨v, rfl, hown, hf, b3⟩
      go_wp2
      go_ret
      exact ⟨_, rfl, hown.mono hb.size, hf, hb.trans (b3.mono hb.size)⟩

def DoneRes (A : Option Addr) (n c : Nat) (w : World) (e : Ending) (w' : World) : Prop :=
  (n ≤ 12 ∧ e = .returned (.tuple #[.slice A n c, .bool true]) ∧ w = w') ∨
      (¬ n ≤ 12 ∧ e = .returned (.tuple #[.slice (some ⟨w.heap.size, 0, none⟩) 0 0, .bool false]) ∧ w.alloc (.cells #[] 126) = w')
theorem own_empty (w : World) : OwnS (w.alloc (.cells #[] 126)) w.heap.size (.slice (some ⟨w.heap.size, 0, none⟩) 0 0) [] := World.ownsRow_lit w #[] 0 (Nat.le_refl _) (by decide) rfl

theorem norm_of_valid {xs : List Sp} (h : validB xs = true) : Norm xs ∧ Within xs := ((valid_iff xs).1 ((validB_iff xs).1 h)).2
theorem join_meet {xs ys : List Sp} (h1 : validB xs = true) (h2 : validB ys = true) : fromF (fun j => jf true false (flag xs j) (flag ys j)) 199 = meetP xs ys :=
  meet_flags xs ys (norm_of_valid h1).1 (norm_of_valid h1).2 (norm_of_valid h2).1
theorem join_minus {xs ys : List Sp} (h1 : validB xs = true) (h2 : validB ys = true) : fromF (fun j => jf false true (flag xs j) (flag ys j)) 199 = minusP xs ys :=
  minus_flags xs ys (norm_of_valid h1).1 (norm_of_valid h1).2 (norm_of_valid h2).1 (norm_of_valid h2).2

end Go.Proofs.YtiaoenkgapfgaaaDoor
