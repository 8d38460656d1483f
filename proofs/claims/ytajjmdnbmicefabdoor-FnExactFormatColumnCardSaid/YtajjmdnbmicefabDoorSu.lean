/-
  Contracts of the program's sets of spans and unions, and of the model's unions.
-/
import Derived.Test.YtajjmdnbmicefabDoorJn
import Derived.Test.YtajjmdnbmicefabDoorSo
namespace Go.Proofs.YtajjmdnbmicefabDoor
open Go.RowKit Sets

theorem flatL_one (A : Option Addr) (c : Nat) (xs : List Sp) : flatL [(A, c, xs)] 1 = xs := by simp [flatL]
theorem flatL_two (A B : Option Addr) (c d : Nat) (xs ys : List Sp) : flatL [(A, c, xs), (B, d, ys)] 2 = xs ++ ys := by simp [flatL]

theorem fits_within {xs : List Sp} (hn : Norm xs) (h : Within xs) : Fits xs := fun x hx => by
  have a := h x hx
  have b := hn.le x hx
  unfold I64
  omega
theorem ends_lim {xs : List Sp} (h : LimAll xs) : Ends xs := fun x hx => by
  obtain ⟨i, hi, rfl⟩ := List.getElem_of_mem hx
  have := (limB_iff _ _).1 (h i hi)
  unfold YtajjmdnbmicefabDoor.lo YtajjmdnbmicefabDoor.hi at this
  rw [List.getD_eq_getElem?_getD, List.getElem?_eq_getElem hi] at this
  exact ⟨this.1.1, this.1.2, this.2.1, this.2.2⟩
theorem join_eq {xs rs : List Sp} (h1 : Norm rs) (h2 : Within rs) (h3 : ∀ n, memS rs n ↔ memS xs n) : fromF (flag xs) 199 = rs := eq_fromF rs h1 h2 _ fun j _ => (flag_iff xs j).trans (h3 _).symm

def unionP (xs ys : List Sp) : List Sp := fromF (fun j => flag xs j || flag ys j) 199
def unionB (xs ys : List Sp) : Bool := bothB xs ys && decide ((unionP xs ys).length ≤ 12)
def unionV (xs ys : List Sp) : List Sp := if unionB xs ys = true then unionP xs ys else []
theorem fromF_congr (f g : Nat → Bool) (h : ∀ j, f j = g j) : ∀ k, fromF f k = fromF g k
  | 0 => rfl
  | k + 1 => by simp only [fromF]; rw [fromF_congr f g h k, h k]
theorem flag_or (xs ys : List Sp) : unionP xs ys = fromF (flag (xs ++ ys)) 199 := fromF_congr _ _ (fun j => by unfold flag; rw [haveB_append]) _
theorem ends_valid {xs : List Sp} (h : validB xs = true) : Ends xs := fun x hx => by
  obtain ⟨a, b⟩ := norm_of_valid h
  have := a.le x hx
  have := b x hx
  omega

theorem setOfV_le (xs : List Sp) : (setOfV xs).length ≤ 65536 := by
  unfold setOfV
  split
  · have := fromF_len (flag xs) 199; omega
  · simp
theorem unionV_le (xs ys : List Sp) : (unionV xs ys).length ≤ 65536 := by
  unfold unionV
  split
  · have := fromF_len (fun j => flag xs j || flag ys j) 199; unfold unionP; omega
  · simp
theorem OwnS.form0 {w : World} {base : Nat} {v : Value} {xs : List Sp} (h : OwnS w base v xs) (hf : Fits xs) :
    ∃ A c, v = .slice A xs.length c ∧ Reads w w.heap.size A c xs ∧ (A = none → c = 0) := by
  obtain ⟨A, c, hv, hr, _⟩ := h.form hf
  refine ⟨A, c, hv, hr, fun hA => ?_⟩
  obtain ⟨_, ⟨h2, _⟩ | ⟨g, cap, cur, h2, _⟩⟩ := h
  · rw [h2] at hv
    injection hv with _ _ h3
    exact h3.symm
  · rw [h2, hA] at hv
    injection hv with h3
    cases h3
end Go.Proofs.YtajjmdnbmicefabDoor
