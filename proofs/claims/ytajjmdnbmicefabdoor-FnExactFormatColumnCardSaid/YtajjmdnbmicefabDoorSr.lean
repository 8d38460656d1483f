/-
  The library's sort, at spans by their first numbers.
-/
import Derived.Shelf.SlSortCmp.WholeK
import Derived.Ground.SlsfProg
import Derived.Test.YtajjmdnbmicefabDoorSh
import Derived.Test.YtajjmdnbmicefabDoorPj
import Derived.Test.YtajjmdnbmicefabDoorGn
namespace Go.Proofs.YtajjmdnbmicefabDoor
open Go.RowKit Sets

def cmpI (x y : Int) : Int := if x < y then -1 else if y < x then 1 else 0
def encSp (x : Sp) : List Value := [.int .i64 x.1, .int .i64 x.2]
def cfSp (x y : Sp) : Int := cmpI x.1 y.1
theorem ltSp (x y : Sp) : Go.Proofs.ltOf cfSp x y = decide (x.1 < y.1) := by
  unfold Go.Proofs.ltOf cfSp cmpI
  by_cases h1 : x.1 < y.1
  · simp [h1]
  · by_cases h2 : y.1 < x.1 <;> simp [h1, h2]
theorem swoSp : Go.Sort.SWO (Go.Proofs.ltOf cfSp) where
  irrefl x := by rw [ltSp]; simp
  trans x y z h1 h2 := by rw [ltSp] at *; simp at *; omega
  ntrans x y z h1 h2 := by rw [ltSp] at *; simp at *; omega

theorem below_sorted {B g : Nat} (w : World) (m : Nat) (d : Array Sp) (os : Array Obj) (hB : B ≤ g) (hg : g < w.heap.size) : RowKit.Below B w (Go.Proofs.sortWorldK encSp 2 w g 0 m d os) := by
  refine ⟨rfl, rfl, rfl, ?_, fun k hk => ?_⟩
  · simp [Go.Proofs.sortWorldK, Go.Sort.grow, Go.Sort.putRowK, Go.Sort.putRow, Go.Sort.mapBlock, Go.Sort.ahead]
  · simp only [Go.Proofs.sortWorldK, Go.Sort.grow, Go.Sort.putRowK, Go.Sort.putRow, Go.Sort.mapBlock, Go.Sort.ahead]
    rw [Array.getElem?_append_left (by simp; omega), Array.getElem?_modify]
    rw [if_neg (by omega)]

theorem holds_of_row {w : World} {g : Nat} {xs : List Sp} (hr : RowAt w g 0 xs) (ho : OwnRow w g xs.length) : Go.Sort.HoldsK encSp 2 w g 0 xs.toArray := by
  intro t ht
  rw [Go.Sort.size_flatK] at ht
  have ht' : t < xs.length * 2 := by simpa using ht
  refine ⟨?_, ho.2.1 _⟩
  rw [Go.Sort.get_flatK _ _ _ _ ht]
  obtain ⟨c1, c2⟩ := hr (t / 2) (by omega)
  have hx : xs.toArray[t / 2]! = xs.getD (t / 2) (0, 0) := by
    rw [List.getD_eq_getElem?_getD]
    have : t / 2 < xs.length := by omega
    simp [this]
  rw [hx]
  have hm : t % 2 = 0 ∨ t % 2 = 1 := by omega
  rcases hm with hm | hm
  · have e : t = t / 2 * 2 := by omega
    rw [hm, show (0 + t) = 0 + t / 2 * 2 by omega, c1]; rfl
  · have e : t = t / 2 * 2 + 1 := by omega
    rw [hm, show (0 + t) = 0 + t / 2 * 2 + 1 by omega, c2]; rfl
theorem row_of_holds {w : World} {g : Nat} {d : Array Sp} (h : Go.Sort.HoldsK encSp 2 w g 0 d) : RowAt w g 0 d.toList := by
  intro i hi
  have hi' : i < d.size := by simpa using hi
  have e : ∀ r, r < 2 → w.cell? ⟨g, 0 + i * 2 + r, none⟩ = some ((encSp d[i]!)[r]!) := fun r hr => by
    have := (h (i * 2 + r) (by rw [Go.Sort.size_flatK]; omega)).1
    rw [Go.Sort.get_flatK _ _ _ _ (by omega), show (i * 2 + r) / 2 = i by omega, show (i * 2 + r) % 2 = r by omega] at this
    rw [Nat.add_assoc]; exact this
  have hx : d[i]! = d.toList.getD i (0, 0) := by
    rw [List.getD_eq_getElem?_getD]
    simp [hi']
  unfold YtajjmdnbmicefabDoor.lo YtajjmdnbmicefabDoor.hi
  rw [← hx]
  exact ⟨by have := e 0 (by omega); rw [Nat.add_zero] at this; rw [this]; rfl, by rw [e 1 (by omega)]; rfl⟩

/-- what the sort leaves -/
def SortRes (B g : Nat) (xs : List Sp) (w : World) (e : Ending) (w' : World) : Prop :=
  e = .returned (.tuple #[]) ∧ ∃ ys : List Sp, ys.Perm xs ∧ (∀ i j, i < j → j < ys.length → lo ys i ≤ lo ys j) ∧ RowAt w' g 0 ys ∧ RowKit.Below B w w'
end Go.Proofs.YtajjmdnbmicefabDoor
