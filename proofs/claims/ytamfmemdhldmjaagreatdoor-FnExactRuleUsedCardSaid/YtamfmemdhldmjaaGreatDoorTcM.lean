/-
  Contracts of the program's readers of numbers and letters, and of its reader of values.
-/
import Derived.Test.YtamfmemdhldmjaaGreatDoorTb
import Derived.Laws.RangeAny
import Derived.Laws.Strings3
import Derived.Laws.Strings2
import Derived.Laws.Strings
namespace Go.Proofs.YtamfmemdhldmjaaGreatDoor
open Go.RowKit Sets

theorem trim_neg (l : Bs) : Lib.trimPrefix l [45] = digsOf l := rfl
theorem drop_cons (d : ByteArray) (pos : Nat) (h : pos < d.size) : d.data.toList.drop pos = d[pos] :: d.data.toList.drop (pos + 1) := by
  rw [List.drop_eq_getElem_cons (by rw [← Lib.size_eq]; exact h)]
  rfl
theorem iter_below (w : World) (s : ByteArray) (pos : Nat) : Below w.heap.size w (w.iter s pos) := (Below.refl _ w).alloc (Nat.le_refl _) _
theorem rdN_none {l : Bs} (h : rdF (digsOf l) 0 = none) : rdN l = (0, false) := by unfold rdN; rw [h]
theorem rdN_some {l : Bs} {n : Int} (h : rdF (digsOf l) 0 = some n) : rdN l = (if negB l = true then -n else n, !(digsOf l).isEmpty) := by unfold rdN; rw [h]
theorem ret_two {v1 v2 : Value} {p : Int × Bool} (h1 : v1 = .int .i64 p.1) (h2 : v2 = .bool p.2) : Ending.returned (.tuple #[v1, v2]) = .returned (.tuple #[.int .i64 p.1, .bool p.2]) := by rw [h1, h2]

theorem rdL_two {l : Bs} {c : UInt8} {t : Bs} {p : Nat} (hp : 0 < p) (h : l.drop p = c :: t) : rdL l = (0, false) := by
  match l, p, hp with
  | [], _, _ => simp at h
  | [x], p + 1, _ => simp at h
  | _ :: _ :: _, _, _ => rfl
theorem rdL_bad {l : Bs} {c : UInt8} {t : Bs} (h : l = c :: t) (hc : isLet c = false) : rdL l = (0, false) := by
  subst h
  cases t with
  | nil => rw [rdL, hc]; rfl
  | cons _ _ => rfl
theorem rdL_good {l : Bs} {c : UInt8} (h : l = [c]) (hc : isLet c = true) : rdL l = ((c.toNat : Int) - 65, true) := by
  subst h
  rw [rdL, if_pos hc]
/-- what the reader of letters holds after pos bytes -/
def letN (l : Bs) (pos : Nat) (m : Int) : Prop := (pos = 0 ∧ m = 0) ∨ (pos = 1 ∧ ∃ c t, l = c :: t ∧ isLet c = true ∧ m = (c.toNat : Int) - 65)

end Go.Proofs.YtamfmemdhldmjaaGreatDoor

namespace Go.Proofs.YtamfmemdhldmjaaGreatDoor
open Go.RowKit Sets

theorem pv_cmp1 {L : Bool} {a b n : Int} {s : ByteArray} (hn : (rdO L s.data.toList).1 = n) (h : (!fV L a b n == s.toList) = true) : pvN L a b s.data.toList = 0 ∧ pvB L a b s.data.toList = false := by
  refine parse_no2 ?_
  rw [hn, ← Lib.toList_data]
  intro e
  rw [e] at h
  simp at h
theorem pv_cmp2 {L : Bool} {a b n : Int} {s : ByteArray} (hn : (rdO L s.data.toList).1 = n) (ho : (rdO L s.data.toList).2 = true) (h : (!fV L a b n == s.toList) = false) : pvN L a b s.data.toList = n ∧ pvB L a b s.data.toList = true := by
  have := parse_yes (L := L) (a := a) (b := b) ho (by rw [hn, ← Lib.toList_data]; simpa using h)
  rw [hn] at this
  exact this

end Go.Proofs.YtamfmemdhldmjaaGreatDoor
