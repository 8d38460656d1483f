/-
  Contracts of the model's texts and readers of values.
-/
import Derived.Test.YtamfmemdhldmjaaGreatDoorTa
import Derived.Test.YtamfmemdhldmjaaGreatDoorTpM
import Derived.Deep.QuietTactic
import Derived.BigQuiet
import Derived.Deep.RegionWith
import Derived.Test.YtamfmemdhldmjaaGreatDoorTcM
namespace Go.Proofs.YtamfmemdhldmjaaGreatDoor
open Go.RowKit Sets

theorem take_snoc' (r : Bs) (k : Nat) (h : k < r.length) : r.take (k + 1) = r.take k ++ [r[k]] := List.take_succ_eq_append_getElem h

def vb (k : Nat) (v : Int) : Prop := 0 ≤ v ∧ ((k = 0 ∧ v ≤ 0) ∨ (k = 1 ∧ v ≤ 9) ∨ (k = 2 ∧ v ≤ 99) ∨ (k = 3 ∧ v ≤ 999))
theorem vb_next {k : Nat} {v c : Int} (h : vb k v) (hk : k < 3) (h1 : 48 ≤ c) (h2 : c ≤ 57) : vb (k + 1) (v * 10 + (c - 48)) := by
  unfold vb at h ⊢
  omega
def leadAt (d : Bs) (k : Nat) (v : Int) : Prop := v = dvn (d.take k) ∧ ∀ j (_ : j < k) (h2 : j < d.length), isDig d[j] = true
theorem leadAt_next {d : Bs} {k : Nat} {v : Int} {c : UInt8} (h : leadAt d k v) (hk : k < d.length) (hc : d[k] = c) (hd : isDig c = true) : leadAt d (k + 1) (v * 10 + ((c.toNat : Int) - 48)) := by
  subst hc
  refine ⟨by rw [List.take_succ_eq_append_getElem hk, dvn_snoc, ← h.1], fun j hj h2 => ?_⟩
  by_cases e : j = k
  · subst e; exact hd
  · exact h.2 j (by omega) h2
theorem leadAt_end {d : Bs} {k : Nat} {v : Int} (h : leadAt d k v) (h3 : k ≤ 3) (hk : k ≤ d.length) (he : k = 3 ∨ k = d.length ∨ ∃ h : k < d.length, isDig d[k] = false) : lead d = k ∧ v = dvn (d.take (lead d)) := by
  have := lead_eq h3 hk (fun j hj => h.2 j hj (by omega)) he
  exact ⟨this, by rw [this]; exact h.1⟩
theorem numP_none {l : Bs} (h : lead (digsOf l) = 0) : numP l = (0, 0) := by unfold numP; rw [if_pos h]

theorem numP_bad {s : ByteArray} {l : Bs} {v : Int} {m : Nat} (hl : s.data.toList = l) (hv : numV l = v) (hm : numK l = m) (h : (!Lib.itoa v == (s.extract 0 m).toList) = true) : numP l = (0, 0) := by
  rw [Lib.extract_toList, hl, List.drop_zero, Nat.sub_zero] at h
  unfold numP
  split
  · rfl
  · rw [hv, hm, if_neg]
    intro e
    rw [e] at h
    simp at h
theorem numP_ok {s : ByteArray} {l : Bs} {v : Int} {m : Nat} (hl : s.data.toList = l) (h0 : lead (digsOf l) ≠ 0) (hv : numV l = v) (hm : numK l = m) (h : (!Lib.itoa v == (s.extract 0 m).toList) = false) : numP l = (v, m) := by
  rw [Lib.extract_toList, hl, List.drop_zero, Nat.sub_zero] at h
  unfold numP
  rw [if_neg h0, hv, hm, if_pos (by simpa using h)]

end Go.Proofs.YtamfmemdhldmjaaGreatDoor

namespace Go.Proofs.YtamfmemdhldmjaaGreatDoor
open Go.RowKit Sets

theorem valP_zero {L : Bool} {a b : Int} {l : Bs} (h : (rawP L l).2 = 0) : valP L a b l = (0, 0) := by unfold valP; rw [if_pos (.inl h)]
theorem valP_low {L : Bool} {a b : Int} {l : Bs} (h : (rawP L l).1 < a) : valP L a b l = (0, 0) := by unfold valP; rw [if_pos (.inr (.inl h))]
theorem valP_high {L : Bool} {a b : Int} {l : Bs} (h : b < (rawP L l).1) : valP L a b l = (0, 0) := by unfold valP; rw [if_pos (.inr (.inr h))]
theorem valP_in {L : Bool} {a b : Int} {l : Bs} (h : (rawP L l).2 ≠ 0) (h1 : a ≤ (rawP L l).1) (h2 : (rawP L l).1 ≤ b) : valP L a b l = rawP L l := by
  unfold valP
  rw [if_neg]
  omega
theorem head_eq (s : ByteArray) (h : 0 < s.size) : s.data.toList = s[0] :: s.data.toList.drop 1 := by
  have := drop_cons s 0 h
  simpa using this

end Go.Proofs.YtamfmemdhldmjaaGreatDoor
