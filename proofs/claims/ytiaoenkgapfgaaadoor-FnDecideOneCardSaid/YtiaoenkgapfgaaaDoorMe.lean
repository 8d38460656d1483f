/-
  Contract of the program's meet of two lists of spans.
-/
import Derived.Test.YtiaoenkgapfgaaaDoorIv
import Derived.Test.YtiaoenkgapfgaaaDoorOw
import Derived.Deep.RegionHeld3
import Derived.Deep.LoopGhost
import Derived.Deep.DeepCutAuto
namespace Go.Proofs.YtiaoenkgapfgaaaDoor
open Go.RowKit Sets

def mxI (a b : Int) : Int := if a < b then b else a
def mnI (a b : Int) : Int := if b < a then b else a
theorem mxI_eq (a b : Int) : mxI a b = max a b := by unfold mxI; split <;> omega
theorem mnI_eq (a b : Int) : mnI a b = min a b := by unfold mnI; split <;> omega

structure MeetRel (w : World) (xs ys : List Sp) (k : Nat) (a b m : Value) (wr : World) (rs ts acc : List Sp) (B1 B2 : Option Addr) (d1 d2 : Nat) : Prop where
  ha : a = .slice B1 rs.length d1
  hb : b = .slice B2 ts.length d2
  r1 : Reads wr w.heap.size B1 d1 rs
  r2 : Reads wr w.heap.size B2 d2 ts
  own : OwnS wr w.heap.size m acc
  fit : Fits acc
  eq : acc ++ meetP rs ts = meetP xs ys
  len : acc.length + k ≤ 65536
  num : k = rs.length + ts.length
  bel : Below w.heap.size w wr

theorem RowAt.tail {w : World} {b o : Nat} {x : Sp} {rs : List Sp} (h : RowAt w b o (x :: rs)) : RowAt w b (o + 2) rs := fun i hi => by
  have := h (i + 1) (by simpa using hi)
  rw [show o + (i + 1) * 2 = o + 2 + i * 2 by omega] at this
  simpa [lo, YtiaoenkgapfgaaaDoor.hi] using this
theorem Fits.tail {x : Sp} {rs : List Sp} (h : Fits (x :: rs)) : Fits rs := fun y hy => h y (List.mem_cons_of_mem _ hy)
theorem tail_full {w : World} {B b o : Nat} {x : Sp} {rs : List Sp} (hf : Fits (x :: rs)) (hl : (x :: rs).length ≤ 1) : Reads w B (some ⟨b, o, none⟩) 0 rs := by
  have : rs = [] := List.eq_nil_of_length_eq_zero (by simp at hl; exact List.length_eq_zero_iff.2 hl)
  subst this
  exact ⟨by simp, by omega, (fun y hy => by cases hy), .inl rfl⟩
theorem tail_more {w : World} {B b o d : Nat} {x : Sp} {rs : List Sp} (hr : RowAt w b o (x :: rs)) (hf : Fits (x :: rs)) (hl : (x :: rs).length ≤ d) (hd : d ≤ 9223372036854775807) (hB : b < B) : Reads w B (some ⟨b, o + 2, none⟩) (d - 1) rs :=
  ⟨by simp at hl; omega, by omega, hf.tail, .inr ⟨b, o + 2, rfl, hB, hr.tail⟩⟩
theorem whole_reads {w : World} {B b o d : Nat} {rs : List Sp} (hr : RowAt w b o rs) (hf : Fits rs) (hl : rs.length ≤ d) (hd : d ≤ 9223372036854775807) (hB : b < B) : Reads w B (some ⟨b, o, none⟩) d rs :=
  ⟨hl, hd, hf, .inr ⟨b, o, rfl, hB, hr⟩⟩
theorem capS_fits {x y : Sp} {rs ts : List Sp} {acc : List Sp} (ha : Fits acc) (h1 : Fits (x :: rs)) (h2 : Fits (y :: ts)) : Fits (acc ++ capS x y) := by
  intro z hz
  rcases List.mem_append.1 hz with hz | hz
  · exact ha z hz
  · have := capS_of x y z hz
    have a := h1 x List.mem_cons_self
    have b := h2 y List.mem_cons_self
    unfold I64 at *
    omega
theorem meet_left {acc xs ys rs ts : List Sp} {x y : Sp} (h : acc ++ meetP (x :: rs) (y :: ts) = meetP xs ys) (hlt : x.2 < y.2) : acc ++ capS x y ++ meetP rs (y :: ts) = meetP xs ys := by
  rw [← h, meetP, if_pos hlt, List.append_assoc]
theorem meet_right {acc xs ys rs ts : List Sp} {x y : Sp} (h : acc ++ meetP (x :: rs) (y :: ts) = meetP xs ys) (hlt : ¬ x.2 < y.2) : acc ++ capS x y ++ meetP (x :: rs) ts = meetP xs ys := by
  rw [← h, meetP, if_neg hlt, List.append_assoc]
theorem cap_len {acc : List Sp} {x y : Sp} {n : Nat} (h : acc.length + (n + 1) ≤ 65536) : (acc ++ capS x y).length + n ≤ 65536 := by
  have := capS_len x y
  rw [List.length_append]; omega

end Go.Proofs.YtiaoenkgapfgaaaDoor
