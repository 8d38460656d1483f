/-
  Contracts of the draws of texts of columns.
-/
import Derived.Test.YthkjcljhfjaabaaDoorDd
import Derived.Test.YthkjcljhfjaabaaDoorTg
namespace Go.Proofs.YthkjcljhfjaabaaDoor
open Go.RowKit Go.Sort Sets

/-- A list of texts that a call has laid. -/
def Txts (w : World) (b : Nat) (l : List ByteArray) : Prop := ∀ i, i < l.length → w.cell? ⟨b, i, none⟩ = some (.string (l.getD i ⟨#[]⟩))
theorem Txts.gr {w w' : World} {g b : Nat} {l : List ByteArray} (h : Txts w b l) (hg : w.grownBy w' (some g)) (hb : b < w.heap.size) (hne : b ≠ g) : Txts w' b l := fun i hi => by
  rw [(gr_kept hg hb hne i).1]; exact h i hi
def txtsObj (l : List ByteArray) (t : TypeId) : Obj := .cells ((l.map Value.string).toArray) t
theorem txts_new (w : World) (l : List ByteArray) (t : TypeId) : Txts (w.alloc (txtsObj l t)) w.heap.size l := by
  intro i hi
  unfold txtsObj
  rw [World.cell?_alloc_new]
  simp [hi]

set_option maxRecDepth 100000 in
theorem of_any (g B : Nat) (A : Option Addr) (n c p : Nat) (z : Nat → Int) (b : Nat) (l : List ByteArray) (w : World) (h : Rdr w g B A n c p z) (hp : p ≤ 1000000) (hl : Txts w b l) (hbw : b < w.heap.size) (hl0 : 0 < l.length) (hl1 : l.length ≤ 1000) (hb : b ≠ g) :
    Calls Tryd.prog 26 #[.pointer (some ⟨g, 0, none⟩), .slice (some ⟨b, 0, none⟩) l.length l.length] w fun e w' => ∃ s, e = .returned (.string s) ∧ s ∈ l ∧ Rdr w' g B A n c (p + 1) z ∧ w.grownBy w' (some g) := by
  have HR := Lib.hid h
  clear h
  go_enter Tryd.func26, Tryd.ntmps26
  go_wp2_with fail
  refine (pick_step g B A n c p z _ w HR.out hp (by omega) (by omega)).mono ?_
  rintro e w1 ⟨v, rfl, hv0, hv2, hR, hg⟩
  obtain ⟨i, rfl⟩ := Int.eq_ofNat_of_zero_le hv0
  have hi : i < l.length := by omega
  have c1 := (hl.gr hg hbw hb) i hi
  have hm : Hid (l.getD i ⟨#[]⟩ ∈ l) := Lib.hid (by rw [List.getD_eq_getElem?_getD, List.getElem?_eq_getElem hi]; exact List.getElem_mem hi)
  generalize l.getD i ⟨#[]⟩ = y at c1 hm
  have R1 := Lib.hid hR
  have G1 := Lib.hid hg
  clear hR hg hl
  go_wp2
  go_ret
  exact ⟨_, rfl, hm.out, R1.out, G1.out⟩

theorem fC_len {L : Bool} {a b : Int} : (fC L a b).length ≤ 8 := by
  cases h : colB L a b
  · rw [fC_no h]; simp
  · rw [fC_yes h]
    have e1 := (vT_bytes (in_lo h)).2.2.1
    have e2 := (vT_bytes (in_hi h)).2.2.1
    simp [dots]
    omega

end Go.Proofs.YthkjcljhfjaabaaDoor
