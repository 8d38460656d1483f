/-
  Contract of the program's join of lists of spans.
-/
import Derived.StillTailTactics
import Derived.Test.YtajjmdnbmicefabDoorDe
import Derived.Test.YtajjmdnbmicefabDoorCo
import Derived.Test.YtajjmdnbmicefabDoorSr
import Derived.Test.YtajjmdnbmicefabDoorFr
import Derived.Test.YtajjmdnbmicefabDoorIm
namespace Go.Proofs.YtajjmdnbmicefabDoor
open Go.RowKit Sets

theorem OwnS.cases {w : World} {base : Nat} {v : Value} {xs : List Sp} (h : OwnS w base v xs) :
    (v = .slice none 0 0 ∧ xs = []) ∨ ∃ g cap, v = .slice (some ⟨g, 0, none⟩) xs.length cap ∧ base ≤ g ∧ g < w.heap.size ∧ xs.length ≤ cap ∧ cap ≤ 9223372036854775807 ∧ RowAt w g 0 xs ∧ OwnRow w g xs.length := by
  rcases Nat.eq_zero_or_pos xs.length with hz | hp
  · have he : xs = [] := List.eq_nil_of_length_eq_zero hz
    subst he
    obtain ⟨_, ⟨rfl, _⟩ | ⟨g, cap, cur, rfl, hb, hg, hnc, hcm, hcs, hcur⟩⟩ := h
    · exact .inl ⟨rfl, rfl⟩
    · have hlt := (Array.getElem?_eq_some_iff.1 hg).1
      exact .inr ⟨g, cap, rfl, hb, hlt, hnc, by unfold maxLen at hcm; omega, (fun i hi => absurd hi (by simp)), (fun o ho => absurd ho (by simp)), (fun o => by simp [World.frozen?, hg]), hlt⟩
  · obtain ⟨g, cap, hv, hb, hg, hlc, hcm, hrow, hfr, _⟩ := h.block hp
    refine .inr ⟨g, cap, hv, hb, hg, hlc, hcm, hrow, (fun o ho => ?_), hfr, hg⟩
    obtain ⟨c1, c2⟩ := hrow (o / 2) (by omega)
    rw [Nat.zero_add] at c1 c2
    have hm : o % 2 = 0 ∨ o % 2 = 1 := by omega
    rcases hm with hm | hm
    · exact ⟨_, by rw [show o = o / 2 * 2 by omega]; exact c1⟩
    · exact ⟨_, by rw [show o = o / 2 * 2 + 1 by omega]; exact c2⟩

/-- all ends are numbers -/
def Ends (xs : List Sp) : Prop := ∀ x ∈ xs, -99 ≤ x.1 ∧ x.1 ≤ 99 ∧ -99 ≤ x.2 ∧ x.2 ≤ 99
theorem ends_kept {xs ys : List Sp} (h : Ends xs) (hp : ys.Perm (keptE xs)) : Ends ys := fun x hx => h x (List.mem_filter.1 (hp.mem_iff.1 hx)).1
theorem asc_kept {xs ys : List Sp} (hp : ys.Perm (keptE xs)) (hs : ∀ i j, i < j → j < ys.length → lo ys i ≤ lo ys j) : Asc ys := by
  refine ⟨fun k hk => ?_, hs⟩
  have hm : ys[k] ∈ keptE xs := hp.mem_iff.1 (List.getElem_mem hk)
  have := of_decide_eq_true (List.mem_filter.1 hm).2
  unfold YtajjmdnbmicefabDoor.lo YtajjmdnbmicefabDoor.hi
  rw [List.getD_eq_getElem?_getD, List.getElem?_eq_getElem hk]
  exact this
theorem memS_perm {xs ys : List Sp} (hp : ys.Perm xs) (n : Int) : memS ys n ↔ memS xs n := by
  unfold memS
  constructor
  · rintro ⟨x, hx, h⟩; exact ⟨x, hp.mem_iff.1 hx, h⟩
  · rintro ⟨x, hx, h⟩; exact ⟨x, hp.mem_iff.2 hx, h⟩
theorem ends_within {ys : List Sp} (h : Ends ys) : Within ys := fun x hx => by have := h x hx; omega
theorem lohi_within {xs : List Sp} (h : Within xs) {i : Nat} (hi : i < xs.length) : -99 ≤ lo xs i ∧ YtajjmdnbmicefabDoor.hi xs i ≤ 99 := by
  have := h _ (List.getElem_mem hi)
  unfold YtajjmdnbmicefabDoor.lo YtajjmdnbmicefabDoor.hi
  rw [List.getD_eq_getElem?_getD, List.getElem?_eq_getElem hi]
  exact this
theorem joinF_within {ys : List Sp} (ha : Asc ys) (he : Ends ys) (k : Nat) (hk : k ≤ ys.length) : Within (joinF ys k) := fun x hx => by
  obtain ⟨h1, _, h3⟩ := joinF_spec ys ha k hk
  have hle := h1.le x hx
  have hw := ends_within he
  obtain ⟨i, hi, a⟩ := (h3 x.1).1 ⟨x, hx, Int.le_refl _, hle⟩
  obtain ⟨j, hj, b⟩ := (h3 x.2).1 ⟨x, hx, hle, Int.le_refl _⟩
  have e1 := lohi_within hw (show i < ys.length by omega)
  have e2 := lohi_within hw (show j < ys.length by omega)
  omega

def JoinRes (xs : List Sp) (w : World) (e : Ending) (w' : World) : Prop :=
  ∃ (v : Value) (rs : List Sp), e = .returned v ∧ OwnS w' w.heap.size v rs ∧ Norm rs ∧ Within rs ∧ (∀ n, memS rs n ↔ memS xs n) ∧ rs.length ≤ 1000 ∧ Below w.heap.size w w'

theorem stepJ_ext {s : List Sp} {x : Sp} (h : 0 < s.length) (e : x.1 ≤ hi s (s.length - 1) + 1) : stepJ s x = s.set (s.length - 1) (lo s (s.length - 1), max (hi s (s.length - 1)) x.2) := by
  unfold stepJ
  exact if_pos ⟨h, e⟩
theorem stepJ_new {s : List Sp} {x : Sp} (h : ¬ (0 < s.length ∧ x.1 ≤ hi s (s.length - 1) + 1)) : stepJ s x = s ++ [x] := by
  unfold stepJ
  exact if_neg h

theorem cell_new1 (w : World) (a b : Int) : (w.alloc (.cells #[.int .i64 a, .int .i64 b] 54)).cell? ⟨w.heap.size, 0, none⟩ = some (.int .i64 a) := by
  rw [World.cell?_alloc_new]; rfl
theorem cell_new3 (w : World) (a b : Int) : (w.alloc (.cells #[.int .i64 a, .int .i64 b] 54)).cell? ⟨w.heap.size, 1, none⟩ = some (.int .i64 b) := by
  rw [World.cell?_alloc_new]; rfl

end Go.Proofs.YtajjmdnbmicefabDoor
