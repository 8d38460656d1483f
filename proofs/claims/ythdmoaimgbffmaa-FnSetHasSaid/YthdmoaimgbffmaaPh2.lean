/-
  Plain facts on the set of one number.
-/
import Derived.Test.YthdmoaimgbffmaaPl
import Derived.Test.YthdmoaimgbffmaaSu
namespace Go.Proofs.Ythdmoaimgbffmaa
open Go.RowKit Sets

def one (m : Int) : List Sp := [(m, m)]
theorem one_mem (m n : Int) : memS (one m) n ↔ n = m := by
  unfold one
  rw [memS_cons]
  have := memS_nil n
  constructor
  · rintro (h | h)
    · simp at h; omega
    · exact absurd h this
  · intro h; left; simp; omega
theorem one_fits {m : Int} (h1 : -200 ≤ m) (h2 : m ≤ 200) : Fits (one m) := fun x hx => by
  rw [List.mem_singleton.1 hx]
  unfold I64
  simp; omega
theorem one_norm (m : Int) : Norm (one m) := ⟨Int.le_refl _, (fun y hy => by cases hy), trivial⟩
theorem one_in {m : Int} (h1 : -99 ≤ m) (h2 : m ≤ 99) : setOfB (one m) = true ∧ setOfV (one m) = one m ∧ validB (one m) = true := by
  have hw : Within (one m) := fun x hx => by rw [List.mem_singleton.1 hx]; exact ⟨h1, h2⟩
  have hl : LimAll (one m) := fun j hj => by
    have : j = 0 := by simp [one] at hj; omega
    subst this
    exact (limB_iff _ _).2 ⟨⟨h1, h2⟩, h1, h2⟩
  have e := join_eq (one_norm m) hw (fun _ => Iff.rfl)
  have hb : setOfB (one m) = true := by rw [setOf_in (by simp [one]) hl, e]; rfl
  exact ⟨hb, by rw [setOfV_yes hb, e], mk_valid (by simp [one]) (one_norm m) hw⟩
theorem one_out {m : Int} (h : ¬ (-99 ≤ m ∧ m ≤ 99)) : setOfB (one m) = false := setOf_out (j := 0) (by simp [one]) (by
  rw [← Bool.not_eq_true, limB_iff]
  intro q
  exact h q.1)
theorem has_iff (xs : List Sp) (m : Int) : hasB xs m = true ↔ validB xs = true ∧ memS xs m := by
  unfold hasB
  rw [Bool.and_eq_true, haveB_iff]
theorem has_valid {xs : List Sp} {m : Int} (h : hasB xs m = true) : validB xs = true ∧ setOfB (one m) = true := by
  obtain ⟨h1, x, hx, h2⟩ := (has_iff xs m).1 h
  have hw := (norm_of_valid h1).2 x hx
  exact ⟨h1, (one_in (by omega) (by omega)).1⟩
theorem has_within {xs : List Sp} {m : Int} (h1 : validB xs = true) (h2 : setOfB (one m) = true) : withinB (setOfV (one m)) xs = hasB xs m := by
  have hm : -99 ≤ m ∧ m ≤ 99 := by
    by_cases h : -99 ≤ m ∧ m ≤ 99
    · exact h
    · rw [one_out h] at h2; cases h2
  obtain ⟨_, e, hv⟩ := one_in hm.1 hm.2
  rw [e, Bool.eq_iff_iff, within_iff hv h1, has_iff]
  constructor
  · intro h; exact ⟨h1, h m ((one_mem m m).2 rfl)⟩
  · intro h n hn
    rw [(one_mem m n).1 hn]
    exact h.2
theorem reads_one (w : World) (m : Int) (h1 : -200 ≤ m) (h2 : m ≤ 200) : Reads (w.alloc (.cells #[.int .i64 m, .int .i64 m] 29)) (w.alloc (.cells #[.int .i64 m, .int .i64 m] 29)).heap.size (some ⟨w.heap.size, 0, none⟩) 1 (one m) := by
  refine ⟨by simp [one], by omega, one_fits h1 h2, .inr ⟨_, 0, rfl, by simp, fun i hi => ?_⟩⟩
  have : i = 0 := by simp [one] at hi; omega
  subst this
  rw [World.cell?_alloc_new, World.cell?_alloc_new]
  exact ⟨rfl, rfl⟩
theorem setOf_one_any (b : Nat) (m : Int) (h1 : -200 ≤ m) (h2 : m ≤ 200) (o : Obj) (ho : o = .cells #[.int .i64 m, .int .i64 m] 29) (w : World) (hb : b = w.heap.size) :
    Calls Try.prog 12 #[.slice (some ⟨b, 0, none⟩) 1 1] (w.alloc o) fun e w' => ∃ v, e = .returned (.tuple #[v, .bool (setOfB (one m))]) ∧ OwnS w' w.heap.size v (setOfV (one m)) ∧ Fits (setOfV (one m)) ∧ Below w.heap.size w w' := by
  subst hb ho
  refine (show Calls Try.prog 12 #[.slice (some ⟨w.heap.size, 0, none⟩) (one m).length 1] _ _ from implOf_any _ 1 (one m) _ (reads_one w m h1 h2) (fun h => by cases h)).mono ?_
  rintro e w' ⟨v, rfl, own, hf, hb⟩
  have h0 := (Below.refl w.heap.size w).alloc (Nat.le_refl _) (.cells #[.int .i64 m, .int .i64 m] 29)
  exact ⟨v, rfl, own.mono (by simp), hf, h0.trans (hb.mono (by simp))⟩
end Go.Proofs.Ythdmoaimgbffmaa
