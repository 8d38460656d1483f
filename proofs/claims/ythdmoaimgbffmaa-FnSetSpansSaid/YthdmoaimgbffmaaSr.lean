/-
  The library's sort, at spans by their first numbers.
-/
import Derived.Shelf.SlSortCmp.WholeK
import Derived.Ground.SlsfProg
import Derived.Test.YthdmoaimgbffmaaSh
import Derived.Test.YthdmoaimgbffmaaPj
import Derived.Test.YthdmoaimgbffmaaGn
namespace Go.Proofs.Ythdmoaimgbffmaa
open Go.RowKit Sets

def cmpI (x y : Int) : Int := if x < y then -1 else if y < x then 1 else 0
set_option maxRecDepth 100000 in
theorem isNaN_any (x : Int) (w : World) : Calls Try.prog 70 #[.int .i64 x] w fun e w' => e = .returned (.bool false) ∧ w = w' := by
  go_enter Try.func70, Try.ntmps70
  go_wp2
  go_ret
  exact ⟨by simp, rfl⟩
set_option maxRecDepth 100000 in
theorem compare_any (x y : Int) (w : World) : Calls Try.prog 62 #[.int .i64 x, .int .i64 y] w fun e w' => e = .returned (.int .i64 (cmpI x y)) ∧ w = w' := by
  go_enter Try.func62, Try.ntmps62
  go_wp2_with (go_at_call 70; refine (isNaN_any _ _).mono ?_; rintro e w' ⟨rfl, rfl⟩)
  all_goals (go_ret; refine ⟨?_, rfl⟩; unfold cmpI; (repeat' split) <;> first | rfl | (exfalso; omega))

def encSp (x : Sp) : List Value := [.int .i64 x.1, .int .i64 x.2]
def cfSp (x y : Sp) : Int := cmpI x.1 y.1
theorem ltSp (x y : Sp) : Go.Proofs.ltOf cfSp x y = decide (x.1 < y.1) := by
  unfold Go.Proofs.ltOf cfSp cmpI
  by_cases h1 : x.1 < y.1
  · simp [h1]
  · by_cases h2 : y.1 < x.1 <;> simp [h1, h2]
theorem swoSp : Go.Sort.SWO (Go.Proofs.ltOf cfSp) where
  irrefl x := by rw [ltSp]; simp
  trans x y z h1 h2 := by rw [ltSp] at *; simp at *; omega
  ntrans x y z h1 h2 := by rw [ltSp] at *; simp at *; omega

set_option maxRecDepth 100000 in
set_option maxHeartbeats 1000000 in
theorem closure_any (x y : Sp) (W : World) : Calls Try.prog 61 #[.agg #[.int .i64 x.1, .int .i64 x.2], .agg #[.int .i64 y.1, .int .i64 y.2]] W fun e w' => e = .returned (.int .i64 (cfSp x y)) ∧ ∃ q os', w' = Go.Sort.grow (W.drewN q) os' := by
  unfold cfSp
  have hcon := fun W' => compare_any x.1 y.1 W'
  generalize cmpI x.1 y.1 = r at hcon ⊢
  go_enter Try.func61, Try.ntmps61
  go_wp2_with (go_at_call 62; refine (hcon _).mono ?_; rintro e w' ⟨rfl, rfl⟩)
  go_ret
  exact ⟨rfl, 0, _, by rw [Go.Sort.alloc_eq_grow, Go.Sort.alloc_eq_grow, Go.Sort.grow_grow]; rfl⟩
theorem cmpLays_any (blk off size : Nat) (w : World) : CmpLays Try.prog 61 #[] encSp 2 cfSp blk off size w := fun _ _ _ _ x y => closure_any x y _

theorem below_sorted {B g : Nat} (w : World) (m : Nat) (d : Array Sp) (os : Array Obj) (hB : B ≤ g) (hg : g < w.heap.size) : RowKit.Below B w (Go.Proofs.sortWorldK encSp 2 w g 0 m d os) := by
  refine ⟨rfl, rfl, rfl, ?_, fun k hk => ?_⟩
  · simp [Go.Proofs.sortWorldK, Go.Sort.grow, Go.Sort.putRowK, Go.Sort.putRow, Go.Sort.mapBlock, Go.Sort.ahead]
  · simp only [Go.Proofs.sortWorldK, Go.Sort.grow, Go.Sort.putRowK, Go.Sort.putRow, Go.Sort.mapBlock, Go.Sort.ahead]
    rw [Array.getElem?_append_left (by simp; omega), Array.getElem?_modify]
    rw [if_neg (by omega)]

theorem holds_of_row {w : World} {g : Nat} {xs : List Sp} (hr : RowAt w g 0 xs) (ho : OwnRow w g xs.length) : Go.Sort.HoldsK encSp 2 w g 0 xs.toArray := by
  intro t ht
  rw [Go.Sort.size_flatK] at ht
  have ht' : t < xs.length * 2 := by simpa using ht
  refine ⟨?_, ho.2.1 _⟩
  rw [Go.Sort.get_flatK _ _ _ _ ht]
  obtain ⟨c1, c2⟩ := hr (t / 2) (by omega)
  have hx : xs.toArray[t / 2]! = xs.getD (t / 2) (0, 0) := by
    rw [List.getD_eq_getElem?_getD]
    have : t / 2 < xs.length := by omega
    simp [this]
  rw [hx]
  have hm : t % 2 = 0 ∨ t % 2 = 1 := by omega
  rcases hm with hm | hm
  · have e : t = t / 2 * 2 := by omega
    rw [hm, show (0 + t) = 0 + t / 2 * 2 by omega, c1]; rfl
  · have e : t = t / 2 * 2 + 1 := by omega
    rw [hm, show (0 + t) = 0 + t / 2 * 2 + 1 by omega, c2]; rfl
theorem row_of_holds {w : World} {g : Nat} {d : Array Sp} (h : Go.Sort.HoldsK encSp 2 w g 0 d) : RowAt w g 0 d.toList := by
  intro i hi
  have hi' : i < d.size := by simpa using hi
  have e : ∀ r, r < 2 → w.cell? ⟨g, 0 + i * 2 + r, none⟩ = some ((encSp d[i]!)[r]!) := fun r hr => by
    have := (h (i * 2 + r) (by rw [Go.Sort.size_flatK]; omega)).1
    rw [Go.Sort.get_flatK _ _ _ _ (by omega), show (i * 2 + r) / 2 = i by omega, show (i * 2 + r) % 2 = r by omega] at this
    rw [Nat.add_assoc]; exact this
  have hx : d[i]! = d.toList.getD i (0, 0) := by
    rw [List.getD_eq_getElem?_getD]
    simp [hi']
  unfold Ythdmoaimgbffmaa.lo Ythdmoaimgbffmaa.hi
  rw [← hx]
  exact ⟨by have := e 0 (by omega); rw [Nat.add_zero] at this; rw [this]; rfl, by rw [e 1 (by omega)]; rfl⟩

/-- what the sort leaves -/
def SortRes (B g : Nat) (xs : List Sp) (w : World) (e : Ending) (w' : World) : Prop :=
  e = .returned (.tuple #[]) ∧ ∃ ys : List Sp, ys.Perm xs ∧ (∀ i j, i < j → j < ys.length → lo ys i ≤ lo ys j) ∧ RowAt w' g 0 ys ∧ RowKit.Below B w w'
theorem sort_any (g cap B : Nat) (xs : List Sp) (w : World) (hr : RowAt w g 0 xs) (ho : OwnRow w g xs.length) (hB : B ≤ g) (hn : xs.length ≤ 1000) :
    Calls Try.prog 60 #[.slice (some ⟨g, 0, none⟩) xs.length cap, .func (.func 61) #[] #[]] w (SortRes B g xs w) := by
  have eg : ∀ args w, (callFunc 61 args).run Try.prog w = .ok (.enter 61 args) w := enters_of Try.func61 (by kernel_rfl) rfl
  have hH := holds_of_row hr ho
  have hcon := AnyQ.slices_SortFunc Try.sortSpans 2 Try.isAgg29 Try.sizeOf29 encSp (fun _ => rfl) (fun x v hv => by simp [encSp] at hv; rcases hv with rfl | rfl <;> rfl) cfSp swoSp 61 #[] g 0 cap xs.toArray w eg (cmpLays_any g 0 xs.toArray.size w) hH ho.2.2 (by simp; omega)
  refine (show Calls Try.prog _ _ _ _ from hcon).mono ?_
  rintro e w' ⟨rfl, d', n, os, hp, hs, rfl⟩
  have hsz : d'.size = xs.length := by have := hp.1; simpa using this
  refine ⟨rfl, d'.toList, ?_, fun i j hij hj => ?_, row_of_holds (holdsK_sortWorldK_c encSp 2 w g 0 xs.toArray d' n os hH ho.2.2 (by simp [hsz])), below_sorted w n d' os hB ho.2.2⟩
  · have := hp.2.2
    simp only [List.size_toArray] at this
    rw [Array.extract_eq_self_of_le (by omega), Array.extract_eq_self_of_le (by simp)] at this
    exact this
  · have hj' : j < d'.size := by simpa using hj
    have := hs i j (Nat.zero_le _) hij (by simp; omega)
    rw [ltSp] at this
    have h2 := of_decide_eq_false this
    have hx : ∀ m, m < d'.size → d'[m]! = d'.toList.getD m (0, 0) := fun m hm => by
      rw [List.getD_eq_getElem?_getD]
      simp [hm]
    rw [hx i (by omega), hx j hj'] at h2
    unfold Ythdmoaimgbffmaa.lo
    omega

set_option maxRecDepth 100000 in
theorem insNil_any (fv : Value) (w : World) : Calls Try.prog 72 #[.slice none 0 0, .int .i64 0, .int .i64 0, fv] w fun e w' => e = .returned (.tuple #[]) ∧ w = w' := by
  go_enter Try.func72, Try.ntmps72
  go_wp2
  refine wp_loop_rounds 1 ?_
  rw [rounds_succ]
  go_wp2
  go_end0
  exact ⟨rfl, rfl⟩
set_option maxRecDepth 100000 in
theorem pdqNil_any (lim : Int) (fv : Value) (w : World) : Calls Try.prog 68 #[.slice none 0 0, .int .i64 0, .int .i64 0, .int .i64 lim, fv] w fun e w' => e = .returned (.tuple #[]) ∧ w = w' := by
  go_enter Try.func68, Try.ntmps68
  go_wp2
  refine wp_loop_rounds 1 ?_
  rw [rounds_succ]
  go_wp2_with (go_at_call 72; refine (insNil_any _ _).mono ?_; rintro e w' ⟨rfl, rfl⟩)
  (try simp only [Exit.inBlock, Exit.then])
  refine bodyPost_ret (results_none rfl _ _ _) rfl ?_
  exact ⟨rfl, rfl⟩
theorem lenNil_any (W : World) : Calls Try.prog 69 #[.int .u64 0] W fun e w' => (∃ l : Int, e = .returned (.int .i64 l)) ∧ W = w' := by
  have h := Any.bits_Len (SlLaysF0.n15.bits (P := Try.prog) (ρ := Try.sortSpans_ren) { Try.sortSpans with }) 0 W (by omega) (by omega)
  exact (show Calls Try.prog _ _ _ _ from h).mono fun _ _ ⟨he, hw⟩ => ⟨⟨_, he⟩, hw.symm⟩
set_option maxRecDepth 100000 in
theorem sortNil_any (w : World) : Calls Try.prog 60 #[.slice none 0 0, .func (.func 61) #[] #[]] w fun e w' => e = .returned (.tuple #[]) ∧ w = w' := by
  go_enter Try.func60, Try.ntmps60
  go_wp2_with fail
  refine (lenNil_any _).mono ?_
  rintro e w1 ⟨⟨l, rfl⟩, rfl⟩
  go_wp2_with fail
  refine (pdqNil_any _ _ _).mono ?_
  rintro e w2 ⟨rfl, rfl⟩
  go_wp2
  go_end0
  exact ⟨rfl, rfl⟩
end Go.Proofs.Ythdmoaimgbffmaa
