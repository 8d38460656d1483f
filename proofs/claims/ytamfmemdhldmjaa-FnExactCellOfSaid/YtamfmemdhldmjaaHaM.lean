/-
  Cuts of columns: what they are, for both programs.
-/
import Derived.Test.YtamfmemdhldmjaaUiM
import Derived.Test.YtamfmemdhldmjaaFaM
import Derived.BigQuiet
import Derived.Test.YtamfmemdhldmjaaRdM
import Derived.Deep.MidRow
import Derived.Test.YtamfmemdhldmjaaGa
namespace Go.Proofs.Ytamfmemdhldmjaa
open Go.RowKit Sets

/-- the cuts that have ended before the m-th value behind lo, and the value at which the last one begins -/
def nxK (chg : Int → Bool) (a : Int) : Nat → Int
  | 0 => a
  | m + 1 => if chg (a + m + 1) = true then a + m + 1 else nxK chg a m
def clK (chg : Int → Bool) (a : Int) : Nat → List Sp
  | 0 => []
  | m + 1 => if chg (a + m + 1) = true then clK chg a m ++ [(nxK chg a m, a + m)] else clK chg a m
theorem nxK_bound (chg : Int → Bool) (a : Int) : ∀ m : Nat, a ≤ nxK chg a m ∧ nxK chg a m ≤ a + m := by
  intro m
  induction m with
  | zero => exact ⟨Int.le_refl _, by unfold nxK; omega⟩
  | succ m ih =>
    unfold nxK
    split <;> omega
theorem clK_len (chg : Int → Bool) (a : Int) : ∀ m : Nat, (clK chg a m).length ≤ m := by
  intro m
  induction m with
  | zero => exact Nat.le_refl _
  | succ m ih =>
    unfold clK
    split
    · rw [List.length_append]; simp; omega
    · omega
theorem clK_fits (chg : Int → Bool) {a : Int} {n : Nat} (h1 : -99 ≤ a) (h2 : a + n ≤ 99) : ∀ m : Nat, m ≤ n → Fits (clK chg a m) := by
  intro m
  induction m with
  | zero => intro _ x hx; cases hx
  | succ m ih =>
    intro hm
    unfold clK
    have hb := nxK_bound chg a m
    split
    · exact fits_snoc (ih (by omega)) (by unfold I64; omega) (by unfold I64; omega)
    · exact ih (by omega)
theorem nx_yes {chg : Int → Bool} {a : Int} {m : Nat} (h : chg (a + m + 1) = true) : nxK chg a (m + 1) = a + m + 1 := by rw [nxK, if_pos h]
theorem nx_no {chg : Int → Bool} {a : Int} {m : Nat} (h : chg (a + m + 1) = false) : nxK chg a (m + 1) = nxK chg a m := by rw [nxK, if_neg (by rw [h]; simp)]
theorem cl_yes {chg : Int → Bool} {a : Int} {m : Nat} (h : chg (a + m + 1) = true) : clK chg a (m + 1) = clK chg a m ++ [(nxK chg a m, a + m)] := by rw [clK, if_pos h]
theorem cl_no {chg : Int → Bool} {a : Int} {m : Nat} (h : chg (a + m + 1) = false) : clK chg a (m + 1) = clK chg a m := by rw [clK, if_neg (by rw [h]; simp)]
/-- all cuts from a to a + m -/
def cuK (chg : Int → Bool) (a : Int) (m : Nat) : List Sp := clK chg a m ++ [(nxK chg a m, a + m)]
theorem cuK_len (chg : Int → Bool) (a : Int) (m : Nat) : (cuK chg a m).length = (clK chg a m).length + 1 := by unfold cuK; rw [List.length_append]; rfl
/-- cuts of a span of numbers: the first begins at its beginning, each begins behind the one before it, the last ends at its end -/
structure CutsOk (cs : List Sp) (a b : Int) : Prop where
  pos : 0 < cs.length
  first : (cs.getD 0 (0, 0)).1 = a
  last : (cs.getD (cs.length - 1) (0, 0)).2 = b
  fine : ∀ i, i < cs.length → (cs.getD i (0, 0)).1 ≤ (cs.getD i (0, 0)).2
  next : ∀ i, i + 1 < cs.length → (cs.getD (i + 1) (0, 0)).1 = (cs.getD i (0, 0)).2 + 1
theorem getD_snoc_lt {α : Type} {l : List α} {x d : α} {i : Nat} (h : i < l.length) : (l ++ [x]).getD i d = l.getD i d := by
  rw [List.getD_eq_getElem?_getD, List.getElem?_append_left h, ← List.getD_eq_getElem?_getD]
theorem getD_snoc_eq {α : Type} {l : List α} {x d : α} {i : Nat} (h : i = l.length) : (l ++ [x]).getD i d = x := by
  subst h
  rw [List.getD_eq_getElem?_getD, List.getElem?_append_right (Nat.le_refl _)]; simp
theorem cuK_ok (chg : Int → Bool) (a : Int) : ∀ m : Nat, CutsOk (cuK chg a m) a (a + m) := by
  intro m
  induction m with
  | zero =>
    refine ⟨by rw [cuK_len]; omega, by simp [cuK, clK, nxK], by simp [cuK, clK, nxK], fun i hi => ?_, fun i hi => ?_⟩
    · have : i = 0 := by simp [cuK_len, clK] at hi; omega
      subst this; simp [cuK, clK, nxK]
    · simp [cuK_len, clK] at hi
  | succ m ih =>
    cases hc : chg (a + m + 1)
    · -- the last cut is longer
      have e : cuK chg a (m + 1) = clK chg a m ++ [(nxK chg a m, a + (m + 1 : Nat))] := by unfold cuK; rw [cl_no hc, nx_no hc]
      have hl : (cuK chg a m).length = (clK chg a m).length + 1 := cuK_len chg a m
      have hlt : ∀ i, i < (clK chg a m).length → (cuK chg a (m + 1)).getD i (0, 0) = (cuK chg a m).getD i (0, 0) := fun i hi => by
        rw [e, getD_snoc_lt hi]; unfold cuK; rw [getD_snoc_lt hi]
      have hle : (cuK chg a (m + 1)).getD (clK chg a m).length (0, 0) = (nxK chg a m, a + (m + 1 : Nat)) := by rw [e, getD_snoc_eq rfl]
      have hme : (cuK chg a m).getD (clK chg a m).length (0, 0) = (nxK chg a m, a + m) := by unfold cuK; rw [getD_snoc_eq rfl]
      have hlen : (cuK chg a (m + 1)).length = (clK chg a m).length + 1 := by rw [e, List.length_append]; rfl
      have hb := nxK_bound chg a m
      refine ⟨by omega, ?_, ?_, fun i hi => ?_, fun i hi => ?_⟩
      · rcases Nat.eq_zero_or_pos (clK chg a m).length with hz | hp
        · rw [← hz, hle]; have := ih.first; rw [← hz, hme] at this; exact this
        · rw [hlt 0 hp]; exact ih.first
      · rw [hlen, Nat.add_sub_cancel, hle]
      · rcases Nat.lt_or_ge i (clK chg a m).length with h | h
        · rw [hlt i h]; exact ih.fine i (by omega)
        · have : i = (clK chg a m).length := by omega
          rw [this, hle]; simp only []; omega
      · rcases Nat.lt_or_ge (i + 1) (clK chg a m).length with h | h
        · rw [hlt _ h, hlt _ (by omega)]; exact ih.next i (by omega)
        · have h2 : i + 1 = (clK chg a m).length := by omega
          have := ih.next i (by omega)
          rw [h2, hme] at this
          rw [h2, hle, hlt i (by omega)]; exact this
    · -- a further cut
      have e : cuK chg a (m + 1) = cuK chg a m ++ [(a + (m + 1 : Nat), a + (m + 1 : Nat))] := by
        show clK chg a (m + 1) ++ [(nxK chg a (m + 1), a + (m + 1 : Nat))] = _
        rw [cl_yes hc, nx_yes hc]
        unfold cuK
        rw [show a + (m : Int) + 1 = a + (m + 1 : Nat) by omega]
      have hlen : (cuK chg a (m + 1)).length = (cuK chg a m).length + 1 := by rw [e, List.length_append]; rfl
      have hlt : ∀ i, i < (cuK chg a m).length → (cuK chg a (m + 1)).getD i (0, 0) = (cuK chg a m).getD i (0, 0) := fun i hi => by rw [e, getD_snoc_lt hi]
      have hle : (cuK chg a (m + 1)).getD (cuK chg a m).length (0, 0) = (a + (m + 1 : Nat), a + (m + 1 : Nat)) := by rw [e, getD_snoc_eq rfl]
      have hp := ih.pos
      refine ⟨by omega, ?_, ?_, fun i hi => ?_, fun i hi => ?_⟩
      · rw [hlt 0 hp]; exact ih.first
      · rw [hlen, Nat.add_sub_cancel, hle]
      · rcases Nat.lt_or_ge i (cuK chg a m).length with h | h
        · rw [hlt i h]; exact ih.fine i h
        · have : i = (cuK chg a m).length := by omega
          rw [this, hle]; exact Int.le_refl _
      · rcases Nat.lt_or_ge (i + 1) (cuK chg a m).length with h | h
        · rw [hlt _ h, hlt _ (by omega)]; exact ih.next i h
        · have h2 : i + 1 = (cuK chg a m).length := by omega
          have h3 : i = (cuK chg a m).length - 1 := by omega
          rw [h2, hle, hlt i (by omega), h3, ih.last]; simp only []; omega

/-- the test of the column k of the i-th rule -/
def tsK (rs : List Rl) (k i : Nat) : List Sp := (rs.getD i ([], 0)).1.getD k []
/-- the tests of a column tell v from v - 1 -/
def sameK (rs : List Rl) (k : Nat) (v : Int) (i : Nat) : Bool := haveB (tsK rs k i) v == haveB (tsK rs k i) (v - 1)
def chgK (rs : List Rl) (k : Nat) (v : Int) : Bool := !(List.range rs.length).all (sameK rs k v)
def cutC (t : Tb) (k : Nat) : List Sp := cuK (chgK t.rules k) (t.cols.getD k (false, 0, 0)).2.1 ((t.cols.getD k (false, 0, 0)).2.2 - (t.cols.getD k (false, 0, 0)).2.1).toNat
/-- what CutsOf answers -/
def cutsV (t : Tb) (k : Int) : List Sp := if (tabB t && (decide (0 ≤ k) && decide (k < t.cols.length))) = true then cutC t k.toNat else []

theorem cutC_ok {t : Tb} {k : Nat} (h : (t.cols.getD k (false, 0, 0)).2.1 ≤ (t.cols.getD k (false, 0, 0)).2.2) : CutsOk (cutC t k) (t.cols.getD k (false, 0, 0)).2.1 (t.cols.getD k (false, 0, 0)).2.2 := by
  have := cuK_ok (chgK t.rules k) (t.cols.getD k (false, 0, 0)).2.1 ((t.cols.getD k (false, 0, 0)).2.2 - (t.cols.getD k (false, 0, 0)).2.1).toNat
  rw [show (t.cols.getD k (false, 0, 0)).2.1 + (((t.cols.getD k (false, 0, 0)).2.2 - (t.cols.getD k (false, 0, 0)).2.1).toNat : Int) = (t.cols.getD k (false, 0, 0)).2.2 by omega] at this
  exact this
/-- an end of a span of a set is where the set changes -/
theorem have_iff {xs : List Sp} {n : Int} : haveB xs n = true ↔ ∃ x ∈ xs, x.1 ≤ n ∧ n ≤ x.2 := by
  unfold haveB
  simp [List.any_eq_true]
end Go.Proofs.Ytamfmemdhldmjaa

namespace Go.Proofs.Ytamfmemdhldmjaa
open Go.RowKit Sets

theorem cuK_fits (chg : Int → Bool) {a : Int} {n m : Nat} (h1 : -99 ≤ a) (h2 : a + n ≤ 99) (hm : m ≤ n) : Fits (cuK chg a m) := by
  have hb := nxK_bound chg a m
  unfold cuK
  exact fits_snoc (clK_fits chg h1 h2 m hm) (by unfold I64; omega) (by unfold I64; omega)
theorem cuK_last (chg : Int → Bool) (a : Int) (m : Nat) : lo (cuK chg a m) ((cuK chg a m).length - 1) = nxK chg a m := by
  unfold lo
  rw [cuK_len, Nat.add_sub_cancel]
  unfold cuK
  rw [getD_snoc_eq rfl]
theorem cuK_ext {chg : Int → Bool} {a : Int} {m : Nat} (h : chg (a + m + 1) = false) : (cuK chg a m).set ((cuK chg a m).length - 1) (lo (cuK chg a m) ((cuK chg a m).length - 1), a + m + 1) = cuK chg a (m + 1) := by
  rw [cuK_last, cuK_len, Nat.add_sub_cancel]
  unfold cuK
  rw [cl_no h, nx_no h, List.set_append_right _ _ (Nat.le_refl _), Nat.sub_self]
  simp
  omega
theorem cuK_new {chg : Int → Bool} {a : Int} {m : Nat} (h : chg (a + m + 1) = true) : cuK chg a m ++ [(a + m + 1, a + m + 1)] = cuK chg a (m + 1) := by
  unfold cuK
  rw [cl_yes h, nx_yes h]
  simp
  omega
theorem has_q {wr : World} {B : Nat} {A : Option Addr} {c : Nat} {xs : List Sp} (R : Reads wr B A c xs) (v : Int) (n : Nat) :
    Calls Try.prog 101 #[.slice A xs.length c, .int .i64 v] (wr.drewN n) fun e w'' => e = .returned (.bool (haveB xs v)) ∧ ∃ m, w'' = wr.drewN m :=
  (specHas1_any A c xs v B _ (R.below (below_drewN (Below.refl B wr) n))).mono fun _ _ ⟨h1, h2⟩ => ⟨h1, n, h2.symm⟩

/-- where a table's parts lie: the cells that hold a column, and those that hold a test -/
theorem col_at {w : World} {A : Option Addr} {c : Nat} {cs : List Co} (h : ColsAt w w.heap.size A c cs) {k : Nat} (hk : k < cs.length) :
    ∃ b off, A = some ⟨b, off, none⟩ ∧ b < w.heap.size ∧ w.cell? ⟨b, off + k * 3, none⟩ = some (.bool (cs.getD k (false, 0, 0)).1) ∧ w.cell? ⟨b, off + k * 3 + 1, none⟩ = some (.int .i64 (cs.getD k (false, 0, 0)).2.1) ∧ w.cell? ⟨b, off + k * 3 + 2, none⟩ = some (.int .i64 (cs.getD k (false, 0, 0)).2.2) := by
  obtain ⟨_, _, hz | ⟨b, off, e, hB, hp⟩⟩ := h
  · omega
  · exact ⟨b, off, e, hB, hp k hk⟩
theorem test_at {w : World} {A : Option Addr} {c : Nat} {rs : List Rl} (h : RulesAt w w.heap.size A c rs) {i k : Nat} (hi : i < rs.length) (hk : k < (rs.getD i ([], 0)).1.length) :
    ∃ b off A2 c2 b2 off2 A3 c3, A = some ⟨b, off, none⟩ ∧ b < w.heap.size ∧ b2 < w.heap.size ∧ A2 = some ⟨b2, off2, none⟩ ∧ w.cell? ⟨b, off + i * 2, none⟩ = some (.slice A2 (rs.getD i ([], 0)).1.length c2) ∧ w.cell? ⟨b, off + i * 2 + 1, none⟩ = some (.int .i64 (rs.getD i ([], 0)).2) ∧ w.cell? ⟨b2, off2 + k, none⟩ = some (.slice A3 (tsK rs k i).length c3) ∧ Reads w w.heap.size A3 c3 (tsK rs k i) := by
  obtain ⟨_, _, hz | ⟨b, off, e, hB, hp⟩⟩ := h
  · omega
  · obtain ⟨⟨A2, c2, h1, h2⟩, h3⟩ := hp i hi
    obtain ⟨_, _, hz | ⟨b2, off2, e2, hB2, hp2⟩⟩ := h2
    · omega
    · obtain ⟨A3, c3, q1, q2⟩ := hp2 k hk
      rw [Nat.mul_one] at q1
      exact ⟨b, off, A2, c2, b2, off2, A3, c3, e, hB, hB2, e2, h1, h3, q1, q2⟩
/-- columns of a valid table -/
theorem tab_col {t : Tb} (h : tabB t = true) {k : Nat} (hk : k < t.cols.length) : -99 ≤ (t.cols.getD k (false, 0, 0)).2.1 ∧ (t.cols.getD k (false, 0, 0)).2.1 ≤ (t.cols.getD k (false, 0, 0)).2.2 ∧ (t.cols.getD k (false, 0, 0)).2.2 ≤ 99 := by
  have := (colB_iff _ _ _).1 ((tab_parts h).2.1 k hk)
  omega
theorem tab_tests {t : Tb} (h : tabB t = true) {i : Nat} (hi : i < t.rules.length) : (t.rules.getD i ([], 0)).1.length = t.cols.length := by
  have := (tab_parts h).2.2 i hi
  unfold rAt at this
  exact (rule_parts this).1
theorem tab_set {t : Tb} (h : tabB t = true) {i k : Nat} (hi : i < t.rules.length) (hk : k < t.cols.length) : validB (tsK t.rules k i) = true := by
  have := (tab_parts h).2.2 i hi
  unfold rAt at this
  have h2 := (rule_parts this).2.2.2 k hk
  unfold tAt at h2
  exact ((isT_iff _ _ _ _).1 h2).2.1
end Go.Proofs.Ytamfmemdhldmjaa

namespace Go.Proofs.Ytamfmemdhldmjaa
open Go.RowKit Sets

/-- a span begins at the j-th number, or has ended there -/
def evI (xs : List Sp) (q : Nat) (j : Int) : Bool := (List.range q).any fun p => (lo xs p + 99 == j) || (hi xs p + 100 == j)
def evR (rs : List Rl) (k : Nat) (i : Nat) (j : Int) : Bool := (List.range i).any fun i' => evI (tsK rs k i') (tsK rs k i').length j
theorem evI_succ (xs : List Sp) (q : Nat) (j : Int) : evI xs (q + 1) j = (evI xs q j || ((lo xs q + 99 == j) || (hi xs q + 100 == j))) := by
  unfold evI; rw [List.range_succ, List.any_append]; simp
theorem evR_succ (rs : List Rl) (k i : Nat) (j : Int) : evR rs k (i + 1) j = (evR rs k i j || evI (tsK rs k i) (tsK rs k i).length j) := by
  unfold evR; rw [List.range_succ, List.any_append]; simp

/-- A row of 200 flags of the call's own. -/
def FRow (w : World) (g : Nat) (f : Int → Bool) : Prop := (∀ j : Nat, j < 200 → w.cell? ⟨g, j, none⟩ = some (.bool (f j))) ∧ (∀ o, w.frozen? ⟨g, o, none⟩ = false) ∧ g < w.heap.size
theorem FRow.congr {w : World} {g : Nat} {f f' : Int → Bool} (h : FRow w g f) (he : ∀ j : Nat, j < 200 → f j = f' j) : FRow w g f' := ⟨fun j hj => by rw [← he j hj]; exact h.1 j hj, h.2⟩
theorem FRow.below {w w' : World} {B g : Nat} {f : Int → Bool} (h : FRow w g f) (hb : Below B w w') (hB : g < B) : FRow w' g f :=
  ⟨fun j hj => by rw [hb.cell (p := ⟨g, j, none⟩) hB]; exact h.1 j hj, fun o => by rw [hb.frozen (p := ⟨g, o, none⟩) hB]; exact h.2.1 o, Nat.lt_of_lt_of_le h.2.2 hb.size⟩
theorem FRow.set {w : World} {g : Nat} {f : Int → Bool} (h : FRow w g f) (i : Nat) (hi : i < 200) : FRow (w.setCell ⟨g, i, none⟩ (.bool true)) g (fun j => f j || ((i : Int) == j)) := by
  refine ⟨fun j hj => ?_, fun o => by rw [World.frozen?_setCell]; exact h.2.1 o, by simpa [World.setCell] using h.2.2⟩
  by_cases e : j = i
  · subst e
    rw [World.cell?_setCell_same' _ _ _ (by rw [h.1 j hj]; rfl)]; simp
  · rw [World.cell?_setCell_other _ _ _ _ (fun h => by injection h with _ h; omega), h.1 j hj]
    have : ((i : Int) == (j : Int)) = false := by simp; omega
    show some (Value.bool (f j)) = some (Value.bool (f j || ((i : Int) == (j : Int))))
    rw [this]; simp
theorem zeroF : Try.zeroCells140 = Array.replicate 200 (.bool false) := by kernel_rfl

set_option maxRecDepth 100000 in
set_option maxHeartbeats 4000000 in
theorem events_any (v : Value) (t : Tb) (k : Nat) (w : World) (hT : TabAt w w.heap.size v t) (hV : tabB t = true) (hk : k < t.cols.length) :
    Calls Try.prog 102 #[v, .int .i64 k] w fun e w' => e = .returned (.func (.func 119) #[] #[.pointer (some ⟨w.heap.size + 1, 0, none⟩)]) ∧ FRow w' (w.heap.size + 1) (evR t.rules k t.rules.length) ∧ Below w.heap.size w w' := by
  obtain ⟨A1, c1, A2, c2, rfl, hC, hR⟩ := hT
  have HT := Lib.hid (fun i (hi : i < t.rules.length) => tab_tests hV hi)
  have HVS := Lib.hid (fun i (hi : i < t.rules.length) => tab_set hV hi hk)
  have HR12 := Lib.hid (tab_parts hV).1.2.2.1
  obtain ⟨cs, x, rs⟩ := t
  simp only [] at hR hC hk HT HVS HR12 ⊢
  have HR := Lib.hid hR
  have HK := Lib.hid hk
  have X := Lib.hid (TBox.made w A1 cs.length c1 x A2 rs.length c2 32)
  obtain ⟨p0, p1, p2, p3⟩ := X.out
  have hmf : ∀ (fn : Fn) (first cap : Array Value) (w : World), (Instr.makeFunc fn first cap).run Try.prog w = .ok (.func fn first cap) w := fun _ _ _ _ => rfl
  have hb0 : Below w.heap.size w ((w.alloc (.cells #[.slice A1 cs.length c1, .int .i64 x, .slice A2 rs.length c2] 32)).alloc (.cells Try.zeroCells140 140)) := ((Below.refl _ _).alloc (Nat.le_refl _) _).alloc (by simp) _
  have hF0 : FRow ((w.alloc (.cells #[.slice A1 cs.length c1, .int .i64 x, .slice A2 rs.length c2] 32)).alloc (.cells Try.zeroCells140 140)) (w.heap.size + 1) (fun j => evR rs k 0 j || false) := by
    have hsz : w.heap.size + 1 = (w.alloc (.cells #[.slice A1 cs.length c1, .int .i64 x, .slice A2 rs.length c2] 32)).heap.size := by simp
    refine ⟨fun j hj => ?_, fun o => World.frozen?_alloc_at _ _ _ _ (by simp), by simp⟩
    rw [hsz, World.cell?_alloc_new, zeroF]
    simp [evR, hj]
  clear hV hk hC hR p0 p1 p3 X
  go_enter Try.func102, Try.ntmps102
  go_wp2
  generalize (w.alloc (.cells #[.slice A1 cs.length c1, .int .i64 x, .slice A2 rs.length c2] 32)).alloc (.cells Try.zeroCells140 140) = W at hb0 hF0 ⊢
  clear p2
  go_loopw [13] (fun i wr => ∃ j : Nat, j ≤ rs.length ∧ i = .int .i64 j ∧ FRow wr (w.heap.size + 1) (fun n => evR rs k j n || false) ∧ Below w.heap.size w wr) (fun i _ => rs.length - (intOf i).toNat)
  case atStart => exact ⟨0, Nat.zero_le _, rfl, hF0, hb0⟩
  case round =>
    clear hF0 hb0
    obtain ⟨j, hj, rfl, hF, hb⟩ := hrel
    by_cases hjl : j < rs.length
    · have hjk : (j : Int) < (rs.length : Int) := by omega
      have hkt : k < (rs.getD j ([], 0)).1.length := by rw [HT.out j hjl]; exact HK.out
      have hklt : (k : Int) < ((rs.getD j ([], 0)).1.length : Int) := by omega
      obtain ⟨bb, oo, A3, c3, b2, o2, A4, c4, rfl, hbb, hbb2, rfl, u1, u2, u3, u4⟩ := test_at HR.out hjl hkt
      replace u1 := (hb.cell (p := ⟨bb, oo + j * 2, none⟩) hbb).trans u1
      replace u2 := (hb.cell (p := ⟨bb, oo + j * 2 + 1, none⟩) hbb).trans u2
      have U4 := Lib.hid u4
      replace u3 := (hb.cell (p := ⟨b2, o2 + k, none⟩) hbb2).trans u3
      clear u4
      have hvs := HVS.out j hjl
      have HSUC := Lib.hid (fun n => evR_succ rs k j n)
      have hr12 := HR12.out
      obtain ⟨⟨xss, y⟩, hxs⟩ : ∃ r, rs.getD j ([], 0) = r := ⟨_, rfl⟩
      rw [hxs] at u1 u2 hklt
      simp only [] at u1 u2 hklt
      obtain ⟨ts, hts⟩ : ∃ ts, tsK rs k j = ts := ⟨_, rfl⟩
      rw [hts] at u3 U4 hvs HSUC
      have hbx : Below wr.heap.size wr (wr.alloc (.cells #[.slice (some ⟨b2, o2, none⟩) xss.length c3, .int .i64 y] 100)) := (Below.refl _ _).alloc (Nat.le_refl _) _
      have u3' := (hbx.cell (p := ⟨b2, o2 + k, none⟩) (Nat.lt_of_lt_of_le hbb2 hb.size)).trans u3
      have q0 : (wr.alloc (.cells #[.slice (some ⟨b2, o2, none⟩) xss.length c3, .int .i64 y] 100)).cell? ⟨wr.heap.size, 0, none⟩ = some (.slice (some ⟨b2, o2, none⟩) xss.length c3) := by rw [World.cell?_alloc_new]; rfl
      have HF := Lib.hid (hF.below hbx hF.2.2)
      have HB := Lib.hid (hb.trans (hbx.mono hb.size))
      have HVT := Lib.hid hvs
      have hl12 := valid_len hvs
      clear u3 hF hb hbx hvs hxs hts hkt
      go_wp2
      generalize wr.alloc (.cells #[.slice (some ⟨b2, o2, none⟩) xss.length c3, .int .i64 y] 100) = W1 at u3' q0 HF HB ⊢
      clear u3' q0 u1 u2
      obtain ⟨hlc, hc, hfit, hrow⟩ := U4.out
      clear hfit
      go_loopw [23] (fun i wq => ∃ q : Nat, q ≤ ts.length ∧ i = .int .i64 q ∧ FRow wq (w.heap.size + 1) (fun n => evR rs k j n || evI ts q n) ∧ Below w.heap.size w wq) (fun i _ => ts.length - (intOf i).toNat)
      case atStart => exact ⟨0, Nat.zero_le _, rfl, HF.out.congr (fun n _ => by simp [evI]), HB.out⟩
      case round =>
        obtain ⟨q, hq, rfl, hFq, hbq⟩ := hrel
        by_cases hql : q < ts.length
        · rcases hrow with rfl | ⟨bs, os, rfl, hbs, hrow⟩
          · simp at hql
          · have hqi : (q : Int) < (ts.length : Int) := by omega
            obtain ⟨d1, d2⟩ := (hrow.below hbq hbs) q hql
            obtain ⟨v1, v2, v3⟩ := valid_at HVT.out hql
            have HSI := Lib.hid (fun n => evI_succ ts q n)
            have hbx : Below wr.heap.size wr (wr.alloc (.cells #[.int .i64 (lo ts q), .int .i64 (hi ts q)] 78)) := (Below.refl _ _).alloc (Nat.le_refl _) _
            have c0 : (wr.alloc (.cells #[.int .i64 (lo ts q), .int .i64 (hi ts q)] 78)).cell? ⟨wr.heap.size, 0, none⟩ = some (.int .i64 (lo ts q)) := by rw [World.cell?_alloc_new]; rfl
            have c1 : (wr.alloc (.cells #[.int .i64 (lo ts q), .int .i64 (hi ts q)] 78)).cell? ⟨wr.heap.size, 1, none⟩ = some (.int .i64 (hi ts q)) := by rw [World.cell?_alloc_new]; rfl
            have hF2 := hFq.below hbx hFq.2.2
            have hB2 := hbq.trans (hbx.mono hbq.size)
            have hne : wr.heap.size ≠ w.heap.size + 1 := by have := hFq.2.2; omega
            generalize lo ts q = a at d1 v1 v2 c0 c1 hF2 hB2 hbx HSI
            generalize hi ts q = b at d2 v2 v3 c0 c1 hF2 hB2 hbx HSI
            obtain ⟨ia, hia⟩ : ∃ ia : Nat, (a + 99).toNat = ia := ⟨_, rfl⟩
            obtain ⟨ib, hib⟩ : ∃ ib : Nat, (b + 1 + 99).toNat = ib := ⟨_, rfl⟩
            have hia2 : ia < 200 := by omega
            have hib2 : ib < 200 := by omega
            have g1 := hF2.1 ia hia2
            have g2 := hF2.2.1 ia
            have x1 : 0 ≤ a - -99 := by omega
            have x2 : a - -99 < 200 := by omega
            have x3 : 0 ≤ a + 99 := by omega
            have x4 : a + 99 < 200 := by omega
            have x5 : 0 ≤ b + 1 - -99 := by omega
            have x6 : b + 1 - -99 < 200 := by omega
            have x7 : 0 ≤ b + 1 + 99 := by omega
            have x8 : b + 1 + 99 < 200 := by omega
            have hF3 := hF2.set ia hia2
            have g3 := hF3.1 ib hib2
            have g4 := hF3.2.1 ib
            have hF4 := hF3.set ib hib2
            have HF4 := Lib.hid hF4
            have cc1 := (World.cell?_setCell_other (w := wr.alloc (.cells #[.int .i64 a, .int .i64 b] 78)) ⟨w.heap.size + 1, ia, none⟩ ⟨wr.heap.size, 1, none⟩ (.bool true) (by intro h; injection h with h _; omega)).trans c1
            have HB4 := Lib.hid ((hB2.setCell (p := ⟨w.heap.size + 1, ia, none⟩) (by simp) (.bool true)).setCell (p := ⟨w.heap.size + 1, ib, none⟩) (by simp) (.bool true))
            have HLQ := Lib.hid hql
            have HEV := Lib.hid (show ∀ n : Nat, n < 200 → (((evR rs k j n || evI ts q n) || ((ia : Int) == (n : Int))) || ((ib : Int) == (n : Int))) = (evR rs k j n || evI ts (q + 1) n) from fun n _ => by
              rw [HSI.out]
              have e1 : ((ia : Int) == (n : Int)) = (a + 99 == (n : Int)) := by rw [show (ia : Int) = a + 99 by omega]
              have e2 : ((ib : Int) == (n : Int)) = (b + 100 == (n : Int)) := by rw [show (ib : Int) = b + 100 by omega]
              rw [e1, e2]
              simp only [Bool.or_assoc])
            clear hF2 hF3 hF4 hB2 hbx hFq hbq hrow c1 hql
            go_wp2
            go_roundw
            case rel => exact ⟨q + 1, HLQ.out, by go_num, HF4.out.congr HEV.out, HB4.out⟩
            case measure => simp [intOf]; have := HLQ.out; omega
        · obtain rfl : q = ts.length := by omega
          have HFQ := Lib.hid hFq
          clear hFq
          go_wp2
          go_roundw
          case rel => exact ⟨j + 1, hjl, by go_num, HFQ.out.congr (fun n _ => by simp only [HSUC.out, Bool.or_false]), hbq⟩
          case measure => simp [intOf]; omega
    · obtain rfl : j = rs.length := by omega
      have HF := Lib.hid (hF.congr (f' := evR rs k rs.length) (fun n _ => by simp))
      clear hF
      go_wp2
      go_ret
      exact ⟨rfl, HF.out, hb⟩
end Go.Proofs.Ytamfmemdhldmjaa

namespace Go.Proofs.Ytamfmemdhldmjaa
open Go.RowKit Sets

/-- a block that holds a column -/
def CBox (w : World) (g : Nat) (L : Bool) (a b : Int) : Prop := w.cell? ⟨g, 0, none⟩ = some (.bool L) ∧ w.cell? ⟨g, 1, none⟩ = some (.int .i64 a) ∧ w.cell? ⟨g, 2, none⟩ = some (.int .i64 b) ∧ g < w.heap.size
theorem CBox.made (w : World) (L : Bool) (a b : Int) (t : TypeId) : CBox (w.alloc (.cells #[.bool L, .int .i64 a, .int .i64 b] t)) w.heap.size L a b := by
  refine ⟨?_, ?_, ?_, by simp⟩ <;> (rw [World.cell?_alloc_new]; rfl)
theorem CBox.step {w w' : World} {g : Nat} {L : Bool} {a b : Int} (h : CBox w g L a b) (hb : Below w.heap.size w w') : CBox w' g L a b :=
  ⟨(hb.cell (p := ⟨g, 0, none⟩) h.2.2.2).trans h.1, (hb.cell (p := ⟨g, 1, none⟩) h.2.2.2).trans h.2.1, (hb.cell (p := ⟨g, 2, none⟩) h.2.2.2).trans h.2.2.1, Nat.lt_of_lt_of_le h.2.2.2 hb.size⟩
theorem CBox.grown {w w' : World} {row : Option Nat} {g : Nat} {L : Bool} {a b : Int} (h : CBox w g L a b) (hg : w.grownBy w' row) (hne : ∀ i, row = some i → i ≠ g) : CBox w' g L a b := by
  have hh := hg.block g h.2.2.2 (fun e => hne g e.symm rfl)
  exact ⟨(World.cell?_of_block (a := ⟨g, 0, none⟩) hh).trans h.1, (World.cell?_of_block (a := ⟨g, 1, none⟩) hh).trans h.2.1, (World.cell?_of_block (a := ⟨g, 2, none⟩) hh).trans h.2.2.1, Nat.lt_of_lt_of_le h.2.2.2 hg.size⟩
/-- blocks below a bound keep what they hold -/
theorem TBox.low {w w' : World} {B g : Nat} {A1 : Option Addr} {n1 c1 : Nat} {x : Int} {A2 : Option Addr} {n2 c2 : Nat} (h : TBox w g A1 n1 c1 x A2 n2 c2) (hb : Below B w w') (hg : g < B) : TBox w' g A1 n1 c1 x A2 n2 c2 :=
  ⟨(hb.cell (p := ⟨g, 0, none⟩) hg).trans h.1, (hb.cell (p := ⟨g, 1, none⟩) hg).trans h.2.1, (hb.cell (p := ⟨g, 2, none⟩) hg).trans h.2.2.1, Nat.lt_of_lt_of_le h.2.2.2 hb.size⟩
theorem CBox.low {w w' : World} {B g : Nat} {L : Bool} {a b : Int} (h : CBox w g L a b) (hb : Below B w w') (hg : g < B) : CBox w' g L a b :=
  ⟨(hb.cell (p := ⟨g, 0, none⟩) hg).trans h.1, (hb.cell (p := ⟨g, 1, none⟩) hg).trans h.2.1, (hb.cell (p := ⟨g, 2, none⟩) hg).trans h.2.2.1, Nat.lt_of_lt_of_le h.2.2.2 hb.size⟩

set_option maxRecDepth 100000 in
set_option maxHeartbeats 4000000 in
theorem specCuts_any (v : Value) (t : Tb) (k : Nat) (w : World) (hT : TabAt w w.heap.size v t) (hV : tabB t = true) (hk : k < t.cols.length) :
    Calls Try.prog 63 #[v, .int .i64 k] w fun e w' => ∃ v', e = .returned v' ∧ OwnS w' w.heap.size v' (cutC t k) ∧ Fits (cutC t k) ∧ Below w.heap.size w w' := by
  obtain ⟨i0, hi0, hz0, hz1, hz2⟩ := infoSp
  obtain ⟨A1, c1, A2, c2, rfl, hC, hR⟩ := hT
  have hcol := tab_col hV hk
  have HT := Lib.hid (fun i (hi : i < t.rules.length) => tab_tests hV hi)
  have HR12 := Lib.hid (tab_parts hV).1.2.2.1
  obtain ⟨cs, x, rs⟩ := t
  simp only [] at hR hC hk hcol HT HR12 ⊢
  have HR := Lib.hid hR
  have HK := Lib.hid hk
  obtain ⟨b1, off1, rfl, hB1, k1, k2, k3⟩ := col_at hC hk
  have hkl : (k : Int) < (cs.length : Int) := by omega
  have HCUT := Lib.hid (show cutC ⟨cs, x, rs⟩ k = cuK (chgK rs k) (cs.getD k (false, 0, 0)).2.1 ((cs.getD k (false, 0, 0)).2.2 - (cs.getD k (false, 0, 0)).2.1).toNat from rfl)
  obtain ⟨⟨L, a, b⟩, hcv⟩ : ∃ c, cs.getD k (false, 0, 0) = c := ⟨_, rfl⟩
  rw [hcv] at k1 k2 k3 hcol HCUT
  simp only [] at k1 k2 k3 hcol HCUT
  obtain ⟨n, hn⟩ : ∃ n : Nat, b = a + n := ⟨(b - a).toNat, by omega⟩
  rw [show (b - a).toNat = n by omega] at HCUT
  have HAB := Lib.hid hcol
  have HN := Lib.hid hn
  rw [HCUT.out]
  obtain ⟨chg, hchg⟩ : ∃ chg, chgK rs k = chg := ⟨_, rfl⟩
  have HCHG := Lib.hid hchg
  rw [hchg]
  have hbT : Below w.heap.size w (w.alloc (.cells #[.slice (some ⟨b1, off1, none⟩) cs.length c1, .int .i64 x, .slice A2 rs.length c2] 32)) := (Below.refl _ _).alloc (Nat.le_refl _) _
  have X := Lib.hid (TBox.made w (some ⟨b1, off1, none⟩) cs.length c1 x A2 rs.length c2 32)
  obtain ⟨p0, p1, p2, p3⟩ := X.out
  have d1 := (hbT.cell (p := ⟨b1, off1 + k * 3, none⟩) hB1).trans k1
  have d2 := (hbT.cell (p := ⟨b1, off1 + k * 3 + 1, none⟩) hB1).trans k2
  have d3 := (hbT.cell (p := ⟨b1, off1 + k * 3 + 2, none⟩) hB1).trans k3
  have HBT := Lib.hid hbT
  have hsz : (w.alloc (.cells #[.slice (some ⟨b1, off1, none⟩) cs.length c1, .int .i64 x, .slice A2 rs.length c2] 32)).heap.size = w.heap.size + 1 := by simp
  have HSZ := Lib.hid hsz
  have hb0 : Below w.heap.size w (((w.alloc (.cells #[.slice (some ⟨b1, off1, none⟩) cs.length c1, .int .i64 x, .slice A2 rs.length c2] 32)).alloc (.cells #[.bool L, .int .i64 a, .int .i64 b] 102)).alloc (.cells #[.int .i64 a, .int .i64 a] 78)) := (hbT.alloc (by simp) _).alloc (by simp; omega) _
  have XC := Lib.hid (((CBox.made (w.alloc (.cells #[.slice (some ⟨b1, off1, none⟩) cs.length c1, .int .i64 x, .slice A2 rs.length c2] 32)) L a b 102)).step ((Below.refl _ _).alloc (Nat.le_refl _) (.cells #[.int .i64 a, .int .i64 a] 78)))
  have XT := Lib.hid ((X.out.step ((Below.refl _ _).alloc (Nat.le_refl _) (.cells #[.bool L, .int .i64 a, .int .i64 b] 102))).step ((Below.refl _ _).alloc (Nat.le_refl _) (.cells #[.int .i64 a, .int .i64 a] 78)))
  have hsz2 : ((w.alloc (.cells #[.slice (some ⟨b1, off1, none⟩) cs.length c1, .int .i64 x, .slice A2 rs.length c2] 32)).alloc (.cells #[.bool L, .int .i64 a, .int .i64 b] 102)).heap.size = w.heap.size + 1 + 1 := by simp
  have hown0 : OwnS (((w.alloc (.cells #[.slice (some ⟨b1, off1, none⟩) cs.length c1, .int .i64 x, .slice A2 rs.length c2] 32)).alloc (.cells #[.bool L, .int .i64 a, .int .i64 b] 102)).alloc (.cells #[.int .i64 a, .int .i64 a] 78)) (w.heap.size + 1 + 1) (.slice (some ⟨w.heap.size + 1 + 1, 0, none⟩) 1 1) (cuK chg a 0) := by
    have := World.ownsRow_lit ((w.alloc (.cells #[.slice (some ⟨b1, off1, none⟩) cs.length c1, .int .i64 x, .slice A2 rs.length c2] 32)).alloc (.cells #[.bool L, .int .i64 a, .int .i64 b] 102)) (e := 78) (size := 2) (base := w.heap.size + 1 + 1) #[.int .i64 a, .int .i64 a] 1 (by rw [hsz2]; exact Nat.le_refl _) (by decide) rfl
    rw [hsz2] at this
    simpa [OwnS, cuK, clK, nxK, cellsOf] using this
  rw [hsz] at XC
  obtain ⟨ha1, hab, hb9⟩ := hcol
  have ha9 : a ≤ 99 := by omega
  have HCK := Lib.hid (fun (m : Nat) (hm : m ≤ n) => cuK_fits chg (n := n) (m := m) ha1 (by omega) hm)
  have HCL := Lib.hid (fun (m : Nat) => Nat.le_trans (Nat.le_of_eq (cuK_len chg a m)) (Nat.succ_le_succ (clK_len chg a m)))
  have HN199 : Hid (n ≤ 198) := Lib.hid (by omega)
  clear hC hR hk hcv k1 k2 k3 hchg p1 p2 p3 hbT hsz hn X hsz2 HAB HBT HSZ
  go_enter Try.func63, Try.ntmps63
  go_wp2
  clear p0 d1 d2 d3
  generalize (((w.alloc (.cells #[.slice (some ⟨b1, off1, none⟩) cs.length c1, .int .i64 x, .slice A2 rs.length c2] 32)).alloc (.cells #[.bool L, .int .i64 a, .int .i64 b] 102)).alloc (.cells #[.int .i64 a, .int .i64 a] 78)) = W at hb0 XC XT hown0 ⊢
  go_loopw [6, 7] (fun u v wr => ∃ m : Nat, m ≤ n ∧ v = .int .i64 (a + m + 1) ∧ OwnS wr (w.heap.size + 1 + 1) u (cuK chg a m) ∧ Below w.heap.size w wr ∧ TBox wr w.heap.size (some ⟨b1, off1, none⟩) cs.length c1 x A2 rs.length c2 ∧ CBox wr (w.heap.size + 1) L a b) (fun _ v _ => (b + 1 - intOf v).toNat)
  case atStart => exact ⟨0, Nat.zero_le _, by simp, hown0, hb0, XT.out, XC.out⟩
  case round =>
    clear hb0 hown0 XT XC
    obtain ⟨m, hm, rfl, hown, hb, hxt, hxc⟩ := hrel
    have HXT := Lib.hid hxt
    have HXC := Lib.hid hxc
    have HB := Lib.hid hb
    have HO := Lib.hid hown
    obtain ⟨q0, q1, q2, q3⟩ := hxc
    have hnb : b = a + (n : Int) := HN.out
    have HNB := Lib.hid hnb
    have hn198 := HN199.out
    clear q0 q1 q3 hxt hown hb
    by_cases hlt : m < n
    · have hle : a + (m : Int) + 1 ≤ b := by omega
      have hv1 : -99 ≤ a + (m : Int) + 1 := by omega
      have hv2 : a + (m : Int) + 1 ≤ 99 := by omega
      obtain ⟨v, hv⟩ : ∃ v, a + (m : Int) + 1 = v := ⟨_, rfl⟩
      have HVV := Lib.hid hv
      rw [hv] at hle hv1 hv2 ⊢
      clear hv hnb hab
      go_wp2
      clear q2
      go_loopw [8, 9] (fun s i wq => ∃ j : Nat, j ≤ rs.length ∧ i = .int .i64 j ∧ ((s = .bool true ∧ Hid (∀ i, i < j → sameK rs k v i = true)) ∨ (s = .bool false ∧ Hid (∃ i, i < rs.length ∧ sameK rs k v i = false))) ∧ Below wr.heap.size wr wq) (fun _ i _ => rs.length - (intOf i).toNat)
      case atStart => exact ⟨0, Nat.zero_le _, rfl, .inl ⟨rfl, Lib.hid (fun i hi => absurd hi (by omega))⟩, Below.refl _ _⟩
      case round =>
        obtain ⟨j, hj, rfl, hs, hbq⟩ := hrel
        obtain ⟨p0, p1, p2, p3⟩ := HXT.out.step hbq
        have HBQ := Lib.hid hbq
        clear p0 p1 p3 hbq
        have hr12 := HR12.out
        rcases hs with ⟨rfl, hall⟩ | ⟨rfl, hsome⟩
        · by_cases hjl : j < rs.length
          · have hjk : (j : Int) < (rs.length : Int) := by omega
            have hRq := Lib.hid ((HR.out.below (HB.out.trans (HBQ.out.mono HB.out.size))).mono (Nat.le_trans HB.out.size HBQ.out.size))
            have hkt : k < (rs.getD j ([], 0)).1.length := by rw [HT.out j hjl]; exact HK.out
            obtain ⟨bb, oo, A3, c3, b2, o2, A4, c4, rfl, hbb, hbb2, rfl, u1, u2, u3, u4⟩ := test_at hRq.out hjl hkt
            have hklt : (k : Int) < ((rs.getD j ([], 0)).1.length : Int) := by omega
            have hsm : Hid (sameK rs k v j = (haveB (tsK rs k j) v == haveB (tsK rs k j) (v - 1))) := Lib.hid rfl
            obtain ⟨t, ht⟩ : ∃ t, sameK rs k v j = t := ⟨_, rfl⟩
            have HTJ := Lib.hid ht
            have htt : Hid ((haveB (tsK rs k j) v == haveB (tsK rs k j) (v - 1)) = t) := Lib.hid (hsm.out.symm.trans ht)
            generalize tsK rs k j = ts at u3 u4 htt
            generalize (rs.getD j ([], 0)).1.length = tl at u1 hklt
            have U4 := Lib.hid u4
            have hvm : -100 ≤ v - 1 := by omega
            clear ht u4 hkt hsm u2
            go_wp2
            go_quiet (first | (go_at_call 101; with_reducible exact has_q U4.out v _) | (go_at_call 101; with_reducible exact has_q U4.out (v - 1) _))
            go_wp2
            rw [htt.out]
            have hbn := below_drewN HBQ.out nq
            have HBN := Lib.hid hbn
            clear hbn u1 u3 p2
            go_roundw
            case rel =>
              refine ⟨j + 1, hjl, by go_num, ?_, HBN.out⟩
              cases t
              · exact .inr ⟨rfl, Lib.hid ⟨j, hjl, HTJ.out⟩⟩
              · refine .inl ⟨rfl, Lib.hid (fun i hi => ?_)⟩
                by_cases e : i = j
                · rw [e]; exact HTJ.out
                · exact hall.out i (by omega)
            case measure => simp [intOf]; omega
          · obtain rfl : j = rs.length := by omega
            -- no test changes: the last cut is longer
            have hch : chg (a + (m : Int) + 1) = false := by
              rw [HVV.out, ← HCHG.out]
              unfold chgK
              rw [all_yes hall.out]; rfl
            have HEX := Lib.hid (cuK_ext hch)
            have hpos : 0 < (cuK chg a m).length := by rw [cuK_len]; omega
            have HBQ2 := Lib.hid (HB.out.trans (HBQ.out.mono HB.out.size))
            obtain ⟨g2, cap2, hu, hb2, hg2, hlc2, hcm2, hrow2, hfr2, hown2⟩ := (HO.out.below HBQ.out).block hpos
            subst hu
            obtain ⟨e1, e2⟩ := hrow2 ((cuK chg a m).length - 1) (by omega)
            simp only [Nat.zero_add] at e1 e2
            have f2 := hfr2 (((cuK chg a m).length - 1) * 2 + 1)
            have hset := Lib.hid (OwnS.set_hi hown2 (i := (cuK chg a m).length - 1) (by omega) v)
            have HTX2 := HXT.out.step HBQ.out
            have HCX2 := HXC.out.step HBQ.out
            have hbs : Below w.heap.size w (wr.setCell ⟨g2, ((cuK chg a m).length - 1) * 2 + 1, none⟩ (.int .i64 v)) := HBQ2.out.setCell (by simp only; omega) _
            have hks : Below (w.heap.size + 1 + 1) wr (wr.setCell ⟨g2, ((cuK chg a m).length - 1) * 2 + 1, none⟩ (.int .i64 v)) := (Below.refl _ _).setCell (by simp only; omega) _
            have HR3 := Lib.hid (And.intro hbs (And.intro (HTX2.low hks (by omega)) (HCX2.low hks (by omega))))
            have HLEN := Lib.hid (HCL.out m)
            have HEX2 := Lib.hid (show (cuK chg a m).set ((cuK chg a m).length - 1) (lo (cuK chg a m) ((cuK chg a m).length - 1), v) = cuK chg a (m + 1) by rw [← HVV.out]; exact HEX.out)
            have HLN := Lib.hid (show (cuK chg a m).length = (cuK chg a (m + 1)).length by rw [← HEX.out, List.length_set])
            have hp1 : (1 : Int) ≤ ((cuK chg a m).length : Int) := by omega
            have hp2 : (0 : Int) ≤ ((cuK chg a m).length : Int) - 1 := by omega
            have hp3 : ((cuK chg a m).length : Int) - 1 < ((cuK chg a m).length : Int) := by omega
            have hl12 : (cuK chg a m).length ≤ 300 := by have := HLEN.out; omega
            clear hrow2 hfr2 hown2 hch HTX2 HCX2 hbs hks hall
            generalize cuK chg a m = L1 at *
            go_wp2
            go_roundw
            case rel => exact ⟨m + 1, by omega, by have := HVV.out; go_num, by rw [← HEX2.out]; exact hset.out, HR3.out.1, HR3.out.2.1, HR3.out.2.2⟩
            case measure => have := HVV.out; have := HNB.out; simp [intOf]; omega
        · -- some test changes: a further cut
          have hch : chg (a + (m : Int) + 1) = true := by
            rw [HVV.out, ← HCHG.out]
            obtain ⟨i, h1, h2⟩ := hsome.out
            unfold chgK
            rw [all_no h1 h2]; rfl
          have HEX := Lib.hid (show cuK chg a m ++ [(v, v)] = cuK chg a (m + 1) by rw [← HVV.out]; exact cuK_new hch)
          have HBQ2 := Lib.hid (HB.out.trans (HBQ.out.mono HB.out.size))
          have hown3 := HO.out.below HBQ.out
          have hown4 := World.ownsRow.alloc hown3 (.cells #[.int .i64 v, .int .i64 v] 78)
          have HL' := Lib.hid (show ∀ i, u6.ownBlock = some i → w.heap.size + 1 + 1 ≤ i from fun i hi => (hown3.lt i hi).1)
          have hb3 : Below w.heap.size w (wr.alloc (.cells #[.int .i64 v, .int .i64 v] 78)) := HBQ2.out.alloc HBQ2.out.size _
          have HXT3 := Lib.hid ((HXT.out.step HBQ.out).step ((Below.refl _ _).alloc (Nat.le_refl _) (.cells #[.int .i64 v, .int .i64 v] 78)))
          have HXC3 := Lib.hid ((HXC.out.step HBQ.out).step ((Below.refl _ _).alloc (Nat.le_refl _) (.cells #[.int .i64 v, .int .i64 v] 78)))
          have hl12 : (cuK chg a m).length ≤ 300 := by have := HCL.out m; omega
          have HL12 := Lib.hid hl12
          have hszq : w.heap.size + 1 < wr.heap.size := Nat.lt_of_lt_of_le HXC.out.2.2.2 HBQ.out.size
          have HSZQ := Lib.hid hszq
          clear hown3 hch hsome hl12 hszq
          by_cases hjl : j < rs.length
          all_goals
            have hjc : ((j : Int) < (rs.length : Int)) ∨ ¬ ((j : Int) < (rs.length : Int)) := by omega
            first | (have hjd : (j : Int) < (rs.length : Int) := by omega) | (have hjd : decide ((j : Int) < (rs.length : Int)) = false := decide_eq_false (by omega))
            clear hjc
            go_wp2_with (at_builtin; refine wpList_append_own _ rfl (.tmp 72) (.tmp 76) 43 rfl (w.heap.size + 1 + 1) 78 i0 _ 2 16 Try.underlying43 hi0 hz0 hz1 hz2 rfl (by decide) _ (cuK chg a m).length (cellsOf (cuK chg a m)) rfl hown4 ⟨wr.heap.size, 0, none⟩ 1 1 [.int .i64 v, .int .i64 v] rfl rfl ?hc1 ?hc2 ?hc3 ?hc4 ?hc5 ?_; rotate_right; intro v' w5 hown5 hgrow _)
            case hc1 => exact cell_one _ _ _ _ rfl
            case hc2 => simp [Value.oneCell']
            case hc3 => have := HL12.out; unfold maxLen; omega
            case hc4 => have := HL12.out; omega
            case hc5 => have := HSZQ.out; simp; omega
            have hb5 := hb3.grown hgrow hb3.size (fun i hi => by have := HL'.out i hi; omega)
            have hx5 := HXT3.out.grown hgrow (fun i hi => by have := HL'.out i hi; omega)
            have hc5 := HXC3.out.grown hgrow (fun i hi => by have := HL'.out i hi; omega)
            go_roundw
            case rel => exact ⟨m + 1, by omega, by have := HVV.out; go_num, by rw [← HEX.out]; exact OwnS.of_append hown5, hb5, hx5, hc5⟩
            case measure => have := HVV.out; have := HNB.out; simp [intOf]; omega
    · obtain rfl : m = n := by omega
      have hle : decide (a + (m : Int) + 1 ≤ b) = false := decide_eq_false (by omega)
      have HF := Lib.hid (HCK.out m (Nat.le_refl _))
      have HOB := Lib.hid (HO.out.mono (show w.heap.size ≤ w.heap.size + 1 + 1 by omega))
      clear hab
      go_wp2
      go_ret
      exact ⟨_, rfl, HOB.out, HF.out, HB.out⟩
end Go.Proofs.Ytamfmemdhldmjaa
