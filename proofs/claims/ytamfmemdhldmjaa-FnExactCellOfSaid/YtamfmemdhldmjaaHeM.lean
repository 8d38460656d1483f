/-
  The iterator over the numbers at which tests change.
-/
import Derived.Test.YtamfmemdhldmjaaHaM
import Derived.Test.YtamfmemdhldmjaaIt
import Derived.WalkMore
import Derived.Test.YtamfmemdhldmjaaUkM
namespace Go.Proofs.Ytamfmemdhldmjaa
open Go.RowKit Go.Shelf Sets
attribute [local go_sem] Oper.semAt_some

def flagsV (f : Int → Bool) : List Value := (List.range 200).map fun (j : Nat) => Value.bool (f j)
theorem flagsV_at {f : Int → Bool} {j : Nat} (hj : j < 200) : (flagsV f)[j]? = some (.bool (f j)) := by
  unfold flagsV
  rw [List.getElem?_map, List.getElem?_range hj]; rfl
theorem flags_load {W : World} {g : Nat} {f : Int → Bool} (h : FRow W g f) : (Instr.loadAt 140 (.pointer (some ⟨g, 0, none⟩))).run Try.prog W = .ok (.agg (flagsV f).toArray) W :=
  run_loadAt_mid W g 0 140 (flagsV f) _ (fun j v hv => by
    have hj : j < 200 := by
      have := (List.getElem?_eq_some_iff.1 hv).1
      simpa [flagsV] using this
    rw [flagsV_at hj] at hv
    injection hv with hv
    rw [Nat.zero_add, h.1 j hj, hv]) Try.underlying140 rfl (by simp only [flagsV, List.length_map, List.length_range]; kernel_rfl)
theorem flags_index (f : Int → Bool) {j : Nat} (hj : j < 200) (W : World) : (Instr.index 140 (.agg (flagsV f).toArray) (.int .i64 j)).run Try.prog W = .ok (.bool (f j)) W := by
  have hi : (Try.prog.info? 4).map (·.size) = some 1 := by kernel_rfl
  have hu := run_underlying Try.underlying140 W
  have hat := flagsV_at (f := f) hj
  have hsz : (flagsV f).length = 200 := by simp [flagsV]
  cases hq : Try.prog.info? 4 with
  | none => simp [hq] at hi
  | some i =>
    have hs : i.size = 1 := by simpa [hq] using hi
    simp [Instr.index, asIntOf, Sem.run_bind, hu, hj, part, sizeOf, typeInfo, hq, hs, isAgg, hat, go_sem]
theorem wpIn_load_run {F : Fence} {n : Nat} {P : Program} {o : Oper} {a : Act} {w : World} {K : Act → World → Prop} {Q : Exit → Act → World → Prop} {ty : TypeId} {x : Operand} {p v : Value} (hro : F.round = none) (ho : o.op = .load ty x) (hx : a.eval x = p)
    (hl : (Instr.loadAt ty p).run P w = .ok v w) (h : K (a.put o.dst v) w) : Oper.wpIn F n P o a w K Q := by
  unfold Oper.wpIn
  refine ⟨fun f hf => ?_, ?_⟩
  · simp [Oper.about, ho] at hf
  · rw [hro, Oper.semAt_none]
    unfold execOp
    simp only [ho, hx, Sem.run_bind, hl, Result.andThen_ok, Sem.run_pure]
    exact h
/-- the first numbers at which the tests change -/
def evF (f : Int → Bool) : Nat → List (Fin 200)
  | 0 => []
  | k + 1 => if h : k < 200 then (if f k = true then evF f k ++ [⟨k, h⟩] else evF f k) else evF f k
theorem evF_yes {f : Int → Bool} {k : Nat} (h : k < 200) (hf : f k = true) : evF f (k + 1) = evF f k ++ [⟨k, h⟩] := by rw [evF, dif_pos h, if_pos hf]
theorem evF_no {f : Int → Bool} {k : Nat} (hf : f k = false) : evF f (k + 1) = evF f k := by
  rw [evF]
  split
  · rw [if_neg (by rw [hf]; simp)]
  · rfl
theorem evF_len (f : Int → Bool) : ∀ k, (evF f k).length ≤ k := by
  intro k
  induction k with
  | zero => exact Nat.le_refl _
  | succ k ih =>
    rw [evF]
    split
    · split
      · rw [List.length_append]; simp; omega
      · omega
    · omega
abbrev encF (x : Fin 200) : Array Value := #[.int .i64 (-99 + (x.val : Int))]

set_option maxRecDepth 100000 in
set_option maxHeartbeats 2000000 in
theorem ev1_in (F : Fence) (n : Nat) (h7 : F.fn 119) (hro : F.round = none) (hn : 1 ≤ n) (l E : Nat) (f : Int → Bool) (J Jx : List (Fin 200) → World → Prop)
    (W : World)
    (hY : ∀ pre x W, J pre W → pre.length < 200 → YieldAt F (n - 1) Try.prog l (encF x) W fun e W' =>
      (e = .returned (.bool true) ∧ J (pre ++ [x]) W' ∧ True) ∨ (e = .returned (.bool false) ∧ Jx (pre ++ [x]) W'))
    (hE : FRow W E f) (h0 : J [] W) :
    CallsIn F n Try.prog 119 #[.func (.yield l) #[] #[], .pointer (some ⟨E, 0, none⟩)] W fun e W' => (∃ v, e = .returned v) ∧
      ((∃ ys, ys = evF f 200 ∧ J ys W') ∨ (∃ pre, (∃ k, k ≤ 200 ∧ pre = evF f k) ∧ Jx pre W')) := by
  have hld := flags_load hE
  have hidx := fun {j : Nat} (hj : j < 200) (W : World) => flags_index f hj W
  obtain ⟨arr, harr⟩ : ∃ arr, (flagsV f).toArray = arr := ⟨_, rfl⟩
  rw [harr] at hld
  have HI := Lib.hid (show ∀ (j : Nat) (W : World), j < 200 → (Instr.index 140 (.agg arr) (.int .i64 j)).run Try.prog W = .ok (.bool (f j)) W from fun j W hj => by rw [← harr]; exact hidx hj W)
  clear hidx harr hE
  refine callsIn_of_wp Try.func119 rfl h7 ?_ hro
  simp only [Try.ntmps119, List.size_toArray, List.length_cons, List.length_nil, Nat.reduceAdd, Nat.reduceSub, Array.replicate_succ, Array.replicate_zero, List.push_toArray, List.append_toArray, List.nil_append, List.cons_append]
  gi_wp2_with (refine wpIn_load_run hro rfl rfl hld ?_)
  clear hld
  gi_loopw [6] (fun i wr => ∃ k : Nat, k ≤ 200 ∧ i = .int .i64 k ∧ J (evF f k) wr) (fun i _ => 200 - (intOf i).toNat)
  case atStart => exact ⟨0, Nat.zero_le _, rfl, h0⟩
  case round =>
    clear h0
    obtain ⟨k, hk, rfl, hJ⟩ := hrel
    by_cases hlt : k < 200
    · have hkl : (k : Int) < 200 := by omega
      have hix := HI.out k wr hlt
      have hlen : (evF f k).length < 200 := Nat.lt_of_le_of_lt (evF_len f k) hlt
      cases hf : f k
      · rw [hf] at hix
        have hnx := Lib.hid (evF_no hf)
        clear hf
        gi_wp2
        refine ⟨(fun f hf => by cases hf), ?_⟩
        gi_wp2
        go_roundw
        case rel => exact ⟨k + 1, hlt, by go_num, by rw [hnx.out]; exact hJ⟩
        case measure => simp [intOf]; omega
      · rw [hf] at hix
        have hnx := Lib.hid (evF_yes hlt hf)
        obtain ⟨fn, tmps, assign, body, hy, hR⟩ := hY (evF f k) ⟨k, hlt⟩ _ hJ hlen
        clear hf
        gi_wp2
        refine hR.mono ?_
        rintro e W3 (⟨rfl, hJ3, _⟩ | ⟨rfl, hJx3⟩)
        · gi_wp2
          go_roundw
          case rel => exact ⟨k + 1, hlt, by go_num, by rw [hnx.out]; exact hJ3⟩
          case measure => simp [intOf]; omega
        · gi_wp2
          refine bodyPost_ret (results_none rfl _ _ _) rfl ?_
          exact ⟨⟨_, rfl⟩, .inr ⟨_, ⟨k + 1, hlt, hnx.out.symm⟩, hJx3⟩⟩
    · obtain rfl : k = 200 := by omega
      gi_wp2
      go_end0
      exact ⟨⟨_, rfl⟩, .inl ⟨_, rfl, hJ⟩⟩
theorem ev_stops (F : Fence) (n : Nat) (h7 : F.fn 119) (hro : F.round = none) (hn : 1 ≤ n) (E : Nat) (f : Int → Bool) (w : World) (hE : FRow w E f) :
    SeqStopsK F n Try.prog 119 #[.pointer (some ⟨E, 0, none⟩)] encF (fun _ _ => True) (fun ys => ys = evF f 200) (fun pre => ∃ k, k ≤ 200 ∧ pre = evF f k) 200 w :=
  fun l J Jx W hW _ _ hY h0 => ev1_in F n h7 hro hn l E f J Jx W hY (hE.below hW hE.2.2) h0
end Go.Proofs.Ytamfmemdhldmjaa

namespace Go.Proofs.Ytamfmemdhldmjaa
open Go.RowKit Sets

def stC (st : Int × List Sp) (v : Int) : Int × List Sp := if v = st.1 then st else (v, st.2 ++ [(st.1, v - 1)])
def foC (a : Int) (pre : List (Fin 200)) : Int × List Sp := pre.foldl (fun st x => stC st (-99 + (x.val : Int))) (a, [])
theorem foC_snoc (a : Int) (pre : List (Fin 200)) (x : Fin 200) : foC a (pre ++ [x]) = stC (foC a pre) (-99 + (x.val : Int)) := by
  unfold foC; rw [List.foldl_append]; rfl
theorem foC_len (a : Int) (pre : List (Fin 200)) : (foC a pre).2.length ≤ pre.length := by
  have key : ∀ (pre : List (Fin 200)) (st : Int × List Sp), (pre.foldl (fun st x => stC st (-99 + (x.val : Int))) st).2.length ≤ st.2.length + pre.length := by
    intro pre
    induction pre with
    | nil => intro st; exact Nat.le_refl _
    | cons x p ih =>
      intro st
      have := ih (stC st (-99 + (x.val : Int)))
      have h2 : (stC st (-99 + (x.val : Int))).2.length ≤ st.2.length + 1 := by
        unfold stC
        split
        · omega
        · simp only [List.length_append]; simp
      rw [List.foldl_cons, List.length_cons]
      omega
  have := key pre (a, [])
  unfold foC
  simpa using this
theorem foC_bound {a : Int} (h1 : -99 ≤ a) (h2 : a ≤ 100) (pre : List (Fin 200)) : -99 ≤ (foC a pre).1 ∧ (foC a pre).1 ≤ 100 := by
  have key : ∀ (pre : List (Fin 200)) (st : Int × List Sp), -99 ≤ st.1 → st.1 ≤ 100 → -99 ≤ (pre.foldl (fun st x => stC st (-99 + (x.val : Int))) st).1 ∧ (pre.foldl (fun st x => stC st (-99 + (x.val : Int))) st).1 ≤ 100 := by
    intro pre
    induction pre with
    | nil => intro st h1 h2; exact ⟨h1, h2⟩
    | cons x p ih =>
      intro st h1 h2
      have hx := x.isLt
      rw [List.foldl_cons]
      apply ih
      · unfold stC
        split
        · exact h1
        · simp only []; omega
      · unfold stC
        split
        · exact h2
        · simp only []; omega
  exact key pre (a, []) h1 h2
theorem evF_nil {f : Int → Bool} {k : Nat} (h : ∀ j : Nat, j < k → f j = false) : evF f k = [] := by
  induction k with
  | zero => rfl
  | succ k ih => rw [evF_no (h k (by omega))]; exact ih fun j hj => h j (by omega)
theorem evF_lt {f : Int → Bool} : ∀ k, ∀ x ∈ evF f k, x.val < k := by
  intro k
  induction k with
  | zero => intro x hx; cases hx
  | succ k ih =>
    intro x hx
    rw [evF] at hx
    split at hx
    · split at hx
      · rcases List.mem_append.1 hx with h | h
        · have := ih x h; omega
        · rw [List.mem_singleton.1 h]; simp
      · have := ih x hx; omega
    · have := ih x hx; omega
theorem evF_app {f : Int → Bool} {k : Nat} : ∀ d, ∃ l, evF f (k + d) = evF f k ++ l ∧ ∀ x ∈ l, k ≤ x.val := by
  intro d
  induction d with
  | zero => exact ⟨[], by simp, fun x hx => by cases hx⟩
  | succ d ih =>
    obtain ⟨l, h1, h2⟩ := ih
    rw [show k + (d + 1) = (k + d) + 1 by omega, evF]
    split
    · split
      · rename_i hh _
        refine ⟨l ++ [⟨k + d, hh⟩], by rw [h1, List.append_assoc], fun x hx => ?_⟩
        rcases List.mem_append.1 hx with h | h
        · exact h2 x h
        · rw [List.mem_singleton.1 h]; simp
      · exact ⟨l, h1, h2⟩
    · exact ⟨l, h1, h2⟩
theorem split_same {α : Type} {P : α → Prop} : ∀ {p1 r1 p2 r2 : List α}, p1 ++ r1 = p2 ++ r2 → (∀ x ∈ p1, P x) → (∀ x ∈ r1, ¬ P x) → (∀ x ∈ p2, P x) → (∀ x ∈ r2, ¬ P x) → p1 = p2
  | [], r1, [], r2, _, _, _, _, _ => rfl
  | [], r1, y :: p2, r2, h, _, h2, h3, _ => by
    have : y ∈ r1 := by rw [List.nil_append] at h; rw [h]; simp
    exact absurd (h3 y (by simp)) (h2 y this)
  | x :: p1, r1, [], r2, h, h1, _, _, h4 => by
    have : x ∈ r2 := by rw [List.nil_append] at h; rw [← h]; simp
    exact absurd (h1 x (by simp)) (h4 x this)
  | x :: p1, r1, y :: p2, r2, h, h1, h2, h3, h4 => by
    injection h with e1 e2
    rw [e1, split_same e2 (fun z hz => h1 z (by simp [hz])) h2 (fun z hz => h3 z (by simp [hz])) h4]
/-- the cuts are what the numbers at which tests change make of them -/
theorem foC_evF {f chg : Int → Bool} {a : Int} (ha : -99 ≤ a) (hlow : ∀ j : Nat, f j = true → a + 99 ≤ j) :
    ∀ m : Nat, a + m ≤ 99 → (∀ v, a < v → v ≤ a + m → chg v = f (v + 99)) → foC a (evF f (a + m + 100).toNat) = (nxK chg a m, clK chg a m) := by
  intro m
  induction m with
  | zero =>
    intro _ _
    obtain ⟨k, hk⟩ : ∃ k : Nat, a + 99 = (k : Int) := ⟨(a + 99).toNat, by omega⟩
    have e : (a + ((0 : Nat) : Int) + 100).toNat = k + 1 := by omega
    rw [e]
    have hn : evF f k = [] := evF_nil fun j hj => by
      cases hf : f j
      · rfl
      · have := hlow j hf; omega
    cases hf : f k
    · rw [evF_no hf, hn]; rfl
    · rw [evF_yes (by omega) hf, hn]
      show stC (a, []) (-99 + (k : Int)) = _
      unfold stC
      rw [if_pos (by simp only []; omega)]; rfl
  | succ m ih =>
    intro hb hchg
    have ih := ih (by omega) (fun v h1 h2 => hchg v h1 (by omega))
    obtain ⟨k, hk⟩ : ∃ k : Nat, a + m + 100 = (k : Int) := ⟨(a + m + 100).toNat, by omega⟩
    rw [show (a + (m : Int) + 100).toNat = k by omega] at ih
    rw [show (a + ((m + 1 : Nat) : Int) + 100).toNat = k + 1 by omega]
    have hc := hchg (a + m + 1) (by omega) (by omega)
    rw [show a + (m : Int) + 1 + 99 = (k : Int) by omega] at hc
    have hnx := nxK_bound chg a m
    cases hf : f k
    · rw [hf] at hc
      rw [evF_no hf, ih, nx_no hc, cl_no hc]
    · rw [hf] at hc
      rw [evF_yes (by omega) hf, foC_snoc, ih, nx_yes hc, cl_yes hc]
      unfold stC
      simp only []
      rw [if_neg (by omega), show -99 + (k : Int) = a + m + 1 by omega, show a + (m : Int) + 1 - 1 = a + m by omega]
theorem evF_done {f : Int → Bool} {K : Nat} (hK : K ≤ 200) (h : ∀ x ∈ evF f 200, x.val < K) : evF f 200 = evF f K := by
  obtain ⟨l, h1, h2⟩ := evF_app (f := f) (k := K) (200 - K)
  rw [show K + (200 - K) = 200 by omega] at h1
  cases l with
  | nil => rw [h1, List.append_nil]
  | cons y l =>
    have := h y (by rw [h1]; simp)
    have := h2 y (by simp)
    omega
theorem evF_stop {f : Int → Bool} {K k : Nat} {pre : List (Fin 200)} {x : Fin 200} (he : pre ++ [x] = evF f k) (h1 : ∀ y ∈ pre, y.val < K) (hx : K ≤ x.val) : pre = evF f K := by
  rcases Nat.lt_or_ge K k with h | h
  · obtain ⟨l, q1, q2⟩ := evF_app (f := f) (k := K) (k - K)
    rw [show K + (k - K) = k by omega] at q1
    rw [q1] at he
    exact split_same (P := fun y => y.val < K) he h1 (fun z hz => by rw [List.mem_singleton.1 hz]; omega) (fun z hz => evF_lt K z hz) (fun z hz => by have := q2 z hz; omega)
  · have := evF_lt (f := f) k x (by rw [← he]; simp)
    omega

/-- spans of a set are apart -/
theorem norm_apart {xs : List Sp} (h : Norm xs) : ∀ x ∈ xs, ∀ y ∈ xs, x = y ∨ x.2 + 2 ≤ y.1 ∨ y.2 + 2 ≤ x.1 := by
  induction xs with
  | nil => intro x hx; cases hx
  | cons z s ih =>
    intro x hx y hy
    rcases List.mem_cons.1 hx with e1 | hx1
    · rcases List.mem_cons.1 hy with e2 | hy1
      · exact .inl (e1.trans e2.symm)
      · exact .inr (.inl (by rw [e1]; exact h.2.1 y hy1))
    · rcases List.mem_cons.1 hy with e2 | hy1
      · exact .inr (.inr (by rw [e2]; exact h.2.1 x hx1))
      · exact ih h.2.2 x hx1 y hy1
theorem evI_iff {xs : List Sp} {j : Int} : evI xs xs.length j = true ↔ ∃ x ∈ xs, x.1 + 99 = j ∨ x.2 + 100 = j := by
  unfold evI
  rw [List.any_eq_true]
  constructor
  · rintro ⟨p, hp, h⟩
    have hp := List.mem_range.1 hp
    refine ⟨xs.getD p (0, 0), ?_, ?_⟩
    · rw [List.getD_eq_getElem?_getD, List.getElem?_eq_getElem hp]; exact List.getElem_mem hp
    · simpa [lo, hi] using h
  · rintro ⟨x, hx, h⟩
    obtain ⟨p, hp, rfl⟩ := List.mem_iff_getElem.1 hx
    refine ⟨p, List.mem_range.2 hp, ?_⟩
    have e : xs.getD p (0, 0) = xs[p] := by rw [List.getD_eq_getElem?_getD, List.getElem?_eq_getElem hp]; rfl
    unfold lo hi
    rw [e]
    simpa using h
theorem set_change {xs : List Sp} (h : validB xs = true) (v : Int) : (!(haveB xs v == haveB xs (v - 1))) = evI xs xs.length (v + 99) := by
  have hn := ((valid_iff xs).1 ((validB_iff xs).1 h)).2.1
  have hle := hn.le
  have hap := norm_apart hn
  rw [Bool.eq_iff_iff, evI_iff]
  have e1 := have_iff (xs := xs) (n := v)
  have e2 := have_iff (xs := xs) (n := v - 1)
  constructor
  · intro hne
    cases h1 : haveB xs v
    · cases h2 : haveB xs (v - 1)
      · rw [h1, h2] at hne; simp at hne
      · obtain ⟨x, hx, q1, q2⟩ := e2.1 h2
        refine ⟨x, hx, .inr ?_⟩
        have : ¬ (x.1 ≤ v ∧ v ≤ x.2) := fun q => by have := e1.2 ⟨x, hx, q⟩; rw [h1] at this; cases this
        omega
    · cases h2 : haveB xs (v - 1)
      · obtain ⟨x, hx, q1, q2⟩ := e1.1 h1
        refine ⟨x, hx, .inl ?_⟩
        have : ¬ (x.1 ≤ v - 1 ∧ v - 1 ≤ x.2) := fun q => by have := e2.2 ⟨x, hx, q⟩; rw [h2] at this; cases this
        omega
      · rw [h1, h2] at hne; simp at hne
  · rintro ⟨x, hx, hq⟩
    have hxl := hle x hx
    rcases hq with hq | hq
    · have h1 : haveB xs v = true := e1.2 ⟨x, hx, by omega, by omega⟩
      have h2 : haveB xs (v - 1) = false := by
        cases h2 : haveB xs (v - 1)
        · rfl
        · obtain ⟨y, hy, q1, q2⟩ := e2.1 h2
          have hyl := hle y hy
          rcases hap x hx y hy with rfl | h3 | h3 <;> omega
      rw [h1, h2]; rfl
    · have h2 : haveB xs (v - 1) = true := e2.2 ⟨x, hx, by omega, by omega⟩
      have h1 : haveB xs v = false := by
        cases h1 : haveB xs v
        · rfl
        · obtain ⟨y, hy, q1, q2⟩ := e1.1 h1
          have hyl := hle y hy
          rcases hap x hx y hy with rfl | h3 | h3 <;> omega
      rw [h1, h2]; rfl
theorem chg_ev {rs : List Rl} {k : Nat} (h : ∀ i, i < rs.length → validB (tsK rs k i) = true) (v : Int) : chgK rs k v = evR rs k rs.length (v + 99) := by
  unfold chgK evR
  have key : ∀ n, n ≤ rs.length → (!(List.range n).all (sameK rs k v)) = (List.range n).any fun i' => evI (tsK rs k i') (tsK rs k i').length (v + 99) := by
    intro n
    induction n with
    | zero => intro _; rfl
    | succ n ih =>
      intro hn
      rw [List.range_succ, List.all_append, List.any_append, Bool.not_and, ih (by omega)]
      have := set_change (h n (by omega)) v
      simp only [List.all_cons, List.all_nil, Bool.and_true, List.any_cons, List.any_nil, Bool.or_false]
      rw [← this]
      rfl
  exact key _ (Nat.le_refl _)
/-- events of a valid table's column: none below the column -/
theorem ev_low {t : Tb} (h : tabB t = true) {k : Nat} (hk : k < t.cols.length) (j : Nat) (hj : evR t.rules k t.rules.length j = true) : (t.cols.getD k (false, 0, 0)).2.1 + 99 ≤ j := by
  unfold evR at hj
  obtain ⟨i, hi, he⟩ := List.any_eq_true.1 hj
  have hi := List.mem_range.1 hi
  obtain ⟨x, hx, hq⟩ := evI_iff.1 he
  have hr := (tab_parts h).2.2 i hi
  unfold rAt at hr
  have h2 := (rule_parts hr).2.2.2 k hk
  unfold tAt at h2
  have h3 := (isT_iff _ _ _ _).1 h2
  have hle := (((valid_iff _).1 ((validB_iff _).1 h3.2.1)).2.1).le x hx
  have m1 := h3.2.2 x.1 ⟨x, hx, Int.le_refl _, hle⟩
  have m2 := h3.2.2 x.2 ⟨x, hx, hle, Int.le_refl _⟩
  omega
end Go.Proofs.Ytamfmemdhldmjaa

namespace Go.Proofs.Ytamfmemdhldmjaa
open Go.RowKit Go.Shelf Sets
attribute [local go_sem] Oper.semAt_some

theorem OwnS.kept {A B : World} {base : Nat} {v : Value} {xs : List Sp} {row : Option Nat} (h : OwnS A base v xs) (hg : A.grownBy B row) (hr : ∀ r, row = some r → ∃ o : Obj, A.heap[r]? = some o ∧ o.isCells = false) : OwnS B base v xs := by
  refine ⟨h.1, h.2.imp id ?_⟩
  rintro ⟨g, cap, cur, rfl, hb', hgg, r⟩
  refine ⟨g, cap, cur, rfl, hb', ?_, r⟩
  rw [hg.block g (Array.getElem?_eq_some_iff.1 hgg).1 (fun e => by
    obtain ⟨o, ho, hc⟩ := hr g e.symm
    rw [hgg] at ho
    injection ho with ho
    subst ho
    cases hc)]
  exact hgg
theorem keep_cell {W W5 : World} {o : Obj} {row : Option Nat} {g off : Nat} {v : Value} (h : W.cell? ⟨g, off, none⟩ = some v) (hg : (W.alloc o).grownBy W5 row) (hne : ∀ r, row = some r → r ≠ g) : W5.cell? ⟨g, off, none⟩ = some v := by
  have h1 := cell_allocS o h
  have hlt : g < (W.alloc o).heap.size := by obtain ⟨ob, ho, _⟩ := cells_of_cell h1; exact (Array.getElem?_eq_some_iff.1 ho).1
  exact (World.cell?_of_block (a := ⟨g, off, none⟩) (hg.block g hlt (fun e => hne g e.symm rfl))).trans h1
theorem keep_frozen {W W5 : World} {o : Obj} {row : Option Nat} {g off : Nat} {v : Value} (h : W.cell? ⟨g, off, none⟩ = some v) (hf : W.frozen? ⟨g, off, none⟩ = false) (hg : (W.alloc o).grownBy W5 row) (hne : ∀ r, row = some r → r ≠ g) : W5.frozen? ⟨g, off, none⟩ = false := by
  have h1 := cell_allocS o h
  have hlt : g < (W.alloc o).heap.size := by obtain ⟨ob, ho, _⟩ := cells_of_cell h1; exact (Array.getElem?_eq_some_iff.1 ho).1
  exact (World.frozen?_of_block (a := ⟨g, off, none⟩) (hg.block g hlt (fun e => hne g e.symm rfl))).trans (frozen_allocS o h hf)
theorem OwnS.others {W W5 : World} {o : Obj} {base : Nat} {u : Value} {xs : List Sp} (h : OwnS W base u xs) (hg : (W.alloc o).grownBy W5 u.ownBlock) : KeepsOthers W W5 :=
  (KeepsOthers.alloc W o).trans (KeepsOthers.of_grownBy hg (fun j ob hj hob => by
    obtain ⟨_, ⟨rfl, _⟩ | ⟨g, cap, cur, rfl, _, hgg, _⟩⟩ := h
    · cases hj
    · injection hj with hj
      subst hj
      have hl := (Array.getElem?_eq_some_iff.1 hgg).1
      rw [Below.heap_alloc W o g hl, hgg] at hob
      injection hob with hob
      subst hob
      rfl))
/-- what the sweep holds when it has seen the numbers pre -/
def SweepI (w : World) (base : Nat) (a b : Int) (pre : List (Fin 200)) (W : World) : Prop :=
  (((∀ y ∈ pre, -99 + (y.val : Int) ≤ b) ∧ (foC a pre).1 ≤ b ∧ w.heap.size + 4 ≤ W.heap.size) ∧ (∃ u, W.cell? ⟨w.heap.size + 2, 0, none⟩ = some u ∧ OwnS W base u (foC a pre).2) ∧ W.cell? ⟨w.heap.size + 3, 0, none⟩ = some (.int .i64 (foC a pre).1) ∧ W.frozen? ⟨w.heap.size + 2, 0, none⟩ = false ∧ W.frozen? ⟨w.heap.size + 3, 0, none⟩ = false ∧
    W.cell? ⟨w.heap.size + 1, 1, none⟩ = some (.int .i64 a) ∧ W.cell? ⟨w.heap.size + 1, 2, none⟩ = some (.int .i64 b)) ∧ Below w.heap.size w W
theorem SweepI.own (w : World) (base : Nat) (a b : Int) {B : Nat} (hB : w.heap.size ≤ B) : OwnFrom B (SweepI w base a b) :=
  OwnFrom.and (Own.from (fun s A B row hs hg hr => by
    obtain ⟨⟨h1, h1b, h1c⟩, ⟨u, h2, h3⟩, h4, h5, h6, h7, h8⟩ := hs
    exact ⟨⟨h1, h1b, Nat.le_trans h1c hg.size⟩, ⟨u, cell_kept h2 hg hr, h3.kept hg hr⟩, cell_kept h4 hg hr, (frozen_kept h2 hg hr).trans h5, (frozen_kept h4 hg hr).trans h6, cell_kept h7 hg hr, cell_kept h8 hg hr⟩) _) (ownFrom_below (Nat.le_refl _) hB)

set_option maxRecDepth 100000 in
set_option maxHeartbeats 4000000 in
theorem implCuts_any (v : Value) (t : Tb) (k : Nat) (w : World) (hT : TabAt w w.heap.size v t) (hV : tabB t = true) (hk : k < t.cols.length) :
    Calls Try.prog 64 #[v, .int .i64 k] w fun e w' => ∃ v', e = .returned v' ∧ OwnS w' w.heap.size v' (cutC t k) ∧ Fits (cutC t k) ∧ Below w.heap.size w w' := by
  obtain ⟨i0, hi0, hz0, hz1, hz2⟩ := infoSp
  have HTA := Lib.hid hT
  obtain ⟨A1, c1, A2, c2, rfl, hC, hR⟩ := hT
  have hcol := tab_col hV hk
  have HLOW := Lib.hid (fun (j : Nat) => ev_low hV hk j)
  have HCHG := Lib.hid (fun v => chg_ev (rs := t.rules) (k := k) (fun i hi => tab_set hV hi hk) v)
  have HV := Lib.hid hV
  have HK := Lib.hid hk
  obtain ⟨cs, x, rs⟩ := t
  simp only [] at hR hC hk hcol HLOW HCHG HTA ⊢
  obtain ⟨b1, off1, rfl, hB1, k1, k2, k3⟩ := col_at hC hk
  have hkl : (k : Int) < (cs.length : Int) := by omega
  have HCUT := Lib.hid (show cutC ⟨cs, x, rs⟩ k = cuK (chgK rs k) (cs.getD k (false, 0, 0)).2.1 ((cs.getD k (false, 0, 0)).2.2 - (cs.getD k (false, 0, 0)).2.1).toNat from rfl)
  obtain ⟨⟨L, a, b⟩, hcv⟩ : ∃ c, cs.getD k (false, 0, 0) = c := ⟨_, rfl⟩
  rw [hcv] at k1 k2 k3 hcol HCUT HLOW
  simp only [] at k1 k2 k3 hcol HCUT HLOW
  obtain ⟨n, hn⟩ : ∃ n : Nat, b = a + n := ⟨(b - a).toNat, by omega⟩
  rw [show (b - a).toNat = n by omega] at HCUT
  obtain ⟨ha1, hab, hb9⟩ := hcol
  have HB := Lib.hid (And.intro ha1 (And.intro hab (And.intro hb9 hn)))
  rw [HCUT.out]
  have hbT : Below w.heap.size w (w.alloc (.cells #[.slice (some ⟨b1, off1, none⟩) cs.length c1, .int .i64 x, .slice A2 rs.length c2] 32)) := (Below.refl _ _).alloc (Nat.le_refl _) _
  have X := Lib.hid (TBox.made w (some ⟨b1, off1, none⟩) cs.length c1 x A2 rs.length c2 32)
  obtain ⟨p0, p1, p2, p3⟩ := X.out
  have d1 := (hbT.cell (p := ⟨b1, off1 + k * 3, none⟩) hB1).trans k1
  have d2 := (hbT.cell (p := ⟨b1, off1 + k * 3 + 1, none⟩) hB1).trans k2
  have d3 := (hbT.cell (p := ⟨b1, off1 + k * 3 + 2, none⟩) hB1).trans k3
  have hb0 : Below w.heap.size w ((((w.alloc (.cells #[.slice (some ⟨b1, off1, none⟩) cs.length c1, .int .i64 x, .slice A2 rs.length c2] 32)).alloc (.cells #[.bool L, .int .i64 a, .int .i64 b] 102)).alloc (.cells #[.slice none 0 0] 43)).alloc (.cells #[.int .i64 a] 3)) := (((hbT.alloc (by simp) _).alloc (by simp; omega) _).alloc (by simp; omega) _)
  have z1 : (w.alloc (.cells #[.slice (some ⟨b1, off1, none⟩) cs.length c1, .int .i64 x, .slice A2 rs.length c2] 32)).heap.size = w.heap.size + 1 := by simp
  have z2 : ((w.alloc (.cells #[.slice (some ⟨b1, off1, none⟩) cs.length c1, .int .i64 x, .slice A2 rs.length c2] 32)).alloc (.cells #[.bool L, .int .i64 a, .int .i64 b] 102)).heap.size = w.heap.size + 2 := by simp
  have z3 : (((w.alloc (.cells #[.slice (some ⟨b1, off1, none⟩) cs.length c1, .int .i64 x, .slice A2 rs.length c2] 32)).alloc (.cells #[.bool L, .int .i64 a, .int .i64 b] 102)).alloc (.cells #[.slice none 0 0] 43)).heap.size = w.heap.size + 3 := by simp
  have s3 := cell_newS (((w.alloc (.cells #[.slice (some ⟨b1, off1, none⟩) cs.length c1, .int .i64 x, .slice A2 rs.length c2] 32)).alloc (.cells #[.bool L, .int .i64 a, .int .i64 b] 102)).alloc (.cells #[.slice none 0 0] 43)) (.int .i64 a) 3
  have s2 := cell_newS ((w.alloc (.cells #[.slice (some ⟨b1, off1, none⟩) cs.length c1, .int .i64 x, .slice A2 rs.length c2] 32)).alloc (.cells #[.bool L, .int .i64 a, .int .i64 b] 102)) (.slice none 0 0) 43
  have s1 := (CBox.made (w.alloc (.cells #[.slice (some ⟨b1, off1, none⟩) cs.length c1, .int .i64 x, .slice A2 rs.length c2] 32)) L a b 102).step (((Below.refl _ _).alloc (Nat.le_refl _) (.cells #[.slice none 0 0] 43)).alloc (by simp) (.cells #[.int .i64 a] 3))
  have s2' := cell_allocS (.cells #[.int .i64 a] 3) s2.1
  have s2f := frozen_allocS (.cells #[.int .i64 a] 3) s2.1 s2.2
  rw [z1] at s1
  rw [z2] at s2' s2f
  rw [z3] at s3
  have hz4 : (((((w.alloc (.cells #[.slice (some ⟨b1, off1, none⟩) cs.length c1, .int .i64 x, .slice A2 rs.length c2] 32)).alloc (.cells #[.bool L, .int .i64 a, .int .i64 b] 102)).alloc (.cells #[.slice none 0 0] 43)).alloc (.cells #[.int .i64 a] 3))).heap.size = w.heap.size + 4 := by simp
  have S3 := Lib.hid s3
  have S2 := Lib.hid (And.intro s2' s2f)
  have S1 := Lib.hid s1
  clear hC hR hk hcv k1 k2 k3 p3 hn hV z1 z2 z3 s3 s2 s1 s2' s2f
  refine (callsIn_wide (n := 6)).1 ?_
  refine callsIn_of_wp_marks Try.func64 rfl trivial ?_ rfl
  simp only [Try.ntmps64, List.size_toArray, List.length_cons, List.length_nil, Nat.reduceAdd, Nat.reduceSub, Array.replicate_succ, Array.replicate_zero, List.push_toArray, List.append_toArray, List.nil_append, List.cons_append]
  gi_wp2
  refine wpIn_wide.2 (wp_scope_straight ((wpIn_wide (n := 6)).1 ?_))
  gi_wp2
  refine wpIn_label ?_
  gi_wp2_with fail
  clear p0 p1 p2 d1 d2 d3
  generalize ((((w.alloc (.cells #[.slice (some ⟨b1, off1, none⟩) cs.length c1, .int .i64 x, .slice A2 rs.length c2] 32)).alloc (.cells #[.bool L, .int .i64 a, .int .i64 b] 102)).alloc (.cells #[.slice none 0 0] 43)).alloc (.cells #[.int .i64 a] 3)) = W0 at hb0 hz4 S1 S2 S3 ⊢
  refine ⟨trivial, (callsIn_wide.2 (events_any _ ⟨cs, x, rs⟩ k W0 (HTA.out.step hb0) HV.out HK.out)).mono ?_⟩
  rintro e w1 ⟨rfl, hF, bb1⟩
  have hz1 : w.heap.size + 4 ≤ w1.heap.size := by have := bb1.size; omega
  have HZ := Lib.hid (And.intro hz4 hz1)
  have BW := Lib.hid (hb0.trans (bb1.mono hb0.size))
  have F := Lib.hid hF
  have c3 := (bb1.cell (p := ⟨w.heap.size + 3, 0, none⟩) (by simp only; omega)).trans S3.out.1
  have f3 := (bb1.frozen (p := ⟨w.heap.size + 3, 0, none⟩) (by simp only; omega)).trans S3.out.2
  have c2' := (bb1.cell (p := ⟨w.heap.size + 2, 0, none⟩) (by simp only; omega)).trans S2.out.1
  have f2 := (bb1.frozen (p := ⟨w.heap.size + 2, 0, none⟩) (by simp only; omega)).trans S2.out.2
  have c11 := (bb1.cell (p := ⟨w.heap.size + 1, 1, none⟩) (by simp only; omega)).trans S1.out.2.1
  have c12 := (bb1.cell (p := ⟨w.heap.size + 1, 2, none⟩) (by simp only; omega)).trans S1.out.2.2.1
  have I0 := Lib.hid (show SweepI w (w.heap.size + 4) a b [] w1 from ⟨⟨⟨(fun y hy => by cases hy), hab, hz1⟩, ⟨_, c2', OwnS.nil _ _⟩, c3, f2, f3, c11, c12⟩, BW.out⟩)
  obtain ⟨E, hE⟩ : ∃ E, E = W0.heap.size + 1 := ⟨_, rfl⟩
  rw [← hE] at F ⊢
  clear hF bb1 c3 f3 c2' f2 c11 c12 hz1 hz4 hb0 S1 S2 S3 hE
  gi_wp2
  refine wpIn_rangeFunc_ownF rfl (by omega) (gf := 119) (lb := #[.pointer (some ⟨E, 0, none⟩)]) rfl trivial (enters_of Try.func119 (by kernel_rfl) rfl)
    (ev_stops Fence.wide (6 - 1) trivial rfl (by omega) E _ w1 F.out) (fun _ _ => trivial) (fun _ _ _ _ _ _ _ _ => trivial) (Below.refl _ _) (fun _ => rfl)
    (SweepI w (w.heap.size + 4) a b)
    (fun c pre W => (c = .exit 0 ∧ ∃ p y, pre = p ++ [y] ∧ b < -99 + (y.val : Int) ∧ SweepI w (w.heap.size + 4) a b p W))
    (SweepI.own w _ a b (by have := HZ.out; omega))
    (fun c s A B row hs hg hr => by
      obtain ⟨h1, p, y, h2, h3, h4⟩ := hs
      exact ⟨h1, p, y, h2, h3, SweepI.own w _ a b (by have := HZ.out; omega) p A B row h4 hg hr⟩)
    I0.out
    (fun x' => { tmps := #[.agg #[.slice (some ⟨b1, off1, none⟩) cs.length c1, .int .i64 x, .slice A2 rs.length c2], .int .i64 k, .pointer (some ⟨w.heap.size, 0, none⟩), undef, .slice none 0 0, .pointer (some ⟨w.heap.size + 1, 0, none⟩), .pointer (some ⟨w.heap.size + 1 + 1, 0, none⟩), .pointer (some ⟨w.heap.size + 1 + 1 + 1, 0, none⟩), .int .i64 (-99 + (x'.val : Int)), .pointer (some ⟨w.heap.size, 0, none⟩), .slice (some ⟨b1, off1, none⟩) cs.length c1, .int .i64 k, .pointer (some ⟨b1, off1 + k * 3, none⟩), .agg #[.bool L, .int .i64 a, .int .i64 b], .pointer (some ⟨w.heap.size + 1, 1, none⟩), .int .i64 a, .agg #[.slice (some ⟨b1, off1, none⟩) cs.length c1, .int .i64 x, .slice A2 rs.length c2], .int .i64 k, .func (.func 119) #[] #[.pointer (some ⟨E, 0, none⟩)], .int .i64 (-99 + (x'.val : Int)), undef, undef, undef, undef, undef, undef, undef, undef, undef, undef, undef, undef, undef, undef, undef, undef, undef, undef, undef, undef, undef, undef, undef, undef], defers := [] }) ?assign ?body ?done ?stop
  case assign =>
    intro l x' W K hK
    gi_wp2
    exact hK
  case body =>
    rintro l pre y W ⟨⟨⟨hall, hnb, hwsz⟩, ⟨u, hu, hown⟩, hnx, hf2, hf3, ha2, hb2⟩, hB⟩ hlen
    have hy := y.isLt
    have hlc := foC_len a pre
    have hsn := foC_snoc a pre y
    have hbd := foC_bound ha1 (by omega : a ≤ 100) pre
    obtain ⟨⟨nx, cl⟩, hfo⟩ : ∃ st, foC a pre = st := ⟨_, rfl⟩
    have HFO := Lib.hid hfo
    rw [hfo] at hnx hown hlc hsn hnb hbd
    simp only [] at hnx hown hlc hsn hnb hbd
    obtain ⟨v, hv⟩ : ∃ v : Int, -99 + (y.val : Int) = v := ⟨_, rfl⟩
    have HV' := Lib.hid hv
    have hv1 : -99 ≤ v := by omega
    have hv2 : v ≤ 100 := by omega
    rw [hv] at hsn ⊢
    have HALL := Lib.hid hall
    have HSN := Lib.hid hsn
    have HI := Lib.hid (show SweepI w (w.heap.size + 4) a b pre W from ⟨⟨⟨hall, by rw [hfo]; exact hnb, hwsz⟩, ⟨u, hu, by rw [hfo]; exact hown⟩, by rw [hfo]; exact hnx, hf2, hf3, ha2, hb2⟩, hB⟩)
    clear hfo hv hall hsn
    by_cases e1 : v = nx
    · have q1 : (v == nx) = true := beq_iff_eq.2 e1
      have hI2 := Lib.hid (show SweepI w (w.heap.size + 4) a b (pre ++ [y]) W from by
        have hs2 : foC a (pre ++ [y]) = foC a pre := by rw [HSN.out, HFO.out]; unfold stC; rw [if_pos e1]
        obtain ⟨⟨⟨h1, h2⟩, h3⟩, h4⟩ := HI.out
        refine ⟨⟨⟨fun z hz => ?_, by rw [hs2]; exact h2⟩, by rw [hs2]; exact h3⟩, h4⟩
        rcases List.mem_append.1 hz with hz | hz
        · exact h1 z hz
        · rw [List.mem_singleton.1 hz, HV'.out]; omega)
      clear e1
      gi_wp2
      exact ⟨KeepsOthers.refl _, trivial, hI2.out⟩
    · have q1 : (v == nx) = false := beq_eq_false_iff_ne.2 e1
      by_cases e2 : b < v
      · have HX := Lib.hid (show b < -99 + (y.val : Int) by rw [HV'.out]; exact e2)
        clear e1
        gi_wp2
        exact ⟨KeepsOthers.refl _, rfl, pre, y, rfl, HX.out, HI.out⟩
      · have q2 : decide (b < v) = false := decide_eq_false e2
        have hown4 := World.ownsRow.alloc hown (.cells #[.int .i64 nx, .int .i64 (v - 1)] 78)
        have hrow := fun i hi => (hown.lt i hi).1
        have HROW := Lib.hid (show ∀ r, u.ownBlock = some r → w.heap.size + 4 ≤ r from hrow)
        have HOWN := Lib.hid hown
        have HBW := Lib.hid hB
        have hl200 : cl.length ≤ 200 := by omega
        have HL := Lib.hid hl200
        have HE2 := Lib.hid (show v ≤ b by omega)
        have HNE := Lib.hid e1
        have HWS := Lib.hid hwsz
        clear e1 e2 hrow hown hB hl200 hlc hwsz hnb
        gi_wp2_with (gi_at_builtin; refine wpListIn_append_own _ rfl (.tmp 29) (.tmp 34) 43 rfl (w.heap.size + 4) 78 i0 _ 2 16 Try.underlying43 hi0 hz0 hz1 hz2 rfl (by decide) _ cl.length (cellsOf cl) rfl hown4 ⟨W.heap.size, 0, none⟩ 1 1 [.int .i64 nx, .int .i64 (v - 1)] rfl rfl ?hc1 ?hc2 ?hc3 ?hc4 ?hc5 ?_; rotate_right; intro v' w5 hown5 hgrow _; obtain ⟨g5, cap5, rfl⟩ := ownsRow_succ hown5; have t1 := keep_cell hu hgrow (fun r hr => by have := HROW.out r hr; omega); have t2 := keep_frozen hu hf2 hgrow (fun r hr => by have := HROW.out r hr; omega); have t3 := keep_cell hnx hgrow (fun r hr => by have := HROW.out r hr; omega); have t4 := keep_frozen hnx hf3 hgrow (fun r hr => by have := HROW.out r hr; omega); have t5 := keep_cell ha2 hgrow (fun r hr => by have := HROW.out r hr; omega); have t6 := keep_cell hb2 hgrow (fun r hr => by have := HROW.out r hr; omega))
        case hc1 => exact cell_one _ _ _ _ rfl
        case hc2 => simp [Value.oneCell']
        case hc3 => have := HL.out; unfold maxLen; omega
        case hc4 => have := HL.out; omega
        case hc5 => have := HWS.out; simp; omega
        have hko := HOWN.out.others hgrow
        have hb5 := (HBW.out.alloc HBW.out.size (.cells #[.int .i64 nx, .int .i64 (v - 1)] 78)).grown hgrow (by have := HWS.out; simp; omega) (fun r hr => by have := HROW.out r hr; omega)
        have hs2 : foC a (pre ++ [y]) = (v, cl ++ [(nx, v - 1)]) := by rw [HSN.out]; unfold stC; rw [if_neg HNE.out]
        have hw5 : w.heap.size + 4 ≤ w5.heap.size := Nat.le_trans HWS.out (Nat.le_trans (by simp) hgrow.size)
        have hown6 := OwnS.of_append hown5
        have hown7 := ownsRow_setCell_below hown6 (a := ⟨w.heap.size + 2, 0, none⟩) (by simp) (.slice (some ⟨g5, 0, none⟩) (cl.length + 1) cap5)
        have hown8 := ownsRow_setCell_below hown7 (a := ⟨w.heap.size + 3, 0, none⟩) (by simp) (.int .i64 v)
        refine ⟨((hko.trans (KeepsOthers.setCell _ _ _)).trans (KeepsOthers.setCell _ _ _)), trivial, ⟨⟨⟨fun z hz => ?_, by rw [hs2]; exact HE2.out, by simpa [World.setCell] using hw5⟩, ⟨_, ?_, by rw [hs2]; exact hown8⟩, ?_, ?_, ?_, ?_, ?_⟩, ?_⟩⟩
        · rcases List.mem_append.1 hz with hz | hz
          · exact HALL.out z hz
          · rw [List.mem_singleton.1 hz, HV'.out]; exact HE2.out
        · rw [World.cell?_setCell_other _ _ _ _ (by intro h; injection h with h _; omega)]
          exact World.cell?_setCell_same' _ _ _ (by rw [t1]; rfl)
        · rw [hs2]
          exact World.cell?_setCell_same' _ _ _ (by rw [World.cell?_setCell_other _ _ _ _ (by intro h; injection h with h _; omega), t3]; rfl)
        · rw [World.frozen?_setCell, World.frozen?_setCell]; exact t2
        · rw [World.frozen?_setCell, World.frozen?_setCell]; exact t4
        · rw [World.cell?_setCell_other _ _ _ _ (by intro h; injection h with h _; omega), World.cell?_setCell_other _ _ _ _ (by intro h; injection h with h _; omega)]; exact t5
        · rw [World.cell?_setCell_other _ _ _ _ (by intro h; injection h with h _; omega), World.cell?_setCell_other _ _ _ _ (by intro h; injection h with h _; omega)]; exact t6
        · exact (hb5.setCell (p := ⟨w.heap.size + 2, 0, none⟩) (by simp) _).setCell (p := ⟨w.heap.size + 3, 0, none⟩) (by simp) _
  case done =>
    rintro D xs W hD hxs ⟨⟨⟨hall, hnb, hwsz⟩, ⟨u, hu, hown⟩, hnx, hf2, hf3, ha2, hb2⟩, hB⟩ hK
    have HEQ : xs = evF (evR rs k rs.length) (b + 100).toNat := by
      have hb := HB.out
      rw [hxs]
      refine evF_done (by omega) fun z hz => ?_
      have := hall z (by rw [hxs]; exact hz)
      omega
    have hst : foC a xs = (nxK (chgK rs k) a n, clK (chgK rs k) a n) := by
      have hb := HB.out
      rw [HEQ]
      have := foC_evF (f := evR rs k rs.length) (chg := chgK rs k) (a := a) hb.1 HLOW.out n (by omega) (fun v _ _ => HCHG.out v)
      rw [show a + (n : Int) = b by omega] at this
      exact this
    rw [hst] at hown hnx
    simp only [] at hown hnx
    have hcu : Hid (clK (chgK rs k) a n ++ [(nxK (chgK rs k) a n, b)] = cuK (chgK rs k) a n) := Lib.hid (by have hb := HB.out; unfold cuK; rw [show a + (n : Int) = b by omega])
    have hfit := Lib.hid (cuK_fits (chgK rs k) (a := a) (n := n) (m := n) HB.out.1 (by have := HB.out; omega) (Nat.le_refl _))
    have hlen := Lib.hid (show (clK (chgK rs k) a n).length ≤ 200 by have := clK_len (chgK rs k) a n; have := HB.out; omega)
    generalize nxK (chgK rs k) a n = nx at hnx hcu
    generalize clK (chgK rs k) a n = cl at hown hcu hlen
    have hown4 := World.ownsRow.alloc hown (.cells #[.int .i64 nx, .int .i64 b] 78)
    have HROW := Lib.hid (show ∀ r, u.ownBlock = some r → w.heap.size + 4 ≤ r from fun i hi => (hown.lt i hi).1)
    have HOWN := Lib.hid hown
    have HBW := Lib.hid hB
    have HWS := Lib.hid hwsz
    have HKD := Lib.hid hK
    have HDD := Lib.hid hD
    clear hown hB hwsz hK hD hst hnb hall
    gi_wp2_with (gi_at_builtin; refine wpListIn_append_own _ rfl (.tmp 37) (.tmp 42) 43 rfl (w.heap.size + 4) 78 i0 _ 2 16 Try.underlying43 hi0 hz0 hz1 hz2 rfl (by decide) _ cl.length (cellsOf cl) rfl hown4 ⟨W.heap.size, 0, none⟩ 1 1 [.int .i64 nx, .int .i64 b] rfl rfl ?hc1 ?hc2 ?hc3 ?hc4 ?hc5 ?_; rotate_right; intro v' w5 hown5 hgrow _)
    case hc1 => exact cell_one _ _ _ _ rfl
    case hc2 => simp [Value.oneCell']
    case hc3 => have := hlen.out; unfold maxLen; omega
    case hc4 => have := hlen.out; omega
    case hc5 => have := HWS.out; simp; omega
    have hko := HOWN.out.others hgrow
    have hb5 := (HBW.out.alloc HBW.out.size (.cells #[.int .i64 nx, .int .i64 b] 78)).grown hgrow (by have := HWS.out; simp; omega) (fun r hr => by have := HROW.out r hr; omega)
    have hK' := hko.same D _ HKD.out rfl
    have hown6 := OwnS.of_append hown5
    refine ⟨by simp, .inl ⟨_, _, rfl, run_takeDeferred hK', ?_⟩⟩
    have hgb := grownBy_putObj' w5 D (.deferred none)
    have hown7 : OwnS (w5.putObj D (.deferred none)) (w.heap.size + 4) v' (cl ++ [(nx, b)]) := hown6.kept hgb (fun r e => by cases e; exact ⟨_, hK', rfl⟩)
    refine ⟨v', ?_, ⟨v', rfl, ?_, hfit.out, hb5.trans (belowK_b (w := w) (Nat.le_refl _) w5 D _ _ (by have := HDD.out; have := HWS.out; have := HZ.out; omega) hK' rfl rfl)⟩⟩
    · simp [results, Try.f64, go_sem]
    · rw [← hcu.out]; exact hown7.mono (by omega)
  case stop =>
    rintro D c pre W hD ⟨kk, hkk, hpe⟩ ⟨rfl, p, y, rfl, hyb, ⟨⟨hall, hnb, hwsz⟩, ⟨u, hu, hown⟩, hnx, hf2, hf3, ha2, hb2⟩, hB⟩ hK
    have HEQ : p = evF (evR rs k rs.length) (b + 100).toNat := by
      have hb := HB.out
      refine evF_stop hpe (fun z hz => ?_) (by omega)
      have := hall z hz
      omega
    have hst : foC a p = (nxK (chgK rs k) a n, clK (chgK rs k) a n) := by
      have hb := HB.out
      rw [HEQ]
      have := foC_evF (f := evR rs k rs.length) (chg := chgK rs k) (a := a) hb.1 HLOW.out n (by omega) (fun v _ _ => HCHG.out v)
      rw [show a + (n : Int) = b by omega] at this
      exact this
    rw [hst] at hown hnx
    simp only [] at hown hnx
    have hcu : Hid (clK (chgK rs k) a n ++ [(nxK (chgK rs k) a n, b)] = cuK (chgK rs k) a n) := Lib.hid (by have hb := HB.out; unfold cuK; rw [show a + (n : Int) = b by omega])
    have hfit := Lib.hid (cuK_fits (chgK rs k) (a := a) (n := n) (m := n) HB.out.1 (by have := HB.out; omega) (Nat.le_refl _))
    have hlen := Lib.hid (show (clK (chgK rs k) a n).length ≤ 200 by have := clK_len (chgK rs k) a n; have := HB.out; omega)
    generalize nxK (chgK rs k) a n = nx at hnx hcu
    generalize clK (chgK rs k) a n = cl at hown hcu hlen
    have hown4 := World.ownsRow.alloc hown (.cells #[.int .i64 nx, .int .i64 b] 78)
    have HROW := Lib.hid (show ∀ r, u.ownBlock = some r → w.heap.size + 4 ≤ r from fun i hi => (hown.lt i hi).1)
    have HOWN := Lib.hid hown
    have HBW := Lib.hid hB
    have HWS := Lib.hid hwsz
    have HKD := Lib.hid hK
    have HDD := Lib.hid hD
    clear hown hB hwsz hK hD hst hnb hall
    gi_wp2_with (gi_at_builtin; refine wpListIn_append_own _ rfl (.tmp 37) (.tmp 42) 43 rfl (w.heap.size + 4) 78 i0 _ 2 16 Try.underlying43 hi0 hz0 hz1 hz2 rfl (by decide) _ cl.length (cellsOf cl) rfl hown4 ⟨W.heap.size, 0, none⟩ 1 1 [.int .i64 nx, .int .i64 b] rfl rfl ?hc1 ?hc2 ?hc3 ?hc4 ?hc5 ?_; rotate_right; intro v' w5 hown5 hgrow _)
    case hc1 => exact cell_one _ _ _ _ rfl
    case hc2 => simp [Value.oneCell']
    case hc3 => have := hlen.out; unfold maxLen; omega
    case hc4 => have := hlen.out; omega
    case hc5 => have := HWS.out; simp; omega
    have hko := HOWN.out.others hgrow
    have hb5 := (HBW.out.alloc HBW.out.size (.cells #[.int .i64 nx, .int .i64 b] 78)).grown hgrow (by have := HWS.out; simp; omega) (fun r hr => by have := HROW.out r hr; omega)
    have hK' := hko.same D _ HKD.out rfl
    have hown6 := OwnS.of_append hown5
    refine ⟨by simp, .inl ⟨_, _, rfl, run_takeDeferred hK', ?_⟩⟩
    have hgb := grownBy_putObj' w5 D (.deferred none)
    have hown7 : OwnS (w5.putObj D (.deferred none)) (w.heap.size + 4) v' (cl ++ [(nx, b)]) := hown6.kept hgb (fun r e => by cases e; exact ⟨_, hK', rfl⟩)
    refine ⟨v', ?_, ⟨v', rfl, ?_, hfit.out, hb5.trans (belowK_b (w := w) (Nat.le_refl _) w5 D _ _ (by have := HDD.out; have := HWS.out; have := HZ.out; omega) hK' rfl rfl)⟩⟩
    · simp [results, Try.f64, go_sem]
    · rw [← hcu.out]; exact hown7.mono (by omega)
end Go.Proofs.Ytamfmemdhldmjaa

namespace Go.Proofs.Ytamfmemdhldmjaa
open Go.RowKit Sets

/-- what a call hands back that owns its spans -/
def ResS (xs : List Sp) (w : World) (e : Ending) (w' : World) : Prop := ∃ A' c', e = .returned (.slice A' xs.length c') ∧ SpanF w' A' c' xs (zone w.heap.size w'.heap.size) ∧ Below w.heap.size w w'
theorem ResS.of_own {xs : List Sp} {w W w' : World} {v : Value} (h : OwnS w' W.heap.size v xs) (hf : Fits xs) (hb : Below W.heap.size W w') (hb0 : Below w.heap.size w W) : ResS xs w (.returned v) w' := by
  obtain ⟨A, c, rfl, hS⟩ := SpanF.of_own h hf
  exact ⟨A, c, rfl, hS.sub (zone_in hb0.size (Nat.le_refl _)), hb0.trans (hb.mono hb0.size)⟩
theorem cuts_no1 {t : Tb} {k : Int} (h : tabB t = false) : cutsV t k = [] := by unfold cutsV; rw [h]; rfl
theorem cuts_no2 {t : Tb} {k : Int} (h : k < 0) : cutsV t k = [] := by unfold cutsV; rw [decide_eq_false (show ¬ 0 ≤ k by omega)]; simp
theorem cuts_no3 {t : Tb} {k : Int} (h : (t.cols.length : Int) ≤ k) : cutsV t k = [] := by unfold cutsV; rw [decide_eq_false (show ¬ k < (t.cols.length : Int) by omega)]; simp
theorem cuts_yes {t : Tb} {k : Nat} (h : tabB t = true) (hk : k < t.cols.length) : cutsV t k = cutC t k := by
  unfold cutsV
  rw [if_pos (by rw [h, decide_eq_true (show (0 : Int) ≤ k by omega), decide_eq_true (show (k : Int) < t.cols.length by omega)]; rfl)]; rfl
theorem cutC_len {t : Tb} {k : Nat} (h : tabB t = true) (hk : k < t.cols.length) : 1 ≤ (cutC t k).length ∧ (cutC t k).length ≤ 199 := by
  have hc := tab_col h hk
  unfold cutC
  rw [cuK_len]
  have := clK_len (chgK t.rules k) (t.cols.getD k (false, 0, 0)).2.1 ((t.cols.getD k (false, 0, 0)).2.2 - (t.cols.getD k (false, 0, 0)).2.1).toNat
  omega
theorem cutsV_small {t : Tb} {k : Int} : (cutsV t k).length ≤ 1048576 := by
  unfold cutsV
  split
  · rename_i h
    rw [Bool.and_eq_true, Bool.and_eq_true, decide_eq_true_eq, decide_eq_true_eq] at h
    have := cutC_len h.1 (k := k.toNat) (by omega)
    omega
  · simp

set_option maxRecDepth 100000 in
set_option maxHeartbeats 2000000 in
theorem specCO_any (v : Value) (t : Tb) (k : Int) (w : World) (hT : TabAt w w.heap.size v t) :
    Calls Try.prog 25 #[v, .int .i64 k] w (ResS (cutsV t k) w) := by
  have HT := Lib.hid hT
  obtain ⟨A1, c1, A2, c2, rfl, hC, hR⟩ := hT
  obtain ⟨cs, x, rs⟩ := t
  simp only [] at HT ⊢
  clear hC hR
  have hb0 : Below w.heap.size w (w.alloc (.cells #[.slice A1 cs.length c1, .int .i64 x, .slice A2 rs.length c2] 32)) := (Below.refl _ _).alloc (Nat.le_refl _) _
  have X := Lib.hid (TBox.made w A1 cs.length c1 x A2 rs.length c2 32)
  obtain ⟨p0, p1, p2, p3⟩ := X.out
  clear p3
  go_enter Try.func25, Try.ntmps25
  go_wp2_with fail
  clear p0 p1 p2
  generalize (w.alloc (.cells #[.slice A1 cs.length c1, .int .i64 x, .slice A2 rs.length c2] 32)) = W at hb0 X ⊢
  refine (specTabV_any _ ⟨cs, x, rs⟩ W (HT.out.step hb0)).mono ?_
  rintro e w1 ⟨rfl, b1⟩
  obtain ⟨p0, p1, p2, p3⟩ := X.out.step b1
  have B := Lib.hid (hb0.trans (b1.mono hb0.size))
  clear p3 X b1 hb0
  have hE := fun (hv : cutsV ⟨cs, x, rs⟩ k = []) => (show ResS (cutsV ⟨cs, x, rs⟩ k) w (.returned (.slice (some ⟨w1.heap.size, 0, none⟩) 0 0)) (w1.alloc (.cells #[] 78)) by
    rw [hv]; exact ⟨_, _, rfl, SpanF.nil _ _ _ (by omega) _, B.out.alloc B.out.size _⟩)
  have HE := Lib.hid hE
  clear hE
  cases htv : tabB ⟨cs, x, rs⟩
  · have hv := Lib.hid (cuts_no1 (k := k) htv)
    clear htv
    go_wp2
    try trivial
    go_ret
    exact HE.out hv.out
  · have HI := Lib.hid htv
    clear htv
    by_cases q1 : k < 0
    · have hv := Lib.hid (cuts_no2 (t := ⟨cs, x, rs⟩) q1)
      go_wp2
      try trivial
      go_ret
      exact HE.out hv.out
    · have q1' : decide (k < 0) = false := decide_eq_false q1
      by_cases q2 : (cs.length : Int) ≤ k
      · have hv := Lib.hid (cuts_no3 (t := ⟨cs, x, rs⟩) q2)
        go_wp2
        try trivial
        go_ret
        exact HE.out hv.out
      · have q2' : decide ((cs.length : Int) ≤ k) = false := decide_eq_false q2
        obtain ⟨m, hm⟩ : ∃ m : Nat, k = (m : Int) := ⟨k.toNat, by omega⟩
        subst hm
        have hmk : m < cs.length := by omega
        have hv := Lib.hid (cuts_yes HI.out hmk)
        clear HE q1 q2
        go_wp2_with fail
        clear p0 p1 p2
        refine (specCuts_any _ ⟨cs, x, rs⟩ m w1 (HT.out.step B.out) HI.out hmk).mono ?_
        rintro e w2 ⟨v', rfl, hO, hf, b2⟩
        have HR := Lib.hid (show ResS (cutsV ⟨cs, x, rs⟩ (m : Int)) w (.returned v') w2 by rw [hv.out]; exact ResS.of_own hO hf b2 B.out)
        clear hO hf b2
        go_wp2
        go_ret
        exact HR.out

set_option maxRecDepth 100000 in
set_option maxHeartbeats 2000000 in
theorem implCO_any (v : Value) (t : Tb) (k : Int) (w : World) (hT : TabAt w w.heap.size v t) :
    Calls Try.prog 26 #[v, .int .i64 k] w (ResS (cutsV t k) w) := by
  have HT := Lib.hid hT
  obtain ⟨A1, c1, A2, c2, rfl, hC, hR⟩ := hT
  obtain ⟨cs, x, rs⟩ := t
  simp only [] at HT ⊢
  clear hC hR
  have hb0 : Below w.heap.size w (w.alloc (.cells #[.slice A1 cs.length c1, .int .i64 x, .slice A2 rs.length c2] 32)) := (Below.refl _ _).alloc (Nat.le_refl _) _
  have X := Lib.hid (TBox.made w A1 cs.length c1 x A2 rs.length c2 32)
  obtain ⟨p0, p1, p2, p3⟩ := X.out
  clear p3
  go_enter Try.func26, Try.ntmps26
  go_wp2_with fail
  clear p0 p1 p2
  generalize (w.alloc (.cells #[.slice A1 cs.length c1, .int .i64 x, .slice A2 rs.length c2] 32)) = W at hb0 X ⊢
  refine (implTabV_any _ ⟨cs, x, rs⟩ W (HT.out.step hb0)).mono ?_
  rintro e w1 ⟨rfl, b1⟩
  obtain ⟨p0, p1, p2, p3⟩ := X.out.step b1
  have B := Lib.hid (hb0.trans (b1.mono hb0.size))
  clear p3 X b1 hb0
  have hE := fun (hv : cutsV ⟨cs, x, rs⟩ k = []) => (show ResS (cutsV ⟨cs, x, rs⟩ k) w (.returned (.slice none 0 0)) w1 by
    rw [hv]; exact ⟨_, _, rfl, SpanF.nil _ _ _ (by omega) _, B.out⟩)
  have HE := Lib.hid hE
  clear hE
  cases htv : tabB ⟨cs, x, rs⟩
  · have hv := Lib.hid (cuts_no1 (k := k) htv)
    clear htv
    go_wp2
    try trivial
    go_ret
    exact HE.out hv.out
  · have HI := Lib.hid htv
    clear htv
    by_cases q1 : k < 0
    · have hv := Lib.hid (cuts_no2 (t := ⟨cs, x, rs⟩) q1)
      go_wp2
      try trivial
      go_ret
      exact HE.out hv.out
    · have q1' : decide (k < 0) = false := decide_eq_false q1
      by_cases q2 : (cs.length : Int) ≤ k
      · have hv := Lib.hid (cuts_no3 (t := ⟨cs, x, rs⟩) q2)
        go_wp2
        try trivial
        go_ret
        exact HE.out hv.out
      · have q2' : decide ((cs.length : Int) ≤ k) = false := decide_eq_false q2
        obtain ⟨m, hm⟩ : ∃ m : Nat, k = (m : Int) := ⟨k.toNat, by omega⟩
        subst hm
        have hmk : m < cs.length := by omega
        have hv := Lib.hid (cuts_yes HI.out hmk)
        clear HE q1 q2
        go_wp2_with fail
        clear p0 p1 p2
        refine (implCuts_any _ ⟨cs, x, rs⟩ m w1 (HT.out.step B.out) HI.out hmk).mono ?_
        rintro e w2 ⟨v', rfl, hO, hf, b2⟩
        have HR := Lib.hid (show ResS (cutsV ⟨cs, x, rs⟩ (m : Int)) w (.returned v') w2 by rw [hv.out]; exact ResS.of_own hO hf b2 B.out)
        clear hO hf b2
        go_wp2
        go_ret
        exact HR.out
end Go.Proofs.Ytamfmemdhldmjaa
