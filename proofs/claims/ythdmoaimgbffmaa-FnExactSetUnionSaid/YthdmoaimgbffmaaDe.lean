/-
  The library's search for an element and its deletion of elements, where the elements are spans without numbers.
-/
import Derived.Test.YthdmoaimgbffmaaIv
import Derived.Test.YthdmoaimgbffmaaGn
import Derived.Test.YthdmoaimgbffmaaEq
import Derived.Shelf.Abstract
import Derived.Lib.SliceRun
namespace Go.Proofs.Ythdmoaimgbffmaa
open Go.RowKit Sets

def IdxRes (xs : List Sp) (e : Ending) : Prop :=
  (e = .returned (.int .i64 (-1)) ∧ ∀ j, j < xs.length → lo xs j ≤ hi xs j) ∨ ∃ k : Nat, k < xs.length ∧ e = .returned (.int .i64 k) ∧ hi xs k < lo xs k ∧ ∀ j, j < k → lo xs j ≤ hi xs j

set_option maxRecDepth 100000 in
set_option maxHeartbeats 1000000 in
theorem idxE_any (A : Option Addr) (c : Nat) (xs : List Sp) (w : World) (h : Reads w w.heap.size A c xs) :
    Calls Try.prog 66 #[.slice A xs.length c, .func (.func 47) #[] #[]] w fun e w' => IdxRes xs e ∧ Below w.heap.size w w' := by
  obtain ⟨hlc, hc, hfit, hrow⟩ := h
  have eg : ∀ args w, (callFunc 47 args).run Try.prog w = .ok (.enter 47 args) w := enters_of Try.func47 (by kernel_rfl) rfl
  go_enter Try.func66, Try.ntmps66
  go_wp2
  go_loopw [8] (fun i wr => ∃ k : Nat, k ≤ xs.length ∧ i = .int .i64 k ∧ (∀ j, j < k → lo xs j ≤ hi xs j) ∧ Below w.heap.size w wr) (fun i _ => xs.length - (intOf i).toNat)
  case atStart => exact ⟨0, Nat.zero_le _, rfl, fun j hj => absurd hj (by omega), Below.refl _ _⟩
  case round =>
    obtain ⟨k, hk, rfl, hno, hb⟩ := hrel
    by_cases hlt : k < xs.length
    · rcases hrow with rfl | ⟨b, off, rfl, hB, hrow⟩
      · simp at hlt
      · have hkl : (k : Int) < (xs.length : Int) := by omega
        obtain ⟨c1, c2⟩ := (hrow.below hb hB) k hlt
        have HNO := Lib.hid hno
        clear hno
        by_cases he : hi xs k < lo xs k
        · have HE := Lib.hid he
          have hd : decide (hi xs k < lo xs k) = true := decide_eq_true he
          clear he
          go_wp2_with (go_at_fn 47; refine (empty_any _ _ _).mono ?_; rw [hd]; rintro e w' ⟨rfl, rfl⟩)
          go_ret
          exact ⟨.inr ⟨k, hlt, rfl, HE.out, HNO.out⟩, hb.alloc hb.size _⟩
        · have HE := Lib.hid he
          have hd : decide (hi xs k < lo xs k) = false := decide_eq_false he
          clear he
          go_wp2_with (go_at_fn 47; refine (empty_any _ _ _).mono ?_; rw [hd]; rintro e w' ⟨rfl, rfl⟩)
          go_roundw
          case rel => exact ⟨k + 1, hlt, by go_num, (fun j hj => by
            rcases Nat.lt_or_ge j k with h | h
            · exact HNO.out j h
            · obtain rfl : j = k := by omega
              have := HE.out
              omega), hb.alloc hb.size _⟩
          case measure => simp [intOf]; omega
    · obtain rfl : k = xs.length := by omega
      go_wp2
      go_ret
      exact ⟨.inl ⟨rfl, hno⟩, hb⟩

/-- the spans that have numbers -/
def keptE (xs : List Sp) : List Sp := xs.filter fun x => decide (x.1 ≤ x.2)
theorem keptE_take {xs : List Sp} {k : Nat} (h : k < xs.length) : keptE (xs.take (k + 1)) = if lo xs k ≤ hi xs k then keptE (xs.take k) ++ [(lo xs k, hi xs k)] else keptE (xs.take k) := by
  rw [take_lohi h]
  unfold keptE
  rw [List.filter_append]
  by_cases e : lo xs k ≤ hi xs k
  · rw [if_pos e]
    congr 1
    simp [e]
  · rw [if_neg e]
    simp [e]
theorem keptE_len (xs : List Sp) (k : Nat) : (keptE (xs.take k)).length ≤ k := by
  have := List.length_filter_le (fun x : Sp => decide (x.1 ≤ x.2)) (xs.take k)
  have h2 := List.length_take_le k xs
  unfold keptE
  omega
theorem keptE_all {xs : List Sp} : ∀ k, k ≤ xs.length → (∀ j, j < k → lo xs j ≤ hi xs j) → keptE (xs.take k) = xs.take k
  | 0, _, _ => by simp [keptE]
  | k + 1, hk, h => by
    rw [keptE_take (by omega), if_pos (h k (by omega)), keptE_all k (by omega) fun j hj => h j (by omega), take_lohi (by omega)]
theorem keptE_mem (xs : List Sp) (n : Int) : memS (keptE xs) n ↔ memS xs n := by
  unfold keptE memS
  constructor
  · rintro ⟨x, hx, h⟩
    exact ⟨x, (List.mem_filter.1 hx).1, h⟩
  · rintro ⟨x, hx, h⟩
    exact ⟨x, List.mem_filter.2 ⟨hx, decide_eq_true (by omega)⟩, h⟩

theorem clear_run (w : World) (ty : TypeId) (b o n c : Nat) (hn : 0 < n) (hc : ∀ j, j < n * 2 → ∃ v, w.cell? ⟨b, o + j, none⟩ = some v) (hf : ∀ j, w.frozen? ⟨b, j, none⟩ = false) :
    ∃ zs : List Value, zs.length = n * 2 ∧ (∀ v ∈ zs, v = .int .i64 0) ∧ (Builtin.clear_ #[23] ty #[.slice (some ⟨b, o, none⟩) n c]).run Try.prog w = .ok (.tuple #[]) (w.setCells b o zs) := by
  have hlen : (Builtin.zeroCells (Value.agg #[.int .i64 0, .int .i64 0]).cells n).toList.length = n * 2 := by simp [Builtin.zeroCells, Value.cells]
  have hall : ∀ v ∈ (Builtin.zeroCells (Value.agg #[.int .i64 0, .int .i64 0]).cells n).toList, v = .int .i64 0 := by
    intro v hv
    obtain ⟨i, hi, rfl⟩ := List.getElem_of_mem hv
    simp [Builtin.zeroCells, Value.cells]
    have : i % 2 = 0 ∨ i % 2 = 1 := by omega
    rcases this with e | e <;> simp [e]
  refine ⟨_, hlen, hall, ?_⟩
  have hst := run_storeCells_cells (P := Try.prog) b o (Builtin.zeroCells (Value.agg #[.int .i64 0, .int .i64 0]).cells n).toList 0 w (by
      intro j hj
      obtain ⟨v, hv⟩ := hc j (by rw [hlen] at hj; exact hj)
      simp [hv]) (by intro j _; exact hf _) (by intro v hv; rw [hall v hv]; rfl)
  simp only [Nat.add_zero] at hst
  obtain ⟨m, rfl⟩ : ∃ m, n = m + 1 := ⟨n - 1, by omega⟩
  simp [Builtin.clear_, run_underlying Try.underlying23, Try.zeroValue29, hst]

/-- the cells from the k-th span on hold what they held -/
def RestAt (w : World) (g k : Nat) (xs : List Sp) : Prop := ∀ m, k ≤ m → m < xs.length → w.cell? ⟨g, m * 2, none⟩ = some (.int .i64 (lo xs m)) ∧ w.cell? ⟨g, m * 2 + 1, none⟩ = some (.int .i64 (hi xs m))
theorem RestAt.below {w w' : World} {g k B : Nat} {xs : List Sp} (h : RestAt w g k xs) (hb : Below B w w') (hB : g < B) : RestAt w' g k xs :=
  fun m hm hl => ⟨(hb.cell (p := ⟨g, m * 2, none⟩) hB).trans (h m hm hl).1, (hb.cell (p := ⟨g, m * 2 + 1, none⟩) hB).trans (h m hm hl).2⟩
theorem RestAt.put2 {w : World} {g k i : Nat} {xs : List Sp} (h : RestAt w g k xs) (hi : i < k) (a b : Int) (h0 : ∃ v, w.cell? ⟨g, i * 2, none⟩ = some v) (h1 : ∃ v, w.cell? ⟨g, i * 2 + 1, none⟩ = some v) : RestAt (Ythdmoaimgbffmaa.put2 w g (i * 2) a b) g k xs := fun m hm hl => by
  rw [put2_cell _ _ _ _ _ _ h0 h1, put2_cell _ _ _ _ _ _ h0 h1, if_neg (by omega), if_neg (by omega), if_neg (by omega), if_neg (by omega)]
  exact h m hm hl
theorem RestAt.mono {w : World} {g k k' : Nat} {xs : List Sp} (h : RestAt w g k xs) (hk : k ≤ k') : RestAt w g k' xs := fun m hm hl => h m (by omega) hl
theorem two_boxes (wr w' : World) (a b : Int) (h : (wr.alloc (.cells #[.int .i64 a, .int .i64 b] 29)).alloc (.cells #[.int .i64 a, .int .i64 b] 29) = w') :
    Below wr.heap.size wr w' ∧ w'.cell? ⟨wr.heap.size, 0, none⟩ = some (.int .i64 a) ∧ w'.cell? ⟨wr.heap.size, 1, none⟩ = some (.int .i64 b) := by
  subst h
  refine ⟨((Below.refl _ _).alloc (Nat.le_refl _) _).alloc (by simp) _, ?_, ?_⟩ <;> (rw [World.cell?_alloc2_first]; rfl)

theorem setCells_below {B g : Nat} {w : World} (hB : B ≤ g) : ∀ (vs : List Value) (o : Nat) (a : World), Below B w a → Below B w (a.setCells g o vs)
  | [], _, _, h => h
  | v :: vs, o, _, h => setCells_below hB vs (o + 1) _ (h.setCell (p := ⟨g, o, none⟩) hB v)
theorem setCells_size (g : Nat) : ∀ (vs : List Value) (o : Nat) (a : World), (a.setCells g o vs).heap.size = a.heap.size
  | [], _, _ => rfl
  | v :: vs, o, a => (setCells_size g vs (o + 1) (a.setCell ⟨g, o, none⟩ v)).trans (by simp [World.setCell])
theorem ownRow_cell {w : World} {g n o : Nat} (h : OwnRow w g n) (ho : o < n * 2) : ∃ v, w.cell? ⟨g, o, none⟩ = some v := h.1 o ho

set_option maxRecDepth 100000 in
set_option maxHeartbeats 2000000 in
theorem delete_any (g cap B : Nat) (xs : List Sp) (w : World) (hrow : RowAt w g 0 xs) (hown : OwnRow w g xs.length) (hB : B ≤ g) (hfit : Fits xs) (hcap : xs.length ≤ cap) (hcap2 : cap ≤ 9223372036854775807) :
    Calls Try.prog 58 #[.slice (some ⟨g, 0, none⟩) xs.length cap, .func (.func 47) #[] #[]] w
      fun e w' => e = .returned (.slice (some ⟨g, 0, none⟩) (keptE xs).length cap) ∧ RowAt w' g 0 (keptE xs) ∧ OwnRow w' g (keptE xs).length ∧ Below B w w' := by
  have eg : ∀ args w, (callFunc 47 args).run Try.prog w = .ok (.enter 47 args) w := enters_of Try.func47 (by kernel_rfl) rfl
  have hg := hown.2.2
  have hR : Reads w w.heap.size (some ⟨g, 0, none⟩) cap xs := ⟨hcap, hcap2, hfit, .inr ⟨g, 0, rfl, hg, hrow⟩⟩
  have HW := Lib.hid hrow
  clear hrow
  go_enter Try.func58, Try.ntmps58
  go_wp2_with fail
  refine (idxE_any _ cap xs w hR).mono ?_
  rintro e w1 ⟨hidx, b1⟩
  have hs1 := b1.size
  have HO := Lib.hid (hown.below b1 hg)
  have HR := Lib.hid (HW.out.below b1 hg)
  have bB := b1.mono (show B ≤ w.heap.size by omega)
  clear hR hown
  rcases hidx with ⟨rfl, hall⟩ | ⟨k0, hk0, rfl, he, hno⟩
  · have hk : Hid (keptE xs = xs) := Lib.hid (by have := keptE_all xs.length (Nat.le_refl _) hall; rwa [List.take_length] at this)
    clear hall
    go_wp2
    go_ret
    rw [hk.out]
    exact ⟨rfl, HR.out, HO.out, bB⟩
  · have hne : ((k0 : Int) == -1) = false := beq_eq_false_iff_ne.2 (by omega)
    have hk1 := Lib.hid (keptE_take hk0)
    rw [if_neg (by omega)] at hk1
    have hkk := Lib.hid (keptE_all k0 (by omega) hno)
    have hlen0 : (keptE (xs.take (k0 + 1))).length = k0 := by rw [hk1.out, hkk.out, List.length_take]; omega
    have hst : Hid (RowAt w1 g 0 (keptE (xs.take (k0 + 1)))) := Lib.hid (by
      rw [hk1.out, hkk.out]
      intro j hj
      have hj' : j < k0 := by rw [List.length_take] at hj; omega
      have := HR.out j (by omega)
      unfold Ythdmoaimgbffmaa.lo Ythdmoaimgbffmaa.hi at *
      rw [List.getD_eq_getElem?_getD, List.getElem?_take_of_lt hj', ← List.getD_eq_getElem?_getD]
      exact this)
    clear he hno
    have hrest : RestAt w1 g (k0 + 1) xs := fun m _ hl => by
      have := HR.out m hl
      simpa using this
    go_wp2
    go_loopw [5, 6] (fun iv jv wr => ∃ (i k : Nat), iv = .int .i64 i ∧ jv = .int .i64 k ∧ k ≤ xs.length ∧ i < k ∧ Hid ((keptE (xs.take k)).length = i) ∧ RowAt wr g 0 (keptE (xs.take k)) ∧ RestAt wr g k xs ∧ OwnRow wr g xs.length ∧ Below B w wr) (fun _ jv _ => xs.length - (intOf jv).toNat)
    case atStart => exact ⟨k0, k0 + 1, rfl, by go_num, by omega, by omega, Lib.hid hlen0, hst.out, hrest, HO.out, bB⟩
    case round =>
      obtain ⟨i, k, rfl, rfl, hk, hik, hlen, hkr, hre, how, hbb⟩ := hrel
      have hgr := how.2.2
      by_cases hlt : k < xs.length
      · have hkl : (k : Int) < (xs.length : Int) := by omega
        obtain ⟨c1, c2⟩ := hre k (Nat.le_refl _) hlt
        have hts := Lib.hid (keptE_take hlt)
        by_cases he : hi xs k < lo xs k
        · rw [if_neg (by omega)] at hts
          have hd : decide (hi xs k < lo xs k) = true := decide_eq_true he
          clear he
          go_wp2_with (go_at_fn 47; refine (empty_any _ _ _).mono ?_; rw [hd]; rintro e w' ⟨rfl, hw'⟩; obtain ⟨hb2, v0, v1⟩ := two_boxes _ _ _ _ hw'; clear hw')
          go_roundw
          case rel => exact ⟨i, k + 1, rfl, by go_num, by omega, by omega, Lib.hid (by rw [hts.out, hlen.out]), by rw [hts.out]; exact hkr.below hb2 hgr, (hre.mono (by omega)).below hb2 hgr, how.below hb2 hgr, hbb.trans (hb2.mono (by omega))⟩
          case measure => simp [intOf]; omega
        · rw [if_pos (by omega)] at hts
          have hd : decide (hi xs k < lo xs k) = false := decide_eq_false he
          clear he
          have hil : (i : Int) < (xs.length : Int) := by omega
          go_wp2_with (go_at_fn 47; refine (empty_any _ _ _).mono ?_; rw [hd]; rintro e w' ⟨rfl, hw'⟩; obtain ⟨hb2, v0, v1⟩ := two_boxes _ _ _ _ hw'; clear hw'; have how1 := how.below hb2 hgr; obtain ⟨u0, g0⟩ := how1.1 (i * 2) (by omega); obtain ⟨u1, g1⟩ := how1.1 (i * 2 + 1) (by omega); have f0 := how1.2.1 (i * 2); have f1 := how1.2.1 (i * 2 + 1))
          have p1 := put2_row (k := i) (hkr.below hb2 hgr) hlen.out.symm (lo xs k) (hi xs k) ⟨_, g0⟩ ⟨_, g1⟩
          have p2 := put2_own how1 (lo xs k) (hi xs k) ⟨_, g0⟩ ⟨_, g1⟩
          have p3 := put2_below (hbb.trans (hb2.mono (by omega))) g (i * 2) (lo xs k) (hi xs k) hB
          have p4 := RestAt.put2 (i := i) (hre.below hb2 hgr) hik (lo xs k) (hi xs k) ⟨_, g0⟩ ⟨_, g1⟩
          rw [← hts.out] at p1
          go_roundw
          case rel => exact ⟨i + 1, k + 1, by go_num, by go_num, by omega, by omega, Lib.hid (by rw [hts.out, List.length_append, hlen.out]; rfl), p1, p4.mono (by omega), p2, p3⟩
          case measure => simp [intOf]; omega
      · obtain rfl : k = xs.length := by omega
        obtain ⟨zs, hz1, hz2, hrun⟩ := clear_run wr 0 g (i * 2) (xs.length - i) (cap - i) (by omega) (fun j hj => how.1 _ (by omega)) (fun j => how.2.1 _)
        have hrest2 : Hid (RowAt (wr.setCells g (i * 2) zs) g 0 (keptE xs) ∧ OwnRow (wr.setCells g (i * 2) zs) g (keptE xs).length ∧ Below B w (wr.setCells g (i * 2) zs)) := Lib.hid (by
          have hl := hlen.out
          rw [List.take_length] at hl hkr
          have hb := setCells_below hB zs (i * 2) wr hbb
          have hout : ∀ o, o < i * 2 → (wr.setCells g (i * 2) zs).cell? ⟨g, o, none⟩ = wr.cell? ⟨g, o, none⟩ := fun o ho => World.cell?_setCells_out g zs (i * 2) wr ⟨g, o, none⟩ fun _ _ => .inl ho
          refine ⟨fun j hj => ?_, ⟨fun o ho => ?_, fun o => ?_, by rw [setCells_size]; exact hgr⟩, hb⟩
          · have := hkr j hj
            rw [Nat.zero_add] at this ⊢
            rw [hout _ (by omega), hout _ (by omega)]
            exact this
          · rw [hl] at ho
            rw [hout _ (by omega)]
            exact how.1 o (by omega)
          · rw [World.frozen?_setCells]; exact how.2.1 o)
        have hl : Hid ((keptE xs).length = i) := Lib.hid (by have := hlen.out; rwa [List.take_length] at this)
        clear hlen hkr hre hst hlen0
        go_wp2
        go_ret
        have := hrest2.out
        rw [hl.out] at this ⊢
        exact ⟨rfl, this⟩
end Go.Proofs.Ythdmoaimgbffmaa
