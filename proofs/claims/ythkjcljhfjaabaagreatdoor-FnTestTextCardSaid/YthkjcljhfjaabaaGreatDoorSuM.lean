/-
  The library's search for an element and its deletion of elements, where the elements are spans without numbers.
-/
import Derived.Test.YthkjcljhfjaabaaGreatDoorIv
import Derived.Test.YthkjcljhfjaabaaGreatDoorGn
import Derived.Test.YthkjcljhfjaabaaGreatDoorEq
import Derived.Shelf.Abstract
import Derived.Lib.SliceRun
import Derived.Shelf.Spec.SlicesGrow
import Derived.Laws.AppendOwnNone
import Derived.Test.YthkjcljhfjaabaaGreatDoorSh
import Derived.Test.YthkjcljhfjaabaaGreatDoorOw
import Derived.Shelf.SlSortCmp.WholeK
import Derived.Ground.SlsfProg
import Derived.Test.YthkjcljhfjaabaaGreatDoorPj
import Derived.StillTailTactics
import Derived.Test.YthkjcljhfjaabaaGreatDoorFr
import Derived.Test.YthkjcljhfjaabaaGreatDoorIm
import Derived.Test.YthkjcljhfjaabaaGreatDoorSo
namespace Go.Proofs.YthkjcljhfjaabaaGreatDoor
open Go.RowKit Sets

def IdxRes (xs : List Sp) (e : Ending) : Prop :=
  (e = .returned (.int .i64 (-1)) ∧ ∀ j, j < xs.length → lo xs j ≤ hi xs j) ∨ ∃ k : Nat, k < xs.length ∧ e = .returned (.int .i64 k) ∧ hi xs k < lo xs k ∧ ∀ j, j < k → lo xs j ≤ hi xs j

set_option maxRecDepth 100000 in
set_option maxHeartbeats 1000000 in
theorem idxE_any (A : Option Addr) (c : Nat) (xs : List Sp) (w : World) (h : Reads w w.heap.size A c xs) :
    Calls Tryz.prog 115 #[.slice A xs.length c, .func (.func 52) #[] #[]] w fun e w' => IdxRes xs e ∧ Below w.heap.size w w' := by
  obtain ⟨hlc, hc, hfit, hrow⟩ := h
  have eg : ∀ args w, (callFunc 52 args).run Tryz.prog w = .ok (.enter 52 args) w := enters_of Tryz.func52 (by kernel_rfl) rfl
  go_enter Tryz.func115, Tryz.ntmps115
  go_wp2
  go_loopw [8] (fun i wr => ∃ k : Nat, k ≤ xs.length ∧ i = .int .i64 k ∧ (∀ j, j < k → lo xs j ≤ hi xs j) ∧ Below w.heap.size w wr) (fun i _ => xs.length - (intOf i).toNat)
  case atStart => exact ⟨0, Nat.zero_le _, rfl, fun j hj => absurd hj (by omega), Below.refl _ _⟩
  case round =>
    obtain ⟨k, hk, rfl, hno, hb⟩ := hrel
    by_cases hlt : k < xs.length
    · rcases hrow with rfl | ⟨b, off, rfl, hB, hrow⟩
      · simp at hlt
      · have hkl : (k : Int) < (xs.length : Int) := by omega
        obtain ⟨c1, c2⟩ := (hrow.below hb hB) k hlt
        have HNO := Lib.hid hno
        clear hno
        by_cases he : hi xs k < lo xs k
        · have HE := Lib.hid he
          have hd : decide (hi xs k < lo xs k) = true := decide_eq_true he
          clear he
          go_wp2_with (go_at_fn 52; refine (empty_any _ _ _).mono ?_; rw [hd]; rintro e w' ⟨rfl, rfl⟩)
          go_ret
          exact ⟨.inr ⟨k, hlt, rfl, HE.out, HNO.out⟩, hb.alloc hb.size _⟩
        · have HE := Lib.hid he
          have hd : decide (hi xs k < lo xs k) = false := decide_eq_false he
          clear he
          go_wp2_with (go_at_fn 52; refine (empty_any _ _ _).mono ?_; rw [hd]; rintro e w' ⟨rfl, rfl⟩)
          go_roundw
          case rel => exact ⟨k + 1, hlt, by go_num, (fun j hj => by
            rcases Nat.lt_or_ge j k with h | h
            · exact HNO.out j h
            · obtain rfl : j = k := by omega
              have := HE.out
              omega), hb.alloc hb.size _⟩
          case measure => simp [intOf]; omega
    · obtain rfl : k = xs.length := by omega
      go_wp2
      go_ret
      exact ⟨.inl ⟨rfl, hno⟩, hb⟩

/-- the spans that have numbers -/
def keptE (xs : List Sp) : List Sp := xs.filter fun x => decide (x.1 ≤ x.2)
theorem keptE_take {xs : List Sp} {k : Nat} (h : k < xs.length) : keptE (xs.take (k + 1)) = if lo xs k ≤ hi xs k then keptE (xs.take k) ++ [(lo xs k, hi xs k)] else keptE (xs.take k) := by
  rw [take_lohi h]
  unfold keptE
  rw [List.filter_append]
  by_cases e : lo xs k ≤ hi xs k
  · rw [if_pos e]
    congr 1
    simp [e]
  · rw [if_neg e]
    simp [e]
theorem keptE_len (xs : List Sp) (k : Nat) : (keptE (xs.take k)).length ≤ k := by
  have := List.length_filter_le (fun x : Sp => decide (x.1 ≤ x.2)) (xs.take k)
  have h2 := List.length_take_le k xs
  unfold keptE
  omega
theorem keptE_all {xs : List Sp} : ∀ k, k ≤ xs.length → (∀ j, j < k → lo xs j ≤ hi xs j) → keptE (xs.take k) = xs.take k
  | 0, _, _ => by simp [keptE]
  | k + 1, hk, h => by
    rw [keptE_take (by omega), if_pos (h k (by omega)), keptE_all k (by omega) fun j hj => h j (by omega), take_lohi (by omega)]
theorem keptE_mem (xs : List Sp) (n : Int) : memS (keptE xs) n ↔ memS xs n := by
  unfold keptE memS
  constructor
  · rintro ⟨x, hx, h⟩
    exact ⟨x, (List.mem_filter.1 hx).1, h⟩
  · rintro ⟨x, hx, h⟩
    exact ⟨x, List.mem_filter.2 ⟨hx, decide_eq_true (by omega)⟩, h⟩

theorem clear_run (w : World) (ty : TypeId) (b o n c : Nat) (hn : 0 < n) (hc : ∀ j, j < n * 2 → ∃ v, w.cell? ⟨b, o + j, none⟩ = some v) (hf : ∀ j, w.frozen? ⟨b, j, none⟩ = false) :
    ∃ zs : List Value, zs.length = n * 2 ∧ (∀ v ∈ zs, v = .int .i64 0) ∧ (Builtin.clear_ #[24] ty #[.slice (some ⟨b, o, none⟩) n c]).run Tryz.prog w = .ok (.tuple #[]) (w.setCells b o zs) := by
  have hlen : (Builtin.zeroCells (Value.agg #[.int .i64 0, .int .i64 0]).cells n).toList.length = n * 2 := by simp [Builtin.zeroCells, Value.cells]
  have hall : ∀ v ∈ (Builtin.zeroCells (Value.agg #[.int .i64 0, .int .i64 0]).cells n).toList, v = .int .i64 0 := by
    intro v hv
    obtain ⟨i, hi, rfl⟩ := List.getElem_of_mem hv
    simp [Builtin.zeroCells, Value.cells]
    have : i % 2 = 0 ∨ i % 2 = 1 := by omega
    rcases this with e | e <;> simp [e]
  refine ⟨_, hlen, hall, ?_⟩
  have hst := run_storeCells_cells (P := Tryz.prog) b o (Builtin.zeroCells (Value.agg #[.int .i64 0, .int .i64 0]).cells n).toList 0 w (by
      intro j hj
      obtain ⟨v, hv⟩ := hc j (by rw [hlen] at hj; exact hj)
      simp [hv]) (by intro j _; exact hf _) (by intro v hv; rw [hall v hv]; rfl)
  simp only [Nat.add_zero] at hst
  obtain ⟨m, rfl⟩ : ∃ m, n = m + 1 := ⟨n - 1, by omega⟩
  simp [Builtin.clear_, run_underlying Tryz.underlying24, Tryz.zeroValue55, hst]

/-- the cells from the k-th span on hold what they held -/
def RestAt (w : World) (g k : Nat) (xs : List Sp) : Prop := ∀ m, k ≤ m → m < xs.length → w.cell? ⟨g, m * 2, none⟩ = some (.int .i64 (lo xs m)) ∧ w.cell? ⟨g, m * 2 + 1, none⟩ = some (.int .i64 (hi xs m))
theorem RestAt.below {w w' : World} {g k B : Nat} {xs : List Sp} (h : RestAt w g k xs) (hb : Below B w w') (hB : g < B) : RestAt w' g k xs :=
  fun m hm hl => ⟨(hb.cell (p := ⟨g, m * 2, none⟩) hB).trans (h m hm hl).1, (hb.cell (p := ⟨g, m * 2 + 1, none⟩) hB).trans (h m hm hl).2⟩
theorem RestAt.put2 {w : World} {g k i : Nat} {xs : List Sp} (h : RestAt w g k xs) (hi : i < k) (a b : Int) (h0 : ∃ v, w.cell? ⟨g, i * 2, none⟩ = some v) (h1 : ∃ v, w.cell? ⟨g, i * 2 + 1, none⟩ = some v) : RestAt (YthkjcljhfjaabaaGreatDoor.put2 w g (i * 2) a b) g k xs := fun m hm hl => by
  rw [put2_cell _ _ _ _ _ _ h0 h1, put2_cell _ _ _ _ _ _ h0 h1, if_neg (by omega), if_neg (by omega), if_neg (by omega), if_neg (by omega)]
  exact h m hm hl
theorem RestAt.mono {w : World} {g k k' : Nat} {xs : List Sp} (h : RestAt w g k xs) (hk : k ≤ k') : RestAt w g k' xs := fun m hm hl => h m (by omega) hl
theorem two_boxes (wr w' : World) (a b : Int) (h : (wr.alloc (.cells #[.int .i64 a, .int .i64 b] 55)).alloc (.cells #[.int .i64 a, .int .i64 b] 55) = w') :
    Below wr.heap.size wr w' ∧ w'.cell? ⟨wr.heap.size, 0, none⟩ = some (.int .i64 a) ∧ w'.cell? ⟨wr.heap.size, 1, none⟩ = some (.int .i64 b) := by
  subst h
  refine ⟨((Below.refl _ _).alloc (Nat.le_refl _) _).alloc (by simp) _, ?_, ?_⟩ <;> (rw [World.cell?_alloc2_first]; rfl)

theorem setCells_below {B g : Nat} {w : World} (hB : B ≤ g) : ∀ (vs : List Value) (o : Nat) (a : World), Below B w a → Below B w (a.setCells g o vs)
  | [], _, _, h => h
  | v :: vs, o, _, h => setCells_below hB vs (o + 1) _ (h.setCell (p := ⟨g, o, none⟩) hB v)
theorem setCells_size (g : Nat) : ∀ (vs : List Value) (o : Nat) (a : World), (a.setCells g o vs).heap.size = a.heap.size
  | [], _, _ => rfl
  | v :: vs, o, a => (setCells_size g vs (o + 1) (a.setCell ⟨g, o, none⟩ v)).trans (by simp [World.setCell])
theorem ownRow_cell {w : World} {g n o : Nat} (h : OwnRow w g n) (ho : o < n * 2) : ∃ v, w.cell? ⟨g, o, none⟩ = some v := h.1 o ho

set_option maxRecDepth 100000 in
set_option maxHeartbeats 2000000 in
theorem delete_any (g cap B : Nat) (xs : List Sp) (w : World) (hrow : RowAt w g 0 xs) (hown : OwnRow w g xs.length) (hB : B ≤ g) (hfit : Fits xs) (hcap : xs.length ≤ cap) (hcap2 : cap ≤ 9223372036854775807) :
    Calls Tryz.prog 97 #[.slice (some ⟨g, 0, none⟩) xs.length cap, .func (.func 52) #[] #[]] w
      fun e w' => e = .returned (.slice (some ⟨g, 0, none⟩) (keptE xs).length cap) ∧ RowAt w' g 0 (keptE xs) ∧ OwnRow w' g (keptE xs).length ∧ Below B w w' := by
  have eg : ∀ args w, (callFunc 52 args).run Tryz.prog w = .ok (.enter 52 args) w := enters_of Tryz.func52 (by kernel_rfl) rfl
  have hg := hown.2.2
  have hR : Reads w w.heap.size (some ⟨g, 0, none⟩) cap xs := ⟨hcap, hcap2, hfit, .inr ⟨g, 0, rfl, hg, hrow⟩⟩
  have HW := Lib.hid hrow
  clear hrow
  go_enter Tryz.func97, Tryz.ntmps97
  go_wp2_with fail
  refine (idxE_any _ cap xs w hR).mono ?_
  rintro e w1 ⟨hidx, b1⟩
  have hs1 := b1.size
  have HO := Lib.hid (hown.below b1 hg)
  have HR := Lib.hid (HW.out.below b1 hg)
  have bB := b1.mono (show B ≤ w.heap.size by omega)
  clear hR hown
  rcases hidx with ⟨rfl, hall⟩ | ⟨k0, hk0, rfl, he, hno⟩
  · have hk : Hid (keptE xs = xs) := Lib.hid (by have := keptE_all xs.length (Nat.le_refl _) hall; rwa [List.take_length] at this)
    clear hall
    go_wp2
    go_ret
    rw [hk.out]
    exact ⟨rfl, HR.out, HO.out, bB⟩
  · have hne : ((k0 : Int) == -1) = false := beq_eq_false_iff_ne.2 (by omega)
    have hk1 := Lib.hid (keptE_take hk0)
    rw [if_neg (by omega)] at hk1
    have hkk := Lib.hid (keptE_all k0 (by omega) hno)
    have hlen0 : (keptE (xs.take (k0 + 1))).length = k0 := by rw [hk1.out, hkk.out, List.length_take]; omega
    have hst : Hid (RowAt w1 g 0 (keptE (xs.take (k0 + 1)))) := Lib.hid (by
      rw [hk1.out, hkk.out]
      intro j hj
      have hj' : j < k0 := by rw [List.length_take] at hj; omega
      have := HR.out j (by omega)
      unfold YthkjcljhfjaabaaGreatDoor.lo YthkjcljhfjaabaaGreatDoor.hi at *
      rw [List.getD_eq_getElem?_getD, List.getElem?_take_of_lt hj', ← List.getD_eq_getElem?_getD]
      exact this)
    clear he hno
    have hrest : RestAt w1 g (k0 + 1) xs := fun m _ hl => by
      have := HR.out m hl
      simpa using this
    go_wp2
    go_loopw [5, 6] (fun iv jv wr => ∃ (i k : Nat), iv = .int .i64 i ∧ jv = .int .i64 k ∧ k ≤ xs.length ∧ i < k ∧ Hid ((keptE (xs.take k)).length = i) ∧ RowAt wr g 0 (keptE (xs.take k)) ∧ RestAt wr g k xs ∧ OwnRow wr g xs.length ∧ Below B w wr) (fun _ jv _ => xs.length - (intOf jv).toNat)
    case atStart => exact ⟨k0, k0 + 1, rfl, by go_num, by omega, by omega, Lib.hid hlen0, hst.out, hrest, HO.out, bB⟩
    case round =>
      obtain ⟨i, k, rfl, rfl, hk, hik, hlen, hkr, hre, how, hbb⟩ := hrel
      have hgr := how.2.2
      by_cases hlt : k < xs.length
      · have hkl : (k : Int) < (xs.length : Int) := by omega
        obtain ⟨c1, c2⟩ := hre k (Nat.le_refl _) hlt
        have hts := Lib.hid (keptE_take hlt)
        by_cases he : hi xs k < lo xs k
        · rw [if_neg (by omega)] at hts
          have hd : decide (hi xs k < lo xs k) = true := decide_eq_true he
          clear he
          go_wp2_with (go_at_fn 52; refine (empty_any _ _ _).mono ?_; rw [hd]; rintro e w' ⟨rfl, hw'⟩; obtain ⟨hb2, v0, v1⟩ := two_boxes _ _ _ _ hw'; clear hw')
          go_roundw
          case rel => exact ⟨i, k + 1, rfl, by go_num, by omega, by omega, Lib.hid (by rw [hts.out, hlen.out]), by rw [hts.out]; exact hkr.below hb2 hgr, (hre.mono (by omega)).below hb2 hgr, how.below hb2 hgr, hbb.trans (hb2.mono (by omega))⟩
          case measure => simp [intOf]; omega
        · rw [if_pos (by omega)] at hts
          have hd : decide (hi xs k < lo xs k) = false := decide_eq_false he
          clear he
          have hil : (i : Int) < (xs.length : Int) := by omega
          go_wp2_with (go_at_fn 52; refine (empty_any _ _ _).mono ?_; rw [hd]; rintro e w' ⟨rfl, hw'⟩; obtain ⟨hb2, v0, v1⟩ := two_boxes _ _ _ _ hw'; clear hw'; have how1 := how.below hb2 hgr; obtain ⟨u0, g0⟩ := how1.1 (i * 2) (by omega); obtain ⟨u1, g1⟩ := how1.1 (i * 2 + 1) (by omega); have f0 := how1.2.1 (i * 2); have f1 := how1.2.1 (i * 2 + 1))
          have p1 := put2_row (k := i) (hkr.below hb2 hgr) hlen.out.symm (lo xs k) (hi xs k) ⟨_, g0⟩ ⟨_, g1⟩
          have p2 := put2_own how1 (lo xs k) (hi xs k) ⟨_, g0⟩ ⟨_, g1⟩
          have p3 := put2_below (hbb.trans (hb2.mono (by omega))) g (i * 2) (lo xs k) (hi xs k) hB
          have p4 := RestAt.put2 (i := i) (hre.below hb2 hgr) hik (lo xs k) (hi xs k) ⟨_, g0⟩ ⟨_, g1⟩
          rw [← hts.out] at p1
          go_roundw
          case rel => exact ⟨i + 1, k + 1, by go_num, by go_num, by omega, by omega, Lib.hid (by rw [hts.out, List.length_append, hlen.out]; rfl), p1, p4.mono (by omega), p2, p3⟩
          case measure => simp [intOf]; omega
      · obtain rfl : k = xs.length := by omega
        obtain ⟨zs, hz1, hz2, hrun⟩ := clear_run wr 0 g (i * 2) (xs.length - i) (cap - i) (by omega) (fun j hj => how.1 _ (by omega)) (fun j => how.2.1 _)
        have hrest2 : Hid (RowAt (wr.setCells g (i * 2) zs) g 0 (keptE xs) ∧ OwnRow (wr.setCells g (i * 2) zs) g (keptE xs).length ∧ Below B w (wr.setCells g (i * 2) zs)) := Lib.hid (by
          have hl := hlen.out
          rw [List.take_length] at hl hkr
          have hb := setCells_below hB zs (i * 2) wr hbb
          have hout : ∀ o, o < i * 2 → (wr.setCells g (i * 2) zs).cell? ⟨g, o, none⟩ = wr.cell? ⟨g, o, none⟩ := fun o ho => World.cell?_setCells_out g zs (i * 2) wr ⟨g, o, none⟩ fun _ _ => .inl ho
          refine ⟨fun j hj => ?_, ⟨fun o ho => ?_, fun o => ?_, by rw [setCells_size]; exact hgr⟩, hb⟩
          · have := hkr j hj
            rw [Nat.zero_add] at this ⊢
            rw [hout _ (by omega), hout _ (by omega)]
            exact this
          · rw [hl] at ho
            rw [hout _ (by omega)]
            exact how.1 o (by omega)
          · rw [World.frozen?_setCells]; exact how.2.1 o)
        have hl : Hid ((keptE xs).length = i) := Lib.hid (by have := hlen.out; rwa [List.take_length] at this)
        clear hlen hkr hre hst hlen0
        go_wp2
        go_ret
        have := hrest2.out
        rw [hl.out] at this ⊢
        exact ⟨rfl, this⟩
end Go.Proofs.YthkjcljhfjaabaaGreatDoor

namespace Go.Proofs.YthkjcljhfjaabaaGreatDoor
open Go.RowKit Sets

theorem grow_any (n : Nat) (hn : n ≤ 1000) (w : World) :
    Calls Tryz.prog 116 #[.slice none 0 0, .int .i64 n] w fun e w' => ∃ v, e = .returned v ∧ OwnS w' w.heap.size v [] ∧ Below w.heap.size w w' := by
  rcases Nat.eq_zero_or_pos n with rfl | hp
  · have h := Any8.slices_Grow_room Tryz.growSpans none 0 0 0 w (by omega) (by omega) (by omega) (by omega)
    refine (show Calls Tryz.prog _ _ _ _ from h).mono ?_
    rintro e w' ⟨rfl, rfl⟩
    exact ⟨_, rfl, OwnS.nil _ _, Below.refl _ _⟩
  · obtain ⟨i0, hi0, hz0, hz1, hz2⟩ := infoSp
    have h := Any8.slices_Grow_grow Tryz.growSpans i0 _ hi0 hz0 (by omega) none 0 0 n [] w (by omega) (by omega) (by rw [hz2]; omega) (by omega) (by simp) (fun _ => rfl) (fun a h => by cases h)
    refine (show Calls Tryz.prog _ _ _ _ from h).mono ?_
    rintro e w' ⟨rfl, rfl⟩
    have hge := grownCap_ge w (0 + n) 0 55
    have hle := grownCap_le_maxLen w (0 + n) 0 55 (by unfold maxLen; omega)
    have e25 : Tryz.growSpans_ren.t 25 = 55 := rfl
    rw [e25]
    obtain ⟨G, hG⟩ : ∃ G, grownCap w (0 + n) 0 55 = G := ⟨_, rfl⟩
    rw [hG] at hge hle ⊢
    have hnew : ∀ o : Obj, (w.drew.alloc o).heap[w.heap.size]? = some o := fun o => by show (w.heap.push o)[w.heap.size]? = some o; simp
    refine ⟨_, rfl, ⟨rfl, .inr ⟨w.heap.size, G, _, rfl, Nat.le_refl _, hnew _, Nat.zero_le _, hle, ?_, rfl⟩⟩, ((Below.refl _ w).drew).alloc (Nat.le_refl _) _⟩
    simp [Builtin.zeroCells, Value.cells]
    omega

theorem cellsOf_one (xs : List Sp) : ∀ u ∈ cellsOf xs, u.oneCell' = true := by
  induction xs with
  | nil => intro u hu; cases hu
  | cons x xs ih =>
    intro u hu
    simp only [cellsOf, List.mem_cons] at hu
    rcases hu with rfl | rfl | hu
    · rfl
    · rfl
    · exact ih u hu
theorem reads_cells {w : World} {B c : Nat} {ad : Addr} {xs : List Sp} (h : Reads w B (some ad) c xs) : ∀ (j : Nat) (u : Value), (cellsOf xs)[j]? = some u → w.cell? (ad.add j) = some u := by
  intro j u hu
  have hj : j < (cellsOf xs).length := (List.getElem?_eq_some_iff.1 hu).1
  rw [cellsOf_length] at hj
  rcases h.2.2.2 with rfl | ⟨b, off, e, hB, hrow⟩
  · simp at hj
  · injection e with e
    subst e
    have hadd : (⟨b, off, none⟩ : Addr).add j = ⟨b, off + j, none⟩ := by unfold Addr.add; split <;> simp_all
    rw [hadd]
    obtain ⟨r1, r2⟩ := hrow (j / 2) (by omega)
    obtain ⟨q1, q2⟩ := cellsOf_at xs (j / 2) (by omega)
    have hm : j % 2 = 0 ∨ j % 2 = 1 := by omega
    rcases hm with hm | hm
    · have e : j = j / 2 * 2 := by omega
      rw [e] at hu ⊢
      rw [q1] at hu
      rw [← hu]; exact r1
    · have e : j = j / 2 * 2 + 1 := by omega
      rw [e] at hu ⊢
      rw [q2] at hu
      rw [← hu]; exact r2
theorem OwnS.of_append2 {w : World} {base : Nat} {v : Value} {xs ys : List Sp} (h : w.ownsRow base 55 2 v (xs.length + ys.length) (cellsOf xs ++ cellsOf ys)) : OwnS w base v (xs ++ ys) := by
  unfold OwnS
  rw [cellsOf_append, List.length_append]
  exact h

/-- Lists of spans that lie one after the other in a block. -/
structure LsAt (w : World) (lb : Nat) (L : List (Option Addr × Nat × List Sp)) : Prop where
  cell : ∀ i (h : i < L.length), w.cell? ⟨lb, i, none⟩ = some (.slice L[i].1 L[i].2.2.length L[i].2.1)
  reads : ∀ i (h : i < L.length), Reads w w.heap.size L[i].1 L[i].2.1 L[i].2.2
  nocap : ∀ i (h : i < L.length), L[i].1 = none → L[i].2.1 = 0
  lt : lb < w.heap.size
theorem LsAt.below {w w' : World} {lb : Nat} {L : List (Option Addr × Nat × List Sp)} (h : LsAt w lb L) (hb : Below w.heap.size w w') : LsAt w' lb L :=
  ⟨fun i hi => (hb.cell (p := ⟨lb, i, none⟩) h.lt).trans (h.cell i hi), fun i hi => (h.reads i hi).step hb, h.nocap, Nat.lt_of_lt_of_le h.lt hb.size⟩
def flatL (L : List (Option Addr × Nat × List Sp)) (k : Nat) : List Sp := ((L.take k).map fun x => x.2.2).flatten
theorem flatL_succ {L : List (Option Addr × Nat × List Sp)} {k : Nat} (h : k < L.length) : flatL L (k + 1) = flatL L k ++ L[k].2.2 := by
  unfold flatL
  rw [List.take_succ_eq_append_getElem h, List.map_append, List.flatten_append]
  simp only [List.map_cons, List.map_nil, List.flatten_cons, List.flatten_nil, List.append_nil]
theorem flatL_fits {w : World} {lb : Nat} {L : List (Option Addr × Nat × List Sp)} (h : LsAt w lb L) : ∀ k, k ≤ L.length → Fits (flatL L k)
  | 0, _ => by unfold flatL; intro x hx; simp at hx
  | k + 1, hk => by
    rw [flatL_succ (by omega)]
    intro x hx
    rcases List.mem_append.1 hx with hx | hx
    · exact flatL_fits h k (by omega) x hx
    · exact (h.reads k (by omega)).2.2.1 x hx
theorem flatL_mono (L : List (Option Addr × Nat × List Sp)) : ∀ k, k ≤ L.length → (flatL L k).length ≤ (flatL L L.length).length := by
  intro k hk
  unfold flatL
  rw [List.take_length]
  have h : L = L.take k ++ L.drop k := (List.take_append_drop k L).symm
  calc ((L.take k).map fun x => x.2.2).flatten.length ≤ (((L.take k).map fun x => x.2.2) ++ ((L.drop k).map fun x => x.2.2)).flatten.length := by
        rw [List.flatten_append, List.length_append]; omega
    _ = _ := by rw [← List.map_append, ← h]

set_option maxRecDepth 100000 in
set_option maxHeartbeats 2000000 in
theorem concat_any (lb : Nat) (L : List (Option Addr × Nat × List Sp)) (hL : L.length ≤ 4) (hT : (flatL L L.length).length ≤ 1000) (w : World) (h : LsAt w lb L) :
    Calls Tryz.prog 98 #[.slice (some ⟨lb, 0, none⟩) L.length L.length] w
      fun e w' => ∃ v, e = .returned v ∧ OwnS w' w.heap.size v (flatL L L.length) ∧ Fits (flatL L L.length) ∧ Below w.heap.size w w' := by
  obtain ⟨i0, hi0, hz0, hz1, hz2⟩ := infoSp
  have H := Lib.hid h
  clear h
  go_enter Tryz.func98, Tryz.ntmps98
  go_wp2
  go_loopw [3, 11] (fun sv iv wr => ∃ k : Nat, k ≤ L.length ∧ iv = .int .i64 k ∧ sv = .int .i64 (flatL L k).length ∧ wr = w) (fun _ iv _ => L.length - (intOf iv).toNat)
  case atStart => exact ⟨0, Nat.zero_le _, rfl, rfl, rfl⟩
  case round =>
    obtain ⟨k, hk, rfl, rfl, hwr⟩ := hrel
    have hwr' := hwr.symm
    clear hwr
    subst hwr'
    by_cases hlt : k < L.length
    · have hkl : (k : Int) < (L.length : Int) := by omega
      have c1 := H.out.cell k hlt
      have hs := Lib.hid (flatL_succ hlt)
      have hm1 := flatL_mono L k (by omega)
      have hm2 := flatL_mono L (k + 1) (by omega)
      have hl2 : (flatL L (k + 1)).length = (flatL L k).length + (L[k].2.2).length := by rw [hs.out, List.length_append]
      generalize hA : L[k] = A at c1 hl2
      go_wp2
      go_roundw
      case rel => exact ⟨k + 1, hlt, by go_num, by rw [hl2]; go_num, trivial⟩
      case measure => simp [intOf]; omega
    · obtain rfl : k = L.length := by omega
      have hfits := Lib.hid (flatL_fits H.out L.length (Nat.le_refl _))
      go_wp2_with fail
      refine (grow_any _ hT w).mono ?_
      rintro e w1 ⟨v1, rfl, own1, b1⟩
      go_wp2
      go_loopw [6, 27] (fun nv iv w2 => ∃ k : Nat, k ≤ L.length ∧ iv = .int .i64 k ∧ OwnS w2 w.heap.size nv (flatL L k) ∧ Below w.heap.size w w2) (fun _ iv _ => L.length - (intOf iv).toNat)
      case atStart => exact ⟨0, Nat.zero_le _, rfl, own1, b1⟩
      case round =>
        obtain ⟨k, hk, rfl, own2, b2⟩ := hrel
        by_cases hlt : k < L.length
        · have hkl : (k : Int) < (L.length : Int) := by omega
          have H2 := H.out.below b2
          have c1 := H2.cell k hlt
          have r1 := Lib.hid (H2.reads k hlt)
          have z1 := Lib.hid (H2.nocap k hlt)
          clear H2
          have hs := Lib.hid (flatL_succ hlt)
          have hm2 := flatL_mono L (k + 1) (by omega)
          have hl2 : (flatL L (k + 1)).length = (flatL L k).length + (L[k].2.2).length := by rw [hs.out, List.length_append]
          generalize hA : L[k] = A at c1 hl2 r1 z1 hs
          clear hA
          obtain ⟨A5, c5, hv5, _, _⟩ := own2.form (flatL_fits H.out k (by omega))
          subst hv5
          have hsz := b2.size
          obtain ⟨A0, c0, ys⟩ := A
          cases A0 with
          | none =>
            have hc0 : c0 = 0 := z1.out rfl
            subst hc0
            have hy : ys = [] := by
              rcases r1.out.2.2.2 with h | ⟨b, off, h, _⟩
              · exact h
              · cases h
            subst hy
            go_wp2_with (at_builtin; refine wpList_append_own_none rfl (.tmp 31) (.tmp 32) 24 rfl w.heap.size 55 i0 2 Tryz.underlying24 hi0 _ (flatL L k).length (cellsOf (flatL L k)) rfl own2 rfl ?_)
            go_roundw
            case rel => exact ⟨k + 1, hlt, by go_num, by rw [hs.out, List.append_nil]; exact own2, b2⟩
            case measure => simp [intOf]; omega
          | some ad =>
            have hnews := Lib.hid (reads_cells r1.out)
            have hlen := Lib.hid (cellsOf_length ys)
            have hone := Lib.hid (cellsOf_one ys)
            go_wp2_with (at_builtin; refine wpList_append_own _ rfl (.tmp 31) (.tmp 32) 24 rfl w.heap.size 55 i0 _ 2 16 Tryz.underlying24 hi0 hz0 hz1 hz2 rfl (by decide) _ (flatL L k).length (cellsOf (flatL L k)) rfl own2 ad ys.length c0 (cellsOf ys) rfl hlen.out ?hc1 ?hc2 ?hc3 ?hc4 ?hc5 ?_; rotate_right; intro v' w4 hown2 hgrow _)
            case hc1 => exact hnews.out
            case hc2 => exact hone.out
            case hc3 => unfold maxLen; omega
            case hc4 => omega
            go_roundw
            case rel => exact ⟨k + 1, hlt, by go_num, by rw [hs.out]; exact OwnS.of_append2 hown2, Below.grown b2 hgrow hsz (fun k hk => (own2.lt k hk).1)⟩
            case measure => simp [intOf]; omega
        · obtain rfl : k = L.length := by omega
          go_wp2
          go_ret
          exact ⟨_, rfl, own2, hfits.out, b2⟩
end Go.Proofs.YthkjcljhfjaabaaGreatDoor

namespace Go.Proofs.YthkjcljhfjaabaaGreatDoor
open Go.RowKit Sets

def cmpI (x y : Int) : Int := if x < y then -1 else if y < x then 1 else 0
set_option maxRecDepth 100000 in
theorem isNaN_any (x : Int) (w : World) : Calls Tryz.prog 119 #[.int .i64 x] w fun e w' => e = .returned (.bool false) ∧ w = w' := by
  go_enter Tryz.func119, Tryz.ntmps119
  go_wp2
  go_ret
  exact ⟨by simp, rfl⟩
set_option maxRecDepth 100000 in
theorem compare_any (x y : Int) (w : World) : Calls Tryz.prog 101 #[.int .i64 x, .int .i64 y] w fun e w' => e = .returned (.int .i64 (cmpI x y)) ∧ w = w' := by
  go_enter Tryz.func101, Tryz.ntmps101
  go_wp2_with (go_at_call 119; refine (isNaN_any _ _).mono ?_; rintro e w' ⟨rfl, rfl⟩)
  all_goals (go_ret; refine ⟨?_, rfl⟩; unfold cmpI; (repeat' split) <;> first | rfl | (exfalso; omega))

def encSp (x : Sp) : List Value := [.int .i64 x.1, .int .i64 x.2]
def cfSp (x y : Sp) : Int := cmpI x.1 y.1
theorem ltSp (x y : Sp) : Go.Proofs.ltOf cfSp x y = decide (x.1 < y.1) := by
  unfold Go.Proofs.ltOf cfSp cmpI
  by_cases h1 : x.1 < y.1
  · simp [h1]
  · by_cases h2 : y.1 < x.1 <;> simp [h1, h2]
theorem swoSp : Go.Sort.SWO (Go.Proofs.ltOf cfSp) where
  irrefl x := by rw [ltSp]; simp
  trans x y z h1 h2 := by rw [ltSp] at *; simp at *; omega
  ntrans x y z h1 h2 := by rw [ltSp] at *; simp at *; omega

set_option maxRecDepth 100000 in
set_option maxHeartbeats 1000000 in
theorem closure_any (x y : Sp) (W : World) : Calls Tryz.prog 100 #[.agg #[.int .i64 x.1, .int .i64 x.2], .agg #[.int .i64 y.1, .int .i64 y.2]] W fun e w' => e = .returned (.int .i64 (cfSp x y)) ∧ ∃ q os', w' = Go.Sort.grow (W.drewN q) os' := by
  unfold cfSp
  have hcon := fun W' => compare_any x.1 y.1 W'
  generalize cmpI x.1 y.1 = r at hcon ⊢
  go_enter Tryz.func100, Tryz.ntmps100
  go_wp2_with (go_at_call 101; refine (hcon _).mono ?_; rintro e w' ⟨rfl, rfl⟩)
  go_ret
  exact ⟨rfl, 0, _, by rw [Go.Sort.alloc_eq_grow, Go.Sort.alloc_eq_grow, Go.Sort.grow_grow]; rfl⟩
theorem cmpLays_any (blk off size : Nat) (w : World) : CmpLays Tryz.prog 100 #[] encSp 2 cfSp blk off size w := fun _ _ _ _ x y => closure_any x y _

theorem below_sorted {B g : Nat} (w : World) (m : Nat) (d : Array Sp) (os : Array Obj) (hB : B ≤ g) (hg : g < w.heap.size) : RowKit.Below B w (Go.Proofs.sortWorldK encSp 2 w g 0 m d os) := by
  refine ⟨rfl, rfl, rfl, ?_, fun k hk => ?_⟩
  · simp [Go.Proofs.sortWorldK, Go.Sort.grow, Go.Sort.putRowK, Go.Sort.putRow, Go.Sort.mapBlock, Go.Sort.ahead]
  · simp only [Go.Proofs.sortWorldK, Go.Sort.grow, Go.Sort.putRowK, Go.Sort.putRow, Go.Sort.mapBlock, Go.Sort.ahead]
    rw [Array.getElem?_append_left (by simp; omega), Array.getElem?_modify]
    rw [if_neg (by omega)]

theorem holds_of_row {w : World} {g : Nat} {xs : List Sp} (hr : RowAt w g 0 xs) (ho : OwnRow w g xs.length) : Go.Sort.HoldsK encSp 2 w g 0 xs.toArray := by
  intro t ht
  rw [Go.Sort.size_flatK] at ht
  have ht' : t < xs.length * 2 := by simpa using ht
  refine ⟨?_, ho.2.1 _⟩
  rw [Go.Sort.get_flatK _ _ _ _ ht]
  obtain ⟨c1, c2⟩ := hr (t / 2) (by omega)
  have hx : xs.toArray[t / 2]! = xs.getD (t / 2) (0, 0) := by
    rw [List.getD_eq_getElem?_getD]
    have : t / 2 < xs.length := by omega
    simp [this]
  rw [hx]
  have hm : t % 2 = 0 ∨ t % 2 = 1 := by omega
  rcases hm with hm | hm
  · have e : t = t / 2 * 2 := by omega
    rw [hm, show (0 + t) = 0 + t / 2 * 2 by omega, c1]; rfl
  · have e : t = t / 2 * 2 + 1 := by omega
    rw [hm, show (0 + t) = 0 + t / 2 * 2 + 1 by omega, c2]; rfl
theorem row_of_holds {w : World} {g : Nat} {d : Array Sp} (h : Go.Sort.HoldsK encSp 2 w g 0 d) : RowAt w g 0 d.toList := by
  intro i hi
  have hi' : i < d.size := by simpa using hi
  have e : ∀ r, r < 2 → w.cell? ⟨g, 0 + i * 2 + r, none⟩ = some ((encSp d[i]!)[r]!) := fun r hr => by
    have := (h (i * 2 + r) (by rw [Go.Sort.size_flatK]; omega)).1
    rw [Go.Sort.get_flatK _ _ _ _ (by omega), show (i * 2 + r) / 2 = i by omega, show (i * 2 + r) % 2 = r by omega] at this
    rw [Nat.add_assoc]; exact this
  have hx : d[i]! = d.toList.getD i (0, 0) := by
    rw [List.getD_eq_getElem?_getD]
    simp [hi']
  unfold YthkjcljhfjaabaaGreatDoor.lo YthkjcljhfjaabaaGreatDoor.hi
  rw [← hx]
  exact ⟨by have := e 0 (by omega); rw [Nat.add_zero] at this; rw [this]; rfl, by rw [e 1 (by omega)]; rfl⟩

/-- what the sort leaves -/
def SortRes (B g : Nat) (xs : List Sp) (w : World) (e : Ending) (w' : World) : Prop :=
  e = .returned (.tuple #[]) ∧ ∃ ys : List Sp, ys.Perm xs ∧ (∀ i j, i < j → j < ys.length → lo ys i ≤ lo ys j) ∧ RowAt w' g 0 ys ∧ RowKit.Below B w w'
theorem sort_any (g cap B : Nat) (xs : List Sp) (w : World) (hr : RowAt w g 0 xs) (ho : OwnRow w g xs.length) (hB : B ≤ g) (hn : xs.length ≤ 1000) :
    Calls Tryz.prog 99 #[.slice (some ⟨g, 0, none⟩) xs.length cap, .func (.func 100) #[] #[]] w (SortRes B g xs w) := by
  have eg : ∀ args w, (callFunc 100 args).run Tryz.prog w = .ok (.enter 100 args) w := enters_of Tryz.func100 (by kernel_rfl) rfl
  have hH := holds_of_row hr ho
  have hcon := AnyQ.slices_SortFunc Tryz.sortSpans 2 Tryz.isAgg55 Tryz.sizeOf55 encSp (fun _ => rfl) (fun x v hv => by simp [encSp] at hv; rcases hv with rfl | rfl <;> rfl) cfSp swoSp 100 #[] g 0 cap xs.toArray w eg (cmpLays_any g 0 xs.toArray.size w) hH ho.2.2 (by simp; omega)
  refine (show Calls Tryz.prog _ _ _ _ from hcon).mono ?_
  rintro e w' ⟨rfl, d', n, os, hp, hs, rfl⟩
  have hsz : d'.size = xs.length := by have := hp.1; simpa using this
  refine ⟨rfl, d'.toList, ?_, fun i j hij hj => ?_, row_of_holds (holdsK_sortWorldK_c encSp 2 w g 0 xs.toArray d' n os hH ho.2.2 (by simp [hsz])), below_sorted w n d' os hB ho.2.2⟩
  · have := hp.2.2
    simp only [List.size_toArray] at this
    rw [Array.extract_eq_self_of_le (by omega), Array.extract_eq_self_of_le (by simp)] at this
    exact this
  · have hj' : j < d'.size := by simpa using hj
    have := hs i j (Nat.zero_le _) hij (by simp; omega)
    rw [ltSp] at this
    have h2 := of_decide_eq_false this
    have hx : ∀ m, m < d'.size → d'[m]! = d'.toList.getD m (0, 0) := fun m hm => by
      rw [List.getD_eq_getElem?_getD]
      simp [hm]
    rw [hx i (by omega), hx j hj'] at h2
    unfold YthkjcljhfjaabaaGreatDoor.lo
    omega

set_option maxRecDepth 100000 in
theorem insNil_any (fv : Value) (w : World) : Calls Tryz.prog 134 #[.slice none 0 0, .int .i64 0, .int .i64 0, fv] w fun e w' => e = .returned (.tuple #[]) ∧ w = w' := by
  go_enter Tryz.func134, Tryz.ntmps134
  go_wp2
  refine wp_loop_rounds 1 ?_
  rw [rounds_succ]
  go_wp2
  go_end0
  exact ⟨rfl, rfl⟩
set_option maxRecDepth 100000 in
theorem pdqNil_any (lim : Int) (fv : Value) (w : World) : Calls Tryz.prog 117 #[.slice none 0 0, .int .i64 0, .int .i64 0, .int .i64 lim, fv] w fun e w' => e = .returned (.tuple #[]) ∧ w = w' := by
  go_enter Tryz.func117, Tryz.ntmps117
  go_wp2
  refine wp_loop_rounds 1 ?_
  rw [rounds_succ]
  go_wp2_with (go_at_call 134; refine (insNil_any _ _).mono ?_; rintro e w' ⟨rfl, rfl⟩)
  (try simp only [Exit.inBlock, Exit.then])
  refine bodyPost_ret (results_none rfl _ _ _) rfl ?_
  exact ⟨rfl, rfl⟩
theorem lenNil_any (W : World) : Calls Tryz.prog 118 #[.int .u64 0] W fun e w' => (∃ l : Int, e = .returned (.int .i64 l)) ∧ W = w' := by
  have h := Any.bits_Len (SlLaysF0.n15.bits (P := Tryz.prog) (ρ := Tryz.sortSpans_ren) { Tryz.sortSpans with }) 0 W (by omega) (by omega)
  exact (show Calls Tryz.prog _ _ _ _ from h).mono fun _ _ ⟨he, hw⟩ => ⟨⟨_, he⟩, hw.symm⟩
set_option maxRecDepth 100000 in
theorem sortNil_any (w : World) : Calls Tryz.prog 99 #[.slice none 0 0, .func (.func 100) #[] #[]] w fun e w' => e = .returned (.tuple #[]) ∧ w = w' := by
  go_enter Tryz.func99, Tryz.ntmps99
  go_wp2_with fail
  refine (lenNil_any _).mono ?_
  rintro e w1 ⟨⟨l, rfl⟩, rfl⟩
  go_wp2_with fail
  refine (pdqNil_any _ _ _).mono ?_
  rintro e w2 ⟨rfl, rfl⟩
  go_wp2
  go_end0
  exact ⟨rfl, rfl⟩
end Go.Proofs.YthkjcljhfjaabaaGreatDoor

namespace Go.Proofs.YthkjcljhfjaabaaGreatDoor
open Go.RowKit Sets

set_option maxRecDepth 100000 in
theorem deleteNil_any (w : World) :
    Calls Tryz.prog 97 #[.slice none 0 0, .func (.func 52) #[] #[]] w
      fun e w' => e = .returned (.slice none 0 0) ∧ Below w.heap.size w w' := by
  have hR : Reads w w.heap.size none 0 [] := ⟨by simp, by omega, fits_nil, .inl rfl⟩
  go_enter Tryz.func97, Tryz.ntmps97
  go_wp2_with fail
  refine (idxE_any _ 0 [] w hR).mono ?_
  rintro e w1 ⟨hidx, b1⟩
  rcases hidx with ⟨rfl, hall⟩ | ⟨k0, hk0, _⟩
  · go_wp2
    go_ret
    exact ⟨rfl, b1⟩
  · simp at hk0

theorem OwnS.cases {w : World} {base : Nat} {v : Value} {xs : List Sp} (h : OwnS w base v xs) :
    (v = .slice none 0 0 ∧ xs = []) ∨ ∃ g cap, v = .slice (some ⟨g, 0, none⟩) xs.length cap ∧ base ≤ g ∧ g < w.heap.size ∧ xs.length ≤ cap ∧ cap ≤ 9223372036854775807 ∧ RowAt w g 0 xs ∧ OwnRow w g xs.length := by
  rcases Nat.eq_zero_or_pos xs.length with hz | hp
  · have he : xs = [] := List.eq_nil_of_length_eq_zero hz
    subst he
    obtain ⟨_, ⟨rfl, _⟩ | ⟨g, cap, cur, rfl, hb, hg, hnc, hcm, hcs, hcur⟩⟩ := h
    · exact .inl ⟨rfl, rfl⟩
    · have hlt := (Array.getElem?_eq_some_iff.1 hg).1
      exact .inr ⟨g, cap, rfl, hb, hlt, hnc, by unfold maxLen at hcm; omega, (fun i hi => absurd hi (by simp)), (fun o ho => absurd ho (by simp)), (fun o => by simp [World.frozen?, hg]), hlt⟩
  · obtain ⟨g, cap, hv, hb, hg, hlc, hcm, hrow, hfr, _⟩ := h.block hp
    refine .inr ⟨g, cap, hv, hb, hg, hlc, hcm, hrow, (fun o ho => ?_), hfr, hg⟩
    obtain ⟨c1, c2⟩ := hrow (o / 2) (by omega)
    rw [Nat.zero_add] at c1 c2
    have hm : o % 2 = 0 ∨ o % 2 = 1 := by omega
    rcases hm with hm | hm
    · exact ⟨_, by rw [show o = o / 2 * 2 by omega]; exact c1⟩
    · exact ⟨_, by rw [show o = o / 2 * 2 + 1 by omega]; exact c2⟩

/-- all ends are numbers -/
def Ends (xs : List Sp) : Prop := ∀ x ∈ xs, -99 ≤ x.1 ∧ x.1 ≤ 99 ∧ -99 ≤ x.2 ∧ x.2 ≤ 99
theorem ends_kept {xs ys : List Sp} (h : Ends xs) (hp : ys.Perm (keptE xs)) : Ends ys := fun x hx => h x (List.mem_filter.1 (hp.mem_iff.1 hx)).1
theorem asc_kept {xs ys : List Sp} (hp : ys.Perm (keptE xs)) (hs : ∀ i j, i < j → j < ys.length → lo ys i ≤ lo ys j) : Asc ys := by
  refine ⟨fun k hk => ?_, hs⟩
  have hm : ys[k] ∈ keptE xs := hp.mem_iff.1 (List.getElem_mem hk)
  have := of_decide_eq_true (List.mem_filter.1 hm).2
  unfold YthkjcljhfjaabaaGreatDoor.lo YthkjcljhfjaabaaGreatDoor.hi
  rw [List.getD_eq_getElem?_getD, List.getElem?_eq_getElem hk]
  exact this
theorem memS_perm {xs ys : List Sp} (hp : ys.Perm xs) (n : Int) : memS ys n ↔ memS xs n := by
  unfold memS
  constructor
  · rintro ⟨x, hx, h⟩; exact ⟨x, hp.mem_iff.1 hx, h⟩
  · rintro ⟨x, hx, h⟩; exact ⟨x, hp.mem_iff.2 hx, h⟩
theorem ends_within {ys : List Sp} (h : Ends ys) : Within ys := fun x hx => by have := h x hx; omega
theorem lohi_within {xs : List Sp} (h : Within xs) {i : Nat} (hi : i < xs.length) : -99 ≤ lo xs i ∧ YthkjcljhfjaabaaGreatDoor.hi xs i ≤ 99 := by
  have := h _ (List.getElem_mem hi)
  unfold YthkjcljhfjaabaaGreatDoor.lo YthkjcljhfjaabaaGreatDoor.hi
  rw [List.getD_eq_getElem?_getD, List.getElem?_eq_getElem hi]
  exact this
theorem joinF_within {ys : List Sp} (ha : Asc ys) (he : Ends ys) (k : Nat) (hk : k ≤ ys.length) : Within (joinF ys k) := fun x hx => by
  obtain ⟨h1, _, h3⟩ := joinF_spec ys ha k hk
  have hle := h1.le x hx
  have hw := ends_within he
  obtain ⟨i, hi, a⟩ := (h3 x.1).1 ⟨x, hx, Int.le_refl _, hle⟩
  obtain ⟨j, hj, b⟩ := (h3 x.2).1 ⟨x, hx, hle, Int.le_refl _⟩
  have e1 := lohi_within hw (show i < ys.length by omega)
  have e2 := lohi_within hw (show j < ys.length by omega)
  omega

def JoinRes (xs : List Sp) (w : World) (e : Ending) (w' : World) : Prop :=
  ∃ (v : Value) (rs : List Sp), e = .returned v ∧ OwnS w' w.heap.size v rs ∧ Norm rs ∧ Within rs ∧ (∀ n, memS rs n ↔ memS xs n) ∧ rs.length ≤ 1000 ∧ Below w.heap.size w w'

theorem stepJ_ext {s : List Sp} {x : Sp} (h : 0 < s.length) (e : x.1 ≤ hi s (s.length - 1) + 1) : stepJ s x = s.set (s.length - 1) (lo s (s.length - 1), max (hi s (s.length - 1)) x.2) := by
  unfold stepJ
  exact if_pos ⟨h, e⟩
theorem stepJ_new {s : List Sp} {x : Sp} (h : ¬ (0 < s.length ∧ x.1 ≤ hi s (s.length - 1) + 1)) : stepJ s x = s ++ [x] := by
  unfold stepJ
  exact if_neg h

theorem cell_new1 (w : World) (a b : Int) : (w.alloc (.cells #[.int .i64 a, .int .i64 b] 55)).cell? ⟨w.heap.size, 0, none⟩ = some (.int .i64 a) := by
  rw [World.cell?_alloc_new]; rfl
theorem cell_new3 (w : World) (a b : Int) : (w.alloc (.cells #[.int .i64 a, .int .i64 b] 55)).cell? ⟨w.heap.size, 1, none⟩ = some (.int .i64 b) := by
  rw [World.cell?_alloc_new]; rfl

set_option maxRecDepth 100000 in
set_option maxHeartbeats 2000000 in
theorem join_all (lb : Nat) (L : List (Option Addr × Nat × List Sp)) (hL : L.length ≤ 4) (hT : (flatL L L.length).length ≤ 1000) (hE : Ends (flatL L L.length)) (w : World) (h : LsAt w lb L) :
    Calls Tryz.prog 69 #[.slice (some ⟨lb, 0, none⟩) L.length L.length] w (JoinRes (flatL L L.length) w) := by
  obtain ⟨i0, hi0, hz0, hz1', hz2'⟩ := infoSp
  have H := Lib.hid h
  clear h
  have HE := Lib.hid hE
  clear hE
  go_enter Tryz.func69, Tryz.ntmps69
  go_wp2_with fail
  refine (concat_any lb L hL hT w H.out).mono ?_
  rintro e w1 ⟨v1, rfl, own1, hf1, b1⟩
  have hs1 := b1.size
  generalize hfl : flatL L L.length = xs at hT own1 hf1 HE
  have HF := Lib.hid hfl
  clear hfl
  rcases own1.cases with ⟨rfl, rfl⟩ | ⟨g, cap, rfl, hbg, hgl, hlc, hcm, hrow, hownr⟩
  · clear own1
    go_wp2_with fail
    refine (deleteNil_any w1).mono ?_
    rintro e w2 ⟨rfl, b2⟩
    go_wp2_with fail
    refine (sortNil_any w2).mono ?_
    rintro e w3 ⟨rfl, rfl⟩
    go_wp2
    refine wp_loop_rounds 1 ?_
    rw [rounds_succ]
    go_wp2
    go_ret
    rw [HF.out]
    have b02 := b1.trans (b2.mono hs1)
    exact ⟨_, [], rfl, OwnS.nil _ _, trivial, (fun x hx => by cases hx), fun n => Iff.rfl, by simp, b02⟩
  · clear own1
    go_wp2_with fail
    refine (delete_any g cap w.heap.size xs w1 hrow hownr hbg hf1 hlc hcm).mono ?_
    rintro e w2 ⟨rfl, hrow2, hown2, b2⟩
    have hkl := List.length_filter_le (fun x : Sp => decide (x.1 ≤ x.2)) xs
    go_wp2_with fail
    refine (sort_any g cap w.heap.size (keptE xs) w2 hrow2 hown2 hbg (by unfold keptE; omega)).mono ?_
    rintro e w3 ⟨rfl, ys, hperm, hsort, hrow3, b3⟩
    have hlen : (keptE xs).length = ys.length := hperm.length_eq.symm
    rw [hlen]
    have hys : ys.length ≤ 1000 := by unfold keptE at hlen; omega
    have hg3 : g < w3.heap.size := by have := b2.size; have := b3.size; omega
    have HA := Lib.hid (asc_kept hperm hsort)
    have HW := Lib.hid (ends_within (ends_kept HE.out hperm))
    have HK := Lib.hid (joinF_within HA.out (ends_kept HE.out hperm))
    have HM := Lib.hid (fun n => (memS_perm hperm n).trans (keptE_mem xs n))
    have hs3 : w.heap.size ≤ w3.heap.size := by have := b2.size; have := b3.size; omega
    have B3 : Below w.heap.size w w3 := b1.trans (b2.trans b3)
    clear b1 b2 b3 hperm hsort hown2 hrow2 hrow hownr hf1 hkl hlen
    go_wp2
    go_loopw [4, 15] (fun jv iv wr => ∃ (k : Nat) (rs : List Sp), k ≤ ys.length ∧ iv = .int .i64 k ∧ Hid (joinF ys k = rs) ∧ OwnS wr w3.heap.size jv rs ∧ Below w3.heap.size w3 wr) (fun _ iv _ => ys.length - (intOf iv).toNat)
    case atStart => exact ⟨0, [], Nat.zero_le _, rfl, Lib.hid rfl, OwnS.nil _ _, Below.refl _ _⟩
    case round =>
      obtain ⟨k, rs, hk, rfl, HR, hown, hb⟩ := hrel
      by_cases hlt : k < ys.length
      · have hkl : (k : Int) < (ys.length : Int) := by omega
        obtain ⟨c1, c2⟩ := (hrow3.below hb hg3) k hlt
        simp only [Nat.zero_add] at c1 c2
        obtain ⟨p1, p2⟩ := lohi_within HW.out hlt
        have p3 := HA.out.1 k hlt
        have hlen : rs.length ≤ k := by rw [← HR.out]; exact joinF_len ys k
        have hsz := hb.size
        have x1 := cell_new1 wr (lo ys k) (hi ys k)
        have x2 := cell_new3 wr (lo ys k) (hi ys k)
        have hown1 : OwnS (wr.alloc (.cells #[.int .i64 (lo ys k), .int .i64 (hi ys k)] 55)) w3.heap.size _ rs := World.ownsRow.alloc hown _
        have hb1 := hb.alloc hsz (.cells #[.int .i64 (lo ys k), .int .i64 (hi ys k)] 55)
        have hz1 : wr.heap.size < (wr.alloc (.cells #[.int .i64 (lo ys k), .int .i64 (hi ys k)] 55)).heap.size := by simp
        have HC := Lib.hid (And.intro c1 c2)
        rcases Nat.eq_zero_or_pos rs.length with hz | hp
        · have he : rs = [] := List.eq_nil_of_length_eq_zero hz
          subst he
          have HN : Hid (joinF ys (k + 1) = [] ++ [(lo ys k, hi ys k)]) := Lib.hid (by
            have := HR.out; simp only [joinF]; rw [this, stepJ_new (by simp)])
          obtain ⟨A0, c0, hv, _, _⟩ := hown.form fits_nil
          subst hv
          go_wp2
          obtain ⟨W2, hW2⟩ : ∃ W2 : World, wr.alloc (.cells #[.int .i64 (lo ys k), .int .i64 (hi ys k)] 55) = W2 := ⟨_, rfl⟩
          rw [hW2] at x1 x2 hown1 hb1 hz1 ⊢
          clear hW2 hown hb c1 c2
          go_quiet (fail)
          have y1 : (W2.drewN nq).cell? ⟨wr.heap.size, 0, none⟩ = some (.int .i64 (lo ys k)) := x1
          have y2 : (W2.drewN nq).cell? ⟨wr.heap.size, 1, none⟩ = some (.int .i64 (hi ys k)) := x2
          have ho2 : OwnS (W2.drewN nq) w3.heap.size _ _ := hown1
          have hb2 := below_drewN hb1 nq
          have hz2 : wr.heap.size < (W2.drewN nq).heap.size := hz1
          generalize W2.drewN nq = Wd at y1 y2 ho2 hb2 hz2 ⊢
          clear x1 x2 hown1 hb1 hz1
          have ho3 := World.ownsRow.alloc ho2 (.cells #[.int .i64 (lo ys k), .int .i64 (hi ys k)] 55)
          have hsz2 := hb2.size
          go_wp2_with (at_builtin; refine wpList_append_own _ rfl (.tmp 47) (.tmp 49) 24 rfl w3.heap.size 55 i0 _ 2 16 Tryz.underlying24 hi0 hz0 hz1' hz2' rfl (by decide) _ ([] : List Sp).length (cellsOf []) rfl ho3 ⟨Wd.heap.size, 0, none⟩ 1 1 [.int .i64 (lo ys k), .int .i64 (hi ys k)] rfl rfl ?hc1 ?hc2 ?hc3 ?hc4 ?hc5 ?_; rotate_right; intro v' w5 hown2 hgrow _)
          case hc1 => exact cell_one _ _ _ _ rfl
          case hc2 => simp [Value.oneCell']
          case hc3 => simp [maxLen]
          case hc4 => simp
          case hc5 => simp; omega
          go_roundw
          case rel => exact ⟨k + 1, _, by omega, by go_num, HN, OwnS.of_append (xs := []) hown2, Below.grown (row := (Value.slice A0 ([] : List Sp).length c0).ownBlock) (hb2.alloc hsz2 _) hgrow (by simp; omega) (fun k hk => (ho2.lt k hk).1)⟩
          case measure => simp [intOf]; omega
        · obtain ⟨g2, cap2, hv, hb2g, hg2, hlc2, hcm2, hrow2, hfr2, _⟩ := hown1.block hp
          subst hv
          obtain ⟨d1, d2⟩ := hrow2 (rs.length - 1) (by omega)
          simp only [Nat.zero_add] at d1 d2
          have f2 := hfr2 ((rs.length - 1) * 2 + 1)
          have hk1 : (1 : Int) ≤ (rs.length : Int) := by omega
          have hk2 : (0 : Int) ≤ (rs.length : Int) - 1 := by omega
          have hk3 : (rs.length : Int) - 1 < (rs.length : Int) := by omega
          have hk4 : (0 : Int) < (rs.length : Int) := by omega
          have e1 : IntKind.i64.wrap ((rs.length : Int) - 1) = (rs.length : Int) - 1 := IntWalk.i64_in _ (by omega)
          have e2 : ((rs.length : Int) - 1).toNat = rs.length - 1 := by omega
          have hwr := HK.out k (by omega)
          rw [HR.out] at hwr
          obtain ⟨q1, q2⟩ := lohi_within hwr (show rs.length - 1 < rs.length by omega)
          have hnr := (joinF_spec ys HA.out k (by omega)).1
          rw [HR.out] at hnr
          have q3 : lo rs (rs.length - 1) ≤ hi rs (rs.length - 1) := by
            have := hnr.le _ (List.getElem_mem (show rs.length - 1 < rs.length by omega))
            unfold YthkjcljhfjaabaaGreatDoor.lo YthkjcljhfjaabaaGreatDoor.hi
            rw [List.getD_eq_getElem?_getD, List.getElem?_eq_getElem (show rs.length - 1 < rs.length by omega)]
            exact this
          have e3 : IntKind.i64.wrap (hi rs (rs.length - 1) + 1) = hi rs (rs.length - 1) + 1 := IntWalk.i64_in _ (by omega)
          go_wp2
          obtain ⟨W2, hW2⟩ : ∃ W2 : World, wr.alloc (.cells #[.int .i64 (lo ys k), .int .i64 (hi ys k)] 55) = W2 := ⟨_, rfl⟩
          rw [hW2] at x1 x2 hown1 hb1 hz1 d1 d2 f2 hg2 ⊢
          clear hW2 hown hb c1 c2 hrow2 hfr2
          by_cases he : lo ys k ≤ hi rs (rs.length - 1) + 1
          · have HN : Hid (joinF ys (k + 1) = rs.set (rs.length - 1) (lo rs (rs.length - 1), max (hi rs (rs.length - 1)) (hi ys k))) := Lib.hid (by
              have := HR.out; simp only [joinF]; rw [this, stepJ_ext (x := (lo ys k, hi ys k)) hp he])
            go_quiet (fail)
            have y1 : (W2.drewN nq).cell? ⟨wr.heap.size, 0, none⟩ = some (.int .i64 (lo ys k)) := x1
            have y2 : (W2.drewN nq).cell? ⟨wr.heap.size, 1, none⟩ = some (.int .i64 (hi ys k)) := x2
            have y3 : (W2.drewN nq).cell? ⟨g2, (rs.length - 1) * 2, none⟩ = some (.int .i64 (lo rs (rs.length - 1))) := d1
            have y4 : (W2.drewN nq).cell? ⟨g2, (rs.length - 1) * 2 + 1, none⟩ = some (.int .i64 (hi rs (rs.length - 1))) := d2
            have y5 : (W2.drewN nq).frozen? ⟨g2, (rs.length - 1) * 2 + 1, none⟩ = false := f2
            have ho2 : OwnS (W2.drewN nq) w3.heap.size _ _ := hown1
            have hb2 := below_drewN hb1 nq
            generalize W2.drewN nq = Wd at y1 y2 y3 y4 y5 ho2 hb2 ⊢
            clear x1 x2 d1 d2 f2 hown1 hb1 hz1 hg2
            go_wp2
            go_still_tail 12, (by kernel_rfl)
            change wpList _ _ _ _ _ Wd.drew
            have t4 : Wd.drew.cell? ⟨g2, (rs.length - 1) * 2 + 1, none⟩ = some (.int .i64 (hi rs (rs.length - 1))) := y4
            have t5 : Wd.drew.frozen? ⟨g2, (rs.length - 1) * 2 + 1, none⟩ = false := y5
            have ho3 : OwnS Wd.drew w3.heap.size (.slice (some ⟨g2, 0, none⟩) rs.length cap2) rs := ho2
            have hb3 := hb2.drew
            generalize Wd.drew = We at t4 t5 ho3 hb3 ⊢
            clear y1 y2 y3 y4 y5 ho2 hb2
            have hset := Lib.hid (OwnS.set_hi ho3 (i := rs.length - 1) (by omega) (max (hi rs (rs.length - 1)) (hi ys k)))
            clear ho3
            go_wp2
            go_roundw
            case rel => exact ⟨k + 1, _, by omega, by go_num, HN, hset.out, hb3.setCell (p := ⟨g2, (rs.length - 1) * 2 + 1, none⟩) hb2g _⟩
            case measure => simp [intOf]; omega
          · have HN : Hid (joinF ys (k + 1) = rs ++ [(lo ys k, hi ys k)]) := Lib.hid (by
              have := HR.out; simp only [joinF]; rw [this, stepJ_new (x := (lo ys k, hi ys k)) (fun q => he q.2)])
            have he1 : decide (lo ys k ≤ hi rs (rs.length - 1) + 1) = false := decide_eq_false he
            go_quiet (fail)
            have y1 : (W2.drewN nq).cell? ⟨wr.heap.size, 0, none⟩ = some (.int .i64 (lo ys k)) := x1
            have y2 : (W2.drewN nq).cell? ⟨wr.heap.size, 1, none⟩ = some (.int .i64 (hi ys k)) := x2
            have ho2 : OwnS (W2.drewN nq) w3.heap.size (.slice (some ⟨g2, 0, none⟩) rs.length cap2) rs := hown1
            have hb2 := below_drewN hb1 nq
            have hz2 : wr.heap.size < (W2.drewN nq).heap.size := hz1
            generalize W2.drewN nq = Wd at y1 y2 ho2 hb2 hz2 ⊢
            clear x1 x2 d1 d2 f2 hown1 hb1 hz1 hg2
            have ho3 := World.ownsRow.alloc ho2 (.cells #[.int .i64 (lo ys k), .int .i64 (hi ys k)] 55)
            have hsz2 := hb2.size
            go_wp2_with (at_builtin; refine wpList_append_own _ rfl (.tmp 47) (.tmp 49) 24 rfl w3.heap.size 55 i0 _ 2 16 Tryz.underlying24 hi0 hz0 hz1' hz2' rfl (by decide) _ rs.length (cellsOf rs) rfl ho3 ⟨Wd.heap.size, 0, none⟩ 1 1 [.int .i64 (lo ys k), .int .i64 (hi ys k)] rfl rfl ?hc1 ?hc2 ?hc3 ?hc4 ?hc5 ?_; rotate_right; intro v' w5 hown2 hgrow _)
            case hc2 => simp [Value.oneCell']
            case hc3 => unfold maxLen; omega
            case hc4 => omega
            case hc5 => first | omega | (simp; omega) | exact cell_one _ _ _ _ rfl
            go_roundw
            case rel => exact ⟨k + 1, _, by omega, by go_num, HN, OwnS.of_append hown2, Below.grown (row := (Value.slice (some ⟨g2, 0, none⟩) rs.length cap2).ownBlock) (hb2.alloc hsz2 _) hgrow (by simp; omega) (fun k hk => (ho2.lt k hk).1)⟩
            case measure => simp [intOf]; omega
      · obtain rfl : k = ys.length := by omega
        have hall := Lib.hid (joinF_all ys HA.out HW.out)
        have hjl := joinF_len ys ys.length
        rw [HR.out] at hjl
        go_wp2
        go_ret
        rw [HF.out]
        have q := hall.out
        rw [HR.out] at q
        exact ⟨_, rs, rfl, hown.mono hs3, q.1, q.2.1, (fun n => (q.2.2 n).trans (HM.out n)), by omega, B3.trans (hb.mono hs3)⟩
end Go.Proofs.YthkjcljhfjaabaaGreatDoor

namespace Go.Proofs.YthkjcljhfjaabaaGreatDoor
open Go.RowKit Sets

theorem flatL_one (A : Option Addr) (c : Nat) (xs : List Sp) : flatL [(A, c, xs)] 1 = xs := by simp [flatL]
theorem flatL_two (A B : Option Addr) (c d : Nat) (xs ys : List Sp) : flatL [(A, c, xs), (B, d, ys)] 2 = xs ++ ys := by simp [flatL]

theorem join1_any (lb : Nat) (A : Option Addr) (c : Nat) (xs : List Sp) (hT : xs.length ≤ 1000) (hE : Ends xs) (w : World) (hc : w.cell? ⟨lb, 0, none⟩ = some (.slice A xs.length c)) (hl : lb < w.heap.size) (h : Reads w w.heap.size A c xs) (hA : A = none → c = 0) :
    Calls Tryz.prog 69 #[.slice (some ⟨lb, 0, none⟩) 1 1] w (JoinRes xs w) := by
  have e := flatL_one A c xs
  have hL : LsAt w lb [(A, c, xs)] := by
    refine ⟨fun i hi => ?_, fun i hi => ?_, fun i hi => ?_, hl⟩
    all_goals
      have : i = 0 := by simp at hi; omega
      subst this
    · exact hc
    · exact h
    · exact hA
  have q := join_all lb [(A, c, xs)] (by simp) (by show (flatL [(A, c, xs)] 1).length ≤ 1000; rw [e]; exact hT) (by show Ends (flatL [(A, c, xs)] 1); rw [e]; exact hE) w hL
  have q2 : Calls Tryz.prog 69 #[.slice (some ⟨lb, 0, none⟩) 1 1] w (JoinRes (flatL [(A, c, xs)] 1) w) := q
  rw [e] at q2
  exact q2
theorem join2_any (lb : Nat) (A B : Option Addr) (c d : Nat) (xs ys : List Sp) (hT : xs.length + ys.length ≤ 1000) (hE : Ends (xs ++ ys)) (w : World) (hc : w.cell? ⟨lb, 0, none⟩ = some (.slice A xs.length c)) (hd : w.cell? ⟨lb, 1, none⟩ = some (.slice B ys.length d)) (hl : lb < w.heap.size)
    (h : Reads w w.heap.size A c xs) (h2 : Reads w w.heap.size B d ys) (hA : A = none → c = 0) (hB : B = none → d = 0) :
    Calls Tryz.prog 69 #[.slice (some ⟨lb, 0, none⟩) 2 2] w (JoinRes (xs ++ ys) w) := by
  have e := flatL_two A B c d xs ys
  have hL : LsAt w lb [(A, c, xs), (B, d, ys)] := by
    refine ⟨fun i hi => ?_, fun i hi => ?_, fun i hi => ?_, hl⟩
    all_goals
      have : i = 0 ∨ i = 1 := by simp at hi; omega
      rcases this with rfl | rfl
    · exact hc
    · exact hd
    · exact h
    · exact h2
    · exact hA
    · exact hB
  have q := join_all lb [(A, c, xs), (B, d, ys)] (by simp) (by show (flatL [(A, c, xs), (B, d, ys)] 2).length ≤ 1000; rw [e, List.length_append]; exact hT) (by show Ends (flatL [(A, c, xs), (B, d, ys)] 2); rw [e]; exact hE) w hL
  have q2 : Calls Tryz.prog 69 #[.slice (some ⟨lb, 0, none⟩) 2 2] w (JoinRes (flatL [(A, c, xs), (B, d, ys)] 2) w) := q
  rw [e] at q2
  exact q2

theorem fits_within {xs : List Sp} (hn : Norm xs) (h : Within xs) : Fits xs := fun x hx => by
  have a := h x hx
  have b := hn.le x hx
  unfold I64
  omega
theorem ends_lim {xs : List Sp} (h : LimAll xs) : Ends xs := fun x hx => by
  obtain ⟨i, hi, rfl⟩ := List.getElem_of_mem hx
  have := (limB_iff _ _).1 (h i hi)
  unfold YthkjcljhfjaabaaGreatDoor.lo YthkjcljhfjaabaaGreatDoor.hi at this
  rw [List.getD_eq_getElem?_getD, List.getElem?_eq_getElem hi] at this
  exact ⟨this.1.1, this.1.2, this.2.1, this.2.2⟩
theorem join_eq {xs rs : List Sp} (h1 : Norm rs) (h2 : Within rs) (h3 : ∀ n, memS rs n ↔ memS xs n) : fromF (flag xs) 199 = rs := eq_fromF rs h1 h2 _ fun j _ => (flag_iff xs j).trans (h3 _).symm

set_option maxRecDepth 100000 in
set_option maxHeartbeats 1000000 in
theorem implOf_any (A : Option Addr) (c : Nat) (xs : List Sp) (w : World) (h : Reads w w.heap.size A c xs) (hA : A = none → c = 0) :
    Calls Tryz.prog 80 #[.slice A xs.length c] w (OwnRes2 w.heap.size (setOfV xs) (setOfB xs) w) := by
  have H := Lib.hid h
  have HA := Lib.hid hA
  clear hA
  obtain ⟨hlc, hc, hfit, hrow⟩ := h
  by_cases h100 : 100 < xs.length
  · have hb := Lib.hid (setOf_long h100)
    have hv := Lib.hid (setOfV_no hb.out)
    have h1 : (100 : Int) < (xs.length : Int) := by omega
    go_enter Tryz.func80, Tryz.ntmps80
    go_wp2
    go_ret2
    unfold OwnRes2
    rw [hv.out, hb.out]
    exact ⟨_, rfl, OwnS.nil _ _, fits_nil, Below.refl _ _⟩
  · have h1 : ¬ (100 : Int) < (xs.length : Int) := by omega
    go_enter Tryz.func80, Tryz.ntmps80
    go_wp2
    go_loopw [11] (fun i wr => ∃ k : Nat, k ≤ xs.length ∧ i = .int .i64 k ∧ (∀ j, j < k → limB (lo xs j) (hi xs j) = true) ∧ Below w.heap.size w wr) (fun i _ => xs.length - (intOf i).toNat)
    case atStart => exact ⟨0, Nat.zero_le _, rfl, fun j hj => absurd hj (by omega), Below.refl _ _⟩
    case round =>
      obtain ⟨k, hk, rfl, hall, hbw⟩ := hrel
      have hsz := hbw.size
      by_cases hlt : k < xs.length
      · rcases hrow with rfl | ⟨b, off, rfl, hB, hrow⟩
        · simp at hlt
        · have hkl : (k : Int) < (xs.length : Int) := by omega
          obtain ⟨c1, c2⟩ := (hrow.below hbw hB) k hlt
          have HL := Lib.hid hall
          clear hall
          cases hL : limB (lo xs k) (hi xs k)
          · have hb := Lib.hid (setOf_out hlt hL)
            have hv := Lib.hid (setOfV_no hb.out)
            go_wp2_with (go_at_call 51; refine (inLimits_any _ _ _).mono ?_; rw [hL]; rintro e w' ⟨rfl, rfl⟩)
            go_ret2
            unfold OwnRes2
            rw [hv.out, hb.out]
            exact ⟨_, rfl, OwnS.nil _ _, fits_nil, (hbw.alloc hsz _).alloc (by simp; omega) _⟩
          · have HLk := Lib.hid hL
            go_wp2_with (go_at_call 51; refine (inLimits_any _ _ _).mono ?_; rw [hL]; rintro e w' ⟨rfl, rfl⟩)
            go_roundw
            case rel => exact ⟨k + 1, hlt, by go_num, (fun j hj => by
              rcases Nat.lt_or_ge j k with h | h
              · exact HL.out j h
              · obtain rfl : j = k := by omega
                exact HLk.out), (hbw.alloc hsz _).alloc (by simp; omega) _⟩
            case measure => simp [intOf]; omega
      · have hlim : LimAll xs := fun j hj => hall j (by omega)
        have HE := Lib.hid (ends_lim hlim)
        have hin := Lib.hid (setOf_in (xs := xs) (by omega) hlim)
        clear hall hlim
        have HR := Lib.hid (H.out.step (hbw.alloc hsz (.cells #[.slice A xs.length c] 24)))
        have BW := hbw.alloc hsz (.cells #[.slice A xs.length c] 24)
        have hcell : (wr.alloc (.cells #[.slice A xs.length c] 24)).cell? ⟨wr.heap.size, 0, none⟩ = some (.slice A xs.length c) := by rw [World.cell?_alloc_new]; rfl
        go_wp2_with fail
        refine (join1_any _ A c xs (by omega) HE.out _ hcell (by simp) HR.out HA.out).mono ?_
        generalize wr.alloc (.cells #[.slice A xs.length c] 24) = wj at BW
        rintro e w5 ⟨v5, rs, rfl, own5, n5, wi5, m5, l5, b5⟩
        have hf5 : Fits rs := fits_within n5 wi5
        obtain ⟨A5, c5, hv5, r5, _⟩ := own5.form hf5
        subst hv5
        clear r5
        have B5 := BW.trans (b5.mono BW.size)
        have hj := Lib.hid (join_eq n5 wi5 m5)
        by_cases h12 : rs.length ≤ 12
        · have hk2 : Hid (setOfB xs = true) := Lib.hid (by rw [hin.out, hj.out]; exact decide_eq_true h12)
          have hm : Hid (setOfV xs = rs) := Lib.hid (by rw [setOfV_yes hk2.out]; exact hj.out)
          go_wp2_with fail
          refine (asSet_any _ _ _ _ (by omega)).mono ?_
          rw [if_pos h12, decide_eq_true h12]
          rintro e w6 ⟨rfl, rfl⟩
          go_wp2
          go_ret2
          unfold OwnRes2
          rw [hm.out, hk2.out]
          exact ⟨_, rfl, own5.mono BW.size, hf5, B5⟩
        · have hk2 : Hid (setOfB xs = false) := Lib.hid (by rw [hin.out, hj.out]; exact decide_eq_false h12)
          have hm : Hid (setOfV xs = []) := Lib.hid (setOfV_no hk2.out)
          go_wp2_with fail
          refine (asSet_any _ _ _ _ (by omega)).mono ?_
          rw [if_neg h12, decide_eq_false h12]
          rintro e w6 ⟨rfl, rfl⟩
          go_wp2
          go_ret2
          unfold OwnRes2
          rw [hm.out, hk2.out]
          exact ⟨_, rfl, OwnS.nil _ _, fits_nil, B5⟩

def unionP (xs ys : List Sp) : List Sp := fromF (fun j => flag xs j || flag ys j) 199
def unionB (xs ys : List Sp) : Bool := bothB xs ys && decide ((unionP xs ys).length ≤ 12)
def unionV (xs ys : List Sp) : List Sp := if unionB xs ys = true then unionP xs ys else []
theorem fromF_congr (f g : Nat → Bool) (h : ∀ j, f j = g j) : ∀ k, fromF f k = fromF g k
  | 0 => rfl
  | k + 1 => by simp only [fromF]; rw [fromF_congr f g h k, h k]
theorem flag_or (xs ys : List Sp) : unionP xs ys = fromF (flag (xs ++ ys)) 199 := fromF_congr _ _ (fun j => by unfold flag; rw [haveB_append]) _
theorem ends_valid {xs : List Sp} (h : validB xs = true) : Ends xs := fun x hx => by
  obtain ⟨a, b⟩ := norm_of_valid h
  have := a.le x hx
  have := b x hx
  omega

set_option maxRecDepth 100000 in
set_option maxHeartbeats 1000000 in
theorem implUnion_any (A1 A2 : Option Addr) (c1 c2 : Nat) (xs ys : List Sp) (w : World) (h1 : Reads w w.heap.size A1 c1 xs) (h2 : Reads w w.heap.size A2 c2 ys) (z1 : A1 = none → c1 = 0) (z2 : A2 = none → c2 = 0) :
    Calls Tryz.prog 31 #[.slice A1 xs.length c1, .slice A2 ys.length c2] w (OwnRes2 w.heap.size (unionV xs ys) (unionB xs ys) w) := by
  have H1 := Lib.hid h1
  have H2 := Lib.hid h2
  have Z1 := Lib.hid z1
  have Z2 := Lib.hid z2
  clear h1 h2 z1 z2
  go_enter Tryz.func31, Tryz.ntmps31
  go_wp2_with fail
  refine (implValid_any _ _ xs _ H1.out).mono ?_
  rintro e w1 ⟨rfl, b1⟩
  have G1 := Lib.hid (H1.out.step b1)
  have G2 := Lib.hid (H2.out.step b1)
  cases hv1 : validB xs
  · have hk : Hid (unionB xs ys = false) := Lib.hid (by unfold unionB bothB; rw [hv1]; rfl)
    have hm : Hid (unionV xs ys = []) := Lib.hid (by unfold unionV; rw [hk.out]; rfl)
    go_wp2
    go_ret2
    unfold OwnRes2
    rw [hm.out, hk.out]
    exact ⟨_, rfl, OwnS.nil _ _, fits_nil, b1⟩
  · go_wp2_with fail
    refine (implValid_any _ _ ys _ G2.out).mono ?_
    rintro e w2 ⟨rfl, b2⟩
    have b02 := b1.trans (b2.mono b1.size)
    have F1 := Lib.hid (G1.out.step b2)
    have F2 := Lib.hid (G2.out.step b2)
    cases hv2 : validB ys
    · have hk : Hid (unionB xs ys = false) := Lib.hid (by unfold unionB bothB; rw [hv2, Bool.and_false]; rfl)
      have hm : Hid (unionV xs ys = []) := Lib.hid (by unfold unionV; rw [hk.out]; rfl)
      go_wp2
      go_ret2
      unfold OwnRes2
      rw [hm.out, hk.out]
      exact ⟨_, rfl, OwnS.nil _ _, fits_nil, b02⟩
    · have l1 := valid_len hv1
      have l2 := valid_len hv2
      have HV1 := Lib.hid hv1
      have HV2 := Lib.hid hv2
      have HE : Hid (Ends (xs ++ ys)) := Lib.hid (fun x hx => (List.mem_append.1 hx).elim (ends_valid hv1 x) (ends_valid hv2 x))
      clear hv1 hv2
      have BW := b02.alloc b02.size (.cells #[.slice A1 xs.length c1, .slice A2 ys.length c2] 24)
      have hcell : (w2.alloc (.cells #[.slice A1 xs.length c1, .slice A2 ys.length c2] 24)).cell? ⟨w2.heap.size, 0, none⟩ = some (.slice A1 xs.length c1) := by rw [World.cell?_alloc_new]; rfl
      have hcell2 : (w2.alloc (.cells #[.slice A1 xs.length c1, .slice A2 ys.length c2] 24)).cell? ⟨w2.heap.size, 1, none⟩ = some (.slice A2 ys.length c2) := by rw [World.cell?_alloc_new]; rfl
      have HR1 := Lib.hid (F1.out.step ((Below.refl _ w2).alloc (Nat.le_refl _) (.cells #[.slice A1 xs.length c1, .slice A2 ys.length c2] 24)))
      have HR2 := Lib.hid (F2.out.step ((Below.refl _ w2).alloc (Nat.le_refl _) (.cells #[.slice A1 xs.length c1, .slice A2 ys.length c2] 24)))
      go_wp2_with fail
      refine (join2_any _ A1 A2 c1 c2 xs ys (by omega) HE.out _ hcell hcell2 (by simp) HR1.out HR2.out Z1.out Z2.out).mono ?_
      generalize w2.alloc (.cells #[.slice A1 xs.length c1, .slice A2 ys.length c2] 24) = wj at BW
      rintro e w5 ⟨v5, rs, rfl, own5, n5, wi5, m5, l5, b5⟩
      have hf5 : Fits rs := fits_within n5 wi5
      obtain ⟨A5, c5, hv5, r5, _⟩ := own5.form hf5
      subst hv5
      clear r5
      have B5 := BW.trans (b5.mono BW.size)
      have hj := Lib.hid ((flag_or xs ys).trans (join_eq n5 wi5 m5))
      by_cases h12 : rs.length ≤ 12
      · have hk2 : Hid (unionB xs ys = true) := Lib.hid (by unfold unionB bothB; rw [HV1.out, HV2.out, hj.out]; exact decide_eq_true h12)
        have hm : Hid (unionV xs ys = rs) := Lib.hid (by unfold unionV; rw [hk2.out, if_pos rfl]; exact hj.out)
        go_wp2_with fail
        refine (asSet_any _ _ _ _ (by omega)).mono ?_
        rw [if_pos h12, decide_eq_true h12]
        rintro e w6 ⟨rfl, rfl⟩
        go_wp2
        go_ret2
        unfold OwnRes2
        rw [hm.out, hk2.out]
        exact ⟨_, rfl, own5.mono BW.size, hf5, B5⟩
      · have hk2 : Hid (unionB xs ys = false) := Lib.hid (by unfold unionB bothB; rw [HV1.out, HV2.out, hj.out]; exact decide_eq_false h12)
        have hm : Hid (unionV xs ys = []) := Lib.hid (by unfold unionV; rw [hk2.out]; rfl)
        go_wp2_with fail
        refine (asSet_any _ _ _ _ (by omega)).mono ?_
        rw [if_neg h12, decide_eq_false h12]
        rintro e w6 ⟨rfl, rfl⟩
        go_wp2
        go_ret2
        unfold OwnRes2
        rw [hm.out, hk2.out]
        exact ⟨_, rfl, OwnS.nil _ _, fits_nil, B5⟩

theorem setOfV_le (xs : List Sp) : (setOfV xs).length ≤ 65536 := by
  unfold setOfV
  split
  · have := fromF_len (flag xs) 199; omega
  · simp
theorem unionV_le (xs ys : List Sp) : (unionV xs ys).length ≤ 65536 := by
  unfold unionV
  split
  · have := fromF_len (fun j => flag xs j || flag ys j) 199; unfold unionP; omega
  · simp
theorem OwnS.form0 {w : World} {base : Nat} {v : Value} {xs : List Sp} (h : OwnS w base v xs) (hf : Fits xs) :
    ∃ A c, v = .slice A xs.length c ∧ Reads w w.heap.size A c xs ∧ (A = none → c = 0) := by
  obtain ⟨A, c, hv, hr, _⟩ := h.form hf
  refine ⟨A, c, hv, hr, fun hA => ?_⟩
  obtain ⟨_, ⟨h2, _⟩ | ⟨g, cap, cur, h2, _⟩⟩ := h
  · rw [h2] at hv
    injection hv with _ _ h3
    exact h3.symm
  · rw [h2, hA] at hv
    injection hv with h3
    cases h3
end Go.Proofs.YthkjcljhfjaabaaGreatDoor
