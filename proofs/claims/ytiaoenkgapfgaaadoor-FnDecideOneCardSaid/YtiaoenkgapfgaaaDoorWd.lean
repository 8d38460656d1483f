/-
  Outputs in descending order, both programs.
-/
import Derived.Test.YtiaoenkgapfgaaaDoorWa
import Derived.Maps.AppendAt
namespace Go.Proofs.YtiaoenkgapfgaaaDoor
open Go.RowKit Sets

/-- The first n cells of block g hold the numbers f 0, f 1, .. -/
def RowIs (w : World) (g : Nat) (f : Nat → Int) (n : Nat) : Prop := ∀ i, i < n → w.cell? ⟨g, i, none⟩ = some (.int .i64 (f i))
theorem RowIs.put {w : World} {g n m o : Nat} {f : Nat → Int} (h : RowIs w g f m) (hb : OwnBlk w g n) (ho : o < n) (x : Int) : RowIs (w.setCell ⟨g, o, none⟩ (.int .i64 x)) g (fun i => if i = o then x else f i) m := by
  intro i hi
  rw [set_at hb ho]
  by_cases e : i = o
  · rw [if_pos e]; simp only [if_pos e]
  · rw [if_neg e, h i hi]; simp only [if_neg e]
theorem RowIs.drewN {w : World} {g n : Nat} {f : Nat → Int} (h : RowIs w g f n) (k : Nat) : RowIs (w.drewN k) g f n := fun i hi => h i hi
theorem OwnBlk.drewN {w : World} {g n : Nat} (h : OwnBlk w g n) (k : Nat) : OwnBlk (w.drewN k) g n := ⟨fun o ho => h.1 o ho, fun o => h.2.1 o, h.2.2⟩
theorem mem_insR {x y : Int} {l : List Int} (h : y ∈ insR x l) : y = x ∨ y ∈ l := by
  unfold insR at h
  rw [List.mem_append, List.mem_cons] at h
  rcases h with h | h | h
  · exact .inr (List.mem_of_mem_take h)
  · exact .inl h
  · exact .inr (List.mem_of_mem_drop h)
theorem mem_srK {ns : List Int} : ∀ k, k ≤ ns.length → ∀ y ∈ srK ns k, y ∈ ns := by
  intro k
  induction k with
  | zero => intro _ y hy; cases hy
  | succ k ih =>
    intro hk y hy
    rcases mem_insR hy with h | h
    · rw [h, List.getD_eq_getElem?_getD, List.getElem?_eq_getElem (by omega)]; exact List.getElem_mem (by omega)
    · exact ih (by omega) y h
theorem row_ints {w : World} {g : Nat} {f : Nat → Int} {ns : List Int} (h : RowIs w g f ns.length) (hf : ∀ i, i < ns.length → f i = ns.getD i 0) : IntRow w g ns ns.length := fun i hi => by rw [h i hi, hf i hi]
/-- the row while x goes down in the first e elements, at place p; what lies behind is as b says -/
structure Down (f : Nat → Int) (l : List Int) (x : Int) (p e : Nat) : Prop where
  left : ∀ i, i < p → f i = l.getD i 0
  right : ∀ i, p < i → i ≤ e → f i = l.getD (i - 1) 0
  pos : posR x l p = posR x l l.length
theorem Down.start {f : Nat → Int} {l : List Int} (x : Int) (h : ∀ i, i < l.length → f i = l.getD i 0) : Down f l x l.length l.length := ⟨h, fun i h1 h2 => by omega, rfl⟩
theorem Down.next {f f' : Nat → Int} {l : List Int} {x : Int} {p e : Nat} (h : Down f l x (p + 1) e) (hx : l.getD p 0 < x) (h1 : f' (p + 1) = l.getD p 0) (h2 : ∀ i, i ≠ p + 1 → i ≠ p → f' i = f i) : Down f' l x p e := by
  refine ⟨fun i hi => ?_, fun i hi1 hi2 => ?_, posR_down h.pos hx⟩
  · rw [h2 i (by omega) (by omega)]; exact h.left i (by omega)
  · by_cases e' : i = p + 1
    · rw [e', h1]; rfl
    · rw [h2 i e' (by omega)]; exact h.right i (by omega) hi2
/-- the place is found: the row with x in it is the longer list -/
theorem Down.done {f : Nat → Int} {l : List Int} {x : Int} {p : Nat} (h : Down f l x p l.length) (hx : p = 0 ∨ ¬ l.getD (p - 1) 0 < x) (hf : f p = x) : ∀ i, i < (insR x l).length → f i = (insR x l).getD i 0 := by
  have hp : posR x l l.length = p := by
    rcases hx with rfl | hx
    · exact h.pos.symm
    · obtain ⟨q, rfl⟩ | rfl : (∃ q, p = q + 1) ∨ p = 0 := by cases p with
        | zero => exact .inr rfl
        | succ q => exact .inl ⟨q, rfl⟩
      · exact posR_stop h.pos hx
      · exact h.pos.symm
  intro i hi
  rw [insR_len] at hi
  rw [insR_at x l p hp]
  by_cases h1 : i < p
  · rw [if_pos h1]; exact h.left i h1
  · rw [if_neg h1]
    by_cases h2 : i = p
    · rw [if_pos h2, h2, hf]
    · rw [if_neg h2]; exact h.right i (by omega) (by omega)

theorem Down.fin {f : Nat → Int} {l : List Int} {x : Int} {p e : Nat} (h : Down f l x p e) (he : l.length = e) (hx : p = 0 ∨ ¬ l.getD (p - 1) 0 < x) : ∀ i, i < e + 1 → (if i = p then x else f i) = (insR x l).getD i 0 := by
  subst he
  have h' : Down (fun i => if i = p then x else f i) l x p l.length := ⟨fun i hi => by simp only [if_neg (show ¬ i = p by omega)]; exact h.left i hi, fun i h1 h2 => by simp only [if_neg (show ¬ i = p by omega)]; exact h.right i h1 h2, h.pos⟩
  intro i hi
  exact h'.done hx (by simp) i (by rw [insR_len]; exact hi)
/-- a store behind which the row but for one place is as f says -/
theorem row_fill {w : World} {g n m p : Nat} {f : Nat → Int} (hb : OwnBlk w g n) (hp : p < n) (h : ∀ i, i < m → i ≠ p → w.cell? ⟨g, i, none⟩ = some (.int .i64 (f i))) (x : Int) : RowIs (w.setCell ⟨g, p, none⟩ (.int .i64 x)) g (fun i => if i = p then x else f i) m := by
  intro i hi
  rw [set_at hb hp]
  by_cases e : i = p
  · rw [if_pos e]; simp only [if_pos e]
  · rw [if_neg e, h i hi e]; simp only [if_neg e]

set_option maxRecDepth 100000 in
set_option maxHeartbeats 4000000 in
theorem implDesc_any (A : Option Addr) (c : Nat) (ns : List Int) (w : World) (h : IntsAt w w.heap.size A c ns) (hn : ns.length ≤ 12) :
    Calls Tryd.prog 71 #[.slice A ns.length c] w fun e w' => ∃ A' c', e = .returned (.slice A' (srK ns ns.length).length c') ∧ OwnN w' w.heap.size A' c' (srK ns ns.length) ∧ Below w.heap.size w w' := by
  obtain ⟨hfit, hlc, hc, hrow⟩ := h
  obtain ⟨i0, hi, hz0, hz1, hz2⟩ := info_parts infoInt
  have hmk := fun W => run_make (P := Tryd.prog) W 23 3 i0 _ Tryd.underlying23 hi hz0 .i64 .i64 ns.length ns.length (by omega) (by omega) (by rw [hz2]; omega) (by omega)
  simp only [Int.toNat_natCast, hz1, Nat.mul_one] at hmk
  have HF := Lib.hid hfit
  clear hi hz0 hz1 hz2 hfit
  go_enter Tryd.func71, Tryd.ntmps71
  go_wp2
  have hown0 := OwnBlk.made w #[.int .i64 0] ns.length 3
  have hb0 : Below w.heap.size w (w.alloc (.cells (madeCells #[Value.int .i64 0] ns.length) 3)) := (Below.refl _ _).alloc (Nat.le_refl _) _
  generalize w.alloc (.cells (madeCells #[Value.int .i64 0] ns.length) 3) = W0 at hown0 hb0 ⊢
  clear hmk
  go_loopw [12] (fun i wr => ∃ k : Nat, k ≤ ns.length ∧ i = .int .i64 k ∧ (∃ f, RowIs wr w.heap.size f k ∧ Hid (∀ i, i < k → f i = (srK ns k).getD i 0)) ∧ OwnBlk wr w.heap.size ns.length ∧ Below w.heap.size w wr) (fun i _ => ns.length - (intOf i).toNat)
  case atStart => exact ⟨0, Nat.zero_le _, rfl, ⟨fun _ => 0, fun i hi => absurd hi (by omega), Lib.hid fun i hi => absurd hi (by omega)⟩, hown0, hb0⟩
  case round =>
    obtain ⟨k, hk, rfl, ⟨f, hr, hf⟩, hown, hb⟩ := hrel
    by_cases hlt : k < ns.length
    · rcases hrow with hz | ⟨b, off, rfl, hB, hrow⟩
      · omega
      · have hkl : (k : Int) < (ns.length : Int) := by omega
        have u1 := hrow k hlt
        rw [Nat.mul_one] at u1
        have d1 := (hb.cell (p := ⟨b, off + k, none⟩) hB).trans u1
        obtain ⟨x, hx⟩ : ∃ x, ns.getD k 0 = x := ⟨_, rfl⟩
        rw [hx] at d1
        have HX := Lib.hid hx
        have HB := Lib.hid hb
        have HR := Lib.hid hr
        have HO := Lib.hid hown
        have HS := Lib.hid (srK_len ns k)
        have HN := Lib.hid (show ns.length ≤ 12 from hn)
        clear u1 hx hrow hb hr hown hc hlc
        go_wp2
        clear d1
        go_loopw [6] (fun q wq => ∃ p : Nat, p ≤ k ∧ q = .int .i64 p ∧ (∃ f', (∀ i, i < k + 1 → i ≠ p → wq.cell? ⟨w.heap.size, i, none⟩ = some (.int .i64 (f' i))) ∧ Hid (Down f' (srK ns k) x p k)) ∧ OwnBlk wq w.heap.size ns.length ∧ Below w.heap.size w wq) (fun q _ => (intOf q).toNat)
        case atStart => exact ⟨k, Nat.le_refl _, rfl, ⟨f, fun i hi hne => HR.out i (by omega), Lib.hid (by have := Down.start (f := f) (l := srK ns k) x (fun i hi => hf.out i (by have := HS.out; omega)); rw [HS.out] at this; exact this)⟩, HO.out, HB.out⟩
        case round =>
          obtain ⟨p, hpk, rfl, ⟨f', hr', hd⟩, hown', hb'⟩ := hrel
          by_cases hp0 : p = 0
          · subst hp0
            have hq : decide ((0 : Int) < ((0 : Nat) : Int)) = false := by simp
            obtain ⟨v0, g0⟩ := hown'.1 0 (by omega)
            have f0 := hown'.2.1 0
            have hfill := Lib.hid (row_fill hown' (by omega) hr' x)
            have HO' := Lib.hid (hown'.set 0 (.int .i64 x))
            have HB' := Lib.hid (hb'.setCell (p := ⟨w.heap.size, 0, none⟩) (Nat.le_refl _) (.int .i64 x))
            have HD := hd
            clear hr' hown' hb'
            go_wp2
            try trivial
            go_roundw
            case rel => exact ⟨k + 1, hlt, by go_num, ⟨_, hfill.out, Lib.hid fun i hi => by
              rw [show srK ns (k + 1) = insR x (srK ns k) by rw [srK, HX.out]]; exact HD.out.fin HS.out (.inl rfl) i hi⟩, HO'.out, HB'.out⟩
            case measure => simp [intOf]; omega
          · obtain ⟨q, rfl⟩ : ∃ q, p = q + 1 := ⟨p - 1, by omega⟩
            have cq := hr' q (by omega) (by omega)
            have hl := hd.out.left q (by omega)
            obtain ⟨y, hy⟩ : ∃ y, f' q = y := ⟨_, rfl⟩
            rw [hy] at cq hl
            have HY := Lib.hid (And.intro hy hl)
            have hq1 : (0 : Int) < (q : Int) + 1 := by omega
            have hq2 : (0 : Int) ≤ (q : Int) := by omega
            have hq3 : (q : Int) < (ns.length : Int) := by omega
            have hq4 : (q : Int) + 1 < (ns.length : Int) := by omega
            have hq5 : (0 : Int) ≤ (q : Int) + 1 := by omega
            have e1 : IntKind.i64.wrap ((q : Int) + 1 - 1) = (q : Int) := by rw [show (q : Int) + 1 - 1 = q by omega]; exact IntWalk.i64_in _ (by have := HN.out; omega)
            have e2 : IntKind.i64.wrap (q : Int) = (q : Int) := IntWalk.i64_in _ (by have := HN.out; omega)
            have e3 : ((q : Int) + 1).toNat = q + 1 := by omega
            obtain ⟨v0, g0⟩ := hown'.1 (q + 1) (by omega)
            have f0 := hown'.2.1 (q + 1)
            have HD := hd
            clear hy hl
            by_cases hlt2 : y < x
            · have hfill := Lib.hid (row_fill hown' (by omega) hr' y)
              have HO' := Lib.hid (hown'.set (q + 1) (.int .i64 y))
              have HB' := Lib.hid (hb'.setCell (p := ⟨w.heap.size, q + 1, none⟩) (Nat.le_refl _) (.int .i64 y))
              clear hr' hown' hb'
              go_wp2
              try trivial
              go_roundw
              case rel => exact ⟨q, by omega, rfl, ⟨fun i => if i = q + 1 then y else f' i, fun i hi _ => hfill.out i hi, Lib.hid (HD.out.next (by rw [← HY.out.2]; exact hlt2) (by rw [if_pos rfl]; exact HY.out.2) (fun i h1 _ => if_neg h1))⟩, HO'.out, HB'.out⟩
              case measure => simp [intOf]
            · have hlt3 : decide (y < x) = false := decide_eq_false hlt2
              have hfill := Lib.hid (row_fill hown' (by omega) hr' x)
              have HO' := Lib.hid (hown'.set (q + 1) (.int .i64 x))
              have HB' := Lib.hid (hb'.setCell (p := ⟨w.heap.size, q + 1, none⟩) (Nat.le_refl _) (.int .i64 x))
              have HL2 := Lib.hid hlt2
              clear hr' hown' hb' hlt2
              go_wp2
              try trivial
              go_roundw
              case rel => exact ⟨k + 1, hlt, by go_num, ⟨_, hfill.out, Lib.hid fun i hi => by
                rw [show srK ns (k + 1) = insR x (srK ns k) by rw [srK, HX.out]]; exact HD.out.fin HS.out (.inr (by rw [show q + 1 - 1 = q by omega, ← HY.out.2]; exact HL2.out)) i hi⟩, HO'.out, HB'.out⟩
              case measure => simp [intOf]; omega
    · obtain rfl : k = ns.length := by omega
      have HL := Lib.hid (srK_len ns ns.length)
      have HRI := Lib.hid (show IntRow wr w.heap.size (srK ns ns.length) (srK ns ns.length).length by rw [HL.out]; intro i hi; rw [hr i hi, hf.out i hi])
      have HOW := Lib.hid (show OwnBlk wr w.heap.size (srK ns ns.length).length by rw [HL.out]; exact hown)
      go_wp2
      go_ret
      refine ⟨some ⟨w.heap.size, 0, none⟩, ns.length, by rw [HL.out]; rfl, ⟨by rw [HL.out]; exact Nat.le_refl _, by omega, fun y hy => HF.out y (mem_srK _ (Nat.le_refl _) y hy), (fun g o s e => by injection e with e; injection e with e1 _; subst e1; exact ⟨Nat.le_refl _, HOW.out.2.2⟩), .inr ⟨_, rfl, HRI.out, HOW.out⟩⟩, hb⟩

/-- the place is found: the row, with x in it, up to there -/
theorem Down.all {f : Nat → Int} {l : List Int} {x : Int} {p e : Nat} (h : Down f l x p e) (he : l.length = e) (hx : p = 0 ∨ ¬ l.getD (p - 1) 0 < x) (hf : f p = x) : ∀ i, i < e + 1 → f i = (insR x l).getD i 0 := by
  subst he
  intro i hi
  exact h.done hx hf i (by rw [insR_len]; exact hi)

set_option maxRecDepth 100000 in
set_option maxHeartbeats 4000000 in
theorem specSort_any (A : Option Addr) (c : Nat) (ns : List Int) (w : World) (h : IntsAt w w.heap.size A c ns) (hp : 0 < ns.length) (hn : ns.length ≤ 12) :
    Calls Tryd.prog 44 #[.slice A ns.length c] w fun e w' => ∃ A' c', e = .returned (.slice A' (srK ns ns.length).length c') ∧ OwnN w' w.heap.size A' c' (srK ns ns.length) ∧ Below w.heap.size w w' := by
  obtain ⟨i0, hi0, hz0, hz1, hz2⟩ := infoI
  obtain ⟨hfit, hlc, hc, hrow⟩ := h
  rcases hrow with hz | ⟨b, off, rfl, hB, hrow⟩
  · omega
  have hE := ownI_empty w
  have hb0 : Below w.heap.size w (w.alloc (.cells #[] 3)) := (Below.refl _ _).alloc (Nat.le_refl _) _
  have HNEW := Lib.hid (ints_cells (w := w.alloc (.cells #[] 3)) (b := b) (o := off) (ns := ns) fun i hi => (hb0.cell (p := ⟨b, off + i * 1, none⟩) hB).trans (hrow i hi))
  have HF := Lib.hid hfit
  have HP := Lib.hid hp
  have HN := Lib.hid hn
  have HLC := Lib.hid (And.intro hlc hc)
  have hl : (intCells ns).length = ns.length * 1 := by simp [intCells]
  clear hfit hp hrow hlc hc
  go_enter Tryd.func44, Tryd.ntmps44
  go_wp2_with (at_builtin; refine wpList_append_own _ rfl (.tmp 7) (.tmp 8) 23 rfl w.heap.size 3 i0 _ 1 8 Tryd.underlying23 hi0 hz0 hz1 hz2 rfl (by decide) _ ([] : List Int).length (intCells []) rfl hE ⟨b, off, none⟩ ns.length c (intCells ns) rfl hl HNEW.out (intCells_one ns) ?hc3 ?hc4 ?hc5 ?_; rotate_right; intro v' w1 hown2 hgrow _; obtain ⟨A2, c2, rfl, hO⟩ := (show OwnI w1 w.heap.size v' ns by unfold OwnI; simpa [intCells] using hown2).form HF.out)
  case hc3 => unfold maxLen; simp; omega
  case hc4 => simp; omega
  case hc5 => simp
  have hb1 := Below.grown (row := (Value.slice (some ⟨w.heap.size, 0, none⟩) 0 0).ownBlock) hb0 hgrow (by simp) (fun k hk => (hE.lt k hk).1)
  clear hown2 hgrow hE hl hi0 hz0 hz1 hz2 hb0
  obtain ⟨hc2a, hc2b, _, hbase, hz | ⟨g, rfl, hr1, ho1⟩⟩ := hO
  · exact absurd hz (by have := HP.out; omega)
  have hgb := (hbase g 0 none rfl).1
  have HG := Lib.hid hgb
  have HC2 := Lib.hid (And.intro hc2a hc2b)
  clear hbase hc2a hc2b hgb
  go_loopw [4] (fun i wr => ∃ k : Nat, 1 ≤ k ∧ k ≤ ns.length ∧ i = .int .i64 k ∧ (∃ f, RowIs wr g f ns.length ∧ Hid ((∀ i, i < k → f i = (srK ns k).getD i 0) ∧ ∀ i, k ≤ i → f i = ns.getD i 0)) ∧ OwnBlk wr g ns.length ∧ Below w.heap.size w wr) (fun i _ => ns.length - (intOf i).toNat)
  case atStart => exact ⟨1, Nat.le_refl _, HP.out, rfl, ⟨fun i => ns.getD i 0, hr1, Lib.hid ⟨fun i hi => by rw [show i = 0 by omega]; rfl, fun i _ => rfl⟩⟩, ho1, hb1⟩
  case round =>
    clear hr1 ho1 hb1
    obtain ⟨k, hk1, hk, rfl, ⟨f, hr, hf⟩, hown, hb⟩ := hrel
    by_cases hlt : k < ns.length
    · have hkl : (k : Int) < (ns.length : Int) := by omega
      obtain ⟨x, hx⟩ : ∃ x, ns.getD k 0 = x := ⟨_, rfl⟩
      have HX := Lib.hid hx
      have HB := Lib.hid hb
      have HR := Lib.hid hr
      have HO := Lib.hid hown
      have HS := Lib.hid (srK_len ns k)
      clear hx hb hr hown
      go_wp2
      go_loopw [5] (fun q wq => ∃ p : Nat, p ≤ k ∧ q = .int .i64 p ∧ (∃ f', RowIs wq g f' ns.length ∧ Hid (Down f' (srK ns k) x p k ∧ f' p = x ∧ ∀ i, k < i → f' i = ns.getD i 0)) ∧ OwnBlk wq g ns.length ∧ Below w.heap.size w wq) (fun q _ => (intOf q).toNat)
      case atStart => exact ⟨k, Nat.le_refl _, rfl, ⟨f, HR.out, Lib.hid ⟨by have := Down.start (f := f) (l := srK ns k) x (fun i hi => hf.out.1 i (by have := HS.out; omega)); rw [HS.out] at this; exact this, (hf.out.2 k (Nat.le_refl _)).trans HX.out, fun i hi => hf.out.2 i (by omega)⟩⟩, HO.out, HB.out⟩
      case round =>
        obtain ⟨p, hpk, rfl, ⟨f', hr', hd⟩, hown', hb'⟩ := hrel
        by_cases hp0 : p = 0
        · subst hp0
          have hq : decide ((0 : Int) < ((0 : Nat) : Int)) = false := by simp
          have HB' := Lib.hid hb'
          have HR' := Lib.hid hr'
          have HO' := Lib.hid hown'
          clear hr' hown' hb'
          go_wp2
          go_quiet (fail)
          go_wp2
          go_roundw
          case rel => exact ⟨k + 1, by omega, hlt, by go_num, ⟨f', HR'.out.drewN _, Lib.hid ⟨fun i hi => by
            rw [show srK ns (k + 1) = insR x (srK ns k) by rw [srK, HX.out]]; exact hd.out.1.all HS.out (.inl rfl) hd.out.2.1 i hi, fun i hi => hd.out.2.2 i hi⟩⟩, HO'.out.drewN _, below_drewN HB'.out _⟩
          case measure => simp [intOf]; omega
        · obtain ⟨q, rfl⟩ : ∃ q, p = q + 1 := ⟨p - 1, by omega⟩
          have cq := hr' q (by omega)
          have cp := hr' (q + 1) (by omega)
          have hl := hd.out.1.left q (by omega)
          obtain ⟨y, hy⟩ : ∃ y, f' q = y := ⟨_, rfl⟩
          rw [hy] at cq hl
          rw [hd.out.2.1] at cp
          have HY := Lib.hid (And.intro hy hl)
          have hq1 : (0 : Int) < (q : Int) + 1 := by omega
          have hq2 : (0 : Int) ≤ (q : Int) := by omega
          have hq3 : (q : Int) < (ns.length : Int) := by omega
          have hq4 : (q : Int) + 1 < (ns.length : Int) := by omega
          have hq5 : (0 : Int) ≤ (q : Int) + 1 := by omega
          have e1 : IntKind.i64.wrap ((q : Int) + 1 - 1) = (q : Int) := by rw [show (q : Int) + 1 - 1 = q by omega]; exact IntWalk.i64_in _ (by have := HN.out; omega)
          have e2 : IntKind.i64.wrap (q : Int) = (q : Int) := IntWalk.i64_in _ (by have := HN.out; omega)
          have e3 : ((q : Int) + 1).toNat = q + 1 := by omega
          have fr0 := hown'.2.1 (q + 1)
          have fr1 := hown'.2.1 q
          clear hy hl
          by_cases hlt2 : y < x
          · have HB' := Lib.hid hb'
            have HR' := Lib.hid hr'
            have HO' := Lib.hid hown'
            have HQ := Lib.hid (And.intro (show q + 1 < ns.length by omega) (show q < ns.length by omega))
            have HL2 := Lib.hid hlt2
            clear hr' hown' hb'
            go_wp2
            go_quiet (fail)
            go_wp2
            go_roundw
            case rel => exact ⟨q, by omega, rfl, ⟨_, ((HR'.out.drewN _).put (HO'.out.drewN _) HQ.out.1 y).put ((HO'.out.drewN _).set (q + 1) _) HQ.out.2 x, Lib.hid ⟨hd.out.1.next (by rw [← HY.out.2]; exact HL2.out) (by simp only [if_neg (show ¬ q + 1 = q by omega), if_true]; exact HY.out.2) (fun i h1 h2 => by simp only [if_neg h2, if_neg h1]), by simp, fun i hi => by simp only [if_neg (show ¬ i = q by omega), if_neg (show ¬ i = q + 1 by omega)]; exact hd.out.2.2 i hi⟩⟩, ((HO'.out.drewN _).set _ _).set _ _, ((below_drewN HB'.out _).setCell (p := ⟨g, q + 1, none⟩) HG.out _).setCell (p := ⟨g, q, none⟩) HG.out _⟩
            case measure => simp [intOf]
          · have hlt3 : decide (y < x) = false := decide_eq_false hlt2
            have HB' := Lib.hid hb'
            have HR' := Lib.hid hr'
            have HO' := Lib.hid hown'
            have HL2 := Lib.hid hlt2
            clear hr' hown' hb' hlt2
            go_wp2
            go_quiet (fail)
            go_wp2
            go_roundw
            case rel => exact ⟨k + 1, by omega, hlt, by go_num, ⟨f', HR'.out.drewN _, Lib.hid ⟨fun i hi => by
              rw [show srK ns (k + 1) = insR x (srK ns k) by rw [srK, HX.out]]; exact hd.out.1.all HS.out (.inr (by rw [show q + 1 - 1 = q by omega, ← HY.out.2]; have := HL2.out; omega)) hd.out.2.1 i hi, fun i hi => hd.out.2.2 i hi⟩⟩, HO'.out.drewN _, below_drewN HB'.out _⟩
            case measure => simp [intOf]; omega
    · obtain rfl : k = ns.length := by omega
      have HL := Lib.hid (srK_len ns ns.length)
      have HRI := Lib.hid (show IntRow wr g (srK ns ns.length) (srK ns ns.length).length by rw [HL.out]; intro i hi; rw [hr i hi, hf.out.1 i hi])
      have HOW := Lib.hid (show OwnBlk wr g (srK ns ns.length).length by rw [HL.out]; exact hown)
      go_wp2
      go_ret
      refine ⟨some ⟨g, 0, none⟩, c2, by rw [HL.out]; rfl, ⟨by rw [HL.out]; exact HC2.out.1, HC2.out.2, fun y hy => HF.out y (mem_srK _ (Nat.le_refl _) y hy), (fun g' o s e => by injection e with e; injection e with e1 _; subst e1; exact ⟨HG.out, HOW.out.2.2⟩), .inr ⟨_, rfl, HRI.out, HOW.out⟩⟩, hb⟩
end Go.Proofs.YtiaoenkgapfgaaaDoor
