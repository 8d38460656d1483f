/-
  Tables in memory: what a value reads as.
-/
import Derived.Test.YtamfmemdhldmjaaGreatDoorRdM
import Derived.Test.YtamfmemdhldmjaaGreatDoorCl
import Derived.Test.YtamfmemdhldmjaaGreatDoorLc
namespace Go.Proofs.YtamfmemdhldmjaaGreatDoor
open Go.RowKit Sets

abbrev Co := Bool × Int × Int
abbrev Rl := List (List Sp) × Int
structure Tb where
  cols : List Co
  pol : Int
  rules : List Rl

/-- A slice of n elements of k cells each, each of which is as P says, at its place. -/
def ElemsAt (B : Nat) (A : Option Addr) (c n k : Nat) (P : Nat → Nat → Nat → Prop) : Prop :=
  n ≤ c ∧ c ≤ 9223372036854775807 ∧ (n = 0 ∨ ∃ b off, A = some ⟨b, off, none⟩ ∧ b < B ∧ ∀ i, i < n → P i b (off + i * k))
theorem ElemsAt.imp {B : Nat} {A : Option Addr} {c n k : Nat} {P Q : Nat → Nat → Nat → Prop} (h : ElemsAt B A c n k P) (hpq : ∀ i b o, i < n → b < B → P i b o → Q i b o) : ElemsAt B A c n k Q := by
  obtain ⟨h1, h2, h3⟩ := h
  refine ⟨h1, h2, h3.imp id ?_⟩
  rintro ⟨b, off, hA, hb, hp⟩
  exact ⟨b, off, hA, hb, fun i hi => hpq i b _ hi hb (hp i hi)⟩
theorem ElemsAt.mono {B B' : Nat} {A : Option Addr} {c n k : Nat} {P : Nat → Nat → Nat → Prop} (h : ElemsAt B A c n k P) (hb : B ≤ B') : ElemsAt B' A c n k P := by
  obtain ⟨h1, h2, h3⟩ := h
  refine ⟨h1, h2, h3.imp id ?_⟩
  rintro ⟨b, off, hA, hb2, hp⟩
  exact ⟨b, off, hA, by omega, hp⟩

def ColsAt (w : World) (B : Nat) (A : Option Addr) (c : Nat) (cs : List Co) : Prop :=
  ElemsAt B A c cs.length 3 fun i b o => w.cell? ⟨b, o, none⟩ = some (.bool (cs.getD i (false, 0, 0)).1) ∧ w.cell? ⟨b, o + 1, none⟩ = some (.int .i64 (cs.getD i (false, 0, 0)).2.1) ∧ w.cell? ⟨b, o + 2, none⟩ = some (.int .i64 (cs.getD i (false, 0, 0)).2.2)
def SetsAt (w : World) (B : Nat) (A : Option Addr) (c : Nat) (xss : List (List Sp)) : Prop :=
  ElemsAt B A c xss.length 1 fun i b o => ∃ A' c', w.cell? ⟨b, o, none⟩ = some (.slice A' (xss.getD i []).length c') ∧ Reads w B A' c' (xss.getD i [])
def RulesAt (w : World) (B : Nat) (A : Option Addr) (c : Nat) (rs : List Rl) : Prop :=
  ElemsAt B A c rs.length 2 fun i b o => (∃ A' c', w.cell? ⟨b, o, none⟩ = some (.slice A' (rs.getD i ([], 0)).1.length c') ∧ SetsAt w B A' c' (rs.getD i ([], 0)).1) ∧ w.cell? ⟨b, o + 1, none⟩ = some (.int .i64 (rs.getD i ([], 0)).2)
/-- A value that is a table. -/
def TabAt (w : World) (B : Nat) (v : Value) (t : Tb) : Prop :=
  ∃ A1 c1 A2 c2, v = .agg #[.slice A1 t.cols.length c1, .int .i64 t.pol, .slice A2 t.rules.length c2] ∧ ColsAt w B A1 c1 t.cols ∧ RulesAt w B A2 c2 t.rules

theorem ColsAt.below {w w' : World} {B : Nat} {A : Option Addr} {c : Nat} {cs : List Co} (h : ColsAt w B A c cs) (hb : Below B w w') : ColsAt w' B A c cs :=
  h.imp fun _ b o _ hB ⟨h1, h2, h3⟩ => ⟨(hb.cell (p := ⟨b, o, none⟩) hB).trans h1, (hb.cell (p := ⟨b, o + 1, none⟩) hB).trans h2, (hb.cell (p := ⟨b, o + 2, none⟩) hB).trans h3⟩
theorem SetsAt.below {w w' : World} {B : Nat} {A : Option Addr} {c : Nat} {xss : List (List Sp)} (h : SetsAt w B A c xss) (hb : Below B w w') : SetsAt w' B A c xss :=
  h.imp fun _ b o _ hB ⟨A', c', h1, h2⟩ => ⟨A', c', (hb.cell (p := ⟨b, o, none⟩) hB).trans h1, h2.below hb⟩
theorem RulesAt.below {w w' : World} {B : Nat} {A : Option Addr} {c : Nat} {rs : List Rl} (h : RulesAt w B A c rs) (hb : Below B w w') : RulesAt w' B A c rs :=
  h.imp fun _ b o _ hB ⟨⟨A', c', h1, h2⟩, h3⟩ => ⟨⟨A', c', (hb.cell (p := ⟨b, o, none⟩) hB).trans h1, h2.below hb⟩, (hb.cell (p := ⟨b, o + 1, none⟩) hB).trans h3⟩
theorem TabAt.below {w w' : World} {B : Nat} {v : Value} {t : Tb} (h : TabAt w B v t) (hb : Below B w w') : TabAt w' B v t := by
  obtain ⟨A1, c1, A2, c2, hv, h1, h2⟩ := h
  exact ⟨A1, c1, A2, c2, hv, h1.below hb, h2.below hb⟩
theorem ColsAt.mono {w : World} {B B' : Nat} {A : Option Addr} {c : Nat} {cs : List Co} (h : ColsAt w B A c cs) (hb : B ≤ B') : ColsAt w B' A c cs := ElemsAt.mono h hb
theorem SetsAt.mono {w : World} {B B' : Nat} {A : Option Addr} {c : Nat} {xss : List (List Sp)} (h : SetsAt w B A c xss) (hb : B ≤ B') : SetsAt w B' A c xss :=
  ElemsAt.mono (ElemsAt.imp h fun _ _ _ _ _ ⟨A', c', h1, h2⟩ => ⟨A', c', h1, h2.mono hb⟩) hb
theorem RulesAt.mono {w : World} {B B' : Nat} {A : Option Addr} {c : Nat} {rs : List Rl} (h : RulesAt w B A c rs) (hb : B ≤ B') : RulesAt w B' A c rs :=
  ElemsAt.mono (ElemsAt.imp h fun _ _ _ _ _ ⟨⟨A', c', h1, h2⟩, h3⟩ => ⟨⟨A', c', h1, h2.mono hb⟩, h3⟩) hb
theorem TabAt.mono {w : World} {B B' : Nat} {v : Value} {t : Tb} (h : TabAt w B v t) (hb : B ≤ B') : TabAt w B' v t := by
  obtain ⟨A1, c1, A2, c2, hv, h1, h2⟩ := h
  exact ⟨A1, c1, A2, c2, hv, h1.mono hb, h2.mono hb⟩
/-- A table reads on through whatever only adds. -/
theorem TabAt.step {w w' : World} {v : Value} {t : Tb} (h : TabAt w w.heap.size v t) (hb : Below w.heap.size w w') : TabAt w' w'.heap.size v t := (h.below hb).mono hb.size
theorem all_yes {n : Nat} {p : Nat → Bool} (h : ∀ i, i < n → p i = true) : (List.range n).all p = true := List.all_eq_true.2 fun i hi => h i (List.mem_range.1 hi)
theorem all_no {n k : Nat} {p : Nat → Bool} (hk : k < n) (h : p k = false) : (List.range n).all p = false := by
  cases e : (List.range n).all p
  · rfl
  · have := List.all_eq_true.1 e k (List.mem_range.2 hk)
    rw [h] at this; cases this
end Go.Proofs.YtamfmemdhldmjaaGreatDoor

namespace Go.Proofs.YtamfmemdhldmjaaGreatDoor
open Go.RowKit Sets

/-- A block of the call's own: m cells, none frozen. -/
def OwnBlk (w : World) (g m : Nat) : Prop := (∀ o, o < m → ∃ v, w.cell? ⟨g, o, none⟩ = some v) ∧ (∀ o, w.frozen? ⟨g, o, none⟩ = false) ∧ g < w.heap.size
theorem OwnBlk.below {w w' : World} {B g n : Nat} (h : OwnBlk w g n) (hb : Below B w w') (hB : g < B) : OwnBlk w' g n :=
  ⟨fun o ho => by rw [hb.cell (p := ⟨g, o, none⟩) hB]; exact h.1 o ho, fun o => by rw [hb.frozen (p := ⟨g, o, none⟩) hB]; exact h.2.1 o, Nat.lt_of_lt_of_le h.2.2 hb.size⟩
theorem OwnBlk.set {w : World} {g n : Nat} (h : OwnBlk w g n) (o : Nat) (v : Value) : OwnBlk (w.setCell ⟨g, o, none⟩ v) g n := by
  refine ⟨fun o' ho' => ?_, fun o' => by rw [World.frozen?_setCell]; exact h.2.1 o', by simpa [World.setCell] using h.2.2⟩
  by_cases e : o' = o
  · subst e
    obtain ⟨u, hu⟩ := h.1 o' ho'
    exact ⟨v, World.cell?_setCell_same' _ _ _ (by rw [hu]; rfl)⟩
  · rw [World.cell?_setCell_other _ _ _ _ (fun h => by injection h with _ h; omega)]
    exact h.1 o' ho'
theorem OwnBlk.made (w : World) (z : Array Value) (m : Nat) (t : TypeId) : OwnBlk (w.alloc (.cells (madeCells z m) t)) w.heap.size m := by
  refine ⟨fun o ho => ?_, fun o => World.frozen?_alloc_at _ _ _ _ rfl, by simp⟩
  rw [World.cell?_alloc_new]
  exact ⟨_, Array.getElem?_eq_getElem (by rw [size_madeCells]; exact ho)⟩
/-- What a cell of the block holds behind a store in it. -/
theorem set_at {w : World} {g n : Nat} (h : OwnBlk w g n) {o : Nat} (ho : o < n) (v : Value) (o' : Nat) : (w.setCell ⟨g, o, none⟩ v).cell? ⟨g, o', none⟩ = if o' = o then some v else w.cell? ⟨g, o', none⟩ := by
  by_cases e : o' = o
  · subst e
    rw [if_pos rfl]
    obtain ⟨u, hu⟩ := h.1 o' ho
    exact World.cell?_setCell_same' _ _ _ (by rw [hu]; rfl)
  · rw [if_neg e, World.cell?_setCell_other _ _ _ _ (fun h => by injection h with _ h; omega)]

theorem infoColumn : (Tryz.prog.info? 65).map (fun i => (i.zero, i.size, i.bytes)) = some (some (.agg #[.bool false, .int .i64 0, .int .i64 0]), 3, 24) := by kernel_rfl
/-- the first m columns lie in block g -/
def ColRow (w : World) (g : Nat) (cs : List Co) (m : Nat) : Prop := ∀ i, i < m → w.cell? ⟨g, i * 3, none⟩ = some (.bool (cs.getD i (false, 0, 0)).1) ∧ w.cell? ⟨g, i * 3 + 1, none⟩ = some (.int .i64 (cs.getD i (false, 0, 0)).2.1) ∧ w.cell? ⟨g, i * 3 + 2, none⟩ = some (.int .i64 (cs.getD i (false, 0, 0)).2.2)
theorem ColRow.below {w w' : World} {B g m : Nat} {cs : List Co} (h : ColRow w g cs m) (hb : Below B w w') (hB : g < B) : ColRow w' g cs m := fun i hi =>
  ⟨(hb.cell (p := ⟨g, i * 3, none⟩) hB).trans (h i hi).1, (hb.cell (p := ⟨g, i * 3 + 1, none⟩) hB).trans (h i hi).2.1, (hb.cell (p := ⟨g, i * 3 + 2, none⟩) hB).trans (h i hi).2.2⟩
theorem ColRow.put {w : World} {g n m : Nat} {cs : List Co} (ho : OwnBlk w g n) (h : ColRow w g cs m) (hm : m * 3 + 2 < n) {L : Bool} {a b : Int} (hv : cs.getD m (false, 0, 0) = (L, a, b)) :
    ColRow (((w.setCell ⟨g, m * 3, none⟩ (.bool L)).setCell ⟨g, m * 3 + 1, none⟩ (.int .i64 a)).setCell ⟨g, m * 3 + 2, none⟩ (.int .i64 b)) g cs (m + 1) := by
  have o1 := ho.set (m * 3) (.bool L)
  have o2 := o1.set (m * 3 + 1) (.int .i64 a)
  have key : ∀ o', (((w.setCell ⟨g, m * 3, none⟩ (.bool L)).setCell ⟨g, m * 3 + 1, none⟩ (.int .i64 a)).setCell ⟨g, m * 3 + 2, none⟩ (.int .i64 b)).cell? ⟨g, o', none⟩ = if o' = m * 3 + 2 then some (.int .i64 b) else if o' = m * 3 + 1 then some (.int .i64 a) else if o' = m * 3 then some (.bool L) else w.cell? ⟨g, o', none⟩ := fun o' => by
    rw [set_at o2 hm, set_at o1 (by omega), set_at ho (by omega)]
  intro i hi
  rw [key, key, key]
  by_cases e : i = m
  · subst e
    rw [hv, if_neg (by omega), if_neg (by omega), if_pos rfl, if_neg (by omega), if_pos rfl, if_pos rfl]
    exact ⟨rfl, rfl, rfl⟩
  · rw [if_neg (by omega), if_neg (by omega), if_neg (by omega), if_neg (by omega), if_neg (by omega), if_neg (by omega), if_neg (by omega), if_neg (by omega), if_neg (by omega)]
    exact h i (by omega)

set_option maxRecDepth 100000 in
set_option maxHeartbeats 1000000 in
theorem toColumnS_any (A : Option Addr) (c : Nat) (cs : List Co) (w : World) (h : ColsAt w w.heap.size A c cs) (hn : cs.length ≤ 1048576) :
    Calls Tryz.prog 23 #[.slice A cs.length c] w fun e w' => e = .returned (.slice (some ⟨w.heap.size, 0, none⟩) cs.length cs.length) ∧ ColsAt w' w'.heap.size (some ⟨w.heap.size, 0, none⟩) cs.length cs ∧ Below w.heap.size w w' := by
  obtain ⟨hlc, hc, hrow⟩ := h
  obtain ⟨i0, hi, hz0, hz1, hz2⟩ := info_parts infoColumn
  have hmk := fun W => run_make (P := Tryz.prog) W 31 65 i0 _ Tryz.underlying31 hi hz0 .i64 .i64 cs.length cs.length (by omega) (by omega) (by rw [hz2]; omega) (by omega)
  simp only [Int.toNat_natCast, hz1] at hmk
  clear hi hz0 hz1 hz2
  go_enter Tryz.func23, Tryz.ntmps23
  go_wp2
  have hown0 := OwnBlk.made w #[.bool false, .int .i64 0, .int .i64 0] (cs.length * 3) 65
  have hb0 : Below w.heap.size w (w.alloc (.cells (madeCells #[Value.bool false, .int .i64 0, .int .i64 0] (cs.length * 3)) 65)) := (Below.refl _ _).alloc (Nat.le_refl _) _
  generalize w.alloc (.cells (madeCells #[Value.bool false, .int .i64 0, .int .i64 0] (cs.length * 3)) 65) = W0 at hown0 hb0 ⊢
  clear hmk
  go_loopw [4] (fun i wr => ∃ k : Nat, k ≤ cs.length ∧ i = .int .i64 k ∧ ColRow wr w.heap.size cs k ∧ OwnBlk wr w.heap.size (cs.length * 3) ∧ Below w.heap.size w wr) (fun i _ => cs.length - (intOf i).toNat)
  case atStart => exact ⟨0, Nat.zero_le _, rfl, fun i hi => absurd hi (by omega), hown0, hb0⟩
  case round =>
    obtain ⟨k, hk, rfl, hdone, hown, hb⟩ := hrel
    by_cases hlt : k < cs.length
    · rcases hrow with hz | ⟨b, off, rfl, hB, hrow⟩
      · omega
      · have hkl : (k : Int) < (cs.length : Int) := by omega
        obtain ⟨c1, c2, c3⟩ := hrow k hlt
        have d1 := (hb.cell (p := ⟨b, off + k * 3, none⟩) hB).trans c1
        have d2 := (hb.cell (p := ⟨b, off + k * 3 + 1, none⟩) hB).trans c2
        have d3 := (hb.cell (p := ⟨b, off + k * 3 + 2, none⟩) hB).trans c3
        obtain ⟨⟨L, x, y⟩, hv⟩ : ∃ v, cs.getD k (false, 0, 0) = v := ⟨_, rfl⟩
        rw [hv] at d1 d2 d3
        have HV := Lib.hid hv
        clear c1 c2 c3 hv
        go_wp2_with (go_at_call 41; refine (toColumn_any _ _ _ _).mono ?_; rintro e w1 ⟨rfl, hb1⟩; have hown1 := hown.below hb1 hown.2.2; obtain ⟨v0, g0⟩ := hown1.1 (k * 3) (by omega); obtain ⟨v1, g1⟩ := hown1.1 (k * 3 + 1) (by omega); obtain ⟨v2, g2⟩ := hown1.1 (k * 3 + 2) (by omega); have f0 := hown1.2.1 (k * 3); have f1 := hown1.2.1 (k * 3 + 1); have f2 := hown1.2.1 (k * 3 + 2))
        have hp0 := ColRow.put hown1 (hdone.below hb1 hown.2.2) (by omega) HV.out
        have hp1 := ((hown1.set (k * 3) (.bool L)).set (k * 3 + 1) (.int .i64 x)).set (k * 3 + 2) (.int .i64 y)
        have hp2 := (((hb.trans (hb1.mono hb.size)).setCell (p := ⟨w.heap.size, k * 3, none⟩) (Nat.le_refl _) (.bool L)).setCell (p := ⟨w.heap.size, k * 3 + 1, none⟩) (Nat.le_refl _) (.int .i64 x)).setCell (p := ⟨w.heap.size, k * 3 + 2, none⟩) (Nat.le_refl _) (.int .i64 y)
        go_roundw
        case rel => exact ⟨k + 1, hlt, by go_num, hp0, hp1, hp2⟩
        case measure => simp [intOf]; omega
    · obtain rfl : k = cs.length := by omega
      go_wp2
      go_ret
      refine ⟨rfl, ⟨Nat.le_refl _, by omega, .inr ⟨w.heap.size, 0, rfl, hown.2.2, fun i hi => ?_⟩⟩, hb⟩
      rw [Nat.zero_add]
      exact hdone i hi
end Go.Proofs.YtamfmemdhldmjaaGreatDoor

namespace Go.Proofs.YtamfmemdhldmjaaGreatDoor
open Go.RowKit Sets

theorem infoSlice : (Tryz.prog.info? 73).map (fun i => (i.zero, i.size, i.bytes)) = some (some (.slice none 0 0), 1, 24) := by kernel_rfl
/-- the first m sets lie in block g, each in a block of its own behind it -/
def SetRow (w : World) (g : Nat) (xss : List (List Sp)) (m : Nat) : Prop := ∀ i, i < m → ∃ b', g < b' ∧ b' < w.heap.size ∧ w.cell? ⟨g, i, none⟩ = some (.slice (some ⟨b', 0, none⟩) (xss.getD i []).length (xss.getD i []).length) ∧ RowAt w b' 0 (xss.getD i [])
theorem SetRow.step {w w' : World} {g m : Nat} {xss : List (List Sp)} (h : SetRow w g xss m) (hb : Below w.heap.size w w') (hg : g < w.heap.size) : SetRow w' g xss m := fun i hi => by
  obtain ⟨b', h1, h2, h3, h4⟩ := h i hi
  exact ⟨b', h1, Nat.lt_of_lt_of_le h2 hb.size, (hb.cell (p := ⟨g, i, none⟩) hg).trans h3, h4.below hb h2⟩
theorem SetRow.put {w : World} {g n m b' : Nat} {xss : List (List Sp)} (ho : OwnBlk w g n) (h : SetRow w g xss m) (hm : m < n) (h1 : g < b') (h2 : b' < w.heap.size) (h3 : RowAt w b' 0 (xss.getD m [])) :
    SetRow (w.setCell ⟨g, m, none⟩ (.slice (some ⟨b', 0, none⟩) (xss.getD m []).length (xss.getD m []).length)) g xss (m + 1) := fun i hi => by
  have hsz : (w.setCell ⟨g, m, none⟩ (.slice (some ⟨b', 0, none⟩) (xss.getD m []).length (xss.getD m []).length)).heap.size = w.heap.size := by simp [World.setCell]
  have hk : ∀ b'' o, g < b'' → (w.setCell ⟨g, m, none⟩ (.slice (some ⟨b', 0, none⟩) (xss.getD m []).length (xss.getD m []).length)).cell? ⟨b'', o, none⟩ = w.cell? ⟨b'', o, none⟩ := fun b'' o hb => World.cell?_setCell_other _ _ _ _ (fun h => by injection h with h _; omega)
  by_cases e : i = m
  · subst e
    exact ⟨b', h1, by rw [hsz]; exact h2, by rw [set_at ho hm, if_pos rfl], h3.keep fun o => hk b' o h1⟩
  · obtain ⟨b2, q1, q2, q3, q4⟩ := h i (by omega)
    exact ⟨b2, q1, by rw [hsz]; exact q2, by rw [set_at ho hm, if_neg e]; exact q3, q4.keep fun o => hk b2 o q1⟩

set_option maxRecDepth 100000 in
set_option maxHeartbeats 1000000 in
theorem toSpanSS_any (A : Option Addr) (c : Nat) (xss : List (List Sp)) (w : World) (h : SetsAt w w.heap.size A c xss) (hn : xss.length ≤ 1048576) (hm : ∀ i, i < xss.length → (xss.getD i []).length ≤ 1048576) :
    Calls Tryz.prog 62 #[.slice A xss.length c] w fun e w' => e = .returned (.slice (some ⟨w.heap.size, 0, none⟩) xss.length xss.length) ∧ w.heap.size < w'.heap.size ∧ SetsAt w' w'.heap.size (some ⟨w.heap.size, 0, none⟩) xss.length xss ∧ SetRow w' w.heap.size xss xss.length ∧ Below w.heap.size w w' := by
  have H := Lib.hid h
  have HM := Lib.hid hm
  obtain ⟨hlc, hc, hrow⟩ := h
  obtain ⟨i0, hi, hz0, hz1, hz2⟩ := info_parts infoSlice
  have hmk := fun W => run_make (P := Tryz.prog) W 68 73 i0 _ Tryz.underlying68 hi hz0 .i64 .i64 xss.length xss.length (by omega) (by omega) (by rw [hz2]; omega) (by omega)
  simp only [Int.toNat_natCast, hz1] at hmk
  clear hi hz0 hz1 hz2 hm
  go_enter Tryz.func62, Tryz.ntmps62
  go_wp2
  have hown0 := OwnBlk.made w #[.slice none 0 0] (xss.length * 1) 73
  have hb0 : Below w.heap.size w (w.alloc (.cells (madeCells #[Value.slice none 0 0] (xss.length * 1)) 73)) := (Below.refl _ _).alloc (Nat.le_refl _) _
  simp only [Nat.mul_one] at hown0 hb0
  try simp only [Nat.mul_one]
  generalize w.alloc (.cells (madeCells #[Value.slice none 0 0] xss.length) 73) = W0 at hown0 hb0 ⊢
  clear hmk
  go_loopw [4] (fun i wr => ∃ k : Nat, k ≤ xss.length ∧ i = .int .i64 k ∧ SetRow wr w.heap.size xss k ∧ OwnBlk wr w.heap.size xss.length ∧ Below w.heap.size w wr) (fun i _ => xss.length - (intOf i).toNat)
  case atStart => exact ⟨0, Nat.zero_le _, rfl, fun i hi => absurd hi (by omega), hown0, hb0⟩
  case round =>
    obtain ⟨k, hk, rfl, hdone, hown, hb⟩ := hrel
    by_cases hlt : k < xss.length
    · rcases hrow with hz | ⟨b, off, rfl, hB, hrow⟩
      · omega
      · have hkl : (k : Int) < (xss.length : Int) := by omega
        obtain ⟨A', c', q1, q2⟩ := hrow k hlt
        rw [Nat.mul_one] at q1
        have d1 := (hb.cell (p := ⟨b, off + k, none⟩) hB).trans q1
        have hr := (q2.below hb).mono hb.size
        have hl := HM.out k hlt
        have HR := Lib.hid hr
        have HDN := Lib.hid hdone
        have HBB := Lib.hid hb
        have HL := Lib.hid hl
        generalize hxs : xss.getD k [] = xs at d1 HR HL
        have HXS := Lib.hid hxs
        clear hxs q1 q2 hr hl hdone hrow
        go_wp2_with (go_at_call 76; refine (toSpanS_any _ _ xs _ HR.out HL.out).mono ?_; rintro e w1 ⟨rfl, r1, o1, hb1⟩; have R1 := Lib.hid r1; have O1 := Lib.hid o1; have hown1 := hown.below hb1 hown.2.2; obtain ⟨v0, g0⟩ := hown1.1 k (by omega); have f0 := hown1.2.1 k)
        have hp0 := SetRow.put (b' := wr.heap.size) hown1 (HDN.out.step hb1 hown.2.2) (by omega) hown.2.2 O1.out.2.2 (by rw [HXS.out]; exact R1.out)
        rw [HXS.out] at hp0
        have hp2 := (HBB.out.trans (hb1.mono HBB.out.size)).setCell (p := ⟨w.heap.size, k, none⟩) (Nat.le_refl _) (.slice (some ⟨wr.heap.size, 0, none⟩) xs.length xs.length)
        go_roundw
        case rel => exact ⟨k + 1, hlt, by go_num, hp0, hown1.set k _, hp2⟩
        case measure => simp [intOf]; omega
    · obtain rfl : k = xss.length := by omega
      go_wp2
      go_ret
      refine ⟨rfl, hown.2.2, ⟨Nat.le_refl _, by omega, .inr ⟨w.heap.size, 0, rfl, hown.2.2, fun i hi => ?_⟩⟩, hdone, hb⟩
      obtain ⟨b', h1, h2, h3, h4⟩ := hdone i hi
      rw [Nat.zero_add, Nat.mul_one]
      refine ⟨_, _, h3, Nat.le_refl _, by have := HM.out i hi; omega, ?_, .inr ⟨b', 0, rfl, h2, h4⟩⟩
      rcases H.out.2.2 with hz | ⟨_, _, _, _, hp⟩
      · omega
      · obtain ⟨_, _, _, hf⟩ := hp i hi
        exact hf.2.2.1
end Go.Proofs.YtamfmemdhldmjaaGreatDoor

namespace Go.Proofs.YtamfmemdhldmjaaGreatDoor
open Go.RowKit Sets

theorem three_blocks (w : World) (c1 c2 c3 : Array Value) (t1 t2 t3 : TypeId) (W : World) (hW : W = ((w.alloc (.cells c1 t1)).alloc (.cells c2 t2)).alloc (.cells c3 t3)) :
    (∀ o, W.cell? ⟨w.heap.size, o, none⟩ = c1[o]?) ∧ (∀ o, W.cell? ⟨w.heap.size + 1, o, none⟩ = c2[o]?) ∧ (∀ o, W.cell? ⟨w.heap.size + 2, o, none⟩ = c3[o]?) ∧
      (∀ o, W.frozen? ⟨w.heap.size + 1, o, none⟩ = false) ∧ (∀ o, W.frozen? ⟨w.heap.size + 2, o, none⟩ = false) ∧ Below w.heap.size w W ∧ W.heap.size = w.heap.size + 3 := by
  subst hW
  have b1 : Below (w.heap.size + 1) (w.alloc (.cells c1 t1)) (((w.alloc (.cells c1 t1)).alloc (.cells c2 t2)).alloc (.cells c3 t3)) := ((Below.refl _ _).alloc (by simp) _).alloc (by simp) _
  have b2 : Below (w.heap.size + 2) ((w.alloc (.cells c1 t1)).alloc (.cells c2 t2)) (((w.alloc (.cells c1 t1)).alloc (.cells c2 t2)).alloc (.cells c3 t3)) := (Below.refl _ _).alloc (by simp) _
  have z1 : (w.alloc (.cells c1 t1)).heap.size = w.heap.size + 1 := by simp
  have z2 : ((w.alloc (.cells c1 t1)).alloc (.cells c2 t2)).heap.size = w.heap.size + 2 := by simp
  refine ⟨fun o => ?_, fun o => ?_, fun o => ?_, fun o => ?_, fun o => ?_, ?_, by simp⟩
  · rw [b1.cell (p := ⟨w.heap.size, o, none⟩) (by simp), World.cell?_alloc_new]
  · rw [b2.cell (p := ⟨w.heap.size + 1, o, none⟩) (by simp), ← z1, World.cell?_alloc_new]
  · rw [← z2, World.cell?_alloc_new]
  · rw [b2.frozen (p := ⟨w.heap.size + 1, o, none⟩) (by simp)]; exact World.frozen?_alloc_at _ _ _ _ (by rw [z1])
  · exact World.frozen?_alloc_at _ _ _ _ (by rw [z2])
  · exact (((Below.refl _ _).alloc (Nat.le_refl _) _).alloc (by simp) _).alloc (by simp; omega) _
theorem set_two {w : World} {g : Nat} {v0 v1 : Value} (h0 : w.cell? ⟨g, 0, none⟩ = some v0) (h1 : w.cell? ⟨g, 1, none⟩ = some v1) (a b : Value) :
    ((w.setCell ⟨g, 0, none⟩ a).setCell ⟨g, 1, none⟩ b).cell? ⟨g, 0, none⟩ = some a ∧ ((w.setCell ⟨g, 0, none⟩ a).setCell ⟨g, 1, none⟩ b).cell? ⟨g, 1, none⟩ = some b := by
  refine ⟨?_, ?_⟩
  · rw [World.cell?_setCell_other _ _ _ _ (by simp)]
    exact World.cell?_setCell_same' _ _ _ (by rw [h0]; rfl)
  · exact World.cell?_setCell_same' _ _ _ (by rw [World.cell?_setCell_other _ _ _ _ (by simp), h1]; rfl)
theorem two_other {w : World} {g k o : Nat} (h : k ≠ g) (a b : Value) : ((w.setCell ⟨g, 0, none⟩ a).setCell ⟨g, 1, none⟩ b).cell? ⟨k, o, none⟩ = w.cell? ⟨k, o, none⟩ := by
  rw [World.cell?_setCell_other _ _ _ _ (fun e => by injection e with e _; omega), World.cell?_setCell_other _ _ _ _ (fun e => by injection e with e _; omega)]
theorem two_size (w : World) (g : Nat) (a b : Value) : ((w.setCell ⟨g, 0, none⟩ a).setCell ⟨g, 1, none⟩ b).heap.size = w.heap.size := by simp [World.setCell]
theorem two_below {B g : Nat} {a w : World} (h : Below B a w) (hg : B ≤ g) (v0 v1 : Value) : Below B a ((w.setCell ⟨g, 0, none⟩ v0).setCell ⟨g, 1, none⟩ v1) := (h.setCell hg v0).setCell hg v1
/-- what lies behind a block that is written lies as it lay -/
theorem SetRow.other {w w' : World} {b m : Nat} {xss : List (List Sp)} (h : SetRow w b xss m) (hs : w.heap.size ≤ w'.heap.size) (hc : ∀ k o, b ≤ k → w'.cell? ⟨k, o, none⟩ = w.cell? ⟨k, o, none⟩) : SetRow w' b xss m := fun i hi => by
  obtain ⟨b', h1, h2, h3, h4⟩ := h i hi
  exact ⟨b', h1, Nat.lt_of_lt_of_le h2 hs, (hc b i (Nat.le_refl _)).trans h3, h4.keep fun o => hc b' o (by omega)⟩

set_option maxRecDepth 100000 in
set_option maxHeartbeats 1000000 in
theorem toRule_any (A : Option Addr) (c : Nat) (xss : List (List Sp)) (x : Int) (w : World) (h : SetsAt w w.heap.size A c xss) (hn : xss.length ≤ 1048576) (hm : ∀ i, i < xss.length → (xss.getD i []).length ≤ 1048576) :
    Calls Tryz.prog 42 #[.agg #[.slice A xss.length c, .int .i64 x]] w fun e w' => ∃ b', e = .returned (.agg #[.slice (some ⟨b', 0, none⟩) xss.length xss.length, .int .i64 x]) ∧ w.heap.size ≤ b' ∧ b' < w'.heap.size ∧ SetRow w' b' xss xss.length ∧ Below w.heap.size w w' := by
  have H := Lib.hid h
  have HM := Lib.hid hm
  clear h hm
  go_enter Tryz.func42, Tryz.ntmps42
  obtain ⟨W, hW⟩ : ∃ W, W = ((w.alloc (.cells #[.slice A xss.length c, .int .i64 x] 60)).alloc (.cells #[.slice none 0 0, .int .i64 0] 70)).alloc (.cells #[.slice none 0 0, .int .i64 0] 70) := ⟨_, rfl⟩
  obtain ⟨x1, x2, x3, f2, f3, bW, zW⟩ := three_blocks w _ _ _ _ _ _ W hW
  go_wp2_with fail
  rw [← hW]
  clear hW
  refine (toSpanSS_any A c xss _ ((H.out.below bW).mono bW.size) hn HM.out).mono ?_
  rintro e w1 ⟨rfl, hz, _, hsr, b1⟩
  have q1 := (b1.cell (p := ⟨w.heap.size, 1, none⟩) (by simp only; omega)).trans (x1 1)
  have r0 := (b1.cell (p := ⟨w.heap.size + 1, 0, none⟩) (by simp only; omega)).trans (x2 0)
  have r1 := (b1.cell (p := ⟨w.heap.size + 1, 1, none⟩) (by simp only; omega)).trans (x2 1)
  have s0 := (b1.cell (p := ⟨w.heap.size + 2, 0, none⟩) (by simp only; omega)).trans (x3 0)
  have s1 := (b1.cell (p := ⟨w.heap.size + 2, 1, none⟩) (by simp only; omega)).trans (x3 1)
  have rf0 := (b1.frozen (p := ⟨w.heap.size + 1, 0, none⟩) (by simp only; omega)).trans (f2 0)
  have rf1 := (b1.frozen (p := ⟨w.heap.size + 1, 1, none⟩) (by simp only; omega)).trans (f2 1)
  have sf0 := (b1.frozen (p := ⟨w.heap.size + 2, 0, none⟩) (by simp only; omega)).trans (f3 0)
  have sf1 := (b1.frozen (p := ⟨w.heap.size + 2, 1, none⟩) (by simp only; omega)).trans (f3 1)
  simp at q1 r0 r1 s0 s1
  have B1 := Lib.hid (bW.trans (b1.mono bW.size))
  have ZW := Lib.hid (And.intro zW hz)
  have HSR := Lib.hid hsr
  obtain ⟨b', hb'⟩ : ∃ b', b' = W.heap.size := ⟨_, rfl⟩
  have HB' := Lib.hid hb'
  rw [← hb']
  clear x1 x2 x3 f2 f3 bW zW b1 hz hsr hb'
  go_wp2
  have u0 := (two_other (w := w1) (g := w.heap.size + 1 + 1) (k := w.heap.size + 1) (o := 0) (by omega) (.slice (some ⟨b', 0, none⟩) xss.length xss.length) (.int .i64 x)).trans r0
  have u1 := (two_other (w := w1) (g := w.heap.size + 1 + 1) (k := w.heap.size + 1) (o := 1) (by omega) (.slice (some ⟨b', 0, none⟩) xss.length xss.length) (.int .i64 x)).trans r1
  obtain ⟨k0, k1⟩ := set_two u0 u1 (.slice (some ⟨b', 0, none⟩) xss.length xss.length) (.int .i64 x)
  have zb := HB'.out
  have zz := ZW.out
  refine bodyPost_ret (v := .agg #[.slice (some ⟨b', 0, none⟩) xss.length xss.length, .int .i64 x]) (by simp [results, Tryz.results42, go_sem, k0, k1]) rfl ⟨b', rfl, by omega, ?_, ?_, two_below (two_below B1.out (by omega) _ _) (by omega) _ _⟩
  · rw [two_size, two_size]; omega
  · rw [zb]
    exact HSR.out.other (by rw [two_size, two_size]; exact Nat.le_refl _) fun k o hk => by rw [two_other (by omega), two_other (by omega)]
end Go.Proofs.YtamfmemdhldmjaaGreatDoor

namespace Go.Proofs.YtamfmemdhldmjaaGreatDoor
open Go.RowKit Sets

theorem infoRule : (Tryz.prog.info? 70).map (fun i => (i.zero, i.size, i.bytes)) = some (some (.agg #[.slice none 0 0, .int .i64 0]), 2, 32) := by kernel_rfl
/-- a copied list of sets reads as the list that it was copied from -/
theorem SetRow.sets {w w0 : World} {b B c0 : Nat} {A0 : Option Addr} {xss : List (List Sp)} (hs : SetRow w b xss xss.length) (hb : b < w.heap.size) (H : SetsAt w0 B A0 c0 xss) (hn : xss.length ≤ 1048576) (hm : ∀ i, i < xss.length → (xss.getD i []).length ≤ 1048576) :
    SetsAt w w.heap.size (some ⟨b, 0, none⟩) xss.length xss := by
  refine ⟨Nat.le_refl _, by omega, .inr ⟨b, 0, rfl, hb, fun i hi => ?_⟩⟩
  obtain ⟨b', h1, h2, h3, h4⟩ := hs i hi
  rw [Nat.zero_add, Nat.mul_one]
  refine ⟨_, _, h3, Nat.le_refl _, by have := hm i hi; omega, ?_, .inr ⟨b', 0, rfl, h2, h4⟩⟩
  rcases H.2.2 with hz | ⟨_, _, _, _, hp⟩
  · omega
  · obtain ⟨_, _, _, hf⟩ := hp i hi
    exact hf.2.2.1
theorem two_below' {B g : Nat} {a w : World} (h : Below B a w) (hg : B ≤ g) (o1 o2 : Nat) (v0 v1 : Value) : Below B a ((w.setCell ⟨g, o1, none⟩ v0).setCell ⟨g, o2, none⟩ v1) := (h.setCell hg v0).setCell hg v1
/-- the first m rules lie in block g, each with its sets behind it -/
def RuleRow (w : World) (g : Nat) (rs : List Rl) (m : Nat) : Prop :=
  ∀ i, i < m → (∃ b', g < b' ∧ b' < w.heap.size ∧ w.cell? ⟨g, i * 2, none⟩ = some (.slice (some ⟨b', 0, none⟩) (rs.getD i ([], 0)).1.length (rs.getD i ([], 0)).1.length) ∧ SetRow w b' (rs.getD i ([], 0)).1 (rs.getD i ([], 0)).1.length) ∧ w.cell? ⟨g, i * 2 + 1, none⟩ = some (.int .i64 (rs.getD i ([], 0)).2)
theorem RuleRow.step {w w' : World} {g m : Nat} {rs : List Rl} (h : RuleRow w g rs m) (hb : Below w.heap.size w w') (hg : g < w.heap.size) : RuleRow w' g rs m := fun i hi => by
  obtain ⟨⟨b', h1, h2, h3, h4⟩, h5⟩ := h i hi
  exact ⟨⟨b', h1, Nat.lt_of_lt_of_le h2 hb.size, (hb.cell (p := ⟨g, i * 2, none⟩) hg).trans h3, h4.step hb h2⟩, (hb.cell (p := ⟨g, i * 2 + 1, none⟩) hg).trans h5⟩
theorem RuleRow.put {w : World} {g n m b' : Nat} {rs : List Rl} (ho : OwnBlk w g n) (h : RuleRow w g rs m) (hm : m * 2 + 1 < n) {xss : List (List Sp)} {x : Int} (hv : rs.getD m ([], 0) = (xss, x)) (h1 : g < b') (h2 : b' < w.heap.size) (h3 : SetRow w b' xss xss.length) :
    RuleRow ((w.setCell ⟨g, m * 2, none⟩ (.slice (some ⟨b', 0, none⟩) xss.length xss.length)).setCell ⟨g, m * 2 + 1, none⟩ (.int .i64 x)) g rs (m + 1) := by
  have o1 := ho.set (m * 2) (.slice (some ⟨b', 0, none⟩) xss.length xss.length)
  have key : ∀ o', ((w.setCell ⟨g, m * 2, none⟩ (.slice (some ⟨b', 0, none⟩) xss.length xss.length)).setCell ⟨g, m * 2 + 1, none⟩ (.int .i64 x)).cell? ⟨g, o', none⟩ = if o' = m * 2 + 1 then some (.int .i64 x) else if o' = m * 2 then some (.slice (some ⟨b', 0, none⟩) xss.length xss.length) else w.cell? ⟨g, o', none⟩ := fun o' => by
    rw [set_at o1 hm, set_at ho (by omega)]
  have hsz : ((w.setCell ⟨g, m * 2, none⟩ (.slice (some ⟨b', 0, none⟩) xss.length xss.length)).setCell ⟨g, m * 2 + 1, none⟩ (.int .i64 x)).heap.size = w.heap.size := by simp [World.setCell]
  have hk : ∀ k o, g < k → ((w.setCell ⟨g, m * 2, none⟩ (.slice (some ⟨b', 0, none⟩) xss.length xss.length)).setCell ⟨g, m * 2 + 1, none⟩ (.int .i64 x)).cell? ⟨k, o, none⟩ = w.cell? ⟨k, o, none⟩ := fun k o hb => by
    rw [World.cell?_setCell_other _ _ _ _ (fun h => by injection h with h _; omega), World.cell?_setCell_other _ _ _ _ (fun h => by injection h with h _; omega)]
  intro i hi
  rw [key, key, hsz]
  by_cases e : i = m
  · subst e
    rw [hv, if_neg (by omega), if_pos rfl, if_pos rfl]
    exact ⟨⟨b', h1, h2, rfl, h3.other (Nat.le_of_eq hsz.symm) fun k o hk' => hk k o (by omega)⟩, rfl⟩
  · rw [if_neg (by omega), if_neg (by omega), if_neg (by omega), if_neg (by omega)]
    obtain ⟨⟨b2, q1, q2, q3, q4⟩, q5⟩ := h i (by omega)
    exact ⟨⟨b2, q1, q2, q3, q4.other (Nat.le_of_eq hsz.symm) fun k o hk' => hk k o (by omega)⟩, q5⟩
/-- a copied list of rules reads as the list that it was copied from -/
theorem RuleRow.rules {w w0 : World} {g B c0 : Nat} {A0 : Option Addr} {rs : List Rl} (hs : RuleRow w g rs rs.length) (hg : g < w.heap.size) (H : RulesAt w0 B A0 c0 rs) (hn : rs.length ≤ 1048576)
    (hm : ∀ i, i < rs.length → (rs.getD i ([], 0)).1.length ≤ 1048576 ∧ ∀ j, j < (rs.getD i ([], 0)).1.length → ((rs.getD i ([], 0)).1.getD j []).length ≤ 1048576) :
    RulesAt w w.heap.size (some ⟨g, 0, none⟩) rs.length rs := by
  refine ⟨Nat.le_refl _, by omega, .inr ⟨g, 0, rfl, hg, fun i hi => ?_⟩⟩
  obtain ⟨⟨b', h1, h2, h3, h4⟩, h5⟩ := hs i hi
  rw [Nat.zero_add]
  rcases H.2.2 with hz | ⟨_, _, _, _, hp⟩
  · omega
  · obtain ⟨⟨_, _, _, hf⟩, _⟩ := hp i hi
    exact ⟨⟨_, _, h3, h4.sets h2 hf (hm i hi).1 (hm i hi).2⟩, h5⟩

set_option maxRecDepth 100000 in
set_option maxHeartbeats 1000000 in
theorem toRuleS_any (A : Option Addr) (c : Nat) (rs : List Rl) (w : World) (h : RulesAt w w.heap.size A c rs) (hn : rs.length ≤ 1048576)
    (hm : ∀ i, i < rs.length → (rs.getD i ([], 0)).1.length ≤ 1048576 ∧ ∀ j, j < (rs.getD i ([], 0)).1.length → ((rs.getD i ([], 0)).1.getD j []).length ≤ 1048576) :
    Calls Tryz.prog 24 #[.slice A rs.length c] w fun e w' => e = .returned (.slice (some ⟨w.heap.size, 0, none⟩) rs.length rs.length) ∧ w.heap.size < w'.heap.size ∧ RulesAt w' w'.heap.size (some ⟨w.heap.size, 0, none⟩) rs.length rs ∧ RuleRow w' w.heap.size rs rs.length ∧ Below w.heap.size w w' := by
  have H := Lib.hid h
  have HM := Lib.hid hm
  obtain ⟨hlc, hc, hrow⟩ := h
  obtain ⟨i0, hi, hz0, hz1, hz2⟩ := info_parts infoRule
  have hmk := fun W => run_make (P := Tryz.prog) W 32 70 i0 _ Tryz.underlying32 hi hz0 .i64 .i64 rs.length rs.length (by omega) (by omega) (by rw [hz2]; omega) (by omega)
  simp only [Int.toNat_natCast, hz1] at hmk
  clear hi hz0 hz1 hz2 hm
  go_enter Tryz.func24, Tryz.ntmps24
  go_wp2
  have hown0 := OwnBlk.made w #[.slice none 0 0, .int .i64 0] (rs.length * 2) 70
  have hb0 : Below w.heap.size w (w.alloc (.cells (madeCells #[Value.slice none 0 0, .int .i64 0] (rs.length * 2)) 70)) := (Below.refl _ _).alloc (Nat.le_refl _) _
  generalize w.alloc (.cells (madeCells #[Value.slice none 0 0, .int .i64 0] (rs.length * 2)) 70) = W0 at hown0 hb0 ⊢
  clear hmk
  go_loopw [4] (fun i wr => ∃ k : Nat, k ≤ rs.length ∧ i = .int .i64 k ∧ RuleRow wr w.heap.size rs k ∧ OwnBlk wr w.heap.size (rs.length * 2) ∧ Below w.heap.size w wr) (fun i _ => rs.length - (intOf i).toNat)
  case atStart => exact ⟨0, Nat.zero_le _, rfl, fun i hi => absurd hi (by omega), hown0, hb0⟩
  case round =>
    obtain ⟨k, hk, rfl, hdone, hown, hb⟩ := hrel
    by_cases hlt : k < rs.length
    · rcases hrow with hz | ⟨b, off, rfl, hB, hrow⟩
      · omega
      · have hkl : (k : Int) < (rs.length : Int) := by omega
        obtain ⟨⟨A', c', q1, q2⟩, q3⟩ := hrow k hlt
        have d1 := (hb.cell (p := ⟨b, off + k * 2, none⟩) hB).trans q1
        have d2 := (hb.cell (p := ⟨b, off + k * 2 + 1, none⟩) hB).trans q3
        have hr := (q2.below hb).mono hb.size
        have hl := HM.out k hlt
        have HR := Lib.hid hr
        have HDN := Lib.hid hdone
        have HBB := Lib.hid hb
        have HL := Lib.hid hl
        obtain ⟨xss, x, hxs⟩ : ∃ xss x, rs.getD k ([], 0) = (xss, x) := ⟨_, _, rfl⟩
        rw [hxs] at d1 d2 HR HL
        have HXS := Lib.hid hxs
        simp only [] at d1 d2
        clear hxs q1 q2 q3 hr hl hdone hrow
        go_wp2_with (go_at_call 42; refine (toRule_any _ _ xss x _ HR.out HL.out.1 HL.out.2).mono ?_; rintro e w1 ⟨b', rfl, g1, g2, g3, hb1⟩; have G1 := Lib.hid g1; have G2 := Lib.hid g2; have G3 := Lib.hid g3; have hown1 := hown.below hb1 hown.2.2; obtain ⟨v0, g0⟩ := hown1.1 (k * 2) (by omega); obtain ⟨v1, g1'⟩ := hown1.1 (k * 2 + 1) (by omega); have f0 := hown1.2.1 (k * 2); have f1 := hown1.2.1 (k * 2 + 1))
        have hp0 := RuleRow.put (b' := b') hown1 (HDN.out.step hb1 hown.2.2) (by omega) HXS.out (by have := G1.out; have := hown.2.2; omega) G2.out G3.out
        have hp2 := two_below' (g := w.heap.size) (HBB.out.trans (hb1.mono HBB.out.size)) (Nat.le_refl _) (k * 2) (k * 2 + 1) (.slice (some ⟨b', 0, none⟩) xss.length xss.length) (.int .i64 x)
        go_roundw
        case rel => exact ⟨k + 1, hlt, by go_num, hp0, (hown1.set (k * 2) _).set (k * 2 + 1) _, hp2⟩
        case measure => simp [intOf]; omega
    · obtain rfl : k = rs.length := by omega
      go_wp2
      go_ret
      exact ⟨rfl, hown.2.2, hdone.rules hown.2.2 H.out hn HM.out, hdone, hb⟩
end Go.Proofs.YtamfmemdhldmjaaGreatDoor

namespace Go.Proofs.YtamfmemdhldmjaaGreatDoor
open Go.RowKit Sets

theorem set_three {w : World} {g : Nat} {v0 v1 v2 : Value} (h0 : w.cell? ⟨g, 0, none⟩ = some v0) (h1 : w.cell? ⟨g, 1, none⟩ = some v1) (h2 : w.cell? ⟨g, 2, none⟩ = some v2) (a b c : Value) :
    (((w.setCell ⟨g, 0, none⟩ a).setCell ⟨g, 1, none⟩ b).setCell ⟨g, 2, none⟩ c).cell? ⟨g, 0, none⟩ = some a ∧ (((w.setCell ⟨g, 0, none⟩ a).setCell ⟨g, 1, none⟩ b).setCell ⟨g, 2, none⟩ c).cell? ⟨g, 1, none⟩ = some b ∧ (((w.setCell ⟨g, 0, none⟩ a).setCell ⟨g, 1, none⟩ b).setCell ⟨g, 2, none⟩ c).cell? ⟨g, 2, none⟩ = some c := by
  obtain ⟨k0, k1⟩ := set_two h0 h1 a b
  refine ⟨?_, ?_, ?_⟩
  · rw [World.cell?_setCell_other _ _ _ _ (by simp)]; exact k0
  · rw [World.cell?_setCell_other _ _ _ _ (by simp)]; exact k1
  · exact World.cell?_setCell_same' _ _ _ (by rw [World.cell?_setCell_other _ _ _ _ (by simp), World.cell?_setCell_other _ _ _ _ (by simp), h2]; rfl)
theorem three_other {w : World} {g k o : Nat} (h : k ≠ g) (a b c : Value) : (((w.setCell ⟨g, 0, none⟩ a).setCell ⟨g, 1, none⟩ b).setCell ⟨g, 2, none⟩ c).cell? ⟨k, o, none⟩ = w.cell? ⟨k, o, none⟩ := by
  rw [World.cell?_setCell_other _ _ _ _ (fun e => by injection e with e _; omega), two_other h]
theorem three_below {B g : Nat} {a w : World} (h : Below B a w) (hg : B ≤ g) (v0 v1 v2 : Value) : Below B a (((w.setCell ⟨g, 0, none⟩ v0).setCell ⟨g, 1, none⟩ v1).setCell ⟨g, 2, none⟩ v2) := (two_below h hg v0 v1).setCell hg v2
theorem three_size (w : World) (g : Nat) (a b c : Value) : (((w.setCell ⟨g, 0, none⟩ a).setCell ⟨g, 1, none⟩ b).setCell ⟨g, 2, none⟩ c).heap.size = w.heap.size := by simp [World.setCell]
theorem two_frozen (w : World) (g : Nat) (a b : Value) (p : Addr) : ((w.setCell ⟨g, 0, none⟩ a).setCell ⟨g, 1, none⟩ b).frozen? p = w.frozen? p := by rw [World.frozen?_setCell, World.frozen?_setCell]
theorem two_third {w : World} {g : Nat} (a b : Value) : ((w.setCell ⟨g, 0, none⟩ a).setCell ⟨g, 1, none⟩ b).cell? ⟨g, 2, none⟩ = w.cell? ⟨g, 2, none⟩ := by
  rw [World.cell?_setCell_other _ _ _ _ (by simp), World.cell?_setCell_other _ _ _ _ (by simp)]
theorem ColsAt.other {w w' : World} {B B' g c : Nat} {cs : List Co} (h : ColsAt w B (some ⟨g, 0, none⟩) c cs) (hB : B ≤ B') (hc : ∀ o, w'.cell? ⟨g, o, none⟩ = w.cell? ⟨g, o, none⟩) : ColsAt w' B' (some ⟨g, 0, none⟩) c cs := by
  obtain ⟨h1, h2, h3⟩ := h
  refine ⟨h1, h2, h3.imp id ?_⟩
  rintro ⟨b, off, hA, hb, hp⟩
  injection hA with hA
  injection hA with e1 e2
  subst e1
  exact ⟨g, off, by rw [e2], Nat.lt_of_lt_of_le hb hB, fun i hi => ⟨(hc _).trans (hp i hi).1, (hc _).trans (hp i hi).2.1, (hc _).trans (hp i hi).2.2⟩⟩
theorem RuleRow.other {w w' : World} {g m : Nat} {rs : List Rl} (h : RuleRow w g rs m) (hs : w.heap.size ≤ w'.heap.size) (hc : ∀ k o, g ≤ k → w'.cell? ⟨k, o, none⟩ = w.cell? ⟨k, o, none⟩) : RuleRow w' g rs m := fun i hi => by
  obtain ⟨⟨b', h1, h2, h3, h4⟩, h5⟩ := h i hi
  exact ⟨⟨b', h1, Nat.lt_of_lt_of_le h2 hs, (hc g _ (Nat.le_refl _)).trans h3, h4.other hs fun k o hk => hc k o (by omega)⟩, (hc g _ (Nat.le_refl _)).trans h5⟩
/-- the bounds that the size check gives -/
def TbSmall (t : Tb) : Prop := t.cols.length ≤ 1048576 ∧ t.rules.length ≤ 1048576 ∧ ∀ i, i < t.rules.length → (t.rules.getD i ([], 0)).1.length ≤ 1048576 ∧ ∀ j, j < (t.rules.getD i ([], 0)).1.length → ((t.rules.getD i ([], 0)).1.getD j []).length ≤ 1048576

set_option maxRecDepth 100000 in
set_option maxHeartbeats 1000000 in
theorem toTable_any (v : Value) (t : Tb) (w : World) (h : TabAt w w.heap.size v t) (ht : TbSmall t) :
    Calls Tryz.prog 7 #[v] w fun e w' => ∃ v', e = .returned v' ∧ TabAt w' w'.heap.size v' t ∧ Below w.heap.size w w' := by
  obtain ⟨A1, c1, A2, c2, rfl, hC, hR⟩ := h
  have HC := Lib.hid hC
  have HR := Lib.hid hR
  have HT := Lib.hid ht
  clear hC hR ht
  obtain ⟨cs, x, rs⟩ := t
  simp only [] at HC HR HT ⊢
  go_enter Tryz.func7, Tryz.ntmps7
  obtain ⟨W, hW⟩ : ∃ W, W = ((w.alloc (.cells #[.slice A1 cs.length c1, .int .i64 x, .slice A2 rs.length c2] 25)).alloc (.cells #[.slice none 0 0, .int .i64 0, .slice none 0 0] 34)).alloc (.cells #[.slice none 0 0, .int .i64 0, .slice none 0 0] 34) := ⟨_, rfl⟩
  obtain ⟨x1, x2, x3, f2, f3, bW, zW⟩ := three_blocks w _ _ _ _ _ _ W hW
  go_wp2_with fail
  rw [← hW]
  clear hW
  refine (toColumnS_any A1 c1 cs _ ((HC.out.below bW).mono bW.size) HT.out.1).mono ?_
  rintro e w1 ⟨rfl, hcs, b1⟩
  have hsz1 := b1.size
  have q1 := (b1.cell (p := ⟨w.heap.size, 1, none⟩) (by simp only; omega)).trans (x1 1)
  have q2 := (b1.cell (p := ⟨w.heap.size, 2, none⟩) (by simp only; omega)).trans (x1 2)
  have r0 := (b1.cell (p := ⟨w.heap.size + 1, 0, none⟩) (by simp only; omega)).trans (x2 0)
  have r1 := (b1.cell (p := ⟨w.heap.size + 1, 1, none⟩) (by simp only; omega)).trans (x2 1)
  have r2 := (b1.cell (p := ⟨w.heap.size + 1, 2, none⟩) (by simp only; omega)).trans (x2 2)
  have s0 := (b1.cell (p := ⟨w.heap.size + 2, 0, none⟩) (by simp only; omega)).trans (x3 0)
  have s1 := (b1.cell (p := ⟨w.heap.size + 2, 1, none⟩) (by simp only; omega)).trans (x3 1)
  have s2 := (b1.cell (p := ⟨w.heap.size + 2, 2, none⟩) (by simp only; omega)).trans (x3 2)
  have rf := fun o => (b1.frozen (p := ⟨w.heap.size + 1, o, none⟩) (by simp only; omega)).trans (f2 o)
  have sf := fun o => (b1.frozen (p := ⟨w.heap.size + 2, o, none⟩) (by simp only; omega)).trans (f3 o)
  have sf0 := sf 0
  have sf1 := sf 1
  simp at q1 q2 r0 r1 r2 s0 s1 s2
  have B1 := Lib.hid (bW.trans (b1.mono bW.size))
  have ZW := Lib.hid (And.intro zW hsz1)
  have HCS := Lib.hid hcs
  have RF := Lib.hid rf
  have SF := Lib.hid sf
  obtain ⟨g1, hg1⟩ : ∃ g1, g1 = W.heap.size := ⟨_, rfl⟩
  have HG1 := Lib.hid hg1
  rw [← hg1] at HCS ⊢
  clear x1 x2 x3 f2 f3 bW zW b1 hsz1 hcs hg1 rf sf
  go_wp2_with fail
  obtain ⟨VC, hVC⟩ : ∃ VC : Value, VC = .slice (some ⟨g1, 0, none⟩) cs.length cs.length := ⟨_, rfl⟩
  rw [← hVC]
  have HVC := Lib.hid hVC
  clear hVC
  obtain ⟨t0, t1⟩ := set_two (w := w1) (g := w.heap.size + 1 + 1) s0 s1 VC (.int .i64 x)
  have t2 := (two_third (w := w1) (g := w.heap.size + 1 + 1) VC (.int .i64 x)).trans s2
  have u0 := (two_other (w := w1) (g := w.heap.size + 1 + 1) (k := w.heap.size + 1) (o := 0) (by omega) VC (.int .i64 x)).trans r0
  have u1 := (two_other (w := w1) (g := w.heap.size + 1 + 1) (k := w.heap.size + 1) (o := 1) (by omega) VC (.int .i64 x)).trans r1
  have u2 := (two_other (w := w1) (g := w.heap.size + 1 + 1) (k := w.heap.size + 1) (o := 2) (by omega) VC (.int .i64 x)).trans r2
  have fr := fun o => (two_frozen w1 (w.heap.size + 1 + 1) VC (.int .i64 x) ⟨w.heap.size + 1, o, none⟩).trans (RF.out o)
  have fs := fun o => (two_frozen w1 (w.heap.size + 1 + 1) VC (.int .i64 x) ⟨w.heap.size + 1 + 1, o, none⟩).trans (SF.out o)
  have B2 := two_below B1.out (show w.heap.size ≤ w.heap.size + 1 + 1 by omega) VC (.int .i64 x)
  have hz2 := two_size w1 (w.heap.size + 1 + 1) VC (.int .i64 x)
  have HC2 := HCS.out.other (Nat.le_of_eq hz2.symm) fun o => two_other (w := w1) (g := w.heap.size + 1 + 1) (o := o) (by have := HG1.out; have := ZW.out; omega) VC (.int .i64 x)
  generalize (w1.setCell ⟨w.heap.size + 1 + 1, 0, none⟩ VC).setCell ⟨w.heap.size + 1 + 1, 1, none⟩ (.int .i64 x) = W2 at t0 t1 t2 u0 u1 u2 fr fs B2 hz2 HC2 ⊢
  clear s0 s1 s2 r0 r1 r2 q1 q2 sf0 sf1
  refine (toRuleS_any A2 c2 rs _ ((HR.out.below B2).mono B2.size) HT.out.2.1 HT.out.2.2).mono ?_
  rintro e w2 ⟨rfl, hlt2, _, hrr, b2⟩
  have hlow : w.heap.size + 1 + 1 < W2.heap.size := by have := ZW.out; omega
  have v0 := (b2.cell (p := ⟨w.heap.size + 1, 0, none⟩) (by simp only; omega)).trans u0
  have v1 := (b2.cell (p := ⟨w.heap.size + 1, 1, none⟩) (by simp only; omega)).trans u1
  have v2 := (b2.cell (p := ⟨w.heap.size + 1, 2, none⟩) (by simp only; omega)).trans u2
  have y0 := (b2.cell (p := ⟨w.heap.size + 1 + 1, 0, none⟩) (by simp only; omega)).trans t0
  have y1 := (b2.cell (p := ⟨w.heap.size + 1 + 1, 1, none⟩) (by simp only; omega)).trans t1
  have y2 := (b2.cell (p := ⟨w.heap.size + 1 + 1, 2, none⟩) (by simp only; omega)).trans t2
  have vf0 := (b2.frozen (p := ⟨w.heap.size + 1, 0, none⟩) (by simp only; omega)).trans (fr 0)
  have vf1 := (b2.frozen (p := ⟨w.heap.size + 1, 1, none⟩) (by simp only; omega)).trans (fr 1)
  have vf2 := (b2.frozen (p := ⟨w.heap.size + 1, 2, none⟩) (by simp only; omega)).trans (fr 2)
  have yf2 := (b2.frozen (p := ⟨w.heap.size + 1 + 1, 2, none⟩) (by simp only; omega)).trans (fs 2)
  have HC3 := Lib.hid ((HC2.below b2).mono b2.size)
  have B3 := Lib.hid (B2.trans (b2.mono B2.size))
  have HRR := Lib.hid hrr
  have ZZ := Lib.hid (And.intro hlow hlt2)
  obtain ⟨g2, hg2⟩ : ∃ g2, g2 = W2.heap.size := ⟨_, rfl⟩
  have HG2 := Lib.hid hg2
  rw [← hg2] at HRR ⊢
  have hvc := HVC.out
  subst hvc
  clear hg2 hlow hlt2 hrr b2 B2 HC2 fr fs t0 t1 t2 u0 u1 u2 hz2
  go_wp2
  have yz0 : ∀ v, (w2.setCell ⟨w.heap.size + 1 + 1, 2, none⟩ v).cell? ⟨w.heap.size + 1, 0, none⟩ = some (.slice none 0 0) := fun v => (World.cell?_setCell_other _ _ _ _ (fun e => by injection e with e _; omega)).trans v0
  have yz1 : ∀ v, (w2.setCell ⟨w.heap.size + 1 + 1, 2, none⟩ v).cell? ⟨w.heap.size + 1, 1, none⟩ = some (.int .i64 0) := fun v => (World.cell?_setCell_other _ _ _ _ (fun e => by injection e with e _; omega)).trans v1
  have yz2 : ∀ v, (w2.setCell ⟨w.heap.size + 1 + 1, 2, none⟩ v).cell? ⟨w.heap.size + 1, 2, none⟩ = some (.slice none 0 0) := fun v => (World.cell?_setCell_other _ _ _ _ (fun e => by injection e with e _; omega)).trans v2
  have hoth : ∀ v k o, w.heap.size + 3 ≤ k → (w2.setCell ⟨w.heap.size + 1 + 1, 2, none⟩ v).cell? ⟨k, o, none⟩ = w2.cell? ⟨k, o, none⟩ := fun v k o hk => World.cell?_setCell_other _ _ _ _ (fun e => by injection e with e _; omega)
  have hszv : ∀ v, (w2.setCell ⟨w.heap.size + 1 + 1, 2, none⟩ v).heap.size = w2.heap.size := fun v => by simp [World.setCell]
  have hbv : ∀ v, Below w.heap.size w (w2.setCell ⟨w.heap.size + 1 + 1, 2, none⟩ v) := fun v => B3.out.setCell (by simp only; omega) v
  obtain ⟨k0, k1, k2⟩ := set_three (yz0 (.slice (some ⟨g2, 0, none⟩) rs.length rs.length)) (yz1 _) (yz2 _) (.slice (some ⟨g1, 0, none⟩) cs.length cs.length) (.int .i64 x) (.slice (some ⟨g2, 0, none⟩) rs.length rs.length)
  have e1 := HG1.out
  have e2 := HG2.out
  have e3 := ZW.out
  have e4 := ZZ.out
  have hle : W2.heap.size ≤ w2.heap.size := by omega
  refine bodyPost_ret (v := .agg #[.slice (some ⟨g1, 0, none⟩) cs.length cs.length, .int .i64 x, .slice (some ⟨g2, 0, none⟩) rs.length rs.length]) (by simp [results, Tryz.results7, go_sem, k0, k1, k2]) rfl ⟨_, rfl, ⟨_, _, _, _, rfl, ?_, ?_⟩, ?_⟩
  · refine HC3.out.other (by rw [three_size, hszv]; exact Nat.le_refl _) fun o => ?_
    rw [three_other (by omega), hoth _ _ _ (by omega)]
  · rw [three_size, hszv]
    have hq := (HRR.out.other (w' := (((w2.setCell ⟨w.heap.size + 1 + 1, 2, none⟩ (.slice (some ⟨g2, 0, none⟩) rs.length rs.length)).setCell ⟨w.heap.size + 1, 0, none⟩ (.slice (some ⟨g1, 0, none⟩) cs.length cs.length)).setCell ⟨w.heap.size + 1, 1, none⟩ (.int .i64 x)).setCell ⟨w.heap.size + 1, 2, none⟩ (.slice (some ⟨g2, 0, none⟩) rs.length rs.length)) (by rw [three_size, hszv]; exact Nat.le_refl _) fun k o hk => by
      rw [three_other (by omega), hoth _ _ _ (by omega)]).rules (by rw [three_size, hszv]; omega) HR.out HT.out.2.1 HT.out.2.2
    rw [three_size, hszv] at hq
    exact hq
  · exact three_below (hbv _) (by omega) _ _ _
end Go.Proofs.YtamfmemdhldmjaaGreatDoor

namespace Go.Proofs.YtamfmemdhldmjaaGreatDoor
open Go.RowKit Sets

/-- A slice of numbers at its place. -/
def IntsAt (w : World) (B : Nat) (A : Option Addr) (c : Nat) (ns : List Int) : Prop :=
  (∀ x ∈ ns, I64 x) ∧ ElemsAt B A c ns.length 1 fun i b o => w.cell? ⟨b, o, none⟩ = some (.int .i64 (ns.getD i 0))
theorem IntsAt.below {w w' : World} {B : Nat} {A : Option Addr} {c : Nat} {ns : List Int} (h : IntsAt w B A c ns) (hb : Below B w w') : IntsAt w' B A c ns :=
  ⟨h.1, h.2.imp fun _ b o _ hB h1 => (hb.cell (p := ⟨b, o, none⟩) hB).trans h1⟩
theorem IntsAt.mono {w : World} {B B' : Nat} {A : Option Addr} {c : Nat} {ns : List Int} (h : IntsAt w B A c ns) (hb : B ≤ B') : IntsAt w B' A c ns := ⟨h.1, ElemsAt.mono h.2 hb⟩
theorem IntsAt.step {w w' : World} {A : Option Addr} {c : Nat} {ns : List Int} (h : IntsAt w w.heap.size A c ns) (hb : Below w.heap.size w w') : IntsAt w' w'.heap.size A c ns := (h.below hb).mono hb.size
/-- The first m numbers lie in block g. -/
def IntRow (w : World) (g : Nat) (ns : List Int) (m : Nat) : Prop := ∀ i, i < m → w.cell? ⟨g, i, none⟩ = some (.int .i64 (ns.getD i 0))
theorem IntRow.below {w w' : World} {B g m : Nat} {ns : List Int} (h : IntRow w g ns m) (hb : Below B w w') (hB : g < B) : IntRow w' g ns m := fun i hi =>
  (hb.cell (p := ⟨g, i, none⟩) hB).trans (h i hi)
theorem IntRow.put {w : World} {g n m : Nat} {ns : List Int} (ho : OwnBlk w g n) (h : IntRow w g ns m) (hm : m < n) {x : Int} (hv : ns.getD m 0 = x) :
    IntRow (w.setCell ⟨g, m, none⟩ (.int .i64 x)) g ns (m + 1) := by
  intro i hi
  rw [set_at ho hm]
  by_cases e : i = m
  · subst e
    rw [if_pos rfl, hv]
  · rw [if_neg e]
    exact h i (by omega)
theorem IntRow.ints {w : World} {g c : Nat} {ns : List Int} (h : IntRow w g ns ns.length) (hg : g < w.heap.size) (hf : ∀ x ∈ ns, I64 x) (hc : ns.length ≤ c) (hn : c ≤ 9223372036854775807) : IntsAt w w.heap.size (some ⟨g, 0, none⟩) c ns :=
  ⟨hf, hc, hn, .inr ⟨g, 0, rfl, hg, fun i hi => by rw [Nat.zero_add, Nat.mul_one]; exact h i hi⟩⟩
theorem IntsAt.fit {w : World} {B : Nat} {A : Option Addr} {c : Nat} {ns : List Int} (h : IntsAt w B A c ns) {i : Nat} (hi : i < ns.length) : I64 (ns.getD i 0) := by
  rw [List.getD_eq_getElem?_getD, List.getElem?_eq_getElem hi]
  exact h.1 _ (List.getElem_mem hi)

/-- A block that holds the three cells of a table. -/
def TBox (w : World) (g : Nat) (A1 : Option Addr) (n1 c1 : Nat) (x : Int) (A2 : Option Addr) (n2 c2 : Nat) : Prop :=
  w.cell? ⟨g, 0, none⟩ = some (.slice A1 n1 c1) ∧ w.cell? ⟨g, 1, none⟩ = some (.int .i64 x) ∧ w.cell? ⟨g, 2, none⟩ = some (.slice A2 n2 c2) ∧ g < w.heap.size
theorem TBox.made (w : World) (A1 : Option Addr) (n1 c1 : Nat) (x : Int) (A2 : Option Addr) (n2 c2 : Nat) (t : TypeId) : TBox (w.alloc (.cells #[.slice A1 n1 c1, .int .i64 x, .slice A2 n2 c2] t)) w.heap.size A1 n1 c1 x A2 n2 c2 := by
  refine ⟨?_, ?_, ?_, by simp⟩ <;> (rw [World.cell?_alloc_new]; rfl)
theorem TBox.step {w w' : World} {g : Nat} {A1 : Option Addr} {n1 c1 : Nat} {x : Int} {A2 : Option Addr} {n2 c2 : Nat} (h : TBox w g A1 n1 c1 x A2 n2 c2) (hb : Below w.heap.size w w') : TBox w' g A1 n1 c1 x A2 n2 c2 :=
  ⟨(hb.cell (p := ⟨g, 0, none⟩) h.2.2.2).trans h.1, (hb.cell (p := ⟨g, 1, none⟩) h.2.2.2).trans h.2.1, (hb.cell (p := ⟨g, 2, none⟩) h.2.2.2).trans h.2.2.1, Nat.lt_of_lt_of_le h.2.2.2 hb.size⟩

theorem infoInt : (Tryz.prog.info? 3).map (fun i => (i.zero, i.size, i.bytes)) = some (some (.int .i64 0), 1, 8) := by kernel_rfl

set_option maxRecDepth 100000 in
set_option maxHeartbeats 1000000 in
theorem toIntS_any (A : Option Addr) (c : Nat) (ns : List Int) (w : World) (h : IntsAt w w.heap.size A c ns) (hn : ns.length ≤ 1048576) :
    Calls Tryz.prog 8 #[.slice A ns.length c] w fun e w' => e = .returned (.slice (some ⟨w.heap.size, 0, none⟩) ns.length ns.length) ∧ IntRow w' w.heap.size ns ns.length ∧ OwnBlk w' w.heap.size ns.length ∧ Below w.heap.size w w' := by
  obtain ⟨hfit, hlc, hc, hrow⟩ := h
  obtain ⟨i0, hi, hz0, hz1, hz2⟩ := info_parts infoInt
  have hmk := fun W => run_make (P := Tryz.prog) W 26 3 i0 _ Tryz.underlying26 hi hz0 .i64 .i64 ns.length ns.length (by omega) (by omega) (by rw [hz2]; omega) (by omega)
  simp only [Int.toNat_natCast, hz1, Nat.mul_one] at hmk
  clear hi hz0 hz1 hz2 hfit
  go_enter Tryz.func8, Tryz.ntmps8
  go_wp2
  have hown0 := OwnBlk.made w #[.int .i64 0] ns.length 3
  have hb0 : Below w.heap.size w (w.alloc (.cells (madeCells #[Value.int .i64 0] ns.length) 3)) := (Below.refl _ _).alloc (Nat.le_refl _) _
  generalize w.alloc (.cells (madeCells #[Value.int .i64 0] ns.length) 3) = W0 at hown0 hb0 ⊢
  clear hmk
  go_loopw [4] (fun i wr => ∃ k : Nat, k ≤ ns.length ∧ i = .int .i64 k ∧ IntRow wr w.heap.size ns k ∧ OwnBlk wr w.heap.size ns.length ∧ Below w.heap.size w wr) (fun i _ => ns.length - (intOf i).toNat)
  case atStart => exact ⟨0, Nat.zero_le _, rfl, fun i hi => absurd hi (by omega), hown0, hb0⟩
  case round =>
    obtain ⟨k, hk, rfl, hdone, hown, hb⟩ := hrel
    by_cases hlt : k < ns.length
    · rcases hrow with hz | ⟨b, off, rfl, hB, hrow⟩
      · omega
      · have hkl : (k : Int) < (ns.length : Int) := by omega
        have c1 := hrow k hlt
        rw [Nat.mul_one] at c1
        have d1 := (hb.cell (p := ⟨b, off + k, none⟩) hB).trans c1
        obtain ⟨x, hv⟩ : ∃ v, ns.getD k 0 = v := ⟨_, rfl⟩
        rw [hv] at d1
        have HV := Lib.hid hv
        obtain ⟨v0, g0⟩ := hown.1 k hlt
        have f0 := hown.2.1 k
        clear c1 hv hrow
        go_wp2
        have hp0 := IntRow.put hown hdone hlt HV.out
        have hp1 := hown.set k (.int .i64 x)
        have hp2 := hb.setCell (p := ⟨w.heap.size, k, none⟩) (Nat.le_refl _) (.int .i64 x)
        go_roundw
        case rel => exact ⟨k + 1, hlt, by go_num, hp0, hp1, hp2⟩
        case measure => simp [intOf]; omega
    · obtain rfl : k = ns.length := by omega
      go_wp2
      go_ret
      exact ⟨rfl, hdone, hown, hb⟩

set_option maxRecDepth 100000 in
set_option maxHeartbeats 1000000 in
/-- two slices that read as the same numbers are equal -/
theorem eqIntS_same (A1 A2 : Option Addr) (c1 c2 : Nat) (ns : List Int) (w : World) (h1 : IntsAt w w.heap.size A1 c1 ns) (h2 : IntsAt w w.heap.size A2 c2 ns) :
    Calls Tryz.prog 12 #[.slice A1 ns.length c1, .slice A2 ns.length c2] w fun e w' => e = .returned (.bool true) ∧ Below w.heap.size w w' := by
  obtain ⟨hf1, hlc, hc, hrow⟩ := h1
  obtain ⟨hf2, hlc2, hcc2, hrow2⟩ := h2
  clear hf1 hf2
  have hne : ((ns.length : Int) != (ns.length : Int)) = false := by simp
  go_enter Tryz.func12, Tryz.ntmps12
  go_wp2
  go_loopw [5] (fun i wr => ∃ k : Nat, k ≤ ns.length ∧ i = .int .i64 k ∧ Below w.heap.size w wr) (fun i _ => ns.length - (intOf i).toNat)
  case atStart => exact ⟨0, Nat.zero_le _, rfl, Below.refl _ _⟩
  case round =>
    obtain ⟨k, hk, rfl, hb⟩ := hrel
    by_cases hlt : k < ns.length
    · rcases hrow with hz | ⟨b, off, rfl, hB, hrow⟩
      · omega
      · rcases hrow2 with hz | ⟨b2, off2, rfl, hB2, hrow2⟩
        · omega
        · have hkl : (k : Int) < (ns.length : Int) := by omega
          have u1 := hrow k hlt
          have v1 := hrow2 k hlt
          rw [Nat.mul_one] at u1 v1
          have d1 := (hb.cell (p := ⟨b, off + k, none⟩) hB).trans u1
          have e1 := (hb.cell (p := ⟨b2, off2 + k, none⟩) hB2).trans v1
          obtain ⟨x, hv⟩ : ∃ v, ns.getD k 0 = v := ⟨_, rfl⟩
          rw [hv] at d1 e1
          have hxx : (x != x) = false := by simp
          clear u1 v1 hv hrow hrow2
          have HB := Lib.hid hb
          clear hb
          go_wp2
          go_quiet (fail)
          go_wp2
          go_roundw
          case rel => exact ⟨k + 1, hlt, by go_num, below_drewN HB.out _⟩
          case measure => simp [intOf]; omega
    · obtain rfl : k = ns.length := by omega
      go_wp2
      go_ret
      exact ⟨rfl, hb⟩
end Go.Proofs.YtamfmemdhldmjaaGreatDoor
