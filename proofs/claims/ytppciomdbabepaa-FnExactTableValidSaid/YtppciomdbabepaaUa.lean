/-
  Tables in memory: what a value reads as.
-/
import Derived.Test.YtppciomdbabepaaGn
import Derived.Test.YtppciomdbabepaaCl
namespace Go.Proofs.Ytppciomdbabepaa
open Go.RowKit Sets

abbrev Co := Bool × Int × Int
abbrev Rl := List (List Sp) × Int
structure Tb where
  cols : List Co
  pol : Int
  rules : List Rl

/-- A slice of n elements of k cells each, each of which is as P says, at its place. -/
def ElemsAt (B : Nat) (A : Option Addr) (c n k : Nat) (P : Nat → Nat → Nat → Prop) : Prop :=
  n ≤ c ∧ c ≤ 9223372036854775807 ∧ (n = 0 ∨ ∃ b off, A = some ⟨b, off, none⟩ ∧ b < B ∧ ∀ i, i < n → P i b (off + i * k))
theorem ElemsAt.imp {B : Nat} {A : Option Addr} {c n k : Nat} {P Q : Nat → Nat → Nat → Prop} (h : ElemsAt B A c n k P) (hpq : ∀ i b o, i < n → b < B → P i b o → Q i b o) : ElemsAt B A c n k Q := by
  obtain ⟨h1, h2, h3⟩ := h
  refine ⟨h1, h2, h3.imp id ?_⟩
  rintro ⟨b, off, hA, hb, hp⟩
  exact ⟨b, off, hA, hb, fun i hi => hpq i b _ hi hb (hp i hi)⟩
theorem ElemsAt.mono {B B' : Nat} {A : Option Addr} {c n k : Nat} {P : Nat → Nat → Nat → Prop} (h : ElemsAt B A c n k P) (hb : B ≤ B') : ElemsAt B' A c n k P := by
  obtain ⟨h1, h2, h3⟩ := h
  refine ⟨h1, h2, h3.imp id ?_⟩
  rintro ⟨b, off, hA, hb2, hp⟩
  exact ⟨b, off, hA, by omega, hp⟩

def ColsAt (w : World) (B : Nat) (A : Option Addr) (c : Nat) (cs : List Co) : Prop :=
  ElemsAt B A c cs.length 3 fun i b o => w.cell? ⟨b, o, none⟩ = some (.bool (cs.getD i (false, 0, 0)).1) ∧ w.cell? ⟨b, o + 1, none⟩ = some (.int .i64 (cs.getD i (false, 0, 0)).2.1) ∧ w.cell? ⟨b, o + 2, none⟩ = some (.int .i64 (cs.getD i (false, 0, 0)).2.2)
def SetsAt (w : World) (B : Nat) (A : Option Addr) (c : Nat) (xss : List (List Sp)) : Prop :=
  ElemsAt B A c xss.length 1 fun i b o => ∃ A' c', w.cell? ⟨b, o, none⟩ = some (.slice A' (xss.getD i []).length c') ∧ Reads w B A' c' (xss.getD i [])
def RulesAt (w : World) (B : Nat) (A : Option Addr) (c : Nat) (rs : List Rl) : Prop :=
  ElemsAt B A c rs.length 2 fun i b o => (∃ A' c', w.cell? ⟨b, o, none⟩ = some (.slice A' (rs.getD i ([], 0)).1.length c') ∧ SetsAt w B A' c' (rs.getD i ([], 0)).1) ∧ w.cell? ⟨b, o + 1, none⟩ = some (.int .i64 (rs.getD i ([], 0)).2)
/-- A value that is a table. -/
def TabAt (w : World) (B : Nat) (v : Value) (t : Tb) : Prop :=
  ∃ A1 c1 A2 c2, v = .agg #[.slice A1 t.cols.length c1, .int .i64 t.pol, .slice A2 t.rules.length c2] ∧ ColsAt w B A1 c1 t.cols ∧ RulesAt w B A2 c2 t.rules

theorem ColsAt.below {w w' : World} {B : Nat} {A : Option Addr} {c : Nat} {cs : List Co} (h : ColsAt w B A c cs) (hb : Below B w w') : ColsAt w' B A c cs :=
  h.imp fun _ b o _ hB ⟨h1, h2, h3⟩ => ⟨(hb.cell (p := ⟨b, o, none⟩) hB).trans h1, (hb.cell (p := ⟨b, o + 1, none⟩) hB).trans h2, (hb.cell (p := ⟨b, o + 2, none⟩) hB).trans h3⟩
theorem SetsAt.below {w w' : World} {B : Nat} {A : Option Addr} {c : Nat} {xss : List (List Sp)} (h : SetsAt w B A c xss) (hb : Below B w w') : SetsAt w' B A c xss :=
  h.imp fun _ b o _ hB ⟨A', c', h1, h2⟩ => ⟨A', c', (hb.cell (p := ⟨b, o, none⟩) hB).trans h1, h2.below hb⟩
theorem RulesAt.below {w w' : World} {B : Nat} {A : Option Addr} {c : Nat} {rs : List Rl} (h : RulesAt w B A c rs) (hb : Below B w w') : RulesAt w' B A c rs :=
  h.imp fun _ b o _ hB ⟨⟨A', c', h1, h2⟩, h3⟩ => ⟨⟨A', c', (hb.cell (p := ⟨b, o, none⟩) hB).trans h1, h2.below hb⟩, (hb.cell (p := ⟨b, o + 1, none⟩) hB).trans h3⟩
theorem TabAt.below {w w' : World} {B : Nat} {v : Value} {t : Tb} (h : TabAt w B v t) (hb : Below B w w') : TabAt w' B v t := by
  obtain ⟨A1, c1, A2, c2, hv, h1, h2⟩ := h
  exact ⟨A1, c1, A2, c2, hv, h1.below hb, h2.below hb⟩
theorem ColsAt.mono {w : World} {B B' : Nat} {A : Option Addr} {c : Nat} {cs : List Co} (h : ColsAt w B A c cs) (hb : B ≤ B') : ColsAt w B' A c cs := ElemsAt.mono h hb
theorem SetsAt.mono {w : World} {B B' : Nat} {A : Option Addr} {c : Nat} {xss : List (List Sp)} (h : SetsAt w B A c xss) (hb : B ≤ B') : SetsAt w B' A c xss :=
  ElemsAt.mono (ElemsAt.imp h fun _ _ _ _ _ ⟨A', c', h1, h2⟩ => ⟨A', c', h1, h2.mono hb⟩) hb
theorem RulesAt.mono {w : World} {B B' : Nat} {A : Option Addr} {c : Nat} {rs : List Rl} (h : RulesAt w B A c rs) (hb : B ≤ B') : RulesAt w B' A c rs :=
  ElemsAt.mono (ElemsAt.imp h fun _ _ _ _ _ ⟨⟨A', c', h1, h2⟩, h3⟩ => ⟨⟨A', c', h1, h2.mono hb⟩, h3⟩) hb
theorem TabAt.mono {w : World} {B B' : Nat} {v : Value} {t : Tb} (h : TabAt w B v t) (hb : B ≤ B') : TabAt w B' v t := by
  obtain ⟨A1, c1, A2, c2, hv, h1, h2⟩ := h
  exact ⟨A1, c1, A2, c2, hv, h1.mono hb, h2.mono hb⟩
/-- A table reads on through whatever only adds. -/
theorem TabAt.step {w w' : World} {v : Value} {t : Tb} (h : TabAt w w.heap.size v t) (hb : Below w.heap.size w w') : TabAt w' w'.heap.size v t := (h.below hb).mono hb.size
end Go.Proofs.Ytppciomdbabepaa
