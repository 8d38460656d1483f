/-
  What a value holds, with the blocks that it holds it in: steps, and parts that are apart.
-/
import Derived.Test.YtamfmemdhldmjaaGreatDoorWaM
import Derived.Test.YtamfmemdhldmjaaGreatDoorMk
namespace Go.Proofs.YtamfmemdhldmjaaGreatDoor
open Go.RowKit Sets

/-- the blocks from lo on and below hi -/
def zone (lo hi : Nat) : Nat → Prop := fun k => lo ≤ k ∧ k < hi
/-- the blocks in S that were there are as they were -/
structure KeepS (S : Nat → Prop) (w w' : World) : Prop where
  size : w.heap.size ≤ w'.heap.size
  block : ∀ k, S k → k < w.heap.size → w'.heap[k]? = w.heap[k]?
/-- what was there outside of S is as it was -/
structure OnlyS (S : Nat → Prop) (w w' : World) : Prop where
  os : w'.os = w.os
  tape : w'.tape = w.tape
  output : w'.output = w.output
  size : w.heap.size ≤ w'.heap.size
  block : ∀ k, ¬ S k → k < w.heap.size → w'.heap[k]? = w.heap[k]?
theorem OnlyS.refl (S : Nat → Prop) (w : World) : OnlyS S w w := ⟨rfl, rfl, rfl, Nat.le_refl _, fun _ _ _ => rfl⟩
theorem OnlyS.trans {S : Nat → Prop} {a b c : World} (h : OnlyS S a b) (k : OnlyS S b c) : OnlyS S a c :=
  ⟨k.os.trans h.os, k.tape.trans h.tape, k.output.trans h.output, Nat.le_trans h.size k.size, fun i hi hs => (k.block i hi (Nat.lt_of_lt_of_le hs h.size)).trans (h.block i hi hs)⟩
theorem OnlyS.imp {S T : Nat → Prop} {a b : World} (h : OnlyS S a b) (hst : ∀ k, S k → T k) : OnlyS T a b := ⟨h.os, h.tape, h.output, h.size, fun k hk hs => h.block k (fun e => hk (hst k e)) hs⟩
theorem OnlyS.below {S : Nat → Prop} {a b : World} {B : Nat} (h : OnlyS S a b) (hB : B ≤ a.heap.size) (hS : ∀ k, S k → B ≤ k) : Below B a b :=
  ⟨h.os, h.tape, h.output, h.size, fun k hk => h.block k (fun e => by have := hS k e; omega) (by omega)⟩
theorem OnlyS.of_below {a b : World} (h : Below a.heap.size a b) (S : Nat → Prop) : OnlyS S a b := ⟨h.os, h.tape, h.output, h.size, fun k _ hs => h.block k hs⟩
theorem OnlyS.set {S : Nat → Prop} {a b : World} (h : OnlyS S a b) {g : Nat} (hg : S g) (o : Nat) (v : Value) : OnlyS S a (b.setCell ⟨g, o, none⟩ v) :=
  ⟨h.os, h.tape, h.output, by simpa [World.setCell] using h.size, fun k hk hs => by
    rw [Below.heap_setCell _ _ _ _ (fun e => hk (by rw [e]; exact hg))]; exact h.block k hk hs⟩
theorem OnlyS.keep {S T : Nat → Prop} {a b : World} (h : OnlyS S a b) (hd : ∀ k, T k → ¬ S k) : KeepS T a b := ⟨h.size, fun k hk hs => h.block k (hd k hk) hs⟩
theorem KeepS.of_below {a b : World} (h : Below a.heap.size a b) (S : Nat → Prop) : KeepS S a b := ⟨h.size, fun k _ hs => h.block k hs⟩
theorem KeepS.imp {S T : Nat → Prop} {a b : World} (h : KeepS S a b) (hst : ∀ k, T k → S k) : KeepS T a b := ⟨h.size, fun k hk hs => h.block k (hst k hk) hs⟩
theorem KeepS.trans {S : Nat → Prop} {a b c : World} (h : KeepS S a b) (k : KeepS S b c) : KeepS S a c := ⟨Nat.le_trans h.size k.size, fun i hi hs => (k.block i hi (Nat.lt_of_lt_of_le hs h.size)).trans (h.block i hi hs)⟩
theorem KeepS.cell {S : Nat → Prop} {a b : World} (h : KeepS S a b) {g : Nat} (hg : S g) (hs : g < a.heap.size) (o : Nat) : b.cell? ⟨g, o, none⟩ = a.cell? ⟨g, o, none⟩ := World.cell?_of_block (a := ⟨g, o, none⟩) (h.block g hg hs)
theorem KeepS.own {S : Nat → Prop} {a b : World} (h : KeepS S a b) {g n : Nat} (hg : S g) (ho : OwnBlk a g n) : OwnBlk b g n :=
  ⟨fun o hn => by rw [h.cell hg ho.2.2]; exact ho.1 o hn, fun o => by rw [World.frozen?_of_block (a := ⟨g, o, none⟩) (h.block g hg ho.2.2)]; exact ho.2.1 o, Nat.lt_of_lt_of_le ho.2.2 h.size⟩
theorem KeepS.set {S : Nat → Prop} {a : World} {g : Nat} (hg : ¬ S g) (o : Nat) (v : Value) : KeepS S a (a.setCell ⟨g, o, none⟩ v) :=
  ⟨by simp [World.setCell], fun k hk _ => Below.heap_setCell _ _ _ _ (fun e => hg (by rw [show g = k from e.symm]; exact hk))⟩

/-- A slice of n elements of k cells each in a block of S, each of which is as P says in blocks of its own. -/
def ElemsF (w : World) (A : Option Addr) (c n k : Nat) (S : Nat → Prop) (P : Nat → (Nat → Prop) → Nat → Nat → Prop) : Prop :=
  n ≤ c ∧ c ≤ 9223372036854775807 ∧ (n = 0 ∨ ∃ (b : Nat) (F : Nat → Nat → Prop), A = some ⟨b, 0, none⟩ ∧ S b ∧ OwnBlk w b (n * k) ∧ (∀ i, i < n → ∀ x, F i x → S x ∧ x ≠ b) ∧ (∀ i j, i < n → j < n → i ≠ j → ∀ x, F i x → ¬ F j x) ∧ ∀ i, i < n → P i (F i) b (i * k))
theorem ElemsF.imp {w w' : World} {A : Option Addr} {c n k : Nat} {S : Nat → Prop} {P Q : Nat → (Nat → Prop) → Nat → Nat → Prop} (h : ElemsF w A c n k S P) (hk : KeepS S w w')
    (hpq : ∀ i (G : Nat → Prop) b o, i < n → S b → b < w.heap.size → (∀ x, G x → S x) → P i G b o → Q i G b o) : ElemsF w' A c n k S Q := by
  obtain ⟨h1, h2, h3⟩ := h
  refine ⟨h1, h2, h3.imp id ?_⟩
  rintro ⟨b, F, hA, hb, ho, hf, hd, hp⟩
  exact ⟨b, F, hA, hb, hk.own hb ho, hf, hd, fun i hi => hpq i (F i) b _ hi hb ho.2.2 (fun x hx => (hf i hi x hx).1) (hp i hi)⟩
theorem ElemsF.sub {w : World} {A : Option Addr} {c n k : Nat} {S T : Nat → Prop} {P : Nat → (Nat → Prop) → Nat → Nat → Prop} (h : ElemsF w A c n k S P) (hst : ∀ x, S x → T x) : ElemsF w A c n k T P := by
  obtain ⟨h1, h2, h3⟩ := h
  refine ⟨h1, h2, h3.imp id ?_⟩
  rintro ⟨b, F, hA, hb, ho, hf, hd, hp⟩
  exact ⟨b, F, hA, hst b hb, ho, fun i hi x hx => ⟨hst x (hf i hi x hx).1, (hf i hi x hx).2⟩, hd, hp⟩
theorem ElemsF.at {w : World} {A : Option Addr} {c n k : Nat} {S : Nat → Prop} {P : Nat → (Nat → Prop) → Nat → Nat → Prop} {Q : Nat → Nat → Nat → Prop} (h : ElemsF w A c n k S P) (hpq : ∀ i G b o, i < n → P i G b o → Q i b o) : ElemsAt w.heap.size A c n k Q := by
  obtain ⟨h1, h2, h3⟩ := h
  refine ⟨h1, h2, h3.imp id ?_⟩
  rintro ⟨b, F, hA, hb, ho, hf, hd, hp⟩
  exact ⟨b, 0, hA, ho.2.2, fun i hi => by rw [Nat.zero_add]; exact hpq i _ b _ hi (hp i hi)⟩

/-- spans in blocks of S -/
def SpanF (w : World) (A : Option Addr) (c : Nat) (xs : List Sp) (S : Nat → Prop) : Prop :=
  xs.length ≤ c ∧ c ≤ 9223372036854775807 ∧ Fits xs ∧ (xs.length = 0 ∨ ∃ b, A = some ⟨b, 0, none⟩ ∧ S b ∧ OwnRow w b xs.length ∧ RowAt w b 0 xs)
theorem SpanF.keep {w w' : World} {A : Option Addr} {c : Nat} {xs : List Sp} {S : Nat → Prop} (h : SpanF w A c xs S) (hk : KeepS S w w') : SpanF w' A c xs S := by
  obtain ⟨h1, h2, h3, h4⟩ := h
  refine ⟨h1, h2, h3, h4.imp id ?_⟩
  rintro ⟨b, e, hs, ho, hr⟩
  have hh := hk.block b hs ho.2.2
  exact ⟨b, e, hs, ⟨fun o hn => by rw [hk.cell hs ho.2.2]; exact ho.1 o hn, fun o => by rw [World.frozen?_of_block (a := ⟨b, o, none⟩) hh]; exact ho.2.1 o, Nat.lt_of_lt_of_le ho.2.2 hk.size⟩, hr.keep fun o => hk.cell hs ho.2.2 o⟩
theorem SpanF.sub {w : World} {A : Option Addr} {c : Nat} {xs : List Sp} {S T : Nat → Prop} (h : SpanF w A c xs S) (hst : ∀ x, S x → T x) : SpanF w A c xs T :=
  ⟨h.1, h.2.1, h.2.2.1, h.2.2.2.imp id fun ⟨b, e, hs, r⟩ => ⟨b, e, hst b hs, r⟩⟩
theorem SpanF.reads {w : World} {A : Option Addr} {c : Nat} {xs : List Sp} {S : Nat → Prop} (h : SpanF w A c xs S) : Reads w w.heap.size A c xs :=
  ⟨h.1, h.2.1, h.2.2.1, h.2.2.2.imp (fun e => List.eq_nil_of_length_eq_zero e) fun ⟨b, e, _, ho, hr⟩ => ⟨b, 0, e, ho.2.2, hr⟩⟩
/-- what a call owns -/
theorem SpanF.of_own {w : World} {base : Nat} {v : Value} {xs : List Sp} (h : OwnS w base v xs) (hf : Fits xs) : ∃ A c, v = .slice A xs.length c ∧ SpanF w A c xs (zone base w.heap.size) := by
  obtain ⟨A, c, hv, hr, hok, hA⟩ := h.mark hf
  refine ⟨A, c, hv, hr.1, hr.2.1, hf, hok.imp id ?_⟩
  rintro ⟨g, e, ho⟩
  refine ⟨g, e, hA g e, ho, ?_⟩
  rcases hr.2.2.2 with hz | ⟨b, off, e', _, _, hrow⟩
  · rw [hz]; exact fun i hi => absurd hi (by simp)
  · rw [e] at e'
    injection e' with e'
    injection e' with e1 e2
    subst e1; subst e2
    exact hrow
theorem SpanF.nil (w : World) (A : Option Addr) (c : Nat) (hc : c ≤ 9223372036854775807) (S : Nat → Prop) : SpanF w A c [] S := ⟨Nat.zero_le _, hc, (fun _ h => by cases h), .inl rfl⟩
/-- numbers in blocks of S -/
def IntF (w : World) (A : Option Addr) (c : Nat) (ns : List Int) (S : Nat → Prop) : Prop :=
  ns.length ≤ c ∧ c ≤ 9223372036854775807 ∧ (∀ x ∈ ns, I64 x) ∧ (ns.length = 0 ∨ ∃ b, A = some ⟨b, 0, none⟩ ∧ S b ∧ OwnBlk w b ns.length ∧ IntRow w b ns ns.length)
theorem IntF.keep {w w' : World} {A : Option Addr} {c : Nat} {ns : List Int} {S : Nat → Prop} (h : IntF w A c ns S) (hk : KeepS S w w') : IntF w' A c ns S := by
  obtain ⟨h1, h2, h3, h4⟩ := h
  refine ⟨h1, h2, h3, h4.imp id ?_⟩
  rintro ⟨b, e, hs, ho, hr⟩
  exact ⟨b, e, hs, hk.own hs ho, fun i hi => (hk.cell hs ho.2.2 i).trans (hr i hi)⟩
theorem IntF.sub {w : World} {A : Option Addr} {c : Nat} {ns : List Int} {S T : Nat → Prop} (h : IntF w A c ns S) (hst : ∀ x, S x → T x) : IntF w A c ns T :=
  ⟨h.1, h.2.1, h.2.2.1, h.2.2.2.imp id fun ⟨b, e, hs, r⟩ => ⟨b, e, hst b hs, r⟩⟩
theorem IntF.ints {w : World} {A : Option Addr} {c : Nat} {ns : List Int} {S : Nat → Prop} (h : IntF w A c ns S) : IntsAt w w.heap.size A c ns :=
  ⟨h.2.2.1, h.1, h.2.1, h.2.2.2.imp id fun ⟨b, e, _, ho, hr⟩ => ⟨b, 0, e, ho.2.2, fun i hi => by rw [Nat.zero_add, Nat.mul_one]; exact hr i hi⟩⟩
theorem IntF.of_own {w : World} {base : Nat} {A : Option Addr} {c : Nat} {ns : List Int} (h : OwnN w base A c ns) : IntF w A c ns (zone base w.heap.size) :=
  ⟨h.1, h.2.1, h.2.2.1, h.2.2.2.2.imp id fun ⟨g, e, hr, ho⟩ => ⟨g, e, h.2.2.2.1 g 0 none e, ho, hr⟩⟩
theorem IntF.copy {w : World} {g : Nat} {ns : List Int} (hr : IntRow w g ns ns.length) (ho : OwnBlk w g ns.length) (hf : ∀ x ∈ ns, I64 x) (hn : ns.length ≤ 1048576) : IntF w (some ⟨g, 0, none⟩) ns.length ns (zone g w.heap.size) :=
  ⟨Nat.le_refl _, by omega, hf, .inr ⟨g, rfl, ⟨Nat.le_refl _, ho.2.2⟩, ho, hr⟩⟩
/-- columns in blocks of S -/
def ColF (w : World) (A : Option Addr) (c : Nat) (cs : List Co) (S : Nat → Prop) : Prop :=
  cs.length ≤ c ∧ c ≤ 9223372036854775807 ∧ (cs.length = 0 ∨ ∃ b, A = some ⟨b, 0, none⟩ ∧ S b ∧ OwnBlk w b (cs.length * 3) ∧ ColRow w b cs cs.length)
theorem ColF.keep {w w' : World} {A : Option Addr} {c : Nat} {cs : List Co} {S : Nat → Prop} (h : ColF w A c cs S) (hk : KeepS S w w') : ColF w' A c cs S := by
  obtain ⟨h1, h2, h4⟩ := h
  refine ⟨h1, h2, h4.imp id ?_⟩
  rintro ⟨b, e, hs, ho, hr⟩
  exact ⟨b, e, hs, hk.own hs ho, fun i hi => ⟨(hk.cell hs ho.2.2 _).trans (hr i hi).1, (hk.cell hs ho.2.2 _).trans (hr i hi).2.1, (hk.cell hs ho.2.2 _).trans (hr i hi).2.2⟩⟩
theorem ColF.sub {w : World} {A : Option Addr} {c : Nat} {cs : List Co} {S T : Nat → Prop} (h : ColF w A c cs S) (hst : ∀ x, S x → T x) : ColF w A c cs T :=
  ⟨h.1, h.2.1, h.2.2.imp id fun ⟨b, e, hs, r⟩ => ⟨b, e, hst b hs, r⟩⟩
theorem ColF.at {w : World} {A : Option Addr} {c : Nat} {cs : List Co} {S : Nat → Prop} (h : ColF w A c cs S) : ColsAt w w.heap.size A c cs :=
  ⟨h.1, h.2.1, h.2.2.imp id fun ⟨b, e, _, ho, hr⟩ => ⟨b, 0, e, ho.2.2, fun i hi => by simp only [Nat.zero_add]; exact hr i hi⟩⟩
/-- lists of spans, rules, tables in blocks of S -/
def SetsF (w : World) (A : Option Addr) (c : Nat) (xss : List (List Sp)) (S : Nat → Prop) : Prop :=
  ElemsF w A c xss.length 1 S fun i G b o => ∃ A' c', w.cell? ⟨b, o, none⟩ = some (.slice A' (xss.getD i []).length c') ∧ SpanF w A' c' (xss.getD i []) G
theorem SetsF.keep {w w' : World} {A : Option Addr} {c : Nat} {xss : List (List Sp)} {S : Nat → Prop} (h : SetsF w A c xss S) (hk : KeepS S w w') : SetsF w' A c xss S :=
  ElemsF.imp h hk fun _ _ _ o _ hb hl hG ⟨A', c', h1, h2⟩ => ⟨A', c', (hk.cell hb hl o).trans h1, h2.keep (hk.imp hG)⟩
theorem SetsF.sub {w : World} {A : Option Addr} {c : Nat} {xss : List (List Sp)} {S T : Nat → Prop} (h : SetsF w A c xss S) (hst : ∀ x, S x → T x) : SetsF w A c xss T := ElemsF.sub h hst
theorem SetsF.at {w : World} {A : Option Addr} {c : Nat} {xss : List (List Sp)} {S : Nat → Prop} (h : SetsF w A c xss S) : SetsAt w w.heap.size A c xss :=
  ElemsF.at h fun _ _ _ _ _ ⟨A', c', h1, h2⟩ => ⟨A', c', h1, h2.reads⟩
def RulesF (w : World) (A : Option Addr) (c : Nat) (rs : List Rl) (S : Nat → Prop) : Prop :=
  ElemsF w A c rs.length 2 S fun i G b o => (∃ A' c', w.cell? ⟨b, o, none⟩ = some (.slice A' (rs.getD i ([], 0)).1.length c') ∧ SetsF w A' c' (rs.getD i ([], 0)).1 G) ∧ w.cell? ⟨b, o + 1, none⟩ = some (.int .i64 (rs.getD i ([], 0)).2)
theorem RulesF.keep {w w' : World} {A : Option Addr} {c : Nat} {rs : List Rl} {S : Nat → Prop} (h : RulesF w A c rs S) (hk : KeepS S w w') : RulesF w' A c rs S :=
  ElemsF.imp h hk fun _ _ _ o _ hb hl hG ⟨⟨A', c', h1, h2⟩, h3⟩ => ⟨⟨A', c', (hk.cell hb hl o).trans h1, h2.keep (hk.imp hG)⟩, (hk.cell hb hl (o + 1)).trans h3⟩
theorem RulesF.sub {w : World} {A : Option Addr} {c : Nat} {rs : List Rl} {S T : Nat → Prop} (h : RulesF w A c rs S) (hst : ∀ x, S x → T x) : RulesF w A c rs T := ElemsF.sub h hst
theorem RulesF.at {w : World} {A : Option Addr} {c : Nat} {rs : List Rl} {S : Nat → Prop} (h : RulesF w A c rs S) : RulesAt w w.heap.size A c rs :=
  ElemsF.at h fun _ _ _ _ _ ⟨⟨A', c', h1, h2⟩, h3⟩ => ⟨⟨A', c', h1, h2.at⟩, h3⟩
def TabF (w : World) (v : Value) (t : Tb) (S : Nat → Prop) : Prop :=
  ∃ A1 c1 A2 c2 S1 S2, v = .agg #[.slice A1 t.cols.length c1, .int .i64 t.pol, .slice A2 t.rules.length c2] ∧ (∀ x, S1 x → S x) ∧ (∀ x, S2 x → S x) ∧ (∀ x, S1 x → ¬ S2 x) ∧ ColF w A1 c1 t.cols S1 ∧ RulesF w A2 c2 t.rules S2
theorem TabF.keep {w w' : World} {v : Value} {t : Tb} {S : Nat → Prop} (h : TabF w v t S) (hk : KeepS S w w') : TabF w' v t S := by
  obtain ⟨A1, c1, A2, c2, S1, S2, hv, h1, h2, h3, h4, h5⟩ := h
  exact ⟨A1, c1, A2, c2, S1, S2, hv, h1, h2, h3, h4.keep (hk.imp h1), h5.keep (hk.imp h2)⟩
theorem TabF.sub {w : World} {v : Value} {t : Tb} {S T : Nat → Prop} (h : TabF w v t S) (hst : ∀ x, S x → T x) : TabF w v t T := by
  obtain ⟨A1, c1, A2, c2, S1, S2, hv, h1, h2, h3, h4, h5⟩ := h
  exact ⟨A1, c1, A2, c2, S1, S2, hv, fun x hx => hst x (h1 x hx), fun x hx => hst x (h2 x hx), h3, h4, h5⟩
theorem TabF.at {w : World} {v : Value} {t : Tb} {S : Nat → Prop} (h : TabF w v t S) : TabAt w w.heap.size v t := by
  obtain ⟨A1, c1, A2, c2, S1, S2, hv, h1, h2, h3, h4, h5⟩ := h
  exact ⟨A1, c1, A2, c2, hv, h4.at, h5.at⟩
/-- results in blocks of S -/
def ResF (w : World) (v : Value) (r : Rs) (S : Nat → Prop) : Prop := ∃ A c, v = .agg #[.int .i64 r.1, .slice A r.2.length c] ∧ IntF w A c r.2 S
theorem ResF.keep {w w' : World} {v : Value} {r : Rs} {S : Nat → Prop} (h : ResF w v r S) (hk : KeepS S w w') : ResF w' v r S := by
  obtain ⟨A, c, hv, h1⟩ := h
  exact ⟨A, c, hv, h1.keep hk⟩
theorem ResF.at {w : World} {v : Value} {r : Rs} {S : Nat → Prop} (h : ResF w v r S) : ResAt w w.heap.size v r := by
  obtain ⟨A, c, hv, h1⟩ := h
  exact ⟨A, c, hv, h1.ints⟩
/-- zones that are apart -/
theorem zone_apart {a b c d : Nat} (h : b ≤ c ∨ d ≤ a) : ∀ k, zone a b k → ¬ zone c d k := by
  rintro k ⟨h1, h2⟩ ⟨h3, h4⟩
  omega
theorem zone_in {a b c d : Nat} (h1 : c ≤ a) (h2 : b ≤ d) : ∀ k, zone a b k → zone c d k := by
  rintro k ⟨h3, h4⟩
  exact ⟨by omega, by omega⟩
theorem one_apart {a b c d : Nat} {w w' : World} (h : OnlyS (zone c d) w w') (hz : b ≤ c ∨ d ≤ a) : KeepS (zone a b) w w' := h.keep (zone_apart hz)
theorem TBox.keep {w w' : World} {S : Nat → Prop} {g : Nat} {A1 : Option Addr} {n1 c1 : Nat} {x : Int} {A2 : Option Addr} {n2 c2 : Nat} (h : TBox w g A1 n1 c1 x A2 n2 c2) (hk : KeepS S w w') (hg : S g) : TBox w' g A1 n1 c1 x A2 n2 c2 :=
  ⟨(hk.cell hg h.2.2.2 0).trans h.1, (hk.cell hg h.2.2.2 1).trans h.2.1, (hk.cell hg h.2.2.2 2).trans h.2.2.1, Nat.lt_of_lt_of_le h.2.2.2 hk.size⟩
theorem RBox.keep {w w' : World} {S : Nat → Prop} {g : Nat} {x : Int} {A : Option Addr} {n c : Nat} (h : RBox w g x A n c) (hk : KeepS S w w') (hg : S g) : RBox w' g x A n c :=
  ⟨(hk.cell hg h.2.2 0).trans h.1, (hk.cell hg h.2.2 1).trans h.2.1, Nat.lt_of_lt_of_le h.2.2 hk.size⟩
end Go.Proofs.YtamfmemdhldmjaaGreatDoor

namespace Go.Proofs.YtamfmemdhldmjaaGreatDoor
open Go.RowKit Sets

/-- the first m elements of a row in block g, each in blocks of its own in S -/
def PartF (g k m : Nat) (S : Nat → Prop) (P : Nat → (Nat → Prop) → Nat → Nat → Prop) : Prop :=
  ∃ F : Nat → Nat → Prop, (∀ i, i < m → ∀ x, F i x → S x ∧ x ≠ g) ∧ (∀ i j, i < m → j < m → i ≠ j → ∀ x, F i x → ¬ F j x) ∧ ∀ i, i < m → P i (F i) g (i * k)
theorem PartF.zero {g k : Nat} {S : Nat → Prop} {P : Nat → (Nat → Prop) → Nat → Nat → Prop} : PartF g k 0 S P := ⟨fun _ _ => False, fun i hi => absurd hi (by omega), fun i _ hi => absurd hi (by omega), fun i hi => absurd hi (by omega)⟩
theorem PartF.imp {g k m : Nat} {S T : Nat → Prop} {P Q : Nat → (Nat → Prop) → Nat → Nat → Prop} (h : PartF g k m S P) (hst : ∀ x, S x → T x) (hpq : ∀ i (G : Nat → Prop), i < m → (∀ x, G x → S x ∧ x ≠ g) → P i G g (i * k) → Q i G g (i * k)) : PartF g k m T Q := by
  obtain ⟨F, h1, h2, h3⟩ := h
  exact ⟨F, fun i hi x hx => ⟨hst x (h1 i hi x hx).1, (h1 i hi x hx).2⟩, h2, fun i hi => hpq i _ hi (h1 i hi) (h3 i hi)⟩
theorem PartF.push {g k m : Nat} {S T G : Nat → Prop} {P : Nat → (Nat → Prop) → Nat → Nat → Prop} (h : PartF g k m S P) (hst : ∀ x, S x → T x) (hp : P m G g (m * k)) (hG : ∀ x, G x → T x ∧ x ≠ g) (hd : ∀ x, S x → ¬ G x) : PartF g k (m + 1) T P := by
  obtain ⟨F, h1, h2, h3⟩ := h
  refine ⟨fun i => if i = m then G else F i, fun i hi x hx => ?_, fun i j hi hj hij x hx hy => ?_, fun i hi => ?_⟩
  · by_cases e : i = m
    · simp only [if_pos e] at hx; exact hG x hx
    · simp only [if_neg e] at hx; exact ⟨hst x (h1 i (by omega) x hx).1, (h1 i (by omega) x hx).2⟩
  · by_cases e : i = m
    · simp only [if_pos e] at hx
      simp only [if_neg (show ¬ j = m by omega)] at hy
      exact hd x (h1 j (by omega) x hy).1 hx
    · simp only [if_neg e] at hx
      by_cases e2 : j = m
      · simp only [if_pos e2] at hy; exact hd x (h1 i (by omega) x hx).1 hy
      · simp only [if_neg e2] at hy; exact h2 i j (by omega) (by omega) hij x hx hy
  · by_cases e : i = m
    · simp only [if_pos e]; rw [e]; exact hp
    · simp only [if_neg e]; exact h3 i (by omega)
theorem PartF.elems {w : World} {g k n : Nat} {P : Nat → (Nat → Prop) → Nat → Nat → Prop} (h : PartF g k n (zone (g + 1) w.heap.size) P) (ho : OwnBlk w g (n * k)) :
    ∃ (b : Nat) (F : Nat → Nat → Prop), some (⟨g, 0, none⟩ : Addr) = some ⟨b, 0, none⟩ ∧ zone g w.heap.size b ∧ OwnBlk w b (n * k) ∧ (∀ i, i < n → ∀ x, F i x → zone g w.heap.size x ∧ x ≠ b) ∧ (∀ i j, i < n → j < n → i ≠ j → ∀ x, F i x → ¬ F j x) ∧ ∀ i, i < n → P i (F i) b (i * k) := by
  obtain ⟨F, h1, h2, h3⟩ := h
  exact ⟨g, F, rfl, ⟨Nat.le_refl _, ho.2.2⟩, ho, fun i hi x hx => ⟨zone_in (Nat.le_succ g) (Nat.le_refl _) x (h1 i hi x hx).1, (h1 i hi x hx).2⟩, h2, h3⟩
abbrev setP (w : World) (xss : List (List Sp)) : Nat → (Nat → Prop) → Nat → Nat → Prop := fun i G b o => ∃ A' c', w.cell? ⟨b, o, none⟩ = some (.slice A' (xss.getD i []).length c') ∧ SpanF w A' c' (xss.getD i []) G
abbrev ruleP (w : World) (rs : List Rl) : Nat → (Nat → Prop) → Nat → Nat → Prop := fun i G b o => (∃ A' c', w.cell? ⟨b, o, none⟩ = some (.slice A' (rs.getD i ([], 0)).1.length c') ∧ SetsF w A' c' (rs.getD i ([], 0)).1 G) ∧ w.cell? ⟨b, o + 1, none⟩ = some (.int .i64 (rs.getD i ([], 0)).2)
theorem setP_step {w w' : World} {g m : Nat} {xss : List (List Sp)} (hg : g < w.heap.size) (hb : Below w.heap.size w w') : ∀ i (G : Nat → Prop), i < m → (∀ x, G x → zone (g + 1) w.heap.size x ∧ x ≠ g) → setP w xss i G g (i * 1) → setP w' xss i G g (i * 1) :=
  fun i _ _ _ ⟨A', c', h1, h2⟩ => ⟨A', c', (hb.cell (p := ⟨g, i * 1, none⟩) hg).trans h1, h2.keep (KeepS.of_below hb _)⟩
theorem ruleP_step {w w' : World} {g m : Nat} {rs : List Rl} (hg : g < w.heap.size) (hb : Below w.heap.size w w') : ∀ i (G : Nat → Prop), i < m → (∀ x, G x → zone (g + 1) w.heap.size x ∧ x ≠ g) → ruleP w rs i G g (i * 2) → ruleP w' rs i G g (i * 2) :=
  fun i _ _ _ ⟨⟨A', c', h1, h2⟩, h3⟩ => ⟨⟨A', c', (hb.cell (p := ⟨g, i * 2, none⟩) hg).trans h1, h2.keep (KeepS.of_below hb _)⟩, (hb.cell (p := ⟨g, i * 2 + 1, none⟩) hg).trans h3⟩
theorem SpanF.of_copy {w : World} {g : Nat} {xs : List Sp} (hr : RowAt w g 0 xs) (ho : OwnRow w g xs.length) (hf : Fits xs) (hn : xs.length ≤ 1048576) : SpanF w (some ⟨g, 0, none⟩) xs.length xs (zone g w.heap.size) :=
  ⟨Nat.le_refl _, by omega, hf, .inr ⟨g, rfl, ⟨Nat.le_refl _, ho.2.2⟩, ho, hr⟩⟩
theorem fit_get {w : World} {B : Nat} {A : Option Addr} {n : Nat} {xss : List (List Sp)} (h : n = 0 ∨ ∃ b off, A = some ⟨b, off, none⟩ ∧ b < B ∧ ∀ i, i < n → ∃ A' c', w.cell? ⟨b, off + i * 1, none⟩ = some (.slice A' (xss.getD i []).length c') ∧ Reads w B A' c' (xss.getD i [])) {k : Nat} (hk : k < n) {xs : List Sp} (hx : xss.getD k [] = xs) : Fits xs := by
  rcases h with hz | ⟨_, _, _, _, hp⟩
  · omega
  · obtain ⟨_, _, _, hf⟩ := hp k hk
    rw [← hx]; exact hf.2.2.1
theorem KeepS.two {S : Nat → Prop} {a : World} {g : Nat} (hg : ¬ S g) (u v : Value) : KeepS S a ((a.setCell ⟨g, 0, none⟩ u).setCell ⟨g, 1, none⟩ v) := (KeepS.set hg 0 u).trans (KeepS.set hg 1 v)
theorem KeepS.two' {S : Nat → Prop} {a : World} {g : Nat} (hg : ¬ S g) (o1 o2 : Nat) (u v : Value) : KeepS S a ((a.setCell ⟨g, o1, none⟩ u).setCell ⟨g, o2, none⟩ v) := (KeepS.set hg o1 u).trans (KeepS.set hg o2 v)
theorem KeepS.three {S : Nat → Prop} {a : World} {g : Nat} (hg : ¬ S g) (u v x : Value) : KeepS S a (((a.setCell ⟨g, 0, none⟩ u).setCell ⟨g, 1, none⟩ v).setCell ⟨g, 2, none⟩ x) := (KeepS.two hg u v).trans (KeepS.set hg 2 x)
theorem SetPart.put {w : World} {g n m B c' : Nat} {A' : Option Addr} {xss : List (List Sp)} (ho : OwnBlk w g n) (h : PartF g 1 m (zone (g + 1) B) (setP w xss)) (hm : m < n) (hg : g < B) (hB : B ≤ w.heap.size) (hs : SpanF w A' c' (xss.getD m []) (zone B w.heap.size)) :
    PartF g 1 (m + 1) (zone (g + 1) (w.setCell ⟨g, m, none⟩ (.slice A' (xss.getD m []).length c')).heap.size) (setP (w.setCell ⟨g, m, none⟩ (.slice A' (xss.getD m []).length c')) xss) := by
  have hsz : (w.setCell ⟨g, m, none⟩ (.slice A' (xss.getD m []).length c')).heap.size = w.heap.size := by simp [World.setCell]
  rw [hsz]
  refine PartF.push (S := zone (g + 1) B) (G := zone B w.heap.size) (h.imp (fun _ hx => hx) ?_) (zone_in (Nat.le_refl _) hB) ?_ (fun x hx => ⟨⟨by have := hx.1; omega, hx.2⟩, by have := hx.1; omega⟩) (zone_apart (.inl (Nat.le_refl _)))
  · rintro i G hi hG ⟨A2, c2, q1, q2⟩
    refine ⟨A2, c2, ?_, q2.keep (KeepS.set (fun e => (hG g e).2 rfl) _ _)⟩
    rw [set_at ho hm, if_neg (by omega)]; exact q1
  · refine ⟨A', c', ?_, hs.keep (KeepS.set (fun e => by have := e.1; omega) _ _)⟩
    rw [Nat.mul_one, set_at ho hm, if_pos rfl]
theorem RulePart.put {w : World} {g n m B b' : Nat} {rs : List Rl} (ho : OwnBlk w g n) (h : PartF g 2 m (zone (g + 1) B) (ruleP w rs)) (hm : m * 2 + 1 < n) (hg : g < B) (hB : B ≤ w.heap.size) {xss : List (List Sp)} {x : Int} (hv : rs.getD m ([], 0) = (xss, x)) (hs : SetsF w (some ⟨b', 0, none⟩) xss.length xss (zone B w.heap.size)) :
    PartF g 2 (m + 1) (zone (g + 1) ((w.setCell ⟨g, m * 2, none⟩ (.slice (some ⟨b', 0, none⟩) xss.length xss.length)).setCell ⟨g, m * 2 + 1, none⟩ (.int .i64 x)).heap.size) (ruleP ((w.setCell ⟨g, m * 2, none⟩ (.slice (some ⟨b', 0, none⟩) xss.length xss.length)).setCell ⟨g, m * 2 + 1, none⟩ (.int .i64 x)) rs) := by
  have o1 := ho.set (m * 2) (.slice (some ⟨b', 0, none⟩) xss.length xss.length)
  have key : ∀ o', ((w.setCell ⟨g, m * 2, none⟩ (.slice (some ⟨b', 0, none⟩) xss.length xss.length)).setCell ⟨g, m * 2 + 1, none⟩ (.int .i64 x)).cell? ⟨g, o', none⟩ = if o' = m * 2 + 1 then some (.int .i64 x) else if o' = m * 2 then some (.slice (some ⟨b', 0, none⟩) xss.length xss.length) else w.cell? ⟨g, o', none⟩ := fun o' => by
    rw [set_at o1 hm, set_at ho (by omega)]
  have hsz : ((w.setCell ⟨g, m * 2, none⟩ (.slice (some ⟨b', 0, none⟩) xss.length xss.length)).setCell ⟨g, m * 2 + 1, none⟩ (.int .i64 x)).heap.size = w.heap.size := by simp [World.setCell]
  rw [hsz]
  refine PartF.push (S := zone (g + 1) B) (G := zone B w.heap.size) (h.imp (fun _ hx => hx) ?_) (zone_in (Nat.le_refl _) hB) ?_ (fun x hx => ⟨⟨by have := hx.1; omega, hx.2⟩, by have := hx.1; omega⟩) (zone_apart (.inl (Nat.le_refl _)))
  · rintro i G hi hG ⟨⟨A2, c2, q1, q2⟩, q3⟩
    refine ⟨⟨A2, c2, ?_, q2.keep (KeepS.two' (fun e => (hG g e).2 rfl) _ _ _ _)⟩, ?_⟩
    · rw [key, if_neg (by omega), if_neg (by omega)]; exact q1
    · rw [key, if_neg (by omega), if_neg (by omega)]; exact q3
  · unfold ruleP
    rw [hv]
    refine ⟨⟨_, _, ?_, hs.keep (KeepS.two' (fun e => by have := e.1; omega) _ _ _ _)⟩, ?_⟩
    · rw [key, if_neg (by omega), if_pos rfl]
    · rw [key, if_pos rfl]

set_option maxRecDepth 100000 in
set_option maxHeartbeats 1000000 in
theorem toColumnS_f (A : Option Addr) (c : Nat) (cs : List Co) (w : World) (h : ColsAt w w.heap.size A c cs) (hn : cs.length ≤ 1048576) :
    Calls Tryz.prog 23 #[.slice A cs.length c] w fun e w' => e = .returned (.slice (some ⟨w.heap.size, 0, none⟩) cs.length cs.length) ∧ w.heap.size < w'.heap.size ∧ ColF w' (some ⟨w.heap.size, 0, none⟩) cs.length cs (zone w.heap.size (w.heap.size + 1)) ∧ Below w.heap.size w w' := by
  obtain ⟨hlc, hc, hrow⟩ := h
  obtain ⟨i0, hi, hz0, hz1, hz2⟩ := info_parts infoColumn
  have hmk := fun W => run_make (P := Tryz.prog) W 31 65 i0 _ Tryz.underlying31 hi hz0 .i64 .i64 cs.length cs.length (by omega) (by omega) (by rw [hz2]; omega) (by omega)
  simp only [Int.toNat_natCast, hz1] at hmk
  clear hi hz0 hz1 hz2
  go_enter Tryz.func23, Tryz.ntmps23
  go_wp2
  have hown0 := OwnBlk.made w #[.bool false, .int .i64 0, .int .i64 0] (cs.length * 3) 65
  have hb0 : Below w.heap.size w (w.alloc (.cells (madeCells #[Value.bool false, .int .i64 0, .int .i64 0] (cs.length * 3)) 65)) := (Below.refl _ _).alloc (Nat.le_refl _) _
  generalize w.alloc (.cells (madeCells #[Value.bool false, .int .i64 0, .int .i64 0] (cs.length * 3)) 65) = W0 at hown0 hb0 ⊢
  clear hmk
  go_loopw [4] (fun i wr => ∃ k : Nat, k ≤ cs.length ∧ i = .int .i64 k ∧ ColRow wr w.heap.size cs k ∧ OwnBlk wr w.heap.size (cs.length * 3) ∧ Below w.heap.size w wr) (fun i _ => cs.length - (intOf i).toNat)
  case atStart => exact ⟨0, Nat.zero_le _, rfl, fun i hi => absurd hi (by omega), hown0, hb0⟩
  case round =>
    obtain ⟨k, hk, rfl, hdone, hown, hb⟩ := hrel
    by_cases hlt : k < cs.length
    · rcases hrow with hz | ⟨b, off, rfl, hB, hrow⟩
      · omega
      · have hkl : (k : Int) < (cs.length : Int) := by omega
        obtain ⟨c1, c2, c3⟩ := hrow k hlt
        have d1 := (hb.cell (p := ⟨b, off + k * 3, none⟩) hB).trans c1
        have d2 := (hb.cell (p := ⟨b, off + k * 3 + 1, none⟩) hB).trans c2
        have d3 := (hb.cell (p := ⟨b, off + k * 3 + 2, none⟩) hB).trans c3
        obtain ⟨⟨L, x, y⟩, hv⟩ : ∃ v, cs.getD k (false, 0, 0) = v := ⟨_, rfl⟩
        rw [hv] at d1 d2 d3
        have HV := Lib.hid hv
        clear c1 c2 c3 hv
        go_wp2_with (go_at_call 41; refine (toColumn_any _ _ _ _).mono ?_; rintro e w1 ⟨rfl, hb1⟩; have hown1 := hown.below hb1 hown.2.2; obtain ⟨v0, g0⟩ := hown1.1 (k * 3) (by omega); obtain ⟨v1, g1⟩ := hown1.1 (k * 3 + 1) (by omega); obtain ⟨v2, g2⟩ := hown1.1 (k * 3 + 2) (by omega); have f0 := hown1.2.1 (k * 3); have f1 := hown1.2.1 (k * 3 + 1); have f2 := hown1.2.1 (k * 3 + 2))
        have hp0 := ColRow.put hown1 (hdone.below hb1 hown.2.2) (by omega) HV.out
        have hp1 := ((hown1.set (k * 3) (.bool L)).set (k * 3 + 1) (.int .i64 x)).set (k * 3 + 2) (.int .i64 y)
        have hp2 := (((hb.trans (hb1.mono hb.size)).setCell (p := ⟨w.heap.size, k * 3, none⟩) (Nat.le_refl _) (.bool L)).setCell (p := ⟨w.heap.size, k * 3 + 1, none⟩) (Nat.le_refl _) (.int .i64 x)).setCell (p := ⟨w.heap.size, k * 3 + 2, none⟩) (Nat.le_refl _) (.int .i64 y)
        go_roundw
        case rel => exact ⟨k + 1, hlt, by go_num, hp0, hp1, hp2⟩
        case measure => simp [intOf]; omega
    · obtain rfl : k = cs.length := by omega
      go_wp2
      go_ret
      exact ⟨rfl, hown.2.2, ⟨Nat.le_refl _, by omega, .inr ⟨w.heap.size, rfl, ⟨Nat.le_refl _, by omega⟩, hown, hdone⟩⟩, hb⟩

set_option maxRecDepth 100000 in
set_option maxHeartbeats 1000000 in
theorem toSpanSS_f (A : Option Addr) (c : Nat) (xss : List (List Sp)) (w : World) (h : SetsAt w w.heap.size A c xss) (hn : xss.length ≤ 1048576) (hm : ∀ i, i < xss.length → (xss.getD i []).length ≤ 1048576) :
    Calls Tryz.prog 62 #[.slice A xss.length c] w fun e w' => e = .returned (.slice (some ⟨w.heap.size, 0, none⟩) xss.length xss.length) ∧ w.heap.size < w'.heap.size ∧ SetsF w' (some ⟨w.heap.size, 0, none⟩) xss.length xss (zone w.heap.size w'.heap.size) ∧ Below w.heap.size w w' := by
  have H := Lib.hid h
  have HM := Lib.hid hm
  obtain ⟨hlc, hc, hrow⟩ := h
  obtain ⟨i0, hi, hz0, hz1, hz2⟩ := info_parts infoSlice
  have hmk := fun W => run_make (P := Tryz.prog) W 68 73 i0 _ Tryz.underlying68 hi hz0 .i64 .i64 xss.length xss.length (by omega) (by omega) (by rw [hz2]; omega) (by omega)
  simp only [Int.toNat_natCast, hz1] at hmk
  clear hi hz0 hz1 hz2 hm
  go_enter Tryz.func62, Tryz.ntmps62
  go_wp2
  have hown0 := OwnBlk.made w #[.slice none 0 0] (xss.length * 1) 73
  have hb0 : Below w.heap.size w (w.alloc (.cells (madeCells #[Value.slice none 0 0] (xss.length * 1)) 73)) := (Below.refl _ _).alloc (Nat.le_refl _) _
  simp only [Nat.mul_one] at hown0 hb0
  try simp only [Nat.mul_one]
  generalize w.alloc (.cells (madeCells #[Value.slice none 0 0] xss.length) 73) = W0 at hown0 hb0 ⊢
  clear hmk
  go_loopw [4] (fun i wr => ∃ k : Nat, k ≤ xss.length ∧ i = .int .i64 k ∧ PartF w.heap.size 1 k (zone (w.heap.size + 1) wr.heap.size) (setP wr xss) ∧ OwnBlk wr w.heap.size xss.length ∧ Below w.heap.size w wr) (fun i _ => xss.length - (intOf i).toNat)
  case atStart => exact ⟨0, Nat.zero_le _, rfl, PartF.zero, hown0, hb0⟩
  case round =>
    obtain ⟨k, hk, rfl, hdone, hown, hb⟩ := hrel
    by_cases hlt : k < xss.length
    · rcases hrow with hz | ⟨b, off, rfl, hB, hrow⟩
      · omega
      · have hkl : (k : Int) < (xss.length : Int) := by omega
        obtain ⟨A', c', q1, q2⟩ := hrow k hlt
        rw [Nat.mul_one] at q1
        have d1 := (hb.cell (p := ⟨b, off + k, none⟩) hB).trans q1
        have hr := (q2.below hb).mono hb.size
        have hl := HM.out k hlt
        have HR := Lib.hid hr
        have HDN := Lib.hid hdone
        have HBB := Lib.hid hb
        have HL := Lib.hid hl
        generalize hxs : xss.getD k [] = xs at d1 HR HL
        have HXS := Lib.hid hxs
        clear hxs q1 q2 hr hl hdone hrow
        go_wp2_with (go_at_call 76; refine (toSpanS_any _ _ xs _ HR.out HL.out).mono ?_; rintro e w1 ⟨rfl, r1, o1, hb1⟩; have R1 := Lib.hid r1; have O1 := Lib.hid o1; have hown1 := hown.below hb1 hown.2.2; obtain ⟨v0, g0⟩ := hown1.1 k (by omega); have f0 := hown1.2.1 k)
        have hp0 := SetPart.put (xss := xss) hown1 (HDN.out.imp (zone_in (Nat.le_refl _) (Nat.le_refl _)) (setP_step hown.2.2 hb1)) (by omega) hown.2.2 hb1.size (c' := xs.length) (by rw [HXS.out]; exact SpanF.of_copy R1.out O1.out (fit_get H.out.2.2 hlt HXS.out) HL.out)
        rw [HXS.out] at hp0
        have hp2 := (HBB.out.trans (hb1.mono HBB.out.size)).setCell (p := ⟨w.heap.size, k, none⟩) (Nat.le_refl _) (.slice (some ⟨wr.heap.size, 0, none⟩) xs.length xs.length)
        go_roundw
        case rel => exact ⟨k + 1, hlt, by go_num, hp0, hown1.set k _, hp2⟩
        case measure => simp [intOf]; omega
    · obtain rfl : k = xss.length := by omega
      go_wp2
      go_ret
      exact ⟨rfl, hown.2.2, ⟨Nat.le_refl _, by omega, .inr (hdone.elems (by rw [Nat.mul_one]; exact hown))⟩, hb⟩

set_option maxRecDepth 100000 in
set_option maxHeartbeats 1000000 in
theorem toRule_f (A : Option Addr) (c : Nat) (xss : List (List Sp)) (x : Int) (w : World) (h : SetsAt w w.heap.size A c xss) (hn : xss.length ≤ 1048576) (hm : ∀ i, i < xss.length → (xss.getD i []).length ≤ 1048576) :
    Calls Tryz.prog 42 #[.agg #[.slice A xss.length c, .int .i64 x]] w fun e w' => ∃ b', e = .returned (.agg #[.slice (some ⟨b', 0, none⟩) xss.length xss.length, .int .i64 x]) ∧ SetsF w' (some ⟨b', 0, none⟩) xss.length xss (zone w.heap.size w'.heap.size) ∧ Below w.heap.size w w' := by
  have H := Lib.hid h
  have HM := Lib.hid hm
  clear h hm
  go_enter Tryz.func42, Tryz.ntmps42
  obtain ⟨W, hW⟩ : ∃ W, W = ((w.alloc (.cells #[.slice A xss.length c, .int .i64 x] 60)).alloc (.cells #[.slice none 0 0, .int .i64 0] 70)).alloc (.cells #[.slice none 0 0, .int .i64 0] 70) := ⟨_, rfl⟩
  obtain ⟨x1, x2, x3, f2, f3, bW, zW⟩ := three_blocks w _ _ _ _ _ _ W hW
  go_wp2_with fail
  rw [← hW]
  clear hW
  refine (toSpanSS_f A c xss _ ((H.out.below bW).mono bW.size) hn HM.out).mono ?_
  rintro e w1 ⟨rfl, hz, hsr, b1⟩
  have q1 := (b1.cell (p := ⟨w.heap.size, 1, none⟩) (by simp only; omega)).trans (x1 1)
  have r0 := (b1.cell (p := ⟨w.heap.size + 1, 0, none⟩) (by simp only; omega)).trans (x2 0)
  have r1 := (b1.cell (p := ⟨w.heap.size + 1, 1, none⟩) (by simp only; omega)).trans (x2 1)
  have s0 := (b1.cell (p := ⟨w.heap.size + 2, 0, none⟩) (by simp only; omega)).trans (x3 0)
  have s1 := (b1.cell (p := ⟨w.heap.size + 2, 1, none⟩) (by simp only; omega)).trans (x3 1)
  have rf0 := (b1.frozen (p := ⟨w.heap.size + 1, 0, none⟩) (by simp only; omega)).trans (f2 0)
  have rf1 := (b1.frozen (p := ⟨w.heap.size + 1, 1, none⟩) (by simp only; omega)).trans (f2 1)
  have sf0 := (b1.frozen (p := ⟨w.heap.size + 2, 0, none⟩) (by simp only; omega)).trans (f3 0)
  have sf1 := (b1.frozen (p := ⟨w.heap.size + 2, 1, none⟩) (by simp only; omega)).trans (f3 1)
  simp at q1 r0 r1 s0 s1
  have B1 := Lib.hid (bW.trans (b1.mono bW.size))
  have ZW := Lib.hid (And.intro zW hz)
  have HSR := Lib.hid hsr
  obtain ⟨b', hb'⟩ : ∃ b', b' = W.heap.size := ⟨_, rfl⟩
  have HB' := Lib.hid hb'
  rw [← hb']
  clear x1 x2 x3 f2 f3 bW zW b1 hz hsr hb'
  go_wp2
  have u0 := (two_other (w := w1) (g := w.heap.size + 1 + 1) (k := w.heap.size + 1) (o := 0) (by omega) (.slice (some ⟨b', 0, none⟩) xss.length xss.length) (.int .i64 x)).trans r0
  have u1 := (two_other (w := w1) (g := w.heap.size + 1 + 1) (k := w.heap.size + 1) (o := 1) (by omega) (.slice (some ⟨b', 0, none⟩) xss.length xss.length) (.int .i64 x)).trans r1
  obtain ⟨k0, k1⟩ := set_two u0 u1 (.slice (some ⟨b', 0, none⟩) xss.length xss.length) (.int .i64 x)
  have zb := HB'.out
  have zz := ZW.out
  refine bodyPost_ret (v := .agg #[.slice (some ⟨b', 0, none⟩) xss.length xss.length, .int .i64 x]) (by simp [results, Tryz.results42, go_sem, k0, k1]) rfl ⟨b', rfl, ?_, two_below (two_below B1.out (by omega) _ _) (by omega) _ _⟩
  rw [two_size, two_size]
  refine SetsF.sub (S := zone W.heap.size w1.heap.size) ?_ (zone_in (by omega) (Nat.le_refl _))
  rw [zb]
  exact HSR.out.keep ((KeepS.two (fun h => by have := h.1; omega) _ _).trans (KeepS.two (fun h => by have := h.1; omega) _ _))

set_option maxRecDepth 100000 in
set_option maxHeartbeats 1000000 in
theorem toRuleS_f (A : Option Addr) (c : Nat) (rs : List Rl) (w : World) (h : RulesAt w w.heap.size A c rs) (hn : rs.length ≤ 1048576)
    (hm : ∀ i, i < rs.length → (rs.getD i ([], 0)).1.length ≤ 1048576 ∧ ∀ j, j < (rs.getD i ([], 0)).1.length → ((rs.getD i ([], 0)).1.getD j []).length ≤ 1048576) :
    Calls Tryz.prog 24 #[.slice A rs.length c] w fun e w' => e = .returned (.slice (some ⟨w.heap.size, 0, none⟩) rs.length rs.length) ∧ w.heap.size < w'.heap.size ∧ RulesF w' (some ⟨w.heap.size, 0, none⟩) rs.length rs (zone w.heap.size w'.heap.size) ∧ Below w.heap.size w w' := by
  have H := Lib.hid h
  have HM := Lib.hid hm
  obtain ⟨hlc, hc, hrow⟩ := h
  obtain ⟨i0, hi, hz0, hz1, hz2⟩ := info_parts infoRule
  have hmk := fun W => run_make (P := Tryz.prog) W 32 70 i0 _ Tryz.underlying32 hi hz0 .i64 .i64 rs.length rs.length (by omega) (by omega) (by rw [hz2]; omega) (by omega)
  simp only [Int.toNat_natCast, hz1] at hmk
  clear hi hz0 hz1 hz2 hm
  go_enter Tryz.func24, Tryz.ntmps24
  go_wp2
  have hown0 := OwnBlk.made w #[.slice none 0 0, .int .i64 0] (rs.length * 2) 70
  have hb0 : Below w.heap.size w (w.alloc (.cells (madeCells #[Value.slice none 0 0, .int .i64 0] (rs.length * 2)) 70)) := (Below.refl _ _).alloc (Nat.le_refl _) _
  generalize w.alloc (.cells (madeCells #[Value.slice none 0 0, .int .i64 0] (rs.length * 2)) 70) = W0 at hown0 hb0 ⊢
  clear hmk
  go_loopw [4] (fun i wr => ∃ k : Nat, k ≤ rs.length ∧ i = .int .i64 k ∧ PartF w.heap.size 2 k (zone (w.heap.size + 1) wr.heap.size) (ruleP wr rs) ∧ OwnBlk wr w.heap.size (rs.length * 2) ∧ Below w.heap.size w wr) (fun i _ => rs.length - (intOf i).toNat)
  case atStart => exact ⟨0, Nat.zero_le _, rfl, PartF.zero, hown0, hb0⟩
  case round =>
    obtain ⟨k, hk, rfl, hdone, hown, hb⟩ := hrel
    by_cases hlt : k < rs.length
    · rcases hrow with hz | ⟨b, off, rfl, hB, hrow⟩
      · omega
      · have hkl : (k : Int) < (rs.length : Int) := by omega
        obtain ⟨⟨A', c', q1, q2⟩, q3⟩ := hrow k hlt
        have d1 := (hb.cell (p := ⟨b, off + k * 2, none⟩) hB).trans q1
        have d2 := (hb.cell (p := ⟨b, off + k * 2 + 1, none⟩) hB).trans q3
        have hr := (q2.below hb).mono hb.size
        have hl := HM.out k hlt
        have HR := Lib.hid hr
        have HDN := Lib.hid hdone
        have HBB := Lib.hid hb
        have HL := Lib.hid hl
        obtain ⟨xss, x, hxs⟩ : ∃ xss x, rs.getD k ([], 0) = (xss, x) := ⟨_, _, rfl⟩
        rw [hxs] at d1 d2 HR HL
        have HXS := Lib.hid hxs
        simp only [] at d1 d2
        clear hxs q1 q2 q3 hr hl hdone hrow
        go_wp2_with (go_at_call 42; refine (toRule_f _ _ xss x _ HR.out HL.out.1 HL.out.2).mono ?_; rintro e w1 ⟨b', rfl, g3, hb1⟩; have G3 := Lib.hid g3; have hown1 := hown.below hb1 hown.2.2; obtain ⟨v0, g0⟩ := hown1.1 (k * 2) (by omega); obtain ⟨v1, g1'⟩ := hown1.1 (k * 2 + 1) (by omega); have f0 := hown1.2.1 (k * 2); have f1 := hown1.2.1 (k * 2 + 1))
        have hp0 := RulePart.put (rs := rs) hown1 (HDN.out.imp (zone_in (Nat.le_refl _) (Nat.le_refl _)) (ruleP_step hown.2.2 hb1)) (by omega) hown.2.2 hb1.size HXS.out G3.out
        have hp2 := two_below' (g := w.heap.size) (HBB.out.trans (hb1.mono HBB.out.size)) (Nat.le_refl _) (k * 2) (k * 2 + 1) (.slice (some ⟨b', 0, none⟩) xss.length xss.length) (.int .i64 x)
        go_roundw
        case rel => exact ⟨k + 1, hlt, by go_num, hp0, (hown1.set (k * 2) _).set (k * 2 + 1) _, hp2⟩
        case measure => simp [intOf]; omega
    · obtain rfl : k = rs.length := by omega
      go_wp2
      go_ret
      exact ⟨rfl, hown.2.2, ⟨Nat.le_refl _, by omega, .inr (hdone.elems hown)⟩, hb⟩

set_option maxRecDepth 100000 in
set_option maxHeartbeats 1000000 in
theorem toTable_f (v : Value) (t : Tb) (w : World) (h : TabAt w w.heap.size v t) (ht : TbSmall t) :
    Calls Tryz.prog 7 #[v] w fun e w' => ∃ v', e = .returned v' ∧ TabF w' v' t (zone w.heap.size w'.heap.size) ∧ Below w.heap.size w w' := by
  obtain ⟨A1, c1, A2, c2, rfl, hC, hR⟩ := h
  have HC := Lib.hid hC
  have HR := Lib.hid hR
  have HT := Lib.hid ht
  clear hC hR ht
  obtain ⟨cs, x, rs⟩ := t
  simp only [] at HC HR HT ⊢
  go_enter Tryz.func7, Tryz.ntmps7
  obtain ⟨W, hW⟩ : ∃ W, W = ((w.alloc (.cells #[.slice A1 cs.length c1, .int .i64 x, .slice A2 rs.length c2] 25)).alloc (.cells #[.slice none 0 0, .int .i64 0, .slice none 0 0] 34)).alloc (.cells #[.slice none 0 0, .int .i64 0, .slice none 0 0] 34) := ⟨_, rfl⟩
  obtain ⟨x1, x2, x3, f2, f3, bW, zW⟩ := three_blocks w _ _ _ _ _ _ W hW
  go_wp2_with fail
  rw [← hW]
  clear hW
  refine (toColumnS_f A1 c1 cs _ ((HC.out.below bW).mono bW.size) HT.out.1).mono ?_
  rintro e w1 ⟨rfl, hltc, hcs, b1⟩
  have hsz1 := b1.size
  have q1 := (b1.cell (p := ⟨w.heap.size, 1, none⟩) (by simp only; omega)).trans (x1 1)
  have q2 := (b1.cell (p := ⟨w.heap.size, 2, none⟩) (by simp only; omega)).trans (x1 2)
  have r0 := (b1.cell (p := ⟨w.heap.size + 1, 0, none⟩) (by simp only; omega)).trans (x2 0)
  have r1 := (b1.cell (p := ⟨w.heap.size + 1, 1, none⟩) (by simp only; omega)).trans (x2 1)
  have r2 := (b1.cell (p := ⟨w.heap.size + 1, 2, none⟩) (by simp only; omega)).trans (x2 2)
  have s0 := (b1.cell (p := ⟨w.heap.size + 2, 0, none⟩) (by simp only; omega)).trans (x3 0)
  have s1 := (b1.cell (p := ⟨w.heap.size + 2, 1, none⟩) (by simp only; omega)).trans (x3 1)
  have s2 := (b1.cell (p := ⟨w.heap.size + 2, 2, none⟩) (by simp only; omega)).trans (x3 2)
  have rf := fun o => (b1.frozen (p := ⟨w.heap.size + 1, o, none⟩) (by simp only; omega)).trans (f2 o)
  have sf := fun o => (b1.frozen (p := ⟨w.heap.size + 2, o, none⟩) (by simp only; omega)).trans (f3 o)
  have sf0 := sf 0
  have sf1 := sf 1
  simp at q1 q2 r0 r1 r2 s0 s1 s2
  have B1 := Lib.hid (bW.trans (b1.mono bW.size))
  have ZW := Lib.hid (And.intro zW (And.intro hsz1 hltc))
  have HCS := Lib.hid hcs
  have RF := Lib.hid rf
  have SF := Lib.hid sf
  obtain ⟨g1, hg1⟩ : ∃ g1, g1 = W.heap.size := ⟨_, rfl⟩
  have HG1 := Lib.hid hg1
  rw [← hg1] at HCS ⊢
  clear x1 x2 x3 f2 f3 bW zW b1 hsz1 hltc hcs hg1 rf sf
  go_wp2_with fail
  obtain ⟨VC, hVC⟩ : ∃ VC : Value, VC = .slice (some ⟨g1, 0, none⟩) cs.length cs.length := ⟨_, rfl⟩
  rw [← hVC]
  have HVC := Lib.hid hVC
  clear hVC
  obtain ⟨t0, t1⟩ := set_two (w := w1) (g := w.heap.size + 1 + 1) s0 s1 VC (.int .i64 x)
  have t2 := (two_third (w := w1) (g := w.heap.size + 1 + 1) VC (.int .i64 x)).trans s2
  have u0 := (two_other (w := w1) (g := w.heap.size + 1 + 1) (k := w.heap.size + 1) (o := 0) (by omega) VC (.int .i64 x)).trans r0
  have u1 := (two_other (w := w1) (g := w.heap.size + 1 + 1) (k := w.heap.size + 1) (o := 1) (by omega) VC (.int .i64 x)).trans r1
  have u2 := (two_other (w := w1) (g := w.heap.size + 1 + 1) (k := w.heap.size + 1) (o := 2) (by omega) VC (.int .i64 x)).trans r2
  have fr := fun o => (two_frozen w1 (w.heap.size + 1 + 1) VC (.int .i64 x) ⟨w.heap.size + 1, o, none⟩).trans (RF.out o)
  have fs := fun o => (two_frozen w1 (w.heap.size + 1 + 1) VC (.int .i64 x) ⟨w.heap.size + 1 + 1, o, none⟩).trans (SF.out o)
  have B2 := two_below B1.out (show w.heap.size ≤ w.heap.size + 1 + 1 by omega) VC (.int .i64 x)
  have hz2 := two_size w1 (w.heap.size + 1 + 1) VC (.int .i64 x)
  have HC2 := HCS.out.keep (KeepS.two (g := w.heap.size + 1 + 1) (fun h => by have := h.1; have := HG1.out; have := ZW.out; omega) VC (.int .i64 x))
  generalize (w1.setCell ⟨w.heap.size + 1 + 1, 0, none⟩ VC).setCell ⟨w.heap.size + 1 + 1, 1, none⟩ (.int .i64 x) = W2 at t0 t1 t2 u0 u1 u2 fr fs B2 hz2 HC2 ⊢
  clear s0 s1 s2 r0 r1 r2 q1 q2 sf0 sf1
  refine (toRuleS_f A2 c2 rs _ ((HR.out.below B2).mono B2.size) HT.out.2.1 HT.out.2.2).mono ?_
  rintro e w2 ⟨rfl, hlt2, hrr, b2⟩
  have hlow : w.heap.size + 1 + 1 < W2.heap.size := by have := ZW.out; omega
  have v0 := (b2.cell (p := ⟨w.heap.size + 1, 0, none⟩) (by simp only; omega)).trans u0
  have v1 := (b2.cell (p := ⟨w.heap.size + 1, 1, none⟩) (by simp only; omega)).trans u1
  have v2 := (b2.cell (p := ⟨w.heap.size + 1, 2, none⟩) (by simp only; omega)).trans u2
  have y0 := (b2.cell (p := ⟨w.heap.size + 1 + 1, 0, none⟩) (by simp only; omega)).trans t0
  have y1 := (b2.cell (p := ⟨w.heap.size + 1 + 1, 1, none⟩) (by simp only; omega)).trans t1
  have y2 := (b2.cell (p := ⟨w.heap.size + 1 + 1, 2, none⟩) (by simp only; omega)).trans t2
  have vf0 := (b2.frozen (p := ⟨w.heap.size + 1, 0, none⟩) (by simp only; omega)).trans (fr 0)
  have vf1 := (b2.frozen (p := ⟨w.heap.size + 1, 1, none⟩) (by simp only; omega)).trans (fr 1)
  have vf2 := (b2.frozen (p := ⟨w.heap.size + 1, 2, none⟩) (by simp only; omega)).trans (fr 2)
  have yf2 := (b2.frozen (p := ⟨w.heap.size + 1 + 1, 2, none⟩) (by simp only; omega)).trans (fs 2)
  have HC3 := Lib.hid (HC2.keep (KeepS.of_below b2 _))
  have B3 := Lib.hid (B2.trans (b2.mono B2.size))
  have HRR := Lib.hid hrr
  have ZZ := Lib.hid (And.intro hlow (And.intro hlt2 hz2))
  obtain ⟨g2, hg2⟩ : ∃ g2, g2 = W2.heap.size := ⟨_, rfl⟩
  have HG2 := Lib.hid hg2
  rw [← hg2] at HRR ⊢
  have hvc := HVC.out
  subst hvc
  clear hg2 hlow hlt2 hrr b2 B2 HC2 fr fs t0 t1 t2 u0 u1 u2 hz2
  go_wp2
  have yz0 : ∀ v, (w2.setCell ⟨w.heap.size + 1 + 1, 2, none⟩ v).cell? ⟨w.heap.size + 1, 0, none⟩ = some (.slice none 0 0) := fun v => (World.cell?_setCell_other _ _ _ _ (fun e => by injection e with e _; omega)).trans v0
  have yz1 : ∀ v, (w2.setCell ⟨w.heap.size + 1 + 1, 2, none⟩ v).cell? ⟨w.heap.size + 1, 1, none⟩ = some (.int .i64 0) := fun v => (World.cell?_setCell_other _ _ _ _ (fun e => by injection e with e _; omega)).trans v1
  have yz2 : ∀ v, (w2.setCell ⟨w.heap.size + 1 + 1, 2, none⟩ v).cell? ⟨w.heap.size + 1, 2, none⟩ = some (.slice none 0 0) := fun v => (World.cell?_setCell_other _ _ _ _ (fun e => by injection e with e _; omega)).trans v2
  have hoth : ∀ v k o, w.heap.size + 3 ≤ k → (w2.setCell ⟨w.heap.size + 1 + 1, 2, none⟩ v).cell? ⟨k, o, none⟩ = w2.cell? ⟨k, o, none⟩ := fun v k o hk => World.cell?_setCell_other _ _ _ _ (fun e => by injection e with e _; omega)
  have hszv : ∀ v, (w2.setCell ⟨w.heap.size + 1 + 1, 2, none⟩ v).heap.size = w2.heap.size := fun v => by simp [World.setCell]
  have hbv : ∀ v, Below w.heap.size w (w2.setCell ⟨w.heap.size + 1 + 1, 2, none⟩ v) := fun v => B3.out.setCell (by simp only; omega) v
  obtain ⟨k0, k1, k2⟩ := set_three (yz0 (.slice (some ⟨g2, 0, none⟩) rs.length rs.length)) (yz1 _) (yz2 _) (.slice (some ⟨g1, 0, none⟩) cs.length cs.length) (.int .i64 x) (.slice (some ⟨g2, 0, none⟩) rs.length rs.length)
  have e1 := HG1.out
  have e2 := HG2.out
  have e3 := ZW.out
  have e4 := ZZ.out
  have hle : W2.heap.size ≤ w2.heap.size := by omega
  refine bodyPost_ret (v := .agg #[.slice (some ⟨g1, 0, none⟩) cs.length cs.length, .int .i64 x, .slice (some ⟨g2, 0, none⟩) rs.length rs.length]) (by simp [results, Tryz.results7, go_sem, k0, k1, k2]) rfl ⟨_, rfl, ⟨_, _, _, _, zone g1 (g1 + 1), zone g2 w2.heap.size, rfl, ?_, ?_, ?_, ?_, ?_⟩, ?_⟩
  · rw [three_size, hszv]; exact zone_in (by omega) (by omega)
  · rw [three_size, hszv]; exact zone_in (by omega) (Nat.le_refl _)
  · exact zone_apart (by omega)
  · exact HC3.out.keep ((KeepS.set (fun h => by have := h.1; omega) _ _).trans (KeepS.three (fun h => by have := h.1; omega) _ _ _))
  · have hq := HRR.out.keep ((KeepS.set (g := w.heap.size + 1 + 1) (fun h => by have := h.1; omega) 2 (.slice (some ⟨g2, 0, none⟩) rs.length rs.length)).trans (KeepS.three (g := w.heap.size + 1) (fun h => by have := h.1; omega) (.slice (some ⟨g1, 0, none⟩) cs.length cs.length) (.int .i64 x) (.slice (some ⟨g2, 0, none⟩) rs.length rs.length)))
    exact hq
  · exact three_below (hbv _) (by omega) _ _ _
end Go.Proofs.YtamfmemdhldmjaaGreatDoor

namespace Go.Proofs.YtamfmemdhldmjaaGreatDoor
open Go.RowKit Sets

theorem marks_fits' {k : Int} {n : Nat} (h0 : 0 ≤ k) (h1 : k + 2 * n ≤ 9223372036854775807) : Fits (marks k n) := by
  induction n with
  | zero => intro x hx; cases hx
  | succ n ih => exact fits_snoc (ih (by omega)) (by unfold I64; omega) (by unfold I64; omega)
theorem OnlyS.put2 {S : Nat → Prop} {a b : World} (h : OnlyS S a b) {g : Nat} (hg : S g) (o : Nat) (x y : Int) : OnlyS S a (put2 b g o x y) := (h.set hg o _).set hg (o + 1) _

set_option maxRecDepth 100000 in
set_option maxHeartbeats 1000000 in
theorem markS_f (A : Option Addr) (c : Nat) (xs : List Sp) (S : Nat → Prop) (k0 : Int) (w : World) (h : SpanF w A c xs S) (hk0 : 0 ≤ k0) (hk1 : k0 + 2 * xs.length ≤ 9223372036854775807) :
    Calls Tryz.prog 72 #[.slice A xs.length c, .int .i64 k0] w fun e w' => e = .returned (.int .i64 (k0 + 2 * xs.length)) ∧ SpanF w' A c (marks k0 xs.length) S ∧ OnlyS S w w' := by
  obtain ⟨h1, h2, _, h4⟩ := h
  obtain ⟨n, hn⟩ : ∃ n, xs.length = n := ⟨_, rfl⟩
  rw [hn] at h1 hk1 h4 ⊢
  have hnn : n ≤ 9223372036854775807 := by omega
  have HC := Lib.hid (And.intro h1 h2)
  clear h1 h2
  rcases h4 with hz | ⟨g, rfl, hS, hown, _⟩
  · subst hz
    go_enter Tryz.func72, Tryz.ntmps72
    go_wp2
    go_loop [1, 5] (fun q i => q = .int .i64 k0 ∧ i = .int .i64 0) (fun _ _ => 0)
    case atStart => exact ⟨rfl, rfl⟩
    case round =>
      obtain ⟨rfl, rfl⟩ := hrel
      go_wp2
      go_ret
      exact ⟨by simp, SpanF.nil w A c HC.out.2 S, OnlyS.refl S w⟩
  · go_enter Tryz.func72, Tryz.ntmps72
    go_wp2
    go_loopw [1, 5] (fun q i wr => ∃ k : Nat, k ≤ n ∧ i = .int .i64 k ∧ q = .int .i64 (k0 + 2 * k) ∧ RowAt wr g 0 (marks k0 k) ∧ OwnRow wr g n ∧ OnlyS S w wr) (fun _ i _ => n - (intOf i).toNat)
    case atStart => exact ⟨0, Nat.zero_le _, rfl, by simp, (fun i hi => by simp [marks] at hi), hown, OnlyS.refl S w⟩
    case round =>
      obtain ⟨k, hk, rfl, rfl, hrow, ho, hgr⟩ := hrel
      by_cases hlt : k < n
      · have hkl : (k : Int) < (n : Int) := by omega
        obtain ⟨v0, g0⟩ := ho.1 (k * 2) (by omega)
        obtain ⟨v1, g1⟩ := ho.1 (k * 2 + 1) (by omega)
        have f0 := ho.2.1 (k * 2)
        have f1 := ho.2.1 (k * 2 + 1)
        have hp0 := put2_row (k := k) (ys := marks k0 k) hrow (marks_length k0 k).symm (k0 + 2 * k) (k0 + 2 * k + 1) ⟨_, g0⟩ ⟨_, g1⟩
        have hp1 := put2_own ho (k0 + 2 * k) (k0 + 2 * k + 1) ⟨_, g0⟩ ⟨_, g1⟩
        have hp2 := hgr.put2 hS (k * 2) (k0 + 2 * k) (k0 + 2 * k + 1)
        have HP := Lib.hid (And.intro hp0 (And.intro hp1 hp2))
        clear hp0 hp1 hp2 hS
        go_wp2
        go_roundw
        case rel => exact ⟨k + 1, hlt, by go_num, congrArg (Value.int .i64) (by omega), HP.out.1, HP.out.2.1, HP.out.2.2⟩
        case measure => simp [intOf]; omega
      · obtain rfl : k = n := by omega
        go_wp2
        go_ret
        exact ⟨rfl, ⟨by rw [marks_length]; exact HC.out.1, HC.out.2, marks_fits' hk0 hk1, .inr ⟨g, rfl, hS, by rw [marks_length]; exact ho, hrow⟩⟩, hgr⟩

/-- where the marks of the i-th list begin -/
def kSS (k : Int) (xss : List (List Sp)) : Nat → Int
  | 0 => k
  | i + 1 => kSS k xss i + 2 * ((xss.getD i []).length : Int)
theorem kSS_mono (k : Int) (xss : List (List Sp)) {i j : Nat} (h : i ≤ j) : kSS k xss i ≤ kSS k xss j := by
  induction j with
  | zero => have : i = 0 := by omega
            subst this; exact Int.le_refl _
  | succ j ih =>
    rcases Nat.lt_or_ge i (j + 1) with h1 | h1
    · have := ih (by omega)
      have h3 : kSS k xss (j + 1) = kSS k xss j + 2 * ((xss.getD j []).length : Int) := rfl
      omega
    · have : i = j + 1 := by omega
      subst this; exact Int.le_refl _
def mkSS (k : Int) (xss : List (List Sp)) : List (List Sp) := (List.range xss.length).map fun i => marks (kSS k xss i) (xss.getD i []).length
theorem mkSS_len (k : Int) (xss : List (List Sp)) : (mkSS k xss).length = xss.length := by simp [mkSS]
theorem mkSS_at {k : Int} {xss : List (List Sp)} {i : Nat} (hi : i < xss.length) : (mkSS k xss).getD i [] = marks (kSS k xss i) (xss.getD i []).length := by
  unfold mkSS
  rw [List.getD_eq_getElem?_getD, List.getElem?_map, List.getElem?_range hi]; rfl

set_option maxRecDepth 100000 in
set_option maxHeartbeats 1000000 in
theorem markSS_f (A : Option Addr) (c : Nat) (xss : List (List Sp)) (S : Nat → Prop) (k0 : Int) (w : World) (h : SetsF w A c xss S) (hk0 : 0 ≤ k0) (hk1 : kSS k0 xss xss.length ≤ 9223372036854775807) :
    Calls Tryz.prog 50 #[.slice A xss.length c, .int .i64 k0] w fun e w' => e = .returned (.int .i64 (kSS k0 xss xss.length)) ∧ SetsF w' A c (mkSS k0 xss) S ∧ OnlyS S w w' := by
  obtain ⟨h1, h2, h4⟩ := h
  have hnn : xss.length ≤ 9223372036854775807 := by omega
  have HC := Lib.hid (And.intro h1 h2)
  have HK := Lib.hid (And.intro hk0 hk1)
  clear h1 h2 hk0 hk1
  rcases h4 with hz | ⟨g, F, rfl, hS, hown, hf, hd, hp⟩
  · have hx : xss = [] := List.eq_nil_of_length_eq_zero hz
    subst hx
    clear hz
    go_enter Tryz.func50, Tryz.ntmps50
    go_wp2
    go_loop [1, 5] (fun q i => q = .int .i64 k0 ∧ i = .int .i64 0) (fun _ _ => 0)
    case atStart => exact ⟨rfl, rfl⟩
    case round =>
      obtain ⟨rfl, rfl⟩ := hrel
      go_wp2
      go_ret
      exact ⟨rfl, ⟨Nat.zero_le _, HC.out.2, .inl rfl⟩, OnlyS.refl S w⟩
  · rw [Nat.mul_one] at hown
    have HF := Lib.hid hf
    have HD := Lib.hid hd
    have HS := Lib.hid hS
    have HP := Lib.hid hp
    clear hf hd hS hp
    go_enter Tryz.func50, Tryz.ntmps50
    go_wp2
    go_loopw [1, 5] (fun q i wr => ∃ k : Nat, k ≤ xss.length ∧ i = .int .i64 k ∧ q = .int .i64 (kSS k0 xss k) ∧ OwnBlk wr g xss.length ∧ OnlyS S w wr ∧ (∀ i, i < k → setP wr (mkSS k0 xss) i (F i) g (i * 1)) ∧ (∀ i, k ≤ i → i < xss.length → setP wr xss i (F i) g (i * 1))) (fun _ i _ => xss.length - (intOf i).toNat)
    case atStart => exact ⟨0, Nat.zero_le _, rfl, rfl, hown, OnlyS.refl S w, fun i hi => absurd hi (by omega), fun i _ hi => HP.out i hi⟩
    case round =>
      obtain ⟨k, hk, rfl, rfl, ho, hgr, hdone, hrest⟩ := hrel
      by_cases hlt : k < xss.length
      · have hkl : (k : Int) < (xss.length : Int) := by omega
        obtain ⟨A', c', q1, q2⟩ := hrest k (Nat.le_refl _) hlt
        rw [Nat.mul_one] at q1
        have e0 : 0 ≤ kSS k0 xss k := Int.le_trans HK.out.1 (kSS_mono k0 xss (Nat.zero_le k))
        have e1 : kSS k0 xss k + 2 * ((xss.getD k []).length : Int) ≤ 9223372036854775807 := Int.le_trans (kSS_mono k0 xss (show k + 1 ≤ xss.length by omega)) HK.out.2
        have E := Lib.hid (And.intro e0 e1)
        have Q := Lib.hid q2
        have HO := Lib.hid ho
        have HG := Lib.hid hgr
        have HDN := Lib.hid hdone
        have HRS := Lib.hid hrest
        have hlen : Hid ((mkSS k0 xss).getD k [] = marks (kSS k0 xss k) (xss.getD k []).length) := Lib.hid (mkSS_at hlt)
        have hnx : Hid (kSS k0 xss (k + 1) = kSS k0 xss k + 2 * ((xss.getD k []).length : Int)) := Lib.hid rfl
        generalize hxs : xss.getD k [] = xs at q1 Q E hlen hnx
        generalize hq : kSS k0 xss k = p at Q E hlen hnx ⊢
        have HXS := Lib.hid (And.intro hxs hq)
        clear hxs hq q2 e0 e1 ho hgr hdone hrest
        go_wp2_with (go_at_call 72; refine (markS_f A' c' xs (F k) p _ Q.out E.out.1 E.out.2).mono ?_; rintro e w1 ⟨rfl, r1, o1⟩; have R1 := Lib.hid r1; have O1 := Lib.hid o1; clear r1 o1)
        have kg : KeepS (fun x => x = g) wr w1 := O1.out.keep fun x hx hx2 => (HF.out k hlt x hx2).2 hx
        go_roundw
        case rel =>
          refine ⟨k + 1, hlt, by go_num, by rw [hnx.out], kg.own rfl HO.out, HG.out.trans (O1.out.imp fun x hx => (HF.out k hlt x hx).1), fun i hi => ?_, fun i hi hi2 => ?_⟩
          · by_cases e : i = k
            · subst e
              unfold setP
              rw [hlen.out, marks_length]
              exact ⟨A', c', by rw [Nat.mul_one]; exact (kg.cell rfl HO.out.2.2 i).trans q1, R1.out⟩
            · obtain ⟨A2, c2, u1, u2⟩ := HDN.out i (by omega)
              exact ⟨A2, c2, (kg.cell rfl HO.out.2.2 _).trans u1, u2.keep (O1.out.keep (HD.out i k (by omega) hlt e))⟩
          · obtain ⟨A2, c2, u1, u2⟩ := HRS.out i (by omega) hi2
            exact ⟨A2, c2, (kg.cell rfl HO.out.2.2 _).trans u1, u2.keep (O1.out.keep (HD.out i k hi2 hlt (by omega)))⟩
        case measure => simp [intOf]; omega
      · obtain rfl : k = xss.length := by omega
        go_wp2
        go_ret
        refine ⟨rfl, ⟨by rw [mkSS_len]; exact HC.out.1, HC.out.2, .inr ⟨g, F, rfl, HS.out, by rw [mkSS_len, Nat.mul_one]; exact ho, ?_, ?_, ?_⟩⟩, hgr⟩
        · rw [mkSS_len]; exact HF.out
        · rw [mkSS_len]; exact HD.out
        · rw [mkSS_len]; exact hdone

def kRR (k : Int) (rs : List Rl) : Nat → Int
  | 0 => k
  | i + 1 => kSS (kRR k rs i) (rs.getD i ([], 0)).1 (rs.getD i ([], 0)).1.length + 1
theorem kRR_mono (k : Int) (rs : List Rl) {i j : Nat} (h : i ≤ j) : kRR k rs i ≤ kRR k rs j := by
  induction j with
  | zero => have : i = 0 := by omega
            subst this; exact Int.le_refl _
  | succ j ih =>
    rcases Nat.lt_or_ge i (j + 1) with h1 | h1
    · have := ih (by omega)
      have h2 : kSS (kRR k rs j) (rs.getD j ([], 0)).1 0 ≤ kSS (kRR k rs j) (rs.getD j ([], 0)).1 (rs.getD j ([], 0)).1.length := kSS_mono _ _ (Nat.zero_le _)
      have h3 : kRR k rs (j + 1) = kSS (kRR k rs j) (rs.getD j ([], 0)).1 (rs.getD j ([], 0)).1.length + 1 := rfl
      have h4 : kSS (kRR k rs j) (rs.getD j ([], 0)).1 0 = kRR k rs j := rfl
      omega
    · have : i = j + 1 := by omega
      subst this; exact Int.le_refl _
def mkRR (k : Int) (rs : List Rl) : List Rl := (List.range rs.length).map fun i => (mkSS (kRR k rs i) (rs.getD i ([], 0)).1, kSS (kRR k rs i) (rs.getD i ([], 0)).1 (rs.getD i ([], 0)).1.length)
theorem mkRR_len (k : Int) (rs : List Rl) : (mkRR k rs).length = rs.length := by simp [mkRR]
theorem mkRR_at {k : Int} {rs : List Rl} {i : Nat} (hi : i < rs.length) : (mkRR k rs).getD i ([], 0) = (mkSS (kRR k rs i) (rs.getD i ([], 0)).1, kSS (kRR k rs i) (rs.getD i ([], 0)).1 (rs.getD i ([], 0)).1.length) := by
  unfold mkRR
  rw [List.getD_eq_getElem?_getD, List.getElem?_map, List.getElem?_range hi]; rfl

set_option maxRecDepth 100000 in
set_option maxHeartbeats 1000000 in
theorem markRR_f (A : Option Addr) (c : Nat) (rs : List Rl) (S : Nat → Prop) (k0 : Int) (w : World) (h : RulesF w A c rs S) (hk0 : 0 ≤ k0) (hk1 : kRR k0 rs rs.length ≤ 9223372036854775807) :
    Calls Tryz.prog 30 #[.slice A rs.length c, .int .i64 k0] w fun e w' => e = .returned (.int .i64 (kRR k0 rs rs.length)) ∧ RulesF w' A c (mkRR k0 rs) S ∧ OnlyS S w w' := by
  obtain ⟨h1, h2, h4⟩ := h
  have hnn : rs.length ≤ 9223372036854775807 := by omega
  have HC := Lib.hid (And.intro h1 h2)
  have HK := Lib.hid (And.intro hk0 hk1)
  clear h1 h2 hk0 hk1
  rcases h4 with hz | ⟨g, F, rfl, hS, hown, hf, hd, hp⟩
  · have hx : rs = [] := List.eq_nil_of_length_eq_zero hz
    subst hx
    clear hz
    go_enter Tryz.func30, Tryz.ntmps30
    go_wp2
    go_loop [1, 5] (fun q i => q = .int .i64 k0 ∧ i = .int .i64 0) (fun _ _ => 0)
    case atStart => exact ⟨rfl, rfl⟩
    case round =>
      obtain ⟨rfl, rfl⟩ := hrel
      go_wp2
      go_ret
      exact ⟨rfl, ⟨Nat.zero_le _, HC.out.2, .inl rfl⟩, OnlyS.refl S w⟩
  · have HF := Lib.hid hf
    have HD := Lib.hid hd
    have HS := Lib.hid hS
    have HP := Lib.hid hp
    clear hf hd hS hp
    go_enter Tryz.func30, Tryz.ntmps30
    go_wp2
    go_loopw [1, 5] (fun q i wr => ∃ k : Nat, k ≤ rs.length ∧ i = .int .i64 k ∧ q = .int .i64 (kRR k0 rs k) ∧ OwnBlk wr g (rs.length * 2) ∧ OnlyS S w wr ∧ (∀ i, i < k → ruleP wr (mkRR k0 rs) i (F i) g (i * 2)) ∧ (∀ i, k ≤ i → i < rs.length → ruleP wr rs i (F i) g (i * 2))) (fun _ i _ => rs.length - (intOf i).toNat)
    case atStart => exact ⟨0, Nat.zero_le _, rfl, rfl, hown, OnlyS.refl S w, fun i hi => absurd hi (by omega), fun i _ hi => HP.out i hi⟩
    case round =>
      obtain ⟨k, hk, rfl, rfl, ho, hgr, hdone, hrest⟩ := hrel
      by_cases hlt : k < rs.length
      · have hkl : (k : Int) < (rs.length : Int) := by omega
        obtain ⟨⟨A', c', q1, q2⟩, q3⟩ := hrest k (Nat.le_refl _) hlt
        have e0 : 0 ≤ kRR k0 rs k := Int.le_trans HK.out.1 (kRR_mono k0 rs (Nat.zero_le k))
        have e1 : kRR k0 rs (k + 1) ≤ 9223372036854775807 := Int.le_trans (kRR_mono k0 rs (show k + 1 ≤ rs.length by omega)) HK.out.2
        unfold kRR at e1
        have e2 : kSS (kRR k0 rs k) (rs.getD k ([], 0)).1 0 ≤ kSS (kRR k0 rs k) (rs.getD k ([], 0)).1 (rs.getD k ([], 0)).1.length := kSS_mono _ _ (Nat.zero_le _)
        rw [show kSS (kRR k0 rs k) (rs.getD k ([], 0)).1 0 = kRR k0 rs k from rfl] at e2
        have E := Lib.hid (And.intro e0 (And.intro e1 e2))
        have Q := Lib.hid q2
        have HO := Lib.hid ho
        have HG := Lib.hid hgr
        have HDN := Lib.hid hdone
        have HRS := Lib.hid hrest
        have hlen : Hid ((mkRR k0 rs).getD k ([], 0) = (mkSS (kRR k0 rs k) (rs.getD k ([], 0)).1, kSS (kRR k0 rs k) (rs.getD k ([], 0)).1 (rs.getD k ([], 0)).1.length)) := Lib.hid (mkRR_at hlt)
        have hnx : Hid (kRR k0 rs (k + 1) = kSS (kRR k0 rs k) (rs.getD k ([], 0)).1 (rs.getD k ([], 0)).1.length + 1) := Lib.hid rfl
        obtain ⟨xss, x, hxs⟩ : ∃ xss x, rs.getD k ([], 0) = (xss, x) := ⟨_, _, rfl⟩
        rw [hxs] at q1 q3 Q E hlen hnx
        simp only [] at q1 q3 Q E hlen hnx
        obtain ⟨p, hq⟩ : ∃ p, kRR k0 rs k = p := ⟨_, rfl⟩
        rw [hq] at E hlen hnx ⊢
        obtain ⟨p2, hp2⟩ : ∃ p2, kSS p xss xss.length = p2 := ⟨_, rfl⟩
        have HP2 := Lib.hid hp2
        have e5 : 0 ≤ p2 := by have := E.out; rw [hp2] at this; omega
        have e6 : p2 + 1 ≤ 9223372036854775807 := by have := E.out; rw [hp2] at this; omega
        have Q3 := Lib.hid q3
        clear hxs hq hp2 q2 q3 e0 e1 e2 ho hgr hdone hrest
        go_wp2_with (go_at_call 50; refine (markSS_f A' c' xss (F k) p _ Q.out E.out.1 (by have := HP2.out; omega)).mono ?_; rw [HP2.out]; rintro e w1 ⟨rfl, r1, o1⟩; have R1 := Lib.hid r1; have O1 := Lib.hid o1; have kg := Lib.hid (show KeepS (fun x => x = g) wr w1 from o1.keep fun x hx hx2 => (HF.out k hlt x hx2).2 hx); have ho1 := kg.out.own rfl HO.out; obtain ⟨v0, g0⟩ := ho1.1 (k * 2 + 1) (by omega); have f0 := ho1.2.1 (k * 2 + 1); have q1' := (kg.out.cell rfl HO.out.2.2 (k * 2)).trans q1; clear r1 o1)
        have kS : ∀ i, i < rs.length → KeepS (F i) w1 (w1.setCell ⟨g, k * 2 + 1, none⟩ (.int .i64 p2)) := fun i hi => KeepS.set (fun e => (HF.out i hi g e).2 rfl) _ _
        have hc : ∀ o, o ≠ k * 2 + 1 → (w1.setCell ⟨g, k * 2 + 1, none⟩ (.int .i64 p2)).cell? ⟨g, o, none⟩ = wr.cell? ⟨g, o, none⟩ := fun o ho' => by
          rw [set_at ho1 (by omega), if_neg ho']; exact kg.out.cell rfl HO.out.2.2 o
        go_roundw
        case rel =>
          refine ⟨k + 1, hlt, by go_num, by rw [hnx.out, HP2.out], ho1.set _ _, (HG.out.trans (O1.out.imp fun x hx => (HF.out k hlt x hx).1)).set HS.out _ _, fun i hi => ?_, fun i hi hi2 => ?_⟩
          · by_cases e : i = k
            · subst e
              unfold ruleP
              rw [hlen.out]
              simp only []
              rw [mkSS_len]
              exact ⟨⟨A', c', (hc _ (by omega)).trans q1, R1.out.keep (kS i hlt)⟩, by rw [set_at ho1 (by omega), if_pos rfl, HP2.out]⟩
            · obtain ⟨⟨A2, c2, u1, u2⟩, u3⟩ := HDN.out i (by omega)
              exact ⟨⟨A2, c2, (hc _ (by omega)).trans u1, (u2.keep (O1.out.keep (HD.out i k (by omega) hlt e))).keep (kS i (by omega))⟩, (hc _ (by omega)).trans u3⟩
          · obtain ⟨⟨A2, c2, u1, u2⟩, u3⟩ := HRS.out i (by omega) hi2
            exact ⟨⟨A2, c2, (hc _ (by omega)).trans u1, (u2.keep (O1.out.keep (HD.out i k hi2 hlt (by omega)))).keep (kS i hi2)⟩, (hc _ (by omega)).trans u3⟩
        case measure => simp [intOf]; omega
      · obtain rfl : k = rs.length := by omega
        go_wp2
        go_ret
        refine ⟨rfl, ⟨by rw [mkRR_len]; exact HC.out.1, HC.out.2, .inr ⟨g, F, rfl, HS.out, by rw [mkRR_len]; exact ho, ?_, ?_, ?_⟩⟩, hgr⟩
        · rw [mkRR_len]; exact HF.out
        · rw [mkRR_len]; exact HD.out
        · rw [mkRR_len]; exact hdone
end Go.Proofs.YtamfmemdhldmjaaGreatDoor

namespace Go.Proofs.YtamfmemdhldmjaaGreatDoor
open Go.RowKit Sets

def mkC (k : Int) (i : Nat) : Co := (k % 3 == 0, k + 3 * i + 1, k + 3 * i + 2)
def mkCC (k : Int) (n : Nat) : List Co := (List.range n).map (mkC k)
theorem mkCC_len (k : Int) (n : Nat) : (mkCC k n).length = n := by simp [mkCC]
theorem mkCC_at {k : Int} {n i : Nat} (hi : i < n) : (mkCC k n).getD i (false, 0, 0) = mkC k i := by
  unfold mkCC
  rw [List.getD_eq_getElem?_getD, List.getElem?_map, List.getElem?_range hi]; rfl

set_option maxRecDepth 100000 in
set_option maxHeartbeats 1000000 in
theorem markCC_f (A : Option Addr) (c : Nat) (cs : List Co) (S : Nat → Prop) (k0 : Int) (w : World) (h : ColF w A c cs S) (hk0 : 0 ≤ k0) (hk1 : k0 + 3 * cs.length ≤ 9223372036854775807) :
    Calls Tryz.prog 29 #[.slice A cs.length c, .int .i64 k0] w fun e w' => e = .returned (.int .i64 (k0 + 3 * cs.length)) ∧ ColF w' A c (mkCC k0 cs.length) S ∧ OnlyS S w w' := by
  obtain ⟨h1, h2, h4⟩ := h
  obtain ⟨n, hn⟩ : ∃ n, cs.length = n := ⟨_, rfl⟩
  rw [hn] at h1 hk1 h4 ⊢
  have hnn : n ≤ 9223372036854775807 := by omega
  have HC := Lib.hid (And.intro h1 h2)
  clear h1 h2
  rcases h4 with hz | ⟨g, rfl, hS, hown, _⟩
  · subst hz
    go_enter Tryz.func29, Tryz.ntmps29
    go_wp2
    go_loop [1, 5] (fun q i => q = .int .i64 k0 ∧ i = .int .i64 0) (fun _ _ => 0)
    case atStart => exact ⟨rfl, rfl⟩
    case round =>
      obtain ⟨rfl, rfl⟩ := hrel
      go_wp2
      go_ret
      exact ⟨by simp, ⟨Nat.zero_le _, HC.out.2, .inl rfl⟩, OnlyS.refl S w⟩
  · have HS := Lib.hid hS
    clear hS
    go_enter Tryz.func29, Tryz.ntmps29
    go_wp2
    go_loopw [1, 5] (fun q i wr => ∃ k : Nat, k ≤ n ∧ i = .int .i64 k ∧ q = .int .i64 (k0 + 3 * k) ∧ ColRow wr g (mkCC k0 n) k ∧ OwnBlk wr g (n * 3) ∧ OnlyS S w wr) (fun _ i _ => n - (intOf i).toNat)
    case atStart => exact ⟨0, Nat.zero_le _, rfl, by simp, (fun i hi => absurd hi (by omega)), hown, OnlyS.refl S w⟩
    case round =>
      obtain ⟨k, hk, rfl, rfl, hrow, ho, hgr⟩ := hrel
      by_cases hlt : k < n
      · have hkl : (k : Int) < (n : Int) := by omega
        obtain ⟨v0, g0⟩ := ho.1 (k * 3) (by omega)
        obtain ⟨v1, g1⟩ := ho.1 (k * 3 + 1) (by omega)
        obtain ⟨v2, g2⟩ := ho.1 (k * 3 + 2) (by omega)
        have f0 := ho.2.1 (k * 3)
        have f1 := ho.2.1 (k * 3 + 1)
        have f2 := ho.2.1 (k * 3 + 2)
        have hp0 := ColRow.put (cs := mkCC k0 n) ho hrow (by omega) (mkCC_at hlt)
        have hp1 := ((ho.set (k * 3) (.bool (k0 % 3 == 0))).set (k * 3 + 1) (.int .i64 (k0 + 3 * k + 1))).set (k * 3 + 2) (.int .i64 (k0 + 3 * k + 2))
        have hp2 := ((hgr.set HS.out (k * 3) (.bool (k0 % 3 == 0))).set HS.out (k * 3 + 1) (.int .i64 (k0 + 3 * k + 1))).set HS.out (k * 3 + 2) (.int .i64 (k0 + 3 * k + 2))
        have HP := Lib.hid (And.intro hp0 (And.intro hp1 hp2))
        clear hp0 hp1 hp2 hrow
        go_wp2
        try trivial
        rw [show k0 + 3 * (k : Int) + 1 + 1 = k0 + 3 * k + 2 by omega]
        go_roundw
        case rel => exact ⟨k + 1, hlt, by go_num, congrArg (Value.int .i64) (by omega), HP.out.1, HP.out.2.1, HP.out.2.2⟩
        case measure => simp [intOf]; omega
      · obtain rfl : k = n := by omega
        go_wp2
        go_ret
        exact ⟨rfl, ⟨by rw [mkCC_len]; exact HC.out.1, HC.out.2, .inr ⟨g, rfl, HS.out, by rw [mkCC_len]; exact ho, by rw [mkCC_len]; exact hrow⟩⟩, hgr⟩

/-- the marks of a table -/
def mkT (k : Int) (t : Tb) : Tb := ⟨mkCC k t.cols.length, t.pol, mkRR (k + 3 * t.cols.length) t.rules⟩
def kTT (k : Int) (t : Tb) : Int := kRR (k + 3 * t.cols.length) t.rules t.rules.length
theorem kTT_low (k : Int) (t : Tb) : k + 3 * t.cols.length ≤ kTT k t := kRR_mono (k + 3 * t.cols.length) t.rules (Nat.zero_le _)
theorem kSS_bound {xss : List (List Sp)} (k : Int) (hm : ∀ i, i < xss.length → (xss.getD i []).length ≤ 1048576) : ∀ i, i ≤ xss.length → kSS k xss i ≤ k + 2097152 * i := by
  intro i
  induction i with
  | zero => intro _; show k ≤ k + _; omega
  | succ i ih =>
    intro hi
    have := ih (by omega)
    have h2 := hm i (by omega)
    have h3 : kSS k xss (i + 1) = kSS k xss i + 2 * ((xss.getD i []).length : Int) := rfl
    omega
theorem kRR_bound {rs : List Rl} (k : Int) (hm : ∀ i, i < rs.length → (rs.getD i ([], 0)).1.length ≤ 1048576 ∧ ∀ j, j < (rs.getD i ([], 0)).1.length → ((rs.getD i ([], 0)).1.getD j []).length ≤ 1048576) : ∀ i, i ≤ rs.length → kRR k rs i ≤ k + 2199023255553 * i := by
  intro i
  induction i with
  | zero => intro _; show k ≤ k + _; omega
  | succ i ih =>
    intro hi
    have := ih (by omega)
    have h2 := hm i (by omega)
    have h4 := kSS_bound (kRR k rs i) h2.2 _ (Nat.le_refl _)
    have h3 : kRR k rs (i + 1) = kSS (kRR k rs i) (rs.getD i ([], 0)).1 (rs.getD i ([], 0)).1.length + 1 := rfl
    omega
theorem kTT_bound {t : Tb} (k : Int) (h : TbSmall t) : kTT k t ≤ k + 2305843009217888256 := by
  have := kRR_bound (k + 3 * t.cols.length) h.2.2 _ (Nat.le_refl _)
  have h1 := h.1
  have h2 := h.2.1
  unfold kTT
  omega

set_option maxRecDepth 100000 in
theorem markT_f (v : Value) (t : Tb) (S : Nat → Prop) (k0 : Int) (w : World) (h : TabF w v t S) (hlt : ∀ x, S x → x < w.heap.size) (hk0 : 0 ≤ k0) (hk1 : kTT k0 t ≤ 9223372036854775807) :
    Calls Tryz.prog 13 #[v, .int .i64 k0] w fun e w' => e = .returned (.int .i64 (kTT k0 t)) ∧ TabF w' v (mkT k0 t) S ∧ OnlyS S w w' := by
  obtain ⟨A1, c1, A2, c2, S1, S2, rfl, h1, h2, h3, h4, h5⟩ := h
  have hlow := kTT_low k0 t
  obtain ⟨cs, x, rs⟩ := t
  unfold mkT kTT at *
  simp only [] at *
  have hb : Below w.heap.size w (w.alloc (.cells #[.slice A1 cs.length c1, .int .i64 x, .slice A2 rs.length c2] 34)) := (Below.refl _ _).alloc (Nat.le_refl _) _
  have X := Lib.hid (TBox.made w A1 cs.length c1 x A2 rs.length c2 34)
  have H4 := Lib.hid (h4.keep (KeepS.of_below hb _))
  have H5 := Lib.hid (h5.keep (KeepS.of_below hb _))
  have HB := Lib.hid hb
  have HK := Lib.hid (And.intro hk0 (And.intro hk1 hlow))
  have HS := Lib.hid (And.intro h1 (And.intro h2 h3))
  have HL := Lib.hid hlt
  clear h1 h2 h3 h4 h5 hb hk0 hk1 hlow hlt
  obtain ⟨p0, p1, p2, p3⟩ := X.out
  clear p3
  go_enter Tryz.func13, Tryz.ntmps13
  go_wp2_with fail
  clear p0 p1 p2
  refine (markCC_f A1 c1 cs S1 k0 _ H4.out HK.out.1 (by have := HK.out; omega)).mono ?_
  rintro e w1 ⟨rfl, r1, o1⟩
  have hz2 := X.out.2.2.2
  have kk : KeepS (fun x => x = w.heap.size) _ w1 := o1.keep fun x hx h => by have := HL.out x (HS.out.1 x h); omega
  have p2 := (kk.cell rfl hz2 2).trans X.out.2.2.1
  have H51 := Lib.hid (H5.out.keep (o1.keep fun x hx h => HS.out.2.2 x h hx))
  have R1 := Lib.hid r1
  have O1 := Lib.hid o1
  clear r1 o1 kk hz2
  go_wp2_with fail
  clear p2
  refine (markRR_f A2 c2 rs S2 (k0 + 3 * cs.length) _ H51.out (by have := HK.out; omega) HK.out.2.1).mono ?_
  rintro e w2 ⟨rfl, r2, o2⟩
  have R2 := Lib.hid (And.intro r2 o2)
  clear r2 o2
  go_wp2
  go_ret
  exact ⟨rfl, ⟨A1, c1, A2, c2, S1, S2, by rw [mkCC_len, mkRR_len], HS.out.1, HS.out.2.1, HS.out.2.2, R1.out.keep (R2.out.2.keep HS.out.2.2), R2.out.1⟩, ((OnlyS.of_below HB.out _).trans (O1.out.imp HS.out.1)).trans (R2.out.2.imp HS.out.2.1)⟩
theorem IntF.mark {w w' : World} {S : Nat → Prop} {g : Nat} (h : OnlyS S w w') (hg : S g) (o : Nat) (v : Value) : OnlyS S w (w'.setCell ⟨g, o, none⟩ v) := h.set hg o v

set_option maxRecDepth 100000 in
set_option maxHeartbeats 1000000 in
theorem markI_f (A : Option Addr) (c : Nat) (ns : List Int) (S : Nat → Prop) (k0 : Int) (w : World) (h : IntF w A c ns S) (hk0 : 0 ≤ k0) (hk1 : k0 + ns.length ≤ 9223372036854775807) :
    Calls Tryz.prog 14 #[.slice A ns.length c, .int .i64 k0] w fun e w' => e = .returned (.int .i64 (k0 + ns.length)) ∧ IntF w' A c (marksN k0 ns.length) S ∧ OnlyS S w w' := by
  obtain ⟨h1, h2, _, h5⟩ := h
  obtain ⟨n, hnn⟩ : ∃ n, ns.length = n := ⟨_, rfl⟩
  rw [hnn] at h1 h5 hk1 ⊢
  have hc9 : n ≤ 9223372036854775807 := by omega
  have HC := Lib.hid (And.intro h1 h2)
  have HF := Lib.hid (show ∀ x ∈ marksN k0 n, I64 x from fun x hx => by
    obtain ⟨i, hi, rfl⟩ := List.mem_map.1 hx
    have := List.mem_range.1 hi
    unfold I64; omega)
  clear h1 h2 hnn
  rcases h5 with hz | ⟨g, rfl, hS, hb, _⟩
  · subst hz
    go_enter Tryz.func14, Tryz.ntmps14
    go_wp2
    go_loop [1, 5] (fun q i => q = .int .i64 k0 ∧ i = .int .i64 0) (fun _ _ => 0)
    case atStart => exact ⟨rfl, rfl⟩
    case round =>
      obtain ⟨rfl, rfl⟩ := hrel
      go_wp2
      go_ret
      exact ⟨by simp, ⟨Nat.zero_le _, HC.out.2, HF.out, .inl rfl⟩, OnlyS.refl S w⟩
  · have HS := Lib.hid hS
    clear hS
    go_enter Tryz.func14, Tryz.ntmps14
    go_wp2
    go_loopw [1, 5] (fun q i wr => ∃ k : Nat, k ≤ n ∧ i = .int .i64 k ∧ q = .int .i64 (k0 + k) ∧ Hid (∀ j, j < k → wr.cell? ⟨g, j, none⟩ = some (.int .i64 (k0 + j))) ∧ OwnBlk wr g n ∧ OnlyS S w wr) (fun _ i _ => n - (intOf i).toNat)
    case atStart => exact ⟨0, Nat.zero_le _, rfl, by simp, Lib.hid (fun j hj => absurd hj (by omega)), hb, OnlyS.refl S w⟩
    case round =>
      obtain ⟨k, hk, rfl, rfl, hrow, ho, hgr⟩ := hrel
      by_cases hlt : k < n
      · have hkl : (k : Int) < (n : Int) := by omega
        obtain ⟨v0, g0⟩ := ho.1 k hlt
        have f0 := ho.2.1 k
        have HP := Lib.hid (show (∀ j, j < k + 1 → (wr.setCell ⟨g, k, none⟩ (.int .i64 (k0 + k))).cell? ⟨g, j, none⟩ = some (.int .i64 (k0 + j))) ∧ OwnBlk (wr.setCell ⟨g, k, none⟩ (.int .i64 (k0 + k))) g n ∧ OnlyS S w (wr.setCell ⟨g, k, none⟩ (.int .i64 (k0 + k))) from by
          refine ⟨fun j hj => ?_, ho.set k _, hgr.set HS.out k _⟩
          rw [set_at ho hlt]
          by_cases e : j = k
          · rw [if_pos e, e]
          · rw [if_neg e]; exact hrow.out j (by omega))
        clear hrow hgr
        go_wp2
        go_roundw
        case rel => exact ⟨k + 1, hlt, by go_num, congrArg (Value.int .i64) (by omega), Lib.hid HP.out.1, HP.out.2.1, HP.out.2.2⟩
        case measure => simp [intOf]; omega
      · obtain rfl : k = n := by omega
        go_wp2
        go_ret
        refine ⟨rfl, ⟨by rw [marksN_len]; exact HC.out.1, HC.out.2, HF.out, .inr ⟨g, rfl, HS.out, by rw [marksN_len]; exact ho, ?_⟩⟩, hgr⟩
        rw [marksN_len]
        intro i hi
        rw [hrow.out i hi, marksN_at hi]
set_option maxRecDepth 100000 in
theorem markR_f (v : Value) (r : Rs) (S : Nat → Prop) (k0 : Int) (w : World) (h : ResF w v r S) (_hlt : ∀ x, S x → x < w.heap.size) (hk0 : 0 ≤ k0) (hk1 : k0 + r.2.length ≤ 9223372036854775807) :
    Calls Tryz.prog 15 #[v, .int .i64 k0] w fun e w' => e = .returned (.int .i64 (k0 + r.2.length)) ∧ ResF w' v (r.1, marksN k0 r.2.length) S ∧ OnlyS S w w' := by
  obtain ⟨A, c, rfl, h1⟩ := h
  obtain ⟨x, ns⟩ := r
  simp only [] at h1 hk1 ⊢
  have hb : Below w.heap.size w (w.alloc (.cells #[.int .i64 x, .slice A ns.length c] 29)) := (Below.refl _ _).alloc (Nat.le_refl _) _
  have H := Lib.hid (h1.keep (KeepS.of_below hb _))
  have HB := Lib.hid hb
  clear h1 hb
  go_enter Tryz.func15, Tryz.ntmps15
  go_wp2_with fail
  refine (markI_f A c ns S k0 _ H.out hk0 hk1).mono ?_
  rintro e w1 ⟨rfl, ho, ht⟩
  have HO := Lib.hid (And.intro ho ht)
  clear ho ht
  go_wp2
  go_ret
  exact ⟨rfl, ⟨A, c, by rw [marksN_len], HO.out.1⟩, (OnlyS.of_below HB.out _).trans HO.out.2⟩
end Go.Proofs.YtamfmemdhldmjaaGreatDoor

namespace Go.Proofs.YtamfmemdhldmjaaGreatDoor
open Go.RowKit Sets

theorem heldI_f (A : Option Addr) (c n : Nat) (k0 : Int) (w : World) (h : IntsAt w w.heap.size A c (marksN k0 n)) (hk0 : 1 ≤ k0) (hk1 : k0 + n ≤ 1048577) :
    Calls Tryz.prog 31 #[.slice A n c, .int .i64 k0] w fun e w' => e = .returned (.int .i64 (k0 + n)) ∧ Below w.heap.size w w' :=
  sameBelow (heldI_any A c n k0 w h (by omega) (by omega) (by omega))
theorem heldR_f (v : Value) (r : Rs) (k0 : Int) (w : World) (h : ResAt w w.heap.size v (r.1, marksN k0 r.2.length)) (hk0 : 1 ≤ k0) (hk1 : k0 + r.2.length ≤ 1048577) :
    Calls Tryz.prog 16 #[v, .int .i64 k0] w fun e w' => e = .returned (.int .i64 (k0 + r.2.length)) ∧ Below w.heap.size w w' := by
  obtain ⟨A, c, rfl, hI⟩ := h
  simp only [marksN_len] at hI ⊢
  exact heldR_any A c r.2.length r.1 k0 w hI (by omega) (by omega) (by omega)

end Go.Proofs.YtamfmemdhldmjaaGreatDoor
