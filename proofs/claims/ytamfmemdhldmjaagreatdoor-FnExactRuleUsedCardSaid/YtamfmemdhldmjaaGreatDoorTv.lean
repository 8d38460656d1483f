/-
  Plain facts on the texts of values of columns: letters and numbers between -99 and 99.
-/
import Derived.Test.YtamfmemdhldmjaaGreatDoorPureM
import Derived.Lib.ItoaNum
import Derived.Lib.IndexMore
import Derived.Lib.Join
namespace Go.Proofs.YtamfmemdhldmjaaGreatDoor
namespace Sets

abbrev Bs := List UInt8

/-- The column of kind L from a to b is one. -/
def colB (L : Bool) (a b : Int) : Bool := decide (-99 ≤ a) && (decide (a ≤ b) && (decide (b ≤ 99) && (!L || (decide (a = 0) && decide (b ≤ 25)))))
theorem colB_iff (L : Bool) (a b : Int) : colB L a b = true ↔ -99 ≤ a ∧ a ≤ b ∧ b ≤ 99 ∧ (L = true → a = 0 ∧ b ≤ 25) := by
  unfold colB
  cases L <;> simp
def colS (L : Bool) (a b : Int) : List Sp := if colB L a b = true then [(a, b)] else []
theorem colS_yes {L : Bool} {a b : Int} (h : colB L a b = true) : colS L a b = [(a, b)] := by unfold colS; rw [if_pos h]
theorem colS_no {L : Bool} {a b : Int} (h : colB L a b = false) : colS L a b = [] := by unfold colS; rw [h]; rfl
/-- n is a value of it. -/
def inB (L : Bool) (a b n : Int) : Bool := colB L a b && (decide (a ≤ n) && decide (n ≤ b))
theorem inB_iff (L : Bool) (a b n : Int) : inB L a b n = true ↔ colB L a b = true ∧ a ≤ n ∧ n ≤ b := by unfold inB; simp

def dec2 (i : Nat) : Bs := if i < 10 then [UInt8.ofNat (48 + i)] else [UInt8.ofNat (48 + i / 10), UInt8.ofNat (48 + i % 10)]
theorem dec2_eq {i : Nat} (h : i < 100) : Lib.decDigits i = dec2 i := by
  unfold dec2
  by_cases h1 : i < 10
  · rw [if_pos h1, Lib.decDigits_one h1]
  · rw [if_neg h1, Lib.decDigits_two h1 h]
def decT (n : Int) : Bs := if n < 0 then 45 :: dec2 n.natAbs else dec2 n.toNat
theorem decT_eq {n : Int} (h1 : -99 ≤ n) (h2 : n ≤ 99) : Lib.itoa n = decT n := by
  unfold Lib.itoa decT
  rw [dec2_eq (by omega), dec2_eq (by omega)]
/-- The text of a value. -/
def vT (L : Bool) (n : Int) : Bs := if L = true then [UInt8.ofNat (65 + n.toNat)] else decT n
theorem vT_let (n : Int) : vT true n = [UInt8.ofNat (65 + n.toNat)] := rfl
theorem vT_num (n : Int) : vT false n = decT n := rfl
def fV (L : Bool) (a b n : Int) : Bs := if inB L a b n = true then vT L n else []
theorem fV_yes {L : Bool} {a b n : Int} (h : inB L a b n = true) : fV L a b n = vT L n := by unfold fV; rw [if_pos h]
theorem fV_no {L : Bool} {a b n : Int} (h : inB L a b n = false) : fV L a b n = [] := by unfold fV; rw [h]; rfl

def nums : List Int := (List.range 199).map fun (i : Nat) => (i : Int) - 99
theorem mem_nums (n : Int) : n ∈ nums ↔ -99 ≤ n ∧ n ≤ 99 := by
  unfold nums
  rw [List.mem_map]
  constructor
  · rintro ⟨i, hi, rfl⟩
    have := List.mem_range.1 hi
    omega
  · rintro ⟨h1, h2⟩
    exact ⟨(n + 99).toNat, List.mem_range.2 (by omega), by omega⟩

/-- reading digits: the number of a text of digits, as long as it stays at most 99 -/
def isDig (c : UInt8) : Bool := decide (48 ≤ c.toNat) && decide (c.toNat ≤ 57)
theorem isDig_iff (c : UInt8) : isDig c = true ↔ 48 ≤ c.toNat ∧ c.toNat ≤ 57 := by unfold isDig; simp
def rdF : Bs → Int → Option Int
  | [], n => some n
  | c :: t, n => if isDig c = true ∧ 10 * n + ((c.toNat : Int) - 48) ≤ 99 then rdF t (10 * n + ((c.toNat : Int) - 48)) else none
/-- what the program's reader of numbers answers -/
def negB (l : Bs) : Bool := Lib.hasPrefix l [45]
def digsOf (l : Bs) : Bs := if negB l = true then l.drop 1 else l
def rdN (l : Bs) : Int × Bool :=
  match rdF (digsOf l) 0 with
  | none => (0, false)
  | some n => (if negB l = true then -n else n, !(digsOf l).isEmpty)
/-- what its reader of letters answers -/
def isLet (c : UInt8) : Bool := decide (65 ≤ c.toNat) && decide (c.toNat ≤ 90)
theorem isLet_iff (c : UInt8) : isLet c = true ↔ 65 ≤ c.toNat ∧ c.toNat ≤ 90 := by unfold isLet; simp
def rdL : Bs → Int × Bool
  | [] => (0, false)
  | [c] => if isLet c = true then ((c.toNat : Int) - 65, true) else (0, false)
  | _ :: _ :: _ => (0, false)
def rdO (L : Bool) (l : Bs) : Int × Bool := if L = true then rdL l else rdN l

theorem rdN_decT : ∀ n ∈ nums, rdN (decT n) = (n, true) := by decide +kernel
theorem rdL_let : ∀ i : Fin 26, rdL [UInt8.ofNat (65 + i.val)] = ((i.val : Int), true) := by decide +kernel
theorem rdO_vT {L : Bool} {a b n : Int} (h : inB L a b n = true) : rdO L (vT L n) = (n, true) := by
  obtain ⟨hc, h1, h2⟩ := (inB_iff _ _ _ _).1 h
  obtain ⟨c1, c2, c3, c4⟩ := (colB_iff _ _ _).1 hc
  cases L with
  | false => exact rdN_decT n ((mem_nums n).2 ⟨by omega, by omega⟩)
  | true =>
    have := c4 rfl
    have := rdL_let ⟨n.toNat, by omega⟩
    show rdL [UInt8.ofNat (65 + n.toNat)] = _
    rw [this]
    simp; omega
theorem vT_inj {L : Bool} {a b m n : Int} (hm : inB L a b m = true) (hn : inB L a b n = true) (h : vT L m = vT L n) : m = n := by
  have e1 := rdO_vT hm
  have e2 := rdO_vT hn
  rw [h, e2] at e1
  exact (congrArg Prod.fst e1).symm

/-- n is the value with the text l. -/
def PV (L : Bool) (a b : Int) (l : Bs) (n : Int) : Prop := inB L a b n = true ∧ vT L n = l
def pvO (L : Bool) (a b : Int) (l : Bs) : Option Int := nums.find? fun n => inB L a b n && (vT L n == l)
theorem PV.num {L : Bool} {a b : Int} {l : Bs} {n : Int} (h : PV L a b l n) : -99 ≤ n ∧ n ≤ 99 := by
  obtain ⟨hc, h1, h2⟩ := (inB_iff _ _ _ _).1 h.1
  obtain ⟨c1, c2, c3, c4⟩ := (colB_iff _ _ _).1 hc
  omega
theorem PV.unique {L : Bool} {a b : Int} {l : Bs} {m n : Int} (hm : PV L a b l m) (hn : PV L a b l n) : m = n := vT_inj hm.1 hn.1 (hm.2.trans hn.2.symm)
theorem pvO_PV {L : Bool} {a b : Int} {l : Bs} {n : Int} (h : pvO L a b l = some n) : PV L a b l n := by
  have := List.find?_some h
  simp only [Bool.and_eq_true, beq_iff_eq] at this
  exact this
theorem pvO_none {L : Bool} {a b : Int} {l : Bs} (h : pvO L a b l = none) (n : Int) : ¬ PV L a b l n := by
  intro hp
  have := List.find?_eq_none.1 h n ((mem_nums n).2 hp.num)
  simp only [Bool.and_eq_true, beq_iff_eq] at this
  exact this hp
theorem pvO_some {L : Bool} {a b : Int} {l : Bs} {n : Int} (h : PV L a b l n) : pvO L a b l = some n := by
  cases hc : pvO L a b l with
  | none => exact absurd h (pvO_none hc n)
  | some m => rw [(pvO_PV hc).unique h]
theorem pvO_no {L : Bool} {a b : Int} {l : Bs} (h : ∀ n, ¬ PV L a b l n) : pvO L a b l = none := by
  cases hc : pvO L a b l with
  | none => rfl
  | some m => exact absurd (pvO_PV hc) (h m)
/-- What ParseValue answers. -/
def pvN (L : Bool) (a b : Int) (l : Bs) : Int := (pvO L a b l).getD 0
def pvB (L : Bool) (a b : Int) (l : Bs) : Bool := (pvO L a b l).isSome

theorem decT_bytes : ∀ n ∈ nums, decT n ≠ [] ∧ decT n ≠ [45] ∧ (decT n).length ≤ 3 ∧ ∀ c ∈ decT n, c.toNat = 45 ∨ (48 ≤ c.toNat ∧ c.toNat ≤ 57) := by decide +kernel
theorem let_bytes : ∀ i : Fin 26, (UInt8.ofNat (65 + i.val)).toNat = 65 + i.val := by decide +kernel
/-- what the bytes of a value's text are -/
def okByte (c : UInt8) : Prop := c.toNat = 45 ∨ (48 ≤ c.toNat ∧ c.toNat ≤ 57) ∨ (65 ≤ c.toNat ∧ c.toNat ≤ 90)
theorem vT_bytes {L : Bool} {a b n : Int} (h : inB L a b n = true) : vT L n ≠ [] ∧ vT L n ≠ [45] ∧ (vT L n).length ≤ 3 ∧ ∀ c ∈ vT L n, okByte c := by
  obtain ⟨hc, h1, h2⟩ := (inB_iff _ _ _ _).1 h
  obtain ⟨c1, c2, c3, c4⟩ := (colB_iff _ _ _).1 hc
  cases L with
  | false =>
    obtain ⟨d1, d2, d3, d4⟩ := decT_bytes n ((mem_nums n).2 ⟨by omega, by omega⟩)
    exact ⟨d1, d2, d3, fun c hc => (d4 c hc).imp id .inl⟩
  | true =>
    have := c4 rfl
    have hl := let_bytes ⟨n.toNat, by omega⟩
    simp only at hl
    refine ⟨by simp [vT], ?_, by simp [vT], fun c hc => ?_⟩
    · intro e
      rw [vT_let, List.cons.injEq] at e
      have := congrArg UInt8.toNat e.1
      rw [hl] at this
      have h45 : (45 : UInt8).toNat = 45 := rfl
      omega
    · rw [vT_let, List.mem_singleton] at hc
      subst hc
      exact .inr (.inr (by omega))
theorem rdN_ne {l : Bs} (h : (rdN l).2 = true) : l ≠ [] := by
  rintro rfl
  simp [rdN, digsOf, negB, rdF, Lib.hasPrefix] at h
theorem rdL_ne {l : Bs} (h : (rdL l).2 = true) : l ≠ [] := by
  rintro rfl
  simp [rdL] at h
theorem rdO_ne {L : Bool} {l : Bs} (h : (rdO L l).2 = true) : l ≠ [] := by
  cases L
  · exact rdN_ne h
  · exact rdL_ne h
/-- the number that a reader hands back is small -/
theorem rdF_bound : ∀ (l : Bs) (n m : Int), 0 ≤ n → n ≤ 99 → rdF l n = some m → 0 ≤ m ∧ m ≤ 99
  | [], n, m, h0, h1, h => by simp only [rdF, Option.some.injEq] at h; omega
  | c :: t, n, m, h0, h1, h => by
    rw [rdF] at h
    split at h
    · rename_i hc
      have := (isDig_iff c).1 hc.1
      exact rdF_bound t _ m (by omega) hc.2 h
    · cases h
theorem rdN_bound (l : Bs) : -99 ≤ (rdN l).1 ∧ (rdN l).1 ≤ 99 := by
  unfold rdN
  cases h : rdF (digsOf l) 0 with
  | none => simp
  | some n =>
    have := rdF_bound _ 0 n (by omega) (by omega) h
    dsimp only
    split <;> omega
theorem rdL_bound (l : Bs) : -99 ≤ (rdL l).1 ∧ (rdL l).1 ≤ 99 := by
  match l with
  | [] => simp [rdL]
  | [c] =>
    rw [rdL]
    split
    · rename_i h
      have := (isLet_iff c).1 h
      dsimp only
      omega
    · simp
  | _ :: _ :: _ => simp [rdL]
theorem rdO_bound (L : Bool) (l : Bs) : -99 ≤ (rdO L l).1 ∧ (rdO L l).1 ≤ 99 := by
  cases L
  · exact rdN_bound l
  · exact rdL_bound l

/-- the program's ParseValue: read, and compare the text -/
theorem parse_yes {L : Bool} {a b : Int} {l : Bs} (h1 : (rdO L l).2 = true) (h2 : fV L a b (rdO L l).1 = l) : pvN L a b l = (rdO L l).1 ∧ pvB L a b l = true := by
  have hin : inB L a b (rdO L l).1 = true := by
    cases hi : inB L a b (rdO L l).1 with
    | true => rfl
    | false => rw [fV_no hi] at h2; exact absurd h2.symm (rdO_ne h1)
  rw [fV_yes hin] at h2
  have := pvO_some ⟨hin, h2⟩
  unfold pvN pvB
  rw [this]
  exact ⟨rfl, rfl⟩
theorem parse_no1 {L : Bool} {a b : Int} {l : Bs} (h1 : (rdO L l).2 = false) : pvN L a b l = 0 ∧ pvB L a b l = false := by
  have : pvO L a b l = none := pvO_no fun n hn => by
    have e := rdO_vT hn.1
    rw [hn.2] at e
    rw [e] at h1
    cases h1
  unfold pvN pvB
  rw [this]
  exact ⟨rfl, rfl⟩
theorem parse_no2 {L : Bool} {a b : Int} {l : Bs} (h2 : fV L a b (rdO L l).1 ≠ l) : pvN L a b l = 0 ∧ pvB L a b l = false := by
  have : pvO L a b l = none := pvO_no fun n hn => by
    have e := rdO_vT hn.1
    rw [hn.2] at e
    rw [e] at h2
    exact h2 ((fV_yes hn.1).trans hn.2)
  unfold pvN pvB
  rw [this]
  exact ⟨rfl, rfl⟩

/-- the text of a value is read back -/
theorem parse_fV {L : Bool} {a b n : Int} (h : inB L a b n = true) : pvN L a b (fV L a b n) = n ∧ pvB L a b (fV L a b n) = true := by
  have := pvO_some (L := L) (a := a) (b := b) (l := fV L a b n) ⟨h, (fV_yes h).symm⟩
  unfold pvN pvB
  rw [this]
  exact ⟨rfl, rfl⟩
theorem fV_nil {L : Bool} {a b n : Int} : fV L a b n = [] ↔ inB L a b n = false := by
  cases h : inB L a b n with
  | true => rw [fV_yes h]; simpa using (vT_bytes h).1
  | false => rw [fV_no h]; simp
theorem pv_back {L : Bool} {a b : Int} {l : Bs} (h : pvB L a b l = true) : fV L a b (pvN L a b l) = l ∧ inB L a b (pvN L a b l) = true := by
  unfold pvB at h
  unfold pvN
  cases hp : pvO L a b l with
  | none => rw [hp] at h; cases h
  | some n =>
    have := pvO_PV hp
    exact ⟨(fV_yes this.1).trans this.2, this.1⟩
theorem pv_no {L : Bool} {a b : Int} {l : Bs} (h : pvB L a b l = false) : pvN L a b l = 0 := by
  unfold pvB at h
  unfold pvN
  cases hp : pvO L a b l with
  | none => rfl
  | some n => rw [hp] at h; cases h
theorem pv_num (L : Bool) (a b : Int) (l : Bs) : -99 ≤ pvN L a b l ∧ pvN L a b l ≤ 99 := by
  unfold pvN
  cases hp : pvO L a b l with
  | none => simp
  | some n => exact (pvO_PV hp).num
end Sets
end Go.Proofs.YtamfmemdhldmjaaGreatDoor
