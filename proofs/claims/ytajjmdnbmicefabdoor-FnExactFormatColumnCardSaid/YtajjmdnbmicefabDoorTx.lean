/-
  Plain facts on the texts of columns: what a text describes, as both programs read it.
-/
import Derived.Test.YtajjmdnbmicefabDoorTw
namespace Go.Proofs.YtajjmdnbmicefabDoor
namespace Sets

theorem fC_yes {L : Bool} {a b : Int} (h : colB L a b = true) : fC L a b = vT L a ++ (dots ++ vT L b) := by unfold fC; rw [if_pos h]
theorem fC_no {L : Bool} {a b : Int} (h : colB L a b = false) : fC L a b = [] := by unfold fC; rw [h]; rfl
theorem in_lo {L : Bool} {a b : Int} (h : colB L a b = true) : inB L a b a = true := (inB_iff _ _ _ _).2 ⟨h, Int.le_refl _, ((colB_iff _ _ _).1 h).2.1⟩
theorem in_hi {L : Bool} {a b : Int} (h : colB L a b = true) : inB L a b b = true := (inB_iff _ _ _ _).2 ⟨h, ((colB_iff _ _ _).1 h).2.1, Int.le_refl _⟩

/-- what a text of a column of one kind describes -/
def cO (L : Bool) (l : Bs) : Option (Int × Int) :=
  if (rdO L (Lib.cut l dots).1).2 = true ∧ (rdO L (Lib.cut l dots).2.1).2 = true ∧ fC L (rdO L (Lib.cut l dots).1).1 (rdO L (Lib.cut l dots).2.1).1 = l
  then some ((rdO L (Lib.cut l dots).1).1, (rdO L (Lib.cut l dots).2.1).1) else none
theorem cut_nil : Lib.cut [] dots = ([], [], false) := cut_plain fun c hc => by cases hc
theorem cO_iff (L : Bool) (l : Bs) (a b : Int) : cO L l = some (a, b) ↔ colB L a b = true ∧ fC L a b = l := by
  constructor
  · intro h
    unfold cO at h
    split at h
    · rename_i hc
      obtain ⟨h1, h2, h3⟩ := hc
      injection h with h
      injection h with ha hb
      rw [ha, hb] at h3
      refine ⟨?_, h3⟩
      cases hc : colB L a b with
      | true => rfl
      | false =>
        exfalso
        rw [fC_no hc] at h3
        subst h3
        rw [cut_nil] at h1
        exact rdO_ne h1 rfl
    · cases h
  · rintro ⟨hc, rfl⟩
    have hx := in_lo hc
    have hy := in_hi hc
    have hcut := cut_at (p := vT L a) (r := vT L b) fun c hc => (okByte_ne ((vT_bytes hx).2.2.2 c hc)).1
    unfold cO
    rw [fC_yes hc, hcut]
    simp only [rdO_vT hx, rdO_vT hy]
    rw [if_pos ⟨trivial, trivial, fC_yes hc⟩]

/-- what ParseColumn answers -/
def pcO (l : Bs) : Option (Bool × Int × Int) :=
  match cO false l with
  | some p => some (false, p)
  | none => (cO true l).map fun p => (true, p)
def pcV (l : Bs) : Bool × Int × Int := (pcO l).getD (false, 0, 0)
def pcB (l : Bs) : Bool := (pcO l).isSome
theorem pc_num {l : Bs} {a b : Int} (h : cO false l = some (a, b)) : pcV l = (false, a, b) ∧ pcB l = true := by
  unfold pcV pcB pcO
  rw [h]
  exact ⟨rfl, rfl⟩
theorem pc_let {l : Bs} {a b : Int} (h0 : cO false l = none) (h : cO true l = some (a, b)) : pcV l = (true, a, b) ∧ pcB l = true := by
  unfold pcV pcB pcO
  rw [h0, h]
  exact ⟨rfl, rfl⟩
theorem pc_none {l : Bs} (h0 : cO false l = none) (h : cO true l = none) : pcV l = (false, 0, 0) ∧ pcB l = false := by
  unfold pcV pcB pcO
  rw [h0, h]
  exact ⟨rfl, rfl⟩
theorem noDig_46 (t : Bs) : noDig (46 :: t) := .inr ⟨46, t, rfl, by decide⟩
/-- the program's reading -/
theorem cO_bad1 {L : Bool} {l : Bs} (h : (rdO L (Lib.cut l dots).1).2 = false) : cO L l = none := by
  unfold cO
  rw [if_neg]
  rintro ⟨h1, _⟩
  rw [h] at h1
  cases h1
theorem cO_bad2 {L : Bool} {l : Bs} (h : (rdO L (Lib.cut l dots).2.1).2 = false) : cO L l = none := by
  unfold cO
  rw [if_neg]
  rintro ⟨_, h1, _⟩
  rw [h] at h1
  cases h1
theorem cO_bad3 {L : Bool} {l : Bs} (h : fC L (rdO L (Lib.cut l dots).1).1 (rdO L (Lib.cut l dots).2.1).1 ≠ l) : cO L l = none := by
  unfold cO
  rw [if_neg]
  rintro ⟨_, _, h1⟩
  exact h h1
theorem cO_good {L : Bool} {l : Bs} (h1 : (rdO L (Lib.cut l dots).1).2 = true) (h2 : (rdO L (Lib.cut l dots).2.1).2 = true) (h3 : fC L (rdO L (Lib.cut l dots).1).1 (rdO L (Lib.cut l dots).2.1).1 = l) :
    cO L l = some ((rdO L (Lib.cut l dots).1).1, (rdO L (Lib.cut l dots).2.1).1) := by
  unfold cO
  rw [if_pos ⟨h1, h2, h3⟩]
/-- the model's: of the widest column of a kind -/
def kLo (L : Bool) : Int := if L = true then 0 else -99
def kHi (L : Bool) : Int := if L = true then 25 else 99
theorem kind_col (L : Bool) : colB L (kLo L) (kHi L) = true := by cases L <;> rfl
theorem kind_in {L : Bool} {a b : Int} (h : colB L a b = true) : inB L (kLo L) (kHi L) a = true ∧ inB L (kLo L) (kHi L) b = true := by
  obtain ⟨c1, c2, c3, c4⟩ := (colB_iff _ _ _).1 h
  cases L with
  | false => exact ⟨(inB_iff _ _ _ _).2 ⟨rfl, by simp [kLo]; omega, by simp [kHi]; omega⟩, (inB_iff _ _ _ _).2 ⟨rfl, by simp [kLo]; omega, by simp [kHi]; omega⟩⟩
  | true =>
    have := c4 rfl
    exact ⟨(inB_iff _ _ _ _).2 ⟨rfl, by simp [kLo]; omega, by simp [kHi]; omega⟩, (inB_iff _ _ _ _).2 ⟨rfl, by simp [kLo]; omega, by simp [kHi]; omega⟩⟩
theorem cO_shape {L : Bool} {l : Bs} {a b : Int} (h : cO L l = some (a, b)) :
    valP L (kLo L) (kHi L) l = (a, (vT L a).length) ∧ (vT L a).length ≠ 0 ∧ (vT L a).length + 2 ≤ l.length ∧ (l.drop (vT L a).length).take 2 = dots ∧ l.drop ((vT L a).length + 2) = vT L b ∧ pvN L (kLo L) (kHi L) (vT L b) = b ∧ pvB L (kLo L) (kHi L) (vT L b) = true ∧ colB L a b = true := by
  obtain ⟨hc, rfl⟩ := (cO_iff _ _ _ _).1 h
  obtain ⟨k1, k2⟩ := kind_in hc
  rw [fC_yes hc]
  have hne := (vT_bytes k1).1
  have hp := pvO_some (L := L) (a := kLo L) (b := kHi L) (l := vT L b) ⟨k2, rfl⟩
  refine ⟨valP_text k1 (noDig_46 _), fun h => hne (List.eq_nil_of_length_eq_zero h), by simp [dots], ?_, ?_, ?_, ?_, hc⟩
  · rw [List.drop_left]; rfl
  · rw [← List.drop_drop, List.drop_left]; rfl
  · unfold pvN; rw [hp]; rfl
  · unfold pvB; rw [hp]; rfl
theorem cO_none {L : Bool} {l : Bs} (h : ∀ a b, cO L l ≠ some (a, b)) : cO L l = none := by
  cases hc : cO L l with
  | none => rfl
  | some p => exact absurd hc (h p.1 p.2)
theorem cM_zero {L : Bool} {l : Bs} (h : (valP L (kLo L) (kHi L) l).2 = 0) : cO L l = none := cO_none fun a b hs => by
  obtain ⟨e, h1, _⟩ := cO_shape hs
  rw [e] at h
  exact h1 h
theorem cM_short {L : Bool} {l : Bs} (h : l.length < (valP L (kLo L) (kHi L) l).2 + 2) : cO L l = none := cO_none fun a b hs => by
  obtain ⟨e, h1, h2, _⟩ := cO_shape hs
  rw [e] at h
  exact absurd h2 (by simp only at h; omega)
theorem cM_dots {L : Bool} {l : Bs} (h : (l.drop (valP L (kLo L) (kHi L) l).2).take 2 ≠ dots) : cO L l = none := cO_none fun a b hs => by
  obtain ⟨e, h1, h2, h3, _⟩ := cO_shape hs
  rw [e] at h
  exact h h3
theorem cM_hi {L : Bool} {l : Bs} (h : pvB L (kLo L) (kHi L) (l.drop ((valP L (kLo L) (kHi L) l).2 + 2)) = false) : cO L l = none := cO_none fun a b hs => by
  obtain ⟨e, h1, h2, h3, h4, h5, h6, h7⟩ := cO_shape hs
  rw [e] at h
  simp only at h
  rw [h4, h6] at h
  cases h
theorem cM_col {L : Bool} {l : Bs} (h : colB L (valP L (kLo L) (kHi L) l).1 (pvN L (kLo L) (kHi L) (l.drop ((valP L (kLo L) (kHi L) l).2 + 2))) = false) : cO L l = none := cO_none fun a b hs => by
  obtain ⟨e, h1, h2, h3, h4, h5, h6, h7⟩ := cO_shape hs
  rw [e] at h
  simp only at h
  rw [h4, h5, h7] at h
  cases h
theorem cM_yes {L : Bool} {l : Bs} (h0 : (valP L (kLo L) (kHi L) l).2 ≠ 0) (_ : (valP L (kLo L) (kHi L) l).2 + 2 ≤ l.length) (h3 : (l.drop (valP L (kLo L) (kHi L) l).2).take 2 = dots)
    (h4 : pvB L (kLo L) (kHi L) (l.drop ((valP L (kLo L) (kHi L) l).2 + 2)) = true) (h5 : colB L (valP L (kLo L) (kHi L) l).1 (pvN L (kLo L) (kHi L) (l.drop ((valP L (kLo L) (kHi L) l).2 + 2))) = true) :
    cO L l = some ((valP L (kLo L) (kHi L) l).1, pvN L (kLo L) (kHi L) (l.drop ((valP L (kLo L) (kHi L) l).2 + 2))) := by
  obtain ⟨p1, p2, p3, p4⟩ := valP_pos (kind_col L) h0
  obtain ⟨q1, q2⟩ := pv_back h4
  rw [fV_yes q2] at q1
  generalize pvN L (kLo L) (kHi L) (l.drop ((valP L (kLo L) (kHi L) l).2 + 2)) = n at h5 q1 q2 ⊢
  refine (cO_iff _ _ _ _).2 ⟨h5, ?_⟩
  rw [fC_yes h5, ← p2, q1]
  generalize (valP L (kLo L) (kHi L) l).2 = k at h3 ⊢
  have e1 : l.drop k = dots ++ l.drop (k + 2) := by
    have := List.take_append_drop 2 (l.drop k)
    rw [h3, List.drop_drop] at this
    exact this.symm
  rw [← e1, List.take_append_drop]
/-- what the text of a column describes -/
theorem pc_back {L : Bool} {a b : Int} (h : colB L a b = true) : pcV (fC L a b) = (L, a, b) ∧ pcB (fC L a b) = true := by
  have hc := (cO_iff L (fC L a b) a b).2 ⟨h, rfl⟩
  cases L with
  | false => exact pc_num hc
  | true =>
    refine pc_let (cO_none fun x y hs => ?_) hc
    obtain ⟨h1, h2⟩ := (cO_iff _ _ _ _).1 hs
    rw [fC_yes h, fC_yes h1] at h2
    obtain ⟨c, t, e, hd⟩ : ∃ c t, vT false x = c :: t ∧ (c.toNat = 45 ∨ (48 ≤ c.toNat ∧ c.toNat ≤ 57)) := by
      obtain ⟨k1, k2⟩ := kind_in h1
      obtain ⟨r1, r2, r3⟩ := (inB_iff _ _ _ _).1 k1
      have := decT_bytes x ((mem_nums x).2 ⟨by simpa [kLo] using r2, by simpa [kHi] using r3⟩)
      rw [vT_num]
      cases hv : decT x with
      | nil => exact absurd hv this.1
      | cons c t => exact ⟨c, t, rfl, this.2.2.2 c (by rw [hv]; exact List.mem_cons_self)⟩
    rw [e, vT_let] at h2
    obtain ⟨c1, c2, c3, c4⟩ := (colB_iff _ _ _).1 h
    have := c4 rfl
    have hl := let_bytes ⟨a.toNat, by omega⟩
    simp only at hl
    injection h2 with h2 _
    rw [h2, hl] at hd
    omega
end Sets
end Go.Proofs.YtajjmdnbmicefabDoor
