/-
  The ends of decisions: errors.Is over what the program hands back.
-/
import Derived.Test.YtamfmemdhldmjaaGreatDoorWaM
import Derived.LaidEql
import Derived.Stop.Asserts
import Derived.RowKitTokens
namespace Go.Proofs.YtamfmemdhldmjaaGreatDoor
open Go.RowKit Go.Stop Sets

/-- What the program's errors hold: three different pointers, each to a block of its own, now and in whatever world grows out of this one. -/
structure EndsIs (w : World) (a1 a2 a3 : Addr) : Prop where
  cell1 : ∀ w', Below w.heap.size w w' → w'.cell? ⟨1, 0, none⟩ = some (.iface 150 (.pointer (some a1)))
  cell2 : ∀ w', Below w.heap.size w w' → w'.cell? ⟨2, 0, none⟩ = some (.iface 150 (.pointer (some a2)))
  cell3 : ∀ w', Below w.heap.size w w' → w'.cell? ⟨0, 0, none⟩ = some (.iface 150 (.pointer (some a3)))
  ne12 : a1 ≠ a2
  ne13 : a1 ≠ a3
  ne23 : a2 ≠ a3
  row1 : ∀ w', Below w.heap.size w w' → ∃ c t, w'.heap[a1.block]? = some (.cells c t (0, 0))
  row2 : ∀ w', Below w.heap.size w w' → ∃ c t, w'.heap[a2.block]? = some (.cells c t (0, 0))
  row3 : ∀ w', Below w.heap.size w w' → ∃ c t, w'.heap[a3.block]? = some (.cells c t (0, 0))
theorem EndsIs.step {w w' : World} {a1 a2 a3 : Addr} (h : EndsIs w a1 a2 a3) (hb : Below w.heap.size w w') : EndsIs w' a1 a2 a3 where
  cell1 := fun w2 h2 => h.cell1 w2 (hb.trans (h2.mono hb.size))
  cell2 := fun w2 h2 => h.cell2 w2 (hb.trans (h2.mono hb.size))
  cell3 := fun w2 h2 => h.cell3 w2 (hb.trans (h2.mono hb.size))
  ne12 := h.ne12
  ne13 := h.ne13
  ne23 := h.ne23
  row1 := fun w2 h2 => h.row1 w2 (hb.trans (h2.mono hb.size))
  row2 := fun w2 h2 => h.row2 w2 (hb.trans (h2.mono hb.size))
  row3 := fun w2 h2 => h.row3 w2 (hb.trans (h2.mono hb.size))

abbrev endV (a : Addr) : Value := .iface 150 (.pointer (some a))
/-- the error of an end with its reason -/
abbrev reaV (s : Value) (a : Addr) : Value := .iface 114 (.agg #[s, endV a])

theorem isComp : (Tryz.prog.info? 150).map (·.comparable) = some true := by kernel_rfl
theorem isSize : (Tryz.prog.info? 178).map (·.size) = some 1 := by kernel_rfl
theorem isTypeOf (v : Value) (w : World) : (Extern.ReflectliteType.typeOf #[.iface 150 v]).run Tryz.prog w = .ok (.iface 137 (.agg #[.pointer (some ⟨Tryz.prog.globals.size, 150, none⟩)])) w := by kernel_rfl
theorem isComparable (w : World) : ((Extern.ReflectliteType.method fun t => do Extern.Rtype.noPackHeld "Comparable" t; pure (.bool (← typeInfo t).comparable)) #[.agg #[.pointer (some ⟨Tryz.prog.globals.size, 150, none⟩)]]).run Tryz.prog w = .ok (.bool true) w := by kernel_rfl
theorem runComparable (w : World) : (callFunc 135 #[.agg #[.pointer (some ⟨Tryz.prog.globals.size, 150, none⟩)]]).run Tryz.prog w = .ok (.value (.bool true)) w := by
  rw [@run_callFunc_extern Tryz.prog 135 _ (Extern.ReflectliteType.method fun t => do Extern.Rtype.noPackHeld "Comparable" t; pure (.bool (← typeInfo t).comparable)) Tryz.func135 (by kernel_rfl) (by kernel_rfl) (by kernel_rfl) (by kernel_rfl), isComparable]
  rfl
theorem isMethodComparable (n : Nat) (v : Value) (w : World) : (Go.method (n + 1) 137 v "Comparable").run Tryz.prog w = .ok (135, v) w := by kernel_rfl
theorem noIsE (v : Value) (xT : TypeId) (w : World) : (Instr.typeAssert (.iface 150 v) xT 139 true).run Tryz.prog w = .ok (.tuple #[.nilIface, .bool false]) w := run_typeAssert_lacksB Tryz.underlying139 (by kernel_rfl) (by kernel_rfl) v xT w
theorem noUnwrapE (v : Value) (xT : TypeId) (w : World) : (Instr.typeAssert (.iface 150 v) xT 142 true).run Tryz.prog w = .ok (.tuple #[.nilIface, .bool false]) w := run_typeAssert_lacksB Tryz.underlying142 (by kernel_rfl) (by kernel_rfl) v xT w
theorem noUnwrapsE (v : Value) (xT : TypeId) (w : World) : (Instr.typeAssert (.iface 150 v) xT 144 true).run Tryz.prog w = .ok (.tuple #[.nilIface, .bool false]) w := run_typeAssert_lacksB Tryz.underlying144 (by kernel_rfl) (by kernel_rfl) v xT w
theorem noIsR (v : Value) (xT : TypeId) (w : World) : (Instr.typeAssert (.iface 114 v) xT 139 true).run Tryz.prog w = .ok (.tuple #[.nilIface, .bool false]) w := run_typeAssert_lacksB Tryz.underlying139 (by kernel_rfl) (by kernel_rfl) v xT w
theorem hasUnwrapR (v : Value) (xT : TypeId) (w : World) : (Instr.typeAssert (.iface 114 v) xT 142 true).run Tryz.prog w = .ok (.tuple #[.iface 114 v, .bool true]) w := run_typeAssert_hasB Tryz.underlying142 (by kernel_rfl) v xT w
theorem methodUnwrap (n : Nat) (v : Value) (w : World) : (Go.method (n + 1) 114 v "Unwrap").run Tryz.prog w = .ok (128, v) w := by kernel_rfl

set_option maxRecDepth 100000 in
theorem unwrap_any (s v : Value) (w : World) : Calls Tryz.prog 128 #[.agg #[s, v]] w fun e w' => e = .returned v ∧ w.alloc (.cells #[s, v] 114) = w' := by
  go_enter Tryz.func128, Tryz.ntmps128
  go_wp2
  go_ret
  exact ⟨rfl, rfl⟩

set_option maxRecDepth 100000 in
set_option maxHeartbeats 4000000 in
/-- errors.is: an error with its reason is the end that it wraps. -/
theorem is_same (s : Value) (a : Addr) (w : World) :
    Calls Tryz.prog 100 #[reaV s a, endV a, .bool true] w fun e w' => e = .returned (.bool true) ∧ Below w.heap.size w w' := by
  obtain ⟨i, hi, hcmp⟩ := Option.map_eq_some_iff.1 isComp
  obtain ⟨j, hj, hjs⟩ := Option.map_eq_some_iff.1 isSize
  have hb : Below w.heap.size w (w.alloc (.cells #[s, endV a] 114)) := (Below.refl _ _).alloc (Nat.le_refl _) _
  have nR := noIsR
  have uR := hasUnwrapR
  have mU := methodUnwrap
  have heq := fun w => run_eql_iface_ptr_same (P := Tryz.prog) w a Tryz.underlying97 Tryz.underlying150 hi hcmp hj
  have hty := fun w => run_eql_iface_types (P := Tryz.prog) 114 150 (.agg #[s, endV a]) (.pointer (some a)) Tryz.underlying97 (by decide) w
  go_enter Tryz.func100, Tryz.ntmps100
  go_wp2
  refine wp_loop_rounds 2 ?_
  rw [rounds_succ]
  go_wp2_with (go_at_call 128; refine (unwrap_any s (endV a) _).mono ?_; rintro e w' ⟨rfl, rfl⟩)
  try trivial
  rw [rounds_succ]
  go_wp2
  try trivial
  go_ret
  exact ⟨rfl, hb⟩

set_option maxRecDepth 100000 in
set_option maxHeartbeats 4000000 in
/-- errors.is: .. and no other end. -/
theorem is_other (s : Value) (a b : Addr) (w : World) (hne : a ≠ b) (ha : ∀ w', Below w.heap.size w w' → ∃ c t, w'.heap[a.block]? = some (.cells c t (0, 0))) (hbb : ∀ w', Below w.heap.size w w' → ∃ c t, w'.heap[b.block]? = some (.cells c t (0, 0))) :
    Calls Tryz.prog 100 #[reaV s a, endV b, .bool true] w fun e w' => e = .returned (.bool false) ∧ Below w.heap.size w w' := by
  obtain ⟨i, hi, hcmp⟩ := Option.map_eq_some_iff.1 isComp
  obtain ⟨j, hj, hjs⟩ := Option.map_eq_some_iff.1 isSize
  have hb : Below w.heap.size w (w.alloc (.cells #[s, endV a] 114)) := (Below.refl _ _).alloc (Nat.le_refl _) _
  obtain ⟨ca, ta, hba⟩ := ha _ hb
  obtain ⟨cb, tb, hbc⟩ := hbb _ hb
  have nR := noIsR
  have uR := hasUnwrapR
  have mU := methodUnwrap
  have nE := noIsE
  have uE := noUnwrapE
  have vE := noUnwrapsE
  have heq := run_eql_iface_ptr_other (P := Tryz.prog) (w.alloc (.cells #[s, endV a] 114)) Tryz.underlying97 Tryz.underlying150 hi hcmp hj (by rw [hjs]; decide) hne hba hbc
  have hty := fun w => run_eql_iface_types (P := Tryz.prog) 114 150 (.agg #[s, endV a]) (.pointer (some b)) Tryz.underlying97 (by decide) w
  have HB := Lib.hid hb
  clear ha hbb hb hba hbc
  go_enter Tryz.func100, Tryz.ntmps100
  go_wp2
  refine wp_loop_rounds 2 ?_
  rw [rounds_succ]
  go_wp2_with (go_at_call 128; refine (unwrap_any s (endV a) _).mono ?_; rintro e w' ⟨rfl, rfl⟩)
  try trivial
  rw [rounds_succ]
  go_wp2
  try trivial
  go_ret
  exact ⟨rfl, HB.out⟩

set_option maxRecDepth 100000 in
set_option maxHeartbeats 4000000 in
theorem errIs_same (s : Value) (a : Addr) (w : World) :
    Calls Tryz.prog 82 #[reaV s a, endV a] w fun e w' => e = .returned (.bool true) ∧ Below w.heap.size w w' := by
  have h8 := @run_callFunc_extern Tryz.prog 99 _ Extern.ReflectliteType.typeOf Tryz.func99 (by kernel_rfl) (by kernel_rfl) (by kernel_rfl) (by kernel_rfl)
  obtain ⟨ng, hng⟩ : ∃ n, Tryz.prog.globals.size = n := ⟨_, rfl⟩
  have tT := isTypeOf
  have cT := runComparable
  simp only [hng] at tT cT
  clear hng
  have mR := isMethodComparable
  go_enter Tryz.func82, Tryz.ntmps82
  go_wp2_with (go_at_call 100; refine (is_same s a _).mono ?_; rintro e w' ⟨rfl, b⟩)
  try trivial
  go_ret
  exact ⟨rfl, b⟩
set_option maxRecDepth 100000 in
set_option maxHeartbeats 4000000 in
theorem errIs_other (s : Value) (a b : Addr) (w : World) (hne : a ≠ b) (ha : ∀ w', Below w.heap.size w w' → ∃ c t, w'.heap[a.block]? = some (.cells c t (0, 0))) (hbb : ∀ w', Below w.heap.size w w' → ∃ c t, w'.heap[b.block]? = some (.cells c t (0, 0))) :
    Calls Tryz.prog 82 #[reaV s a, endV b] w fun e w' => e = .returned (.bool false) ∧ Below w.heap.size w w' := by
  have h8 := @run_callFunc_extern Tryz.prog 99 _ Extern.ReflectliteType.typeOf Tryz.func99 (by kernel_rfl) (by kernel_rfl) (by kernel_rfl) (by kernel_rfl)
  obtain ⟨ng, hng⟩ : ∃ n, Tryz.prog.globals.size = n := ⟨_, rfl⟩
  have tT := isTypeOf
  have cT := runComparable
  simp only [hng] at tT cT
  clear hng
  have mR := isMethodComparable
  have HA := Lib.hid ha
  have HBB := Lib.hid hbb
  have HNE := Lib.hid hne
  clear ha hbb hne
  go_enter Tryz.func82, Tryz.ntmps82
  go_wp2_with (go_at_call 100; refine (is_other s a b _ HNE.out HA.out HBB.out).mono ?_; rintro e w' ⟨rfl, b⟩)
  try trivial
  go_ret
  exact ⟨rfl, b⟩
set_option maxRecDepth 100000 in
theorem errIs_nil (b : Addr) (w : World) :
    Calls Tryz.prog 82 #[.nilIface, endV b] w fun e w' => e = .returned (.bool false) ∧ w = w' := by
  have hn := fun w => run_eql_iface_nil_left (P := Tryz.prog) w 150 (.pointer (some b)) Tryz.underlying97
  go_enter Tryz.func82, Tryz.ntmps82
  go_wp2
  try trivial
  go_ret
  exact ⟨rfl, rfl⟩

/-- the ends by their codes -/
def endA (a1 a2 a3 : Addr) (k : Int) : Value := if k = 1 then endV a1 else if k = 2 then endV a2 else if k = 3 then endV a3 else .nilIface
set_option maxRecDepth 100000 in
theorem endOf_any (a1 a2 a3 : Addr) (k : Int) (w : World) (h : EndsIs w a1 a2 a3) :
    Calls Tryz.prog 83 #[.int .i64 k] w fun e w' => e = .returned (endA a1 a2 a3 k) ∧ w = w' := by
  have c1 := h.cell1 w (Below.refl _ _)
  have c2 := h.cell2 w (Below.refl _ _)
  have c3 := h.cell3 w (Below.refl _ _)
  clear h
  by_cases h1 : k = 1
  · subst h1
    go_enter Tryz.func83, Tryz.ntmps83
    go_wp2
    go_ret
    exact ⟨rfl, rfl⟩
  have h1' : (k == 1) = false := by simp [h1]
  by_cases h2 : k = 2
  · subst h2
    go_enter Tryz.func83, Tryz.ntmps83
    go_wp2
    go_ret
    exact ⟨rfl, rfl⟩
  have h2' : (k == 2) = false := by simp [h2]
  by_cases h3 : k = 3
  · subst h3
    go_enter Tryz.func83, Tryz.ntmps83
    go_wp2
    go_ret
    exact ⟨rfl, rfl⟩
  have h3' : (k == 3) = false := by simp [h3]
  have HE := Lib.hid (show endA a1 a2 a3 k = .nilIface by unfold endA; rw [if_neg h1, if_neg h2, if_neg h3])
  clear h1 h2 h3
  go_enter Tryz.func83, Tryz.ntmps83
  go_wp2
  go_ret
  exact ⟨by rw [HE.out]; rfl, rfl⟩
theorem endOf1_any (a1 a2 a3 : Addr) (w : World) (h : EndsIs w a1 a2 a3) : Calls Tryz.prog 83 #[.int .i64 1] w fun e w' => e = .returned (endV a1) ∧ w = w' := endOf_any a1 a2 a3 1 w h
theorem endOf2_any (a1 a2 a3 : Addr) (w : World) (h : EndsIs w a1 a2 a3) : Calls Tryz.prog 83 #[.int .i64 2] w fun e w' => e = .returned (endV a2) ∧ w = w' := endOf_any a1 a2 a3 2 w h
theorem endOf3_any (a1 a2 a3 : Addr) (w : World) (h : EndsIs w a1 a2 a3) : Calls Tryz.prog 83 #[.int .i64 3] w fun e w' => e = .returned (endV a3) ∧ w = w' := endOf_any a1 a2 a3 3 w h
/-- an error that the program hands back: none, or one of the ends with a reason -/
def ErrV (a1 a2 a3 : Addr) (v : Value) (k : Int) : Prop := (v = .nilIface ∧ k = 0) ∨ ∃ s, (v = reaV s a1 ∧ k = 1) ∨ (v = reaV s a2 ∧ k = 2) ∨ (v = reaV s a3 ∧ k = 3)
set_option maxRecDepth 100000 in
set_option maxHeartbeats 4000000 in
theorem codeOf_any (a1 a2 a3 : Addr) (v : Value) (k : Int) (w : World) (h : EndsIs w a1 a2 a3) (hv : ErrV a1 a2 a3 v k) :
    Calls Tryz.prog 70 #[v] w fun e w' => e = .returned (.int .i64 k) ∧ Below w.heap.size w w' := by
  have H := Lib.hid h
  clear h
  rcases hv with ⟨rfl, rfl⟩ | ⟨s, ⟨rfl, rfl⟩ | ⟨rfl, rfl⟩ | ⟨rfl, rfl⟩⟩
  · go_enter Tryz.func70, Tryz.ntmps70
    go_wp2
    go_loopw [3] (fun i wr => ∃ c : Nat, 1 ≤ c ∧ c ≤ 4 ∧ i = .int .i64 c ∧ Below w.heap.size w wr) (fun i _ => 4 - (intOf i).toNat)
    case atStart => exact ⟨1, Nat.le_refl _, by omega, rfl, Below.refl _ _⟩
    case round =>
      obtain ⟨c, hc1, hc4, rfl, hb⟩ := hrel
      have HE := Lib.hid (H.out.step hb)
      have HB := Lib.hid hb
      clear hb
      rcases (by omega : c = 1 ∨ c = 2 ∨ c = 3 ∨ c = 4) with rfl | rfl | rfl | rfl
      · go_wp2_with (first | (go_at_call 83; refine (endOf1_any a1 a2 a3 _ HE.out).mono ?_; rintro e w' ⟨rfl, rfl⟩) | (go_at_call 82; refine (errIs_nil _ _).mono ?_; rintro e w' ⟨rfl, rfl⟩))
        go_roundw
        case rel => exact ⟨2, by omega, by omega, rfl, HB.out⟩
        case measure => simp [intOf]
      · go_wp2_with (first | (go_at_call 83; refine (endOf2_any a1 a2 a3 _ HE.out).mono ?_; rintro e w' ⟨rfl, rfl⟩) | (go_at_call 82; refine (errIs_nil _ _).mono ?_; rintro e w' ⟨rfl, rfl⟩))
        go_roundw
        case rel => exact ⟨3, by omega, by omega, rfl, HB.out⟩
        case measure => simp [intOf]
      · go_wp2_with (first | (go_at_call 83; refine (endOf3_any a1 a2 a3 _ HE.out).mono ?_; rintro e w' ⟨rfl, rfl⟩) | (go_at_call 82; refine (errIs_nil _ _).mono ?_; rintro e w' ⟨rfl, rfl⟩))
        go_roundw
        case rel => exact ⟨4, by omega, by omega, rfl, HB.out⟩
        case measure => simp [intOf]
      · go_wp2
        go_ret
        exact ⟨rfl, HB.out⟩
  · go_enter Tryz.func70, Tryz.ntmps70
    go_wp2
    go_loopw [3] (fun i wr => ∃ c : Nat, 1 ≤ c ∧ c ≤ 1 ∧ i = .int .i64 c ∧ Below w.heap.size w wr) (fun i _ => 4 - (intOf i).toNat)
    case atStart => exact ⟨1, Nat.le_refl _, by omega, rfl, Below.refl _ _⟩
    case round =>
      obtain ⟨c, hc1, hc4, rfl, hb⟩ := hrel
      have HE := Lib.hid (H.out.step hb)
      have HB := Lib.hid hb
      clear hb
      obtain rfl : c = 1 := by omega
      go_wp2_with (first | (go_at_call 83; refine (endOf1_any a1 a2 a3 _ HE.out).mono ?_; rintro e w' ⟨rfl, rfl⟩) | (go_at_call 82; refine (errIs_same _ _ _).mono ?_; rintro e w' ⟨rfl, b3⟩))
      go_ret
      exact ⟨rfl, HB.out.trans (b3.mono HB.out.size)⟩
  · go_enter Tryz.func70, Tryz.ntmps70
    go_wp2
    go_loopw [3] (fun i wr => ∃ c : Nat, 1 ≤ c ∧ c ≤ 2 ∧ i = .int .i64 c ∧ Below w.heap.size w wr) (fun i _ => 4 - (intOf i).toNat)
    case atStart => exact ⟨1, Nat.le_refl _, by omega, rfl, Below.refl _ _⟩
    case round =>
      obtain ⟨c, hc1, hc4, rfl, hb⟩ := hrel
      have HE := Lib.hid (H.out.step hb)
      have HB := Lib.hid hb
      clear hb
      rcases (by omega : c = 1 ∨ c = 2) with rfl | rfl
      · go_wp2_with (first | (go_at_call 83; refine (endOf1_any a1 a2 a3 _ HE.out).mono ?_; rintro e w' ⟨rfl, rfl⟩) | (go_at_call 82; refine (errIs_other s a2 a1 _ H.out.ne12.symm HE.out.row2 HE.out.row1).mono ?_; rintro e w' ⟨rfl, b3⟩))
        go_roundw
        case rel => exact ⟨2, by omega, by omega, rfl, HB.out.trans (b3.mono HB.out.size)⟩
        case measure => simp [intOf]
      · go_wp2_with (first | (go_at_call 83; refine (endOf2_any a1 a2 a3 _ HE.out).mono ?_; rintro e w' ⟨rfl, rfl⟩) | (go_at_call 82; refine (errIs_same _ _ _).mono ?_; rintro e w' ⟨rfl, b3⟩))
        go_ret
        exact ⟨rfl, HB.out.trans (b3.mono HB.out.size)⟩
  · go_enter Tryz.func70, Tryz.ntmps70
    go_wp2
    go_loopw [3] (fun i wr => ∃ c : Nat, 1 ≤ c ∧ c ≤ 3 ∧ i = .int .i64 c ∧ Below w.heap.size w wr) (fun i _ => 4 - (intOf i).toNat)
    case atStart => exact ⟨1, Nat.le_refl _, by omega, rfl, Below.refl _ _⟩
    case round =>
      obtain ⟨c, hc1, hc4, rfl, hb⟩ := hrel
      have HE := Lib.hid (H.out.step hb)
      have HB := Lib.hid hb
      clear hb
      rcases (by omega : c = 1 ∨ c = 2 ∨ c = 3) with rfl | rfl | rfl
      · go_wp2_with (first | (go_at_call 83; refine (endOf1_any a1 a2 a3 _ HE.out).mono ?_; rintro e w' ⟨rfl, rfl⟩) | (go_at_call 82; refine (errIs_other s a3 a1 _ H.out.ne13.symm HE.out.row3 HE.out.row1).mono ?_; rintro e w' ⟨rfl, b3⟩))
        go_roundw
        case rel => exact ⟨2, by omega, by omega, rfl, HB.out.trans (b3.mono HB.out.size)⟩
        case measure => simp [intOf]
      · go_wp2_with (first | (go_at_call 83; refine (endOf2_any a1 a2 a3 _ HE.out).mono ?_; rintro e w' ⟨rfl, rfl⟩) | (go_at_call 82; refine (errIs_other s a3 a2 _ H.out.ne23.symm HE.out.row3 HE.out.row2).mono ?_; rintro e w' ⟨rfl, b3⟩))
        go_roundw
        case rel => exact ⟨3, by omega, by omega, rfl, HB.out.trans (b3.mono HB.out.size)⟩
        case measure => simp [intOf]
      · go_wp2_with (first | (go_at_call 83; refine (endOf3_any a1 a2 a3 _ HE.out).mono ?_; rintro e w' ⟨rfl, rfl⟩) | (go_at_call 82; refine (errIs_same _ _ _).mono ?_; rintro e w' ⟨rfl, b3⟩))
        go_ret
        exact ⟨rfl, HB.out.trans (b3.mono HB.out.size)⟩
end Go.Proofs.YtamfmemdhldmjaaGreatDoor
