/-
  What policies decide: the program.
-/
import Derived.Test.YtamfmemdhldmjaaGreatDoorWf
import Derived.Test.YtamfmemdhldmjaaGreatDoorWg
import Derived.Test.YtamfmemdhldmjaaGreatDoorWh
import Derived.Shelf.Abstract
import Derived.Stop.IfaceNil
namespace Go.Proofs.YtamfmemdhldmjaaGreatDoor
open Go.RowKit Go.Stop Sets

/-- A call hands back the list of r, and the error of its code. -/
def DecN (r : Rs) (a1 a2 a3 : Addr) (w : World) (e : Ending) (w' : World) : Prop := ∃ A' c' v, e = .returned (.tuple #[.slice A' r.2.length c', v]) ∧ OwnN w' w.heap.size A' c' r.2 ∧ ErrV a1 a2 a3 v r.1 ∧ Below w.heap.size w w'
theorem decN_one {r : Rs} {a1 a2 a3 : Addr} {x : Int} (h : r = (0, [x])) (w V : World) (hb : Below w.heap.size w V) (hx : I64 x) : DecN r a1 a2 a3 w (.returned (.tuple #[.slice (some ⟨V.heap.size, 0, none⟩) 1 1, .nilIface])) (V.alloc (.cells #[.int .i64 x] 3)) := by
  rw [h]
  exact ⟨_, _, _, rfl, own_one_at V x hx hb.size, .inl ⟨rfl, rfl⟩, hb.trans (((Below.refl _ _).alloc (Nat.le_refl _) _).mono hb.size)⟩
theorem decN_no {r : Rs} {a1 a2 a3 : Addr} {k : Int} {v : Value} (h : r = (k, [])) (hv : ErrV a1 a2 a3 v k) {w V : World} (hb : Below w.heap.size w V) : DecN r a1 a2 a3 w (.returned (.tuple #[.slice none 0 0, v])) V := by
  rw [h]
  exact ⟨none, 0, v, rfl, OwnN.nil _ _, hv, hb⟩
theorem decN_step {r : Rs} {a1 a2 a3 : Addr} {w V W : World} {e : Ending} (h : DecN r a1 a2 a3 V e W) (hb : Below w.heap.size w V) : DecN r a1 a2 a3 w e W := by
  obtain ⟨A, c, v, h1, h2, h3, h4⟩ := h
  exact ⟨A, c, v, h1, h2.base hb.size, h3, hb.trans (h4.mono hb.size)⟩

set_option maxRecDepth 100000 in
theorem refSev_any (a1 a2 a3 : Addr) (A : Option Addr) (n c : Nat) (w : World) (h : EndsIs w a1 a2 a3) :
    Calls Tryz.prog 90 #[.slice A n c] w fun e w' => (∃ v, e = .returned v ∧ ((1 < n ∧ ∃ s, v = reaV s a2) ∨ (¬ 1 < n ∧ v = .nilIface))) ∧ Below w.heap.size w w' := by
  have c2 := h.cell2 w (Below.refl _ _)
  clear h
  by_cases hn : 1 < n
  · have hn' : (1 : Int) < (n : Int) := by omega
    go_enter Tryz.func90, Tryz.ntmps90
    go_wp2
    go_ret
    exact ⟨⟨_, rfl, .inl ⟨hn, _, rfl⟩⟩, Below.refl _ _⟩
  · have hn' : decide ((1 : Int) < (n : Int)) = false := decide_eq_false (by omega)
    go_enter Tryz.func90, Tryz.ntmps90
    go_wp2
    go_ret
    exact ⟨⟨_, rfl, .inr ⟨hn, rfl⟩⟩, Below.refl _ _⟩
set_option maxRecDepth 100000 in
theorem refDif_any (a1 a2 a3 : Addr) (A : Option Addr) (c : Nat) (ns : List Int) (w : World) (h : EndsIs w a1 a2 a3) (hI : IntsAt w w.heap.size A c ns) (hp : 0 < ns.length) :
    Calls Tryz.prog 91 #[.slice A ns.length c] w fun e w' => (∃ v, e = .returned v ∧ ((smB ns = false ∧ ∃ s, v = reaV s a2) ∨ (smB ns = true ∧ v = .nilIface))) ∧ Below w.heap.size w w' := by
  have c2 := h.cell2 w (Below.refl _ _)
  have HI := Lib.hid hI
  have HP := Lib.hid hp
  have HS := Lib.hid (same_mnmx hp)
  clear h hI hp
  obtain ⟨x, hx⟩ : ∃ x, mnK ns (ns.length - 1) = x := ⟨_, rfl⟩
  obtain ⟨y, hy⟩ : ∃ y, mxK ns (ns.length - 1) = y := ⟨_, rfl⟩
  have HX := Lib.hid (And.intro hx hy)
  clear hx hy
  by_cases hxy : x = y
  · subst hxy
    have hne : (x != x) = false := by simp
    have HV := Lib.hid (show smB ns = true by rw [HS.out, HX.out.1, HX.out.2]; simp)
    go_enter Tryz.func91, Tryz.ntmps91
    go_wp2_with (first | (go_at_call 94; refine (implMin_any _ _ ns _ HI.out HP.out).mono ?_; rw [HX.out.1]; rintro e w' ⟨rfl, rfl⟩) | (go_at_call 93; refine (implMax_any _ _ ns _ HI.out HP.out).mono ?_; rw [HX.out.2]; rintro e w' ⟨rfl, rfl⟩))
    go_ret
    exact ⟨⟨_, rfl, .inr ⟨HV.out, rfl⟩⟩, Below.refl _ _⟩
  · have hne : (x != y) = true := by simp [hxy]
    have HV := Lib.hid (show smB ns = false by rw [HS.out, HX.out.1, HX.out.2]; simp [hxy])
    go_enter Tryz.func91, Tryz.ntmps91
    go_wp2_with (first | (go_at_call 94; refine (implMin_any _ _ ns _ HI.out HP.out).mono ?_; rw [HX.out.1]; rintro e w' ⟨rfl, rfl⟩) | (go_at_call 93; refine (implMax_any _ _ ns _ HI.out HP.out).mono ?_; rw [HX.out.2]; rintro e w' ⟨rfl, rfl⟩))
    go_ret
    exact ⟨⟨_, rfl, .inl ⟨HV.out, _, rfl⟩⟩, Below.refl _ _⟩


set_option maxRecDepth 100000 in
set_option maxHeartbeats 2000000 in
theorem dec1_any (a1 a2 a3 : Addr) (A : Option Addr) (c : Nat) (ns : List Int) (w : World) (h : EndsIs w a1 a2 a3) (hI : IntsAt w w.heap.size A c ns) (hout : outB ns = true) (hp : 0 < ns.length) :
    Calls Tryz.prog 129 #[.func (.func 90) #[] #[], .slice A ns.length c] w (DecN (dcV 1 ns) a1 a2 a3 w) := by
  have eg : ∀ args w, (callFunc 90 args).run Tryz.prog w = .ok (.enter 90 args) w := enters_of Tryz.func90 (by kernel_rfl) rfl
  have H := Lib.hid h
  have HI := Lib.hid hI
  have HO := Lib.hid hout
  have HP := Lib.hid hp
  have HZ := Lib.hid (show ¬ ns.length = 0 by omega)
  clear h hI hout hp
  obtain ⟨_, _, _, hzz | ⟨b, off, rfl, hB, hrow⟩⟩ := HI.out
  · exact absurd hzz HZ.out
  have u0 := hrow 0 HP.out
  rw [Nat.zero_mul, Nat.add_zero] at u0
  have h0l : (0 : Int) < (ns.length : Int) := by have := HP.out; omega
  obtain ⟨y, hy⟩ : ∃ y, ns.getD 0 0 = y := ⟨_, rfl⟩
  rw [hy] at u0
  have HY := Lib.hid hy
  have HX := Lib.hid (show I64 y by rw [← hy]; exact out_i64 HO.out HP.out)
  clear hrow hy
  go_enter Tryz.func129, Tryz.ntmps129
  go_wp2_with fail
  change Calls _ _ _ _ _
  refine (refSev_any a1 a2 a3 _ _ _ _ H.out).mono ?_
  rintro e w1 ⟨⟨v, rfl, hv⟩, b1⟩
  have d0 := (b1.cell (p := ⟨b, off, none⟩) hB).trans u0
  have B1 := Lib.hid b1
  clear b1 u0
  rcases hv with ⟨h1, s, rfl⟩ | ⟨h1, rfl⟩
  · have HV := Lib.hid (show dcV 1 ns = (2, []) by unfold dcV; rw [if_neg HZ.out, if_pos rfl, if_pos h1])
    have hne := fun (w : World) => run_neq_iface_nil (P := Tryz.prog) w 97 (by kernel_rfl) 114 (.agg #[s, endV a2])
    clear h1
    go_wp2
    go_ret2
    exact decN_no HV.out (.inr ⟨s, .inr (.inl ⟨rfl, rfl⟩)⟩) B1.out
  · have HV := Lib.hid (show dcV 1 ns = (0, [y]) by unfold dcV; rw [if_neg HZ.out, if_pos rfl, if_neg h1]; rw [HY.out])
    clear h1
    go_wp2
    go_ret2
    exact decN_one HV.out w w1 B1.out HX.out


set_option maxRecDepth 100000 in
set_option maxHeartbeats 2000000 in
theorem decTwo_any (a1 a2 a3 : Addr) (A : Option Addr) (c : Nat) (ns : List Int) (w : World) (h : EndsIs w a1 a2 a3) (hI : IntsAt w w.heap.size A c ns) (hout : outB ns = true) (hp : 0 < ns.length) :
    Calls Tryz.prog 129 #[.func (.func 91) #[] #[], .slice A ns.length c] w (DecN (dcV 2 ns) a1 a2 a3 w) := by
  have eg : ∀ args w, (callFunc 91 args).run Tryz.prog w = .ok (.enter 91 args) w := enters_of Tryz.func91 (by kernel_rfl) rfl
  have H := Lib.hid h
  have HI := Lib.hid hI
  have HO := Lib.hid hout
  have HP := Lib.hid hp
  have HZ := Lib.hid (show ¬ ns.length = 0 by omega)
  clear h hI hout hp
  obtain ⟨_, _, _, hzz | ⟨b, off, rfl, hB, hrow⟩⟩ := HI.out
  · exact absurd hzz HZ.out
  have u0 := hrow 0 HP.out
  rw [Nat.zero_mul, Nat.add_zero] at u0
  have h0l : (0 : Int) < (ns.length : Int) := by have := HP.out; omega
  obtain ⟨y, hy⟩ : ∃ y, ns.getD 0 0 = y := ⟨_, rfl⟩
  rw [hy] at u0
  have HY := Lib.hid hy
  have HX := Lib.hid (show I64 y by rw [← hy]; exact out_i64 HO.out HP.out)
  clear hrow hy
  go_enter Tryz.func129, Tryz.ntmps129
  go_wp2_with fail
  change Calls _ _ _ _ _
  refine (refDif_any a1 a2 a3 _ _ ns _ H.out HI.out HP.out).mono ?_
  rintro e w1 ⟨⟨v, rfl, hv⟩, b1⟩
  have d0 := (b1.cell (p := ⟨b, off, none⟩) hB).trans u0
  have B1 := Lib.hid b1
  clear b1 u0
  rcases hv with ⟨h1, s, rfl⟩ | ⟨h1, rfl⟩
  · have HV := Lib.hid (show dcV 2 ns = (2, []) by unfold dcV; rw [if_neg HZ.out, if_neg (by omega), if_pos rfl, if_neg (by rw [h1]; simp)])
    have hne := fun (w : World) => run_neq_iface_nil (P := Tryz.prog) w 97 (by kernel_rfl) 114 (.agg #[s, endV a2])
    clear h1
    go_wp2
    go_ret2
    exact decN_no HV.out (.inr ⟨s, .inr (.inl ⟨rfl, rfl⟩)⟩) B1.out
  · have HV := Lib.hid (show dcV 2 ns = (0, [y]) by unfold dcV; rw [if_neg HZ.out, if_neg (by omega), if_pos rfl, if_pos h1]; rw [HY.out])
    clear h1
    go_wp2
    go_ret2
    exact decN_one HV.out w w1 B1.out HX.out


set_option maxRecDepth 100000 in
set_option maxHeartbeats 2000000 in
theorem dec3_any (a1 a2 a3 : Addr) (A : Option Addr) (c : Nat) (ns : List Int) (w : World) (h : EndsIs w a1 a2 a3) (hI : IntsAt w w.heap.size A c ns) (hout : outB ns = true) (hp : 0 < ns.length) :
    Calls Tryz.prog 130 #[.func (.func 93) #[] #[], .slice A ns.length c] w (DecN (dcV 3 ns) a1 a2 a3 w) := by
  have eg : ∀ args w, (callFunc 93 args).run Tryz.prog w = .ok (.enter 93 args) w := enters_of Tryz.func93 (by kernel_rfl) rfl
  have H := Lib.hid h
  have HI := Lib.hid hI
  have HO := Lib.hid hout
  have HP := Lib.hid hp
  have HZ := Lib.hid (show ¬ ns.length = 0 by omega)
  clear h hI hout hp
  obtain ⟨x, hx⟩ : ∃ x, mxK ns (ns.length - 1) = x := ⟨_, rfl⟩
  have HX := Lib.hid hx
  have HN := Lib.hid (show numV 3 ns = x by rw [← hx]; unfold numV; simp)
  have HV := Lib.hid (show dcV 3 ns = (0, [x]) by unfold dcV; rw [if_neg HZ.out, if_neg (by omega), if_neg (by omega), if_neg (by omega), if_neg (by omega), HN.out])
  have H6 := Lib.hid (show I64 x by rw [← HN.out]; exact num_i64 HO.out HP.out 3)
  clear hx
  go_enter Tryz.func130, Tryz.ntmps130
  go_wp2_with (go_at_fn 93; refine (implMax_any _ _ ns _ HI.out HP.out).mono ?_; rw [HX.out]; rintro e w' ⟨rfl, rfl⟩)
  go_ret2
  exact decN_one HV.out w w (Below.refl _ _) H6.out

set_option maxRecDepth 100000 in
set_option maxHeartbeats 2000000 in
theorem dec4_any (a1 a2 a3 : Addr) (A : Option Addr) (c : Nat) (ns : List Int) (w : World) (h : EndsIs w a1 a2 a3) (hI : IntsAt w w.heap.size A c ns) (hout : outB ns = true) (hp : 0 < ns.length) :
    Calls Tryz.prog 130 #[.func (.func 92) #[] #[], .slice A ns.length c] w (DecN (dcV 4 ns) a1 a2 a3 w) := by
  have eg : ∀ args w, (callFunc 92 args).run Tryz.prog w = .ok (.enter 92 args) w := enters_of Tryz.func92 (by kernel_rfl) rfl
  have H := Lib.hid h
  have HI := Lib.hid hI
  have HO := Lib.hid hout
  have HP := Lib.hid hp
  have HZ := Lib.hid (show ¬ ns.length = 0 by omega)
  clear h hI hout hp
  obtain ⟨x, hx⟩ : ∃ x, ns.getD 0 0 = x := ⟨_, rfl⟩
  have HX := Lib.hid hx
  have HN := Lib.hid (show numV 4 ns = x by rw [← hx]; unfold numV; simp)
  have HV := Lib.hid (show dcV 4 ns = (0, [x]) by unfold dcV; rw [if_neg HZ.out, if_neg (by omega), if_neg (by omega), if_neg (by omega), if_neg (by omega), HN.out])
  have H6 := Lib.hid (show I64 x by rw [← HN.out]; exact num_i64 HO.out HP.out 4)
  clear hx
  go_enter Tryz.func130, Tryz.ntmps130
  go_wp2_with (go_at_fn 92; refine (implFst_any _ _ ns _ HI.out HP.out).mono ?_; rw [HX.out]; rintro e w' ⟨rfl, rfl⟩)
  go_ret2
  exact decN_one HV.out w w (Below.refl _ _) H6.out

set_option maxRecDepth 100000 in
set_option maxHeartbeats 2000000 in
theorem dec5_any (a1 a2 a3 : Addr) (A : Option Addr) (c : Nat) (ns : List Int) (w : World) (h : EndsIs w a1 a2 a3) (hI : IntsAt w w.heap.size A c ns) (hout : outB ns = true) (hp : 0 < ns.length) :
    Calls Tryz.prog 131 #[.func (.func 97) #[] #[], .slice A ns.length c] w (DecN (dcV 5 ns) a1 a2 a3 w) := by
  have eg : ∀ args w, (callFunc 97 args).run Tryz.prog w = .ok (.enter 97 args) w := enters_of Tryz.func97 (by kernel_rfl) rfl
  have H := Lib.hid h
  have HI := Lib.hid hI
  have HO := Lib.hid hout
  have HP := Lib.hid hp
  have HZ := Lib.hid (show ¬ ns.length = 0 by omega)
  clear h hI hout hp
  have HV := Lib.hid (show dcV 5 ns = (0, ns) by unfold dcV; rw [if_neg HZ.out]; simp)
  rw [HV.out]
  go_enter Tryz.func131, Tryz.ntmps131
  go_wp2_with (go_at_fn 97; refine (implClone_any _ _ ns _ HI.out HP.out (outB_at HO.out).1).mono ?_; rintro e w1 ⟨A2, c2, rfl, hO, b1⟩)
  go_ret2
  exact ⟨A2, c2, _, rfl, hO, .inl ⟨rfl, rfl⟩, b1⟩

set_option maxRecDepth 100000 in
set_option maxHeartbeats 2000000 in
theorem dec6_any (a1 a2 a3 : Addr) (A : Option Addr) (c : Nat) (ns : List Int) (w : World) (h : EndsIs w a1 a2 a3) (hI : IntsAt w w.heap.size A c ns) (hout : outB ns = true) (hp : 0 < ns.length) :
    Calls Tryz.prog 131 #[.func (.func 98) #[] #[], .slice A ns.length c] w (DecN (dcV 6 ns) a1 a2 a3 w) := by
  have eg : ∀ args w, (callFunc 98 args).run Tryz.prog w = .ok (.enter 98 args) w := enters_of Tryz.func98 (by kernel_rfl) rfl
  have H := Lib.hid h
  have HI := Lib.hid hI
  have HO := Lib.hid hout
  have HP := Lib.hid hp
  have HZ := Lib.hid (show ¬ ns.length = 0 by omega)
  clear h hI hout hp
  have HV := Lib.hid (show dcV 6 ns = (0, srK ns ns.length) by unfold dcV; rw [if_neg HZ.out]; simp)
  rw [HV.out]
  go_enter Tryz.func131, Tryz.ntmps131
  go_wp2_with (go_at_fn 98; refine (implDesc_any _ _ ns _ HI.out (outB_at HO.out).1).mono ?_; rintro e w1 ⟨A2, c2, rfl, hO, b1⟩)
  go_ret2
  exact ⟨A2, c2, _, rfl, hO, .inl ⟨rfl, rfl⟩, b1⟩

set_option maxRecDepth 100000 in
set_option maxHeartbeats 2000000 in
theorem dec7_any (a1 a2 a3 : Addr) (A : Option Addr) (c : Nat) (ns : List Int) (w : World) (h : EndsIs w a1 a2 a3) (hI : IntsAt w w.heap.size A c ns) (hout : outB ns = true) (hp : 0 < ns.length) :
    Calls Tryz.prog 130 #[.func (.func 95) #[] #[], .slice A ns.length c] w (DecN (dcV 7 ns) a1 a2 a3 w) := by
  have eg : ∀ args w, (callFunc 95 args).run Tryz.prog w = .ok (.enter 95 args) w := enters_of Tryz.func95 (by kernel_rfl) rfl
  have H := Lib.hid h
  have HI := Lib.hid hI
  have HO := Lib.hid hout
  have HP := Lib.hid hp
  have HZ := Lib.hid (show ¬ ns.length = 0 by omega)
  clear h hI hout hp
  obtain ⟨x, hx⟩ : ∃ x, smK ns ns.length = x := ⟨_, rfl⟩
  have HX := Lib.hid hx
  have HN := Lib.hid (show numV 7 ns = x by rw [← hx]; unfold numV; simp)
  have HV := Lib.hid (show dcV 7 ns = (0, [x]) by unfold dcV; rw [if_neg HZ.out, if_neg (by omega), if_neg (by omega), if_neg (by omega), if_neg (by omega), HN.out])
  have H6 := Lib.hid (show I64 x by rw [← HN.out]; exact num_i64 HO.out HP.out 7)
  clear hx
  go_enter Tryz.func130, Tryz.ntmps130
  go_wp2_with (go_at_fn 95; refine (implSum_any _ _ ns _ HI.out HO.out).mono ?_; rw [HX.out]; rintro e w' ⟨rfl, rfl⟩)
  go_ret2
  exact decN_one HV.out w w (Below.refl _ _) H6.out

set_option maxRecDepth 100000 in
set_option maxHeartbeats 2000000 in
theorem dec8_any (a1 a2 a3 : Addr) (A : Option Addr) (c : Nat) (ns : List Int) (w : World) (h : EndsIs w a1 a2 a3) (hI : IntsAt w w.heap.size A c ns) (hout : outB ns = true) (hp : 0 < ns.length) :
    Calls Tryz.prog 130 #[.func (.func 94) #[] #[], .slice A ns.length c] w (DecN (dcV 8 ns) a1 a2 a3 w) := by
  have eg : ∀ args w, (callFunc 94 args).run Tryz.prog w = .ok (.enter 94 args) w := enters_of Tryz.func94 (by kernel_rfl) rfl
  have H := Lib.hid h
  have HI := Lib.hid hI
  have HO := Lib.hid hout
  have HP := Lib.hid hp
  have HZ := Lib.hid (show ¬ ns.length = 0 by omega)
  clear h hI hout hp
  obtain ⟨x, hx⟩ : ∃ x, mnK ns (ns.length - 1) = x := ⟨_, rfl⟩
  have HX := Lib.hid hx
  have HN := Lib.hid (show numV 8 ns = x by rw [← hx]; unfold numV; simp)
  have HV := Lib.hid (show dcV 8 ns = (0, [x]) by unfold dcV; rw [if_neg HZ.out, if_neg (by omega), if_neg (by omega), if_neg (by omega), if_neg (by omega), HN.out])
  have H6 := Lib.hid (show I64 x by rw [← HN.out]; exact num_i64 HO.out HP.out 8)
  clear hx
  go_enter Tryz.func130, Tryz.ntmps130
  go_wp2_with (go_at_fn 94; refine (implMin_any _ _ ns _ HI.out HP.out).mono ?_; rw [HX.out]; rintro e w' ⟨rfl, rfl⟩)
  go_ret2
  exact decN_one HV.out w w (Below.refl _ _) H6.out

set_option maxRecDepth 100000 in
set_option maxHeartbeats 2000000 in
theorem dec9_any (a1 a2 a3 : Addr) (A : Option Addr) (c : Nat) (ns : List Int) (w : World) (h : EndsIs w a1 a2 a3) (hI : IntsAt w w.heap.size A c ns) (hout : outB ns = true) (hp : 0 < ns.length) :
    Calls Tryz.prog 130 #[.func (.func 93) #[] #[], .slice A ns.length c] w (DecN (dcV 9 ns) a1 a2 a3 w) := by
  have eg : ∀ args w, (callFunc 93 args).run Tryz.prog w = .ok (.enter 93 args) w := enters_of Tryz.func93 (by kernel_rfl) rfl
  have H := Lib.hid h
  have HI := Lib.hid hI
  have HO := Lib.hid hout
  have HP := Lib.hid hp
  have HZ := Lib.hid (show ¬ ns.length = 0 by omega)
  clear h hI hout hp
  obtain ⟨x, hx⟩ : ∃ x, mxK ns (ns.length - 1) = x := ⟨_, rfl⟩
  have HX := Lib.hid hx
  have HN := Lib.hid (show numV 9 ns = x by rw [← hx]; unfold numV; simp)
  have HV := Lib.hid (show dcV 9 ns = (0, [x]) by unfold dcV; rw [if_neg HZ.out, if_neg (by omega), if_neg (by omega), if_neg (by omega), if_neg (by omega), HN.out])
  have H6 := Lib.hid (show I64 x by rw [← HN.out]; exact num_i64 HO.out HP.out 9)
  clear hx
  go_enter Tryz.func130, Tryz.ntmps130
  go_wp2_with (go_at_fn 93; refine (implMax_any _ _ ns _ HI.out HP.out).mono ?_; rw [HX.out]; rintro e w' ⟨rfl, rfl⟩)
  go_ret2
  exact decN_one HV.out w w (Below.refl _ _) H6.out

set_option maxRecDepth 100000 in
set_option maxHeartbeats 2000000 in
theorem dec10_any (a1 a2 a3 : Addr) (A : Option Addr) (c : Nat) (ns : List Int) (w : World) (h : EndsIs w a1 a2 a3) (hI : IntsAt w w.heap.size A c ns) (hout : outB ns = true) :
    Calls Tryz.prog 130 #[.func (.func 96) #[] #[], .slice A ns.length c] w (DecN (dcV 10 ns) a1 a2 a3 w) := by
  have eg : ∀ args w, (callFunc 96 args).run Tryz.prog w = .ok (.enter 96 args) w := enters_of Tryz.func96 (by kernel_rfl) rfl
  have H := Lib.hid h
  have HI := Lib.hid hI
  have HO := Lib.hid hout
  clear h hI hout
  have HV := Lib.hid (show dcV 10 ns = (0, [(ns.length : Int)]) by
    unfold dcV
    by_cases hz : ns.length = 0
    · rw [if_pos hz, if_pos rfl, hz]; rfl
    · rw [if_neg hz, if_neg (by omega), if_neg (by omega), if_neg (by omega), if_neg (by omega)]; unfold numV; simp)
  have H6 := Lib.hid (show I64 (ns.length : Int) by have := (outB_at HO.out).1; unfold I64; omega)
  go_enter Tryz.func130, Tryz.ntmps130
  go_wp2_with (go_at_fn 96; refine (implCnt_any _ _ _ _).mono ?_; rintro e w' ⟨rfl, rfl⟩)
  go_ret2
  exact decN_one HV.out w w (Below.refl _ _) H6.out
end Go.Proofs.YtamfmemdhldmjaaGreatDoor
