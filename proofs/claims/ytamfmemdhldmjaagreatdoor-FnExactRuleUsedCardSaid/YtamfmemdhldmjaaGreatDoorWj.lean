/-
  DecideOuts: the program.
-/
import Derived.Test.YtamfmemdhldmjaaGreatDoorWq
import Derived.Test.YtamfmemdhldmjaaGreatDoorWr
import Derived.Test.YtamfmemdhldmjaaGreatDoorWs
namespace Go.Proofs.YtamfmemdhldmjaaGreatDoor
open Go.RowKit Go.Stop Sets

theorem decBy_any (a1 a2 a3 : Addr) (p : Int) (A : Option Addr) (c : Nat) (ns : List Int) (w : World) (h : EndsIs w a1 a2 a3) (hI : IntsAt w w.heap.size A c ns) :
    Calls Tryz.prog 69 #[.int .i64 p, .slice A ns.length c] w (DecN (doV p ns) a1 a2 a3 w) := by
  by_cases hp : 1 ≤ p ∧ p ≤ 10
  · rcases (by omega : p = 1 ∨ p = 2 ∨ p = 3 ∨ p = 4 ∨ p = 5 ∨ p = 6 ∨ p = 7 ∨ p = 8 ∨ p = 9 ∨ p = 10) with rfl | rfl | rfl | rfl | rfl | rfl | rfl | rfl | rfl | rfl
    · exact decBy1_any a1 a2 a3 A c ns w h hI
    · exact decBy2_any a1 a2 a3 A c ns w h hI
    · exact decBy3_any a1 a2 a3 A c ns w h hI
    · exact decBy4_any a1 a2 a3 A c ns w h hI
    · exact decBy5_any a1 a2 a3 A c ns w h hI
    · exact decBy6_any a1 a2 a3 A c ns w h hI
    · exact decBy7_any a1 a2 a3 A c ns w h hI
    · exact decBy8_any a1 a2 a3 A c ns w h hI
    · exact decBy9_any a1 a2 a3 A c ns w h hI
    · exact decBy10_any a1 a2 a3 A c ns w h hI
  · exact decByNo_any a1 a2 a3 p A c ns w h hp

set_option maxRecDepth 100000 in
set_option maxHeartbeats 4000000 in
theorem implDO_any (a1 a2 a3 : Addr) (p : Int) (A : Option Addr) (c : Nat) (ns : List Int) (w : World) (h : EndsIs w a1 a2 a3) (hI : IntsAt w w.heap.size A c ns) :
    Calls Tryz.prog 47 #[.int .i64 p, .slice A ns.length c] w (ResN (doV p ns) w) := by
  have hbx : Below w.heap.size w (w.alloc (.cells #[.int .i64 0, .slice none 0 0] 29)) := (Below.refl _ _).alloc (Nat.le_refl _) _
  have BOX := Lib.hid (box_facts w 29)
  have HI := Lib.hid (hI.step hbx)
  have H := Lib.hid (h.step hbx)
  have HB := Lib.hid hbx
  clear h hI hbx
  obtain ⟨⟨rc, rl⟩, hr⟩ : ∃ r : Rs, doV p ns = r := ⟨_, rfl⟩
  have HR := Lib.hid hr
  rw [hr]
  clear hr
  go_enter Tryz.func47, Tryz.ntmps47
  go_wp2_with fail
  refine (decBy_any a1 a2 a3 p A c ns _ H.out HI.out).mono ?_
  rw [HR.out]
  rintro e w1 ⟨A2, c2, v, rfl, hO, hE, b1⟩
  have B1 := Lib.hid b1
  have OO := Lib.hid hO
  have EE := Lib.hid hE
  have H1 := Lib.hid (H.out.step b1)
  clear b1 hO hE
  simp only [] at OO EE ⊢
  go_wp2_with fail
  refine (codeOf_any a1 a2 a3 v rc w1 H1.out EE.out).mono ?_
  rintro e w2 ⟨rfl, b2⟩
  have B2 := Lib.hid (B1.out.trans (b2.mono B1.out.size))
  have OO2 := Lib.hid (OO.out.step b2)
  clear b2
  have q0 := (B2.out.cell (p := ⟨w.heap.size, 0, none⟩) (by simp)).trans BOX.out.1
  have q1 := (B2.out.cell (p := ⟨w.heap.size, 1, none⟩) (by simp)).trans BOX.out.2.1
  have f0 := (B2.out.frozen (p := ⟨w.heap.size, 0, none⟩) (by simp)).trans (BOX.out.2.2 0)
  have f1 := (B2.out.frozen (p := ⟨w.heap.size, 1, none⟩) (by simp)).trans (BOX.out.2.2 1)
  go_wp2
  refine dec_fin (x := .int .i64 0) (y := .slice none 0 0) rfl (V := w2) (HB.out.trans ((B2.out).mono HB.out.size)) q0 q1 (by have := OO2.out; simpa using this) rfl ?_
  intro F k0 k1
  simp [results, Tryz.results47, go_sem, k0, k1]
end Go.Proofs.YtamfmemdhldmjaaGreatDoor
