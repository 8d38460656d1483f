/-
  Contracts of the model's texts of numbers and values.
-/
import Derived.Test.YthkjcljhfjaabaaGreatDoorCl
import Derived.Test.YthkjcljhfjaabaaGreatDoorSh
import Derived.Laws.IdiomStrings
namespace Go.Proofs.YthkjcljhfjaabaaGreatDoor
open Go.RowKit Sets

/-- The value of a text. -/
abbrev strV (l : Bs) : Value := .string ⟨l.toArray⟩

theorem str_eq {s : ByteArray} {l : Bs} (h : s.data.toList = l) : Value.string s = strV l := by
  obtain ⟨⟨a⟩⟩ := s
  simp only at h
  rw [h]
theorem ret_str {s : ByteArray} {l : Bs} (h : s.data.toList = l) : Ending.returned (.string s) = .returned (strV l) := congrArg _ (str_eq h)

/-- One byte laid and turned into a text. -/
theorem conv_one (n : Int) (c : UInt8) (hn : n = (c.toNat : Int)) (w : World) :
    (convert 32 9 (.slice (some ⟨w.heap.size, 0, none⟩) 1 1)).run Tryz.prog (w.alloc (.cells #[.int .u8 n] 5)) = .ok (.string ⟨#[c]⟩) (w.alloc (.cells #[.int .u8 n] 5)) := by
  subst hn
  exact run_convert_bytes_back (w.alloc (.cells #[.int .u8 c.toNat] 5)) 32 9 5 ⟨w.heap.size, 0, none⟩ 1 [c] Tryz.underlying32 Tryz.underlying5 Tryz.underlying9 (fun j hj => by
    have : j = 0 := by simp at hj; omega
    subst this
    exact (World.cell?_alloc_new _ _ _ _).trans rfl)

theorem decDigits_le (n : Nat) : (Lib.decDigits n).length ≤ n + 1 := by
  induction n using Nat.strongRecOn with
  | _ n ih =>
    by_cases h : n < 10
    · rw [Lib.decDigits_one h]; simp
    · rw [Lib.decDigits, dif_neg h, List.length_append]
      have := ih (n / 10) (by omega)
      simp; omega

set_option maxRecDepth 100000 in
theorem dec_any (n : Nat) (h : n < 1000) (w : World) : Calls Tryz.prog 113 #[.int .i64 n] w fun e w' => e = .returned (strV (Lib.decDigits n)) ∧ Below w.heap.size w w' := by
  have h1 : (n : Int) < 1000 := by omega
  have h2 : decide ((n : Int) < -9223372036854775807) = false := decide_eq_false (by omega)
  have h3 : decide ((n : Int) < 0) = false := decide_eq_false (by omega)
  go_enter Tryz.func113, Tryz.ntmps113
  go_wp2
  go_loopw [0, 3] (fun m o wr => ∃ (k : Nat) (s : ByteArray), m = .int .i64 k ∧ o = .string s ∧ Lib.decDigits n = Lib.decDigits k ++ s.data.toList ∧ k ≤ n ∧ Below w.heap.size w wr) (fun m _ _ => (intOf m).toNat)
  case atStart => exact ⟨n, ⟨#[]⟩, rfl, rfl, by simp, Nat.le_refl _, Below.refl _ _⟩
  case round =>
    obtain ⟨k, s, rfl, rfl, hd, hk, hb⟩ := hrel
    have hss : s.size ≤ 1001 := by
      have e1 := congrArg List.length hd
      have e2 := decDigits_le n
      rw [List.length_append, ← Lib.size_eq] at e1
      omega
    have HD := Lib.hid hd
    clear hd h2 h3
    by_cases hlt : 9 < k
    · have hkl : (9 : Int) < (k : Int) := by omega
      have hcv := conv_one (48 + (k : Int) % 10) (UInt8.ofNat (48 + k % 10)) (by simp; omega)
      go_wp2
      go_roundw
      case rel =>
        refine ⟨k / 10, _, by go_num, rfl, ?_, by omega, hb.alloc hb.size _⟩
        rw [HD.out, Lib.decDigits, dif_neg (by omega)]
        simp
      case measure => simp [intOf]; omega
    · have hkl : ¬ (9 : Int) < (k : Int) := by omega
      have hcv := conv_one (48 + (k : Int)) (UInt8.ofNat (48 + k)) (by simp; omega)
      go_wp2
      go_ret
      refine ⟨ret_str ?_, hb.alloc hb.size _⟩
      rw [HD.out, Lib.decDigits_one (by omega)]
      simp

set_option maxRecDepth 100000 in
theorem dec2_any (n : Int) (h1 : -1000 < n) (h2 : n < 1000) (w : World) : Calls Tryz.prog 92 #[.int .i64 n] w fun e w' => e = .returned (strV (Lib.itoa n)) ∧ Below w.heap.size w w' := by
  by_cases h0 : n < 0
  · obtain ⟨m, hm⟩ : ∃ m : Nat, -n = (m : Int) := ⟨(-n).toNat, by omega⟩
    have hi : Lib.itoa n = 45 :: Lib.decDigits m := by unfold Lib.itoa; rw [if_pos h0, show n.natAbs = m by omega]
    have HI := Lib.hid hi
    have hl := decDigits_le m
    clear hi
    go_enter Tryz.func92, Tryz.ntmps92
    go_wp2_with fail
    refine (dec_any m (by omega) _).mono ?_
    generalize Lib.decDigits m = l at HI hl
    rintro e w1 ⟨rfl, b1⟩
    go_wp2
    go_ret
    exact ⟨ret_str (by rw [HI.out]; simp), b1⟩
  · obtain ⟨m, rfl⟩ : ∃ m : Nat, n = (m : Int) := ⟨n.toNat, by omega⟩
    have hi : Lib.itoa (m : Int) = Lib.decDigits m := by unfold Lib.itoa; rw [if_neg h0, Int.toNat_natCast]
    have HI := Lib.hid hi
    clear hi
    go_enter Tryz.func92, Tryz.ntmps92
    go_wp2_with fail
    refine (dec_any m (by omega) _).mono ?_
    generalize Lib.decDigits m = l at HI
    rintro e w1 ⟨rfl, b1⟩
    go_wp2
    go_ret
    exact ⟨ret_str (by rw [HI.out]), b1⟩

set_option maxRecDepth 100000 in
theorem specText_any (L : Bool) (a b n : Int) (h : inB L a b n = true) (w : World) : Calls Tryz.prog 59 #[colV L a b, .int .i64 n] w fun e w' => e = .returned (strV (vT L n)) ∧ Below w.heap.size w w' := by
  obtain ⟨hc, h1, h2⟩ := (inB_iff _ _ _ _).1 h
  obtain ⟨c1, c2, c3, c4⟩ := (colB_iff _ _ _).1 hc
  have b0 : Below w.heap.size w (w.alloc (.cells #[.bool L, .int .i64 a, .int .i64 b] 27)) := (Below.refl _ w).alloc (Nat.le_refl _) _
  obtain ⟨k0, k1, k2⟩ := ColAt.box w L a b 27
  cases L
  · have HV := Lib.hid (vT_num n)
    have HD := Lib.hid (decT_eq (n := n) (by omega) (by omega))
    clear hc h
    go_enter Tryz.func59, Tryz.ntmps59
    go_wp2_with fail
    refine (dec2_any n (by omega) (by omega) _).mono ?_
    rw [HD.out]
    rintro e w1 ⟨rfl, b1⟩
    go_wp2
    go_ret
    exact ⟨by rw [HV.out]; rfl, b0.trans (b1.mono b0.size)⟩
  · have HV := Lib.hid (vT_let n)
    obtain ⟨rfl, e2⟩ := c4 rfl
    have hcv := conv_one (65 + n) (UInt8.ofNat (65 + n.toNat)) (by simp; omega) (w.alloc (.cells #[.bool true, .int .i64 0, .int .i64 b] 27))
    rw [World.size_alloc] at hcv
    clear hc h c4
    go_enter Tryz.func59, Tryz.ntmps59
    go_wp2
    go_ret
    exact ⟨ret_str (by rw [HV.out]; simp), b0.alloc b0.size _⟩
end Go.Proofs.YthkjcljhfjaabaaGreatDoor
