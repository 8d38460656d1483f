/-
  Contract of the program's meet of two lists of spans.
-/
import Derived.Test.YthkjcljhfjaabaaGreatDoorIv
import Derived.Test.YthkjcljhfjaabaaGreatDoorOw
import Derived.Deep.RegionHeld3
import Derived.Deep.LoopGhost
import Derived.Deep.DeepCutAuto
namespace Go.Proofs.YthkjcljhfjaabaaGreatDoor
open Go.RowKit Sets

def mxI (a b : Int) : Int := if a < b then b else a
def mnI (a b : Int) : Int := if b < a then b else a
theorem mxI_eq (a b : Int) : mxI a b = max a b := by unfold mxI; split <;> omega
theorem mnI_eq (a b : Int) : mnI a b = min a b := by unfold mnI; split <;> omega

structure MeetRel (w : World) (xs ys : List Sp) (k : Nat) (a b m : Value) (wr : World) (rs ts acc : List Sp) (B1 B2 : Option Addr) (d1 d2 : Nat) : Prop where
  ha : a = .slice B1 rs.length d1
  hb : b = .slice B2 ts.length d2
  r1 : Reads wr w.heap.size B1 d1 rs
  r2 : Reads wr w.heap.size B2 d2 ts
  own : OwnS wr w.heap.size m acc
  fit : Fits acc
  eq : acc ++ meetP rs ts = meetP xs ys
  len : acc.length + k ≤ 65536
  num : k = rs.length + ts.length
  bel : Below w.heap.size w wr

theorem RowAt.tail {w : World} {b o : Nat} {x : Sp} {rs : List Sp} (h : RowAt w b o (x :: rs)) : RowAt w b (o + 2) rs := fun i hi => by
  have := h (i + 1) (by simpa using hi)
  rw [show o + (i + 1) * 2 = o + 2 + i * 2 by omega] at this
  simpa [lo, YthkjcljhfjaabaaGreatDoor.hi] using this
theorem Fits.tail {x : Sp} {rs : List Sp} (h : Fits (x :: rs)) : Fits rs := fun y hy => h y (List.mem_cons_of_mem _ hy)
theorem tail_full {w : World} {B b o : Nat} {x : Sp} {rs : List Sp} (hf : Fits (x :: rs)) (hl : (x :: rs).length ≤ 1) : Reads w B (some ⟨b, o, none⟩) 0 rs := by
  have : rs = [] := List.eq_nil_of_length_eq_zero (by simp at hl; exact List.length_eq_zero_iff.2 hl)
  subst this
  exact ⟨by simp, by omega, (fun y hy => by cases hy), .inl rfl⟩
theorem tail_more {w : World} {B b o d : Nat} {x : Sp} {rs : List Sp} (hr : RowAt w b o (x :: rs)) (hf : Fits (x :: rs)) (hl : (x :: rs).length ≤ d) (hd : d ≤ 9223372036854775807) (hB : b < B) : Reads w B (some ⟨b, o + 2, none⟩) (d - 1) rs :=
  ⟨by simp at hl; omega, by omega, hf.tail, .inr ⟨b, o + 2, rfl, hB, hr.tail⟩⟩
theorem whole_reads {w : World} {B b o d : Nat} {rs : List Sp} (hr : RowAt w b o rs) (hf : Fits rs) (hl : rs.length ≤ d) (hd : d ≤ 9223372036854775807) (hB : b < B) : Reads w B (some ⟨b, o, none⟩) d rs :=
  ⟨hl, hd, hf, .inr ⟨b, o, rfl, hB, hr⟩⟩
theorem capS_fits {x y : Sp} {rs ts : List Sp} {acc : List Sp} (ha : Fits acc) (h1 : Fits (x :: rs)) (h2 : Fits (y :: ts)) : Fits (acc ++ capS x y) := by
  intro z hz
  rcases List.mem_append.1 hz with hz | hz
  · exact ha z hz
  · have := capS_of x y z hz
    have a := h1 x List.mem_cons_self
    have b := h2 y List.mem_cons_self
    unfold I64 at *
    omega
theorem meet_left {acc xs ys rs ts : List Sp} {x y : Sp} (h : acc ++ meetP (x :: rs) (y :: ts) = meetP xs ys) (hlt : x.2 < y.2) : acc ++ capS x y ++ meetP rs (y :: ts) = meetP xs ys := by
  rw [← h, meetP, if_pos hlt, List.append_assoc]
theorem meet_right {acc xs ys rs ts : List Sp} {x y : Sp} (h : acc ++ meetP (x :: rs) (y :: ts) = meetP xs ys) (hlt : ¬ x.2 < y.2) : acc ++ capS x y ++ meetP (x :: rs) ts = meetP xs ys := by
  rw [← h, meetP, if_neg hlt, List.append_assoc]
theorem cap_len {acc : List Sp} {x y : Sp} {n : Nat} (h : acc.length + (n + 1) ≤ 65536) : (acc ++ capS x y).length + n ≤ 65536 := by
  have := capS_len x y
  rw [List.length_append]; omega

set_option maxRecDepth 100000 in
set_option maxHeartbeats 2000000 in
theorem meetSpans_any (A1 A2 : Option Addr) (c1 c2 : Nat) (xs ys : List Sp) (w : World) (h1 : Reads w w.heap.size A1 c1 xs) (h2 : Reads w w.heap.size A2 c2 ys) (hs : xs.length + ys.length ≤ 65536) :
    Calls Tryz.prog 70 #[.slice A1 xs.length c1, .slice A2 ys.length c2] w fun e w' => ∃ v, e = .returned v ∧ OwnS w' w.heap.size v (meetP xs ys) ∧ Fits (meetP xs ys) ∧ Below w.heap.size w w' := by
  obtain ⟨i0, hi0, hz0, hz1, hz2⟩ := infoSp
  go_enter Tryz.func70, Tryz.ntmps70
  go_wp2
  go_loopg [0, 1, 5] (xs.length + ys.length) (fun k a b m wr => ∃ (rs ts acc : List Sp) (B1 B2 : Option Addr) (d1 d2 : Nat), MeetRel w xs ys k a b m wr rs ts acc B1 B2 d1 d2)
  case atStart => exact ⟨xs, ys, [], _, _, _, _, ⟨rfl, rfl, h1, h2, OwnS.nil _ _, (fun x hx => by cases hx), rfl, by simpa using hs, rfl, Below.refl _ _⟩⟩
  case round =>
    obtain ⟨rs, ts, acc, B1, B2, d1, d2, hR⟩ := hrel
    obtain ⟨rfl, rfl, hr, ht, hown, hfa, hacc, hlen, hnum, hb⟩ := hR
    have HA := Lib.hid hacc
    have HN := Lib.hid hnum
    clear hacc hnum
    cases rs with
    | nil =>
      go_wp2
      go_ret
      have he : acc = meetP xs ys := by have := HA.out; simp [meetP] at this; exact this
      exact ⟨_, rfl, he ▸ hown, he ▸ hfa, hb⟩
    | cons x rs =>
      cases ts with
      | nil =>
        go_wp2
        go_ret
        have he : acc = meetP xs ys := by have := HA.out; simp [meetP] at this; exact this
        exact ⟨_, rfl, he ▸ hown, he ▸ hfa, hb⟩
      | cons y ts =>
        obtain ⟨hlc1, hc1, hf1, hrow1⟩ := hr
        obtain ⟨hlc2, hc2, hf2, hrow2⟩ := ht
        rcases hrow1 with h | ⟨b1, o1, rfl, hB1, hrow1⟩
        · cases h
        rcases hrow2 with h | ⟨b2, o2, rfl, hB2, hrow2⟩
        · cases h
        have q1 := hrow1 0 (by simp)
        have q2 := hrow2 0 (by simp)
        simp only [Nat.zero_mul, Nat.add_zero, lo, hi, List.getD_cons_zero] at q1 q2
        obtain ⟨p1, p2⟩ := q1
        obtain ⟨p3, p4⟩ := q2
        have hbw1 : b1 < wr.heap.size := by have := hb.size; omega
        have hbw2 : b2 < wr.heap.size := by have := hb.size; omega
        go_upto_region 3 with fail
        go_cut [6] (fun s6 wx => s6 = .pointer (some ⟨wr.heap.size, 0, none⟩) ∧ wx = (wr.alloc (.cells #[.int .i64 (mxI x.1 y.1), .int .i64 (mnI x.2 y.2)] 55)).drew)
        case first =>
          go_region_held3 (fun w' => w'.cell? ⟨b1, o1, none⟩ = some (.int .i64 x.1) ∧ w'.cell? ⟨b1, o1 + 1, none⟩ = some (.int .i64 x.2) ∧ w'.cell? ⟨b2, o2, none⟩ = some (.int .i64 y.1) ∧ w'.cell? ⟨b2, o2 + 1, none⟩ = some (.int .i64 y.2)) (go_keep) (first | fail)
          all_goals go_wp2_with fail
          all_goals (go_meet; refine ⟨rfl, ?_⟩; unfold mxI mnI; (repeat' split) <;> first | rfl | (exfalso; omega))
        case rest =>
          obtain ⟨rfl, rfl⟩ := hcut
          have hgrow1 : Below wr.heap.size wr ((wr.alloc (.cells #[.int .i64 (mxI x.1 y.1), .int .i64 (mnI x.2 y.2)] 55)).alloc (.cells #[.int .i64 (mxI x.1 y.1), .int .i64 (mnI x.2 y.2)] 55)).drew := (((Below.refl _ _).alloc (Nat.le_refl _) _).alloc (by simp) _).drew
          have hgrow0 := hgrow1.mono hb.size
          have hgrow2 : Below w.heap.size wr (((wr.alloc (.cells #[.int .i64 (mxI x.1 y.1), .int .i64 (mnI x.2 y.2)] 55)).alloc (.cells #[.int .i64 (mxI x.1 y.1), .int .i64 (mnI x.2 y.2)] 55)).alloc (.cells #[.int .i64 (mxI x.1 y.1), .int .i64 (mnI x.2 y.2)] 55)).drew := ((((Below.refl _ _).alloc hb.size _).alloc (by have := hb.size; simp; omega) _).alloc (by have := hb.size; simp; omega) _).drew
          go_step
          go_step
          go_cut [5] (fun s5 wx => OwnS wx w.heap.size s5 (acc ++ capS x y) ∧ Below w.heap.size wr wx)
          case first =>
            by_cases he : mnI x.2 y.2 < mxI x.1 y.1
            · have hcap := Lib.hid (show capS x y = [] by unfold capS; rw [if_neg (by rw [← mxI_eq, ← mnI_eq]; omega)])
              have he1 : ¬ mxI x.1 y.1 ≤ mnI x.2 y.2 := by omega
              have he2 : decide (mxI x.1 y.1 ≤ mnI x.2 y.2) = false := decide_eq_false he1
              go_wp2_with (go_at_call 52; refine (empty_any _ _ _).mono ?_; rintro e w1 ⟨rfl, rfl⟩)
              go_meet
              rw [hcap.out, List.append_nil]
              exact ⟨hown.below hgrow1, hgrow0⟩
            · have he' : decide (mnI x.2 y.2 < mxI x.1 y.1) = false := decide_eq_false he
              have he1 : mxI x.1 y.1 ≤ mnI x.2 y.2 := by omega
              have he2 : decide (mxI x.1 y.1 ≤ mnI x.2 y.2) = true := decide_eq_true he1
              have hcap := Lib.hid (show capS x y = [(mxI x.1 y.1, mnI x.2 y.2)] by unfold capS; rw [if_pos (by rw [← mxI_eq, ← mnI_eq]; omega), mxI_eq, mnI_eq])
              have hown1 := (((World.ownsRow.alloc hown (.cells #[.int .i64 (mxI x.1 y.1), .int .i64 (mnI x.2 y.2)] 55)).alloc (.cells #[.int .i64 (mxI x.1 y.1), .int .i64 (mnI x.2 y.2)] 55)).alloc (.cells #[.int .i64 (mxI x.1 y.1), .int .i64 (mnI x.2 y.2)] 55)).drew
              go_wp2_with (first | (go_at_call 52; refine (empty_any _ _ _).mono ?_; rintro e w1 ⟨rfl, rfl⟩) | (at_builtin; refine wpList_append_own _ rfl (.tmp 37) (.tmp 39) 24 rfl w.heap.size 55 i0 _ 2 16 Tryz.underlying24 hi0 hz0 hz1 hz2 rfl (by decide) _ acc.length (cellsOf acc) rfl hown1 ⟨wr.heap.size + 1 + 1, 0, none⟩ 1 1 [.int .i64 (mxI x.1 y.1), .int .i64 (mnI x.2 y.2)] rfl rfl ?hc1 ?hc2 ?hc3 ?hc4 ?hc5 ?_; rotate_right; intro v' w1 hown2 hgrow _))
              case hc1 => exact cell_one _ _ _ _ (by simp)
              case hc2 => simp [Value.oneCell']
              case hc3 => unfold maxLen; omega
              case hc4 => omega
              case hc5 => have := hb.size; simp; omega
              go_meet
              rw [hcap.out]
              exact ⟨OwnS.of_append hown2, Below.grown (row := u5.ownBlock) hgrow2 hgrow (by have := hb.size; simp; omega) (fun k hk => (hown.lt k hk).1)⟩
          case rest =>
            obtain ⟨hown2, hbw⟩ := hcut
            have hb' := hb.trans hbw
            have hrow1' := hrow1.below hbw hB1
            have hrow2' := hrow2.below hbw hB2
            have q1 := hrow1' 0 (by simp)
            have q2 := hrow2' 0 (by simp)
            simp only [Nat.zero_mul, Nat.add_zero, lo, hi, List.getD_cons_zero] at q1 q2
            obtain ⟨p5, p6⟩ := q1
            obtain ⟨p7, p8⟩ := q2
            clear p1 p2 p3 p4 hgrow0 hgrow1 hown
            have hf3 := capS_fits hfa hf1 hf2
            have hgk : Hid (gk = rs.length + ts.length + 1 + 1) := Lib.hid (by have := HN.out; simp at this; omega)
            by_cases hlt : x.2 < y.2
            · have hnew := Lib.hid (meet_left HA.out hlt)
              have hlen2 := Lib.hid (cap_len (x := x) (y := y) (acc := acc) (n := rs.length + (ts.length + 1)) (by have := hgk.out; omega))
              have hw2 := fun n => whole_reads (B := w.heap.size) (hrow2'.keep (w' := wc.drewN n) fun o => rfl) hf2 hlc2 hc2 hB2
              by_cases hd : d1 = 1
              · subst hd
                go_wp2_with fail
                go_quiet (fail)
                go_wp2_with fail
                go_roundg (rs.length + (ts.length + 1))
                case measure => have := hgk.out; omega
                case rel => exact ⟨rs, y :: ts, acc ++ capS x y, _, _, _, _, ⟨rfl, rfl, tail_full hf1 hlc1, hw2 _, hown2, hf3, hnew.out, hlen2.out, rfl, below_drewN hb' _⟩⟩
              · have hw1 := fun n => tail_more (B := w.heap.size) (hrow1'.keep (w' := wc.drewN n) fun o => rfl) hf1 hlc1 hc1 hB1
                go_wp2_with fail
                go_quiet (fail)
                go_wp2_with fail
                go_roundg (rs.length + (ts.length + 1))
                case measure => have := hgk.out; omega
                case rel => exact ⟨rs, y :: ts, acc ++ capS x y, _, _, _, _, ⟨rfl, rfl, hw1 _, hw2 _, hown2, hf3, hnew.out, hlen2.out, rfl, below_drewN hb' _⟩⟩
            · have hnew := Lib.hid (meet_right HA.out hlt)
              have hlen2 := Lib.hid (cap_len (x := x) (y := y) (acc := acc) (n := (rs.length + 1) + ts.length) (by have := hgk.out; omega))
              have hw1 := fun n => whole_reads (B := w.heap.size) (hrow1'.keep (w' := wc.drewN n) fun o => rfl) hf1 hlc1 hc1 hB1
              by_cases hd : d2 = 1
              · subst hd
                go_wp2_with fail
                go_quiet (fail)
                go_wp2_with fail
                go_roundg ((rs.length + 1) + ts.length)
                case measure => have := hgk.out; omega
                case rel => exact ⟨x :: rs, ts, acc ++ capS x y, _, _, _, _, ⟨rfl, rfl, hw1 _, tail_full hf2 hlc2, hown2, hf3, hnew.out, hlen2.out, rfl, below_drewN hb' _⟩⟩
              · have hw2 := fun n => tail_more (B := w.heap.size) (hrow2'.keep (w' := wc.drewN n) fun o => rfl) hf2 hlc2 hc2 hB2
                go_wp2_with fail
                go_quiet (fail)
                go_wp2_with fail
                go_roundg ((rs.length + 1) + ts.length)
                case measure => have := hgk.out; omega
                case rel => exact ⟨x :: rs, ts, acc ++ capS x y, _, _, _, _, ⟨rfl, rfl, hw1 _, hw2 _, hown2, hf3, hnew.out, hlen2.out, rfl, below_drewN hb' _⟩⟩
end Go.Proofs.YthkjcljhfjaabaaGreatDoor
