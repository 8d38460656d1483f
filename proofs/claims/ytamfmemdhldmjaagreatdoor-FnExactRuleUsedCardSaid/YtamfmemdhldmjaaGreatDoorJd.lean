/-
  The rules that count for a result: what they are, and the model.
-/
import Derived.Test.YtamfmemdhldmjaaGreatDoorJaM
import Derived.Test.YtamfmemdhldmjaaGreatDoorVdM
namespace Go.Proofs.YtamfmemdhldmjaaGreatDoor
open Go.RowKit Sets
def outR (t : Tb) (n : Nat) : Int := (t.rules.getD n ([], 0)).2
def uB (t : Tb) (n : Nat) (ns : List Int) : Bool :=
  if t.pol = 4 then decide ((matK t.rules ns t.rules.length).getD 0 0 = (n : Int))
  else if t.pol = 3 ∨ t.pol = 9 ∨ t.pol = 8 then decide (outR t n = numV t.pol (outsV t ns)) else true
def ruV (t : Tb) (n : Int) (ns : List Int) : Bool := rmB t n ns && uB t n.toNat ns
theorem mat_in {rs : List Rl} {ns : List Int} {n : Nat} (hn : n < rs.length) (hm : mB (rs.getD n ([], 0)).1 ns = true) : 0 < (matK rs ns rs.length).length := by
  have : (n : Int) ∈ matK rs ns rs.length := (matK_mem _ _).2 ⟨n, hn, rfl, hm⟩
  exact List.length_pos_of_mem this
theorem int_rd {w : World} {B : Nat} {A : Option Addr} {c : Nat} {ns : List Int} (h : IntsAt w B A c ns) {k : Nat} (hk : k < ns.length) :
    ∃ b off, A = some ⟨b, off, none⟩ ∧ b < B ∧ w.cell? ⟨b, off + k, none⟩ = some (.int .i64 (ns.getD k 0)) := by
  obtain ⟨_, _, _, hz | ⟨b, off, e, hB, hp⟩⟩ := h
  · omega
  · have := hp k hk
    rw [Nat.mul_one] at this
    exact ⟨b, off, e, hB, this⟩
theorem rule_at {w : World} {A : Option Addr} {c : Nat} {rs : List Rl} (h : RulesAt w w.heap.size A c rs) {i : Nat} (hi : i < rs.length) :
    ∃ b off A' c', A = some ⟨b, off, none⟩ ∧ b < w.heap.size ∧ w.cell? ⟨b, off + i * 2, none⟩ = some (.slice A' (rs.getD i ([], 0)).1.length c') ∧ SetsAt w w.heap.size A' c' (rs.getD i ([], 0)).1 ∧ w.cell? ⟨b, off + i * 2 + 1, none⟩ = some (.int .i64 (rs.getD i ([], 0)).2) := by
  obtain ⟨_, _, hz | ⟨b, off, e, hB, hp⟩⟩ := h
  · omega
  · obtain ⟨⟨A', c', h1, h2⟩, h3⟩ := hp i hi
    exact ⟨b, off, A', c', e, hB, h1, h2, h3⟩
end Go.Proofs.YtamfmemdhldmjaaGreatDoor
/-
-/
