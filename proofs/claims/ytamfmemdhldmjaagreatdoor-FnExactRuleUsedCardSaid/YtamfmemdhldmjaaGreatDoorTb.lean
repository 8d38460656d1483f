/-
  Contracts of the program's texts of values.
-/
import Derived.Test.YtamfmemdhldmjaaGreatDoorTa
import Derived.Test.YtamfmemdhldmjaaGreatDoorRdM
import Derived.Test.YtamfmemdhldmjaaGreatDoorTn
import Derived.Lib.AppendIntMem
namespace Go.Proofs.YtamfmemdhldmjaaGreatDoor
open Go.RowKit Sets

/-- The library's table of powers of ten reads as it should, now and in whatever world grows out of this one. -/
def PowIs (w : World) : Prop := Lib.TabBelow Tryz.prog w.heap.size w "internal/strconv.uint64pow10" .u64 Lib.pow10Tab
theorem PowIs.step {w w' : World} (h : PowIs w) (hb : Below w.heap.size w w') : PowIs w' := fun w2 h2 => h w2 (hb.trans (h2.mono hb.size))
theorem PowIs.here {w : World} (h : PowIs w) : Lib.TabIs Tryz.prog w "internal/strconv.uint64pow10" .u64 Lib.pow10Tab := Lib.TabBelow.here h

theorem encode_let (n : Int) (h0 : 0 ≤ n) (h1 : n ≤ 25) : Utf8.encode (65 + n) = ⟨#[UInt8.ofNat (65 + n.toNat)]⟩ := by
  have hv : Utf8.valid (65 + n) = true := by unfold Utf8.valid; simp; omega
  unfold Utf8.encode
  simp only [hv, if_true]
  rw [if_pos (by omega), show (65 + n).toNat = 65 + n.toNat by omega]

end Go.Proofs.YtamfmemdhldmjaaGreatDoor
