/-
  No contract of the library is used at this translation.
-/
import Derived.Test.YtamfmemdhldmjaaGreatDoorProg
