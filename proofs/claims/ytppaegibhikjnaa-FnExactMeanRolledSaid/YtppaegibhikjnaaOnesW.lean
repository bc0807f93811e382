/-
  How many bits of a small number are set, by the library.
-/
import Derived.Test.YtppaegibhikjnaaRows
import Derived.Test.YtppaegibhikjnaaArr
import Derived.Test.YtppaegibhikjnaaAll6
import Derived.Test.YtppaegibhikjnaaAgainM
import Derived.Test.YtppaegibhikjnaaPowW
import Derived.Test.YtppaegibhikjnaaVFacts
import Derived.Test.YtppaegibhikjnaaOpenD
import Derived.WalkKit
import Derived.Deep.WholeRow
import Derived.Deep.AppendLies
import Derived.FnLit
import Derived.WalkLawsBesides
import Derived.WalkSpells
import Derived.ProofKit
import Derived.OpenShut
import Derived.Deep.RegionWith
import Derived.Deep.QuietTactic
import Derived.BigQuiet
namespace Go.Proofs.Ytppaegibhikjnaa
open Go.ChangeShapes Go.WideShapes Go.ChangeAt Go.RowKit
open Go.ChangeMaps (open_string shut_string)

namespace OnesW
open Dice Arr AgainM PowW


/-- How many of the first n dice are in a set. -/
def ones (s : Nat) : Nat := bit s 0 + bit s 1 + bit s 2
set_option maxHeartbeats 4000000 in
theorem ones64_any (s : Nat) (hs : s < 8) (w : World) :
    Calls Try.prog 101 #[.int .u64 s] w fun e w' => e = .returned (.int .i64 (ones s : Nat)) ∧ w' = w := by
  obtain rfl | rfl | rfl | rfl | rfl | rfl | rfl | rfl : s = 0 ∨ s = 1 ∨ s = 2 ∨ s = 3 ∨ s = 4 ∨ s = 5 ∨ s = 6 ∨ s = 7 := by omega
  all_goals
    go_enter Try.func101, Try.ntmps101
    go_wp2_with fail
    go_ret
    exact ⟨by kernel_rfl, rfl⟩
set_option maxHeartbeats 4000000 in
theorem ones_any (s : Nat) (hs : s < 8) (w : World) :
    Calls Try.prog 75 #[.int .u64 s] w fun e w' => e = .returned (.int .i64 (ones s : Nat)) ∧ w' = w := by
  have H := Lib.hid (ones64_any s hs w)
  generalize ones s = o at *
  go_enter Try.func75, Try.ntmps75
  go_wp2_with fail
  refine H.out.mono ?_
  rintro e w2 ⟨rfl, rfl⟩
  go_wp2_with fail
  go_ret
  exact ⟨rfl, rfl⟩


end OnesW
end Go.Proofs.Ytppaegibhikjnaa
