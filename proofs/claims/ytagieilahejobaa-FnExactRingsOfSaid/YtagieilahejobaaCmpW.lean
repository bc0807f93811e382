/-
  The library's comparison of two integers.
-/
import Derived.Test.YtagieilahejobaaRows
import Derived.Test.YtagieilahejobaaDuel
import Derived.Test.YtagieilahejobaaOpenD
import Derived.WalkKit
import Derived.WalkLawsBesides
import Derived.WalkSpells
import Derived.ProofKit
import Derived.OpenShut
import Derived.Deep.RegionWith
import Derived.Deep.QuietTactic
import Derived.BigQuiet
namespace Go.Proofs.Ytagieilahejobaa
open Go.ChangeShapes Go.WideShapes Go.ChangeAt Go.RowKit
open Go.ChangeMaps (open_string shut_string)

namespace CmpW
open Dice Arr Duel

def cmp3 (x y : Int) : Int := if x < y then -1 else if y < x then 1 else 0
set_option maxHeartbeats 1000000 in
theorem cmp_any (x y : Int) (w : World) :
    Calls Try.prog 60 #[.int .i64 x, .int .i64 y] w fun e w' => e = .returned (.int .i64 (cmp3 x y)) ∧ w' = w := by
  unfold cmp3
  by_cases h1 : x < y
  · rw [if_pos h1]
    go_enter Try.func60, Try.ntmps60
    go_wp2
    go_ret
    exact ⟨rfl, rfl⟩
  · rw [if_neg h1]
    by_cases h2 : y < x
    · rw [if_pos h2]
      go_enter Try.func60, Try.ntmps60
      go_wp2
      go_ret
      exact ⟨rfl, rfl⟩
    · rw [if_neg h2]
      go_enter Try.func60, Try.ntmps60
      go_wp2
      go_ret
      exact ⟨rfl, rfl⟩

/-- Three ways of comparing. -/
theorem cls_cmp (x y : Int) : (1 : Int) - cmp3 x y = (Duel.cls x y : Nat) ∧ -1 ≤ cmp3 x y ∧ cmp3 x y ≤ 1 := by
  unfold cmp3 Duel.cls
  by_cases h1 : x < y
  · rw [if_pos h1, if_neg (by omega), if_neg (by omega)]; exact ⟨rfl, by omega, by omega⟩
  · rw [if_neg h1]
    by_cases h2 : y < x
    · rw [if_pos h2, if_pos h2]; exact ⟨rfl, by omega, by omega⟩
    · rw [if_neg h2, if_neg h2, if_pos (by omega)]; exact ⟨rfl, by omega, by omega⟩


end CmpW
end Go.Proofs.Ytagieilahejobaa
