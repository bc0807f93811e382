/-
  Goals, both sides.
-/
import Derived.Test.YtppaegibhikjnaaRows
import Derived.Test.YtppaegibhikjnaaArr
import Derived.Test.YtppaegibhikjnaaDieW
import Derived.Test.YtppaegibhikjnaaFracW
import Derived.Test.YtppaegibhikjnaaOwnL
import Derived.Test.YtppaegibhikjnaaAll6
import Derived.Test.YtppaegibhikjnaaPoolW
import Derived.Test.YtppaegibhikjnaaPairA
import Derived.Test.YtppaegibhikjnaaOpenD
import Derived.WalkKit
import Derived.WalkLawsBesides
import Derived.WalkSpells
import Derived.ProofKit
import Derived.OpenShut
import Derived.Deep.RegionWith
import Derived.Deep.QuietTactic
import Derived.BigQuiet
namespace Go.Proofs.Ytppaegibhikjnaa
open Go.ChangeShapes Go.WideShapes Go.ChangeAt Go.RowKit
open Go.ChangeMaps (open_string shut_string)

namespace GoalW
open Dice Arr FracW OwnL All6 DieW PoolW SortW PairA


/-- Whether a goal is valid. -/
def goalOk (k b : Int) : Bool := if k = 2 ∨ k = 3 then decide (0 ≤ b ∧ b ≤ 120) else decide ((k = 1 ∨ k = 4 ∨ k = 5) ∧ b = 0)
theorem At.newG (x y : Int) (w : World) (t : TypeId) : At (w.alloc (.cells #[.int .i64 x, .int .i64 y] t)) w.heap.size 2 (fr x y) :=
  At.new w _ t 2 _ fun k hk => by
    obtain rfl | rfl : k = 0 ∨ k = 1 := by omega
    all_goals rfl
theorem At.newGb (w : World) (x y : Int) (t : TypeId) {p : Nat} (hp : p = w.heap.size) : At (w.alloc (.cells #[.int .i64 x, .int .i64 y] t)) p 2 (fr x y) := by
  subst hp
  exact At.newG x y w t

set_option maxHeartbeats 2000000 in
theorem implIsGoal_any (k b : Int) (w : World) :
    Calls Try.prog 17 #[v2 k b] w fun e w' => e = .returned (.bool (goalOk k b)) ∧ Below w.heap.size w w' := by
  by_cases h1 : k = 1
  · subst h1
    go_enter Try.func17, Try.ntmps17
    go_wp2_with fail
    all_goals
      go_ret
      refine ⟨?_, na (n0 w) _⟩
      simp_all [goalOk]
      try first | rfl | omega
  by_cases h2 : k = 2
  · subst h2
    go_enter Try.func17, Try.ntmps17
    go_wp2_with fail
    all_goals
      go_ret
      refine ⟨?_, na (n0 w) _⟩
      simp_all [goalOk]
      try first | rfl | omega
  by_cases h3 : k = 3
  · subst h3
    go_enter Try.func17, Try.ntmps17
    go_wp2_with fail
    all_goals
      go_ret
      refine ⟨?_, na (n0 w) _⟩
      simp_all [goalOk]
      try first | rfl | omega
  by_cases h4 : k = 4
  · subst h4
    go_enter Try.func17, Try.ntmps17
    go_wp2_with fail
    all_goals
      go_ret
      refine ⟨?_, na (n0 w) _⟩
      simp_all [goalOk]
      try first | rfl | omega
  by_cases h5 : k = 5
  · subst h5
    go_enter Try.func17, Try.ntmps17
    go_wp2_with fail
    all_goals
      go_ret
      refine ⟨?_, na (n0 w) _⟩
      simp_all [goalOk]
      try first | rfl | omega
  · go_enter Try.func17, Try.ntmps17
    go_wp2_with fail
    all_goals
      go_ret
      refine ⟨?_, na (n0 w) _⟩
      simp_all [goalOk]

set_option maxHeartbeats 2000000 in
theorem l6Goal_any (k b : Int) (w : World) :
    Calls Try.prog 53 #[v2 k b] w fun e w' => e = .returned (.bool (goalOk k b)) ∧ Below w.heap.size w w' := by
  have Hin := Lib.hid (fun (x a b : Int) (w : World) => l1In_any x a b w)
  by_cases h1 : k = 1
  · subst h1
    go_enter Try.func53, Try.ntmps53
    go_wp2_with (go_at_call 54; refine (Hin.out _ _ _ _).mono ?_; rintro e w2 ⟨rfl, rfl⟩)
    all_goals
      go_ret
      refine ⟨?_, na (n0 w) _⟩
      simp_all [goalOk]
      try first | rfl | omega
  by_cases h2 : k = 2
  · subst h2
    go_enter Try.func53, Try.ntmps53
    go_wp2_with (go_at_call 54; refine (Hin.out _ _ _ _).mono ?_; rintro e w2 ⟨rfl, rfl⟩)
    all_goals
      go_ret
      refine ⟨?_, na (n0 w) _⟩
      simp_all [goalOk]
      try first | rfl | omega
  by_cases h3 : k = 3
  · subst h3
    go_enter Try.func53, Try.ntmps53
    go_wp2_with (go_at_call 54; refine (Hin.out _ _ _ _).mono ?_; rintro e w2 ⟨rfl, rfl⟩)
    all_goals
      go_ret
      refine ⟨?_, na (n0 w) _⟩
      simp_all [goalOk]
      try first | rfl | omega
  by_cases h4 : k = 4
  · subst h4
    go_enter Try.func53, Try.ntmps53
    go_wp2_with (go_at_call 54; refine (Hin.out _ _ _ _).mono ?_; rintro e w2 ⟨rfl, rfl⟩)
    all_goals
      go_ret
      refine ⟨?_, na (n0 w) _⟩
      simp_all [goalOk]
      try first | rfl | omega
  by_cases h5 : k = 5
  · subst h5
    go_enter Try.func53, Try.ntmps53
    go_wp2_with (go_at_call 54; refine (Hin.out _ _ _ _).mono ?_; rintro e w2 ⟨rfl, rfl⟩)
    all_goals
      go_ret
      refine ⟨?_, na (n0 w) _⟩
      simp_all [goalOk]
      try first | rfl | omega
  · go_enter Try.func53, Try.ntmps53
    go_wp2_with (go_at_call 54; refine (Hin.out _ _ _ _).mono ?_; rintro e w2 ⟨rfl, rfl⟩)
    all_goals
      go_ret
      refine ⟨?_, na (n0 w) _⟩
      simp_all [goalOk]
      try first | rfl | omega
set_option maxHeartbeats 2000000 in
theorem specIsGoal_any (k b : Int) (w : World) :
    Calls Try.prog 15 #[v2 k b] w fun e w' => e = .returned (.bool (goalOk k b)) ∧ Below w.heap.size w w' := by
  have hb := na (n0 w) (.cells #[.int .i64 k, .int .i64 b] 25)
  have Hg := Lib.hid (l6Goal_any k b)
  go_enter Try.func15, Try.ntmps15
  go_wp2_with fail
  refine (Hg.out _).mono ?_
  rintro e w2 ⟨rfl, hb2⟩
  go_wp2_with fail
  go_ret
  exact ⟨rfl, nx hb hb2⟩

set_option maxHeartbeats 1000000 in
theorem toGoal_any (k b : Int) (w : World) :
    Calls Try.prog 16 #[v2 k b] w fun e w' => e = .returned (v2 k b) ∧ Below w.heap.size w w' := by
  have hR : At (((w.alloc (.cells #[.int .i64 k, .int .i64 b] 23)).alloc (.cells #[.int .i64 k, .int .i64 b] 25)).alloc (.cells #[.int .i64 k, .int .i64 b] 25)) (w.heap.size + 1) 2 (fr k b) := by
    have h := (At.newG k b (w.alloc (.cells #[.int .i64 k, .int .i64 b] 23)) 25).past (.cells #[.int .i64 k, .int .i64 b] 25)
    rw [size_alloc] at h
    exact h
  go_enter Try.func16, Try.ntmps16
  go_wp2_with fail
  refine ret_cellS (b := w.heap.size + 1) (n := 2) (f := fr k b) Try.results16 rfl Try.underlying25 (by kernel_rfl) hR rfl ⟨rfl, ?_⟩
  exact na (na (na (n0 w) _) _) _


end GoalW
end Go.Proofs.Ytppaegibhikjnaa
