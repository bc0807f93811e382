/-
  The closure of PhraseWithin.
-/
import Derived.Test.YtdodokeebmdceaaRows
import Derived.Test.YtdodokeebmdceaaArr
import Derived.Test.YtdodokeebmdceaaAnyR
import Derived.Test.YtdodokeebmdceaaDieW
import Derived.Test.YtdodokeebmdceaaSortW
import Derived.Test.YtdodokeebmdceaaFracW
import Derived.Test.YtdodokeebmdceaaFracL
import Derived.Test.YtdodokeebmdceaaCutW
import Derived.Test.YtdodokeebmdceaaAll6
import Derived.Test.YtdodokeebmdceaaAllL
import Derived.Test.YtdodokeebmdceaaOwnL
import Derived.Test.YtdodokeebmdceaaFracM
import Derived.Test.YtdodokeebmdceaaWgtM
import Derived.Test.YtdodokeebmdceaaWgtW
import Derived.Test.YtdodokeebmdceaaShelfSl
import Derived.Test.YtdodokeebmdceaaOpenI
import Derived.Test.YtdodokeebmdceaaPhrM
import Derived.Test.YtdodokeebmdceaaPhrW
import Derived.Test.YtdodokeebmdceaaPhrV
import Derived.Test.YtdodokeebmdceaaOvI
import Derived.Test.YtdodokeebmdceaaGoalW
import Derived.Test.YtdodokeebmdceaaFracB2
import Derived.Test.YtdodokeebmdceaaOvS
import Derived.Test.YtdodokeebmdceaaStpS
import Derived.Test.YtdodokeebmdceaaStpI
import Derived.Test.YtdodokeebmdceaaOpenD
import Derived.WalkKit
import Derived.WalkLawsBesides
import Derived.WalkSpells
import Derived.ProofKit
import Derived.OpenShut
import Derived.Deep.RegionWith
import Derived.Deep.QuietTactic
import Derived.BigQuiet
namespace Go.Proofs.Ytdodokeebmdceaa
open Go.ChangeShapes Go.WideShapes Go.ChangeAt Go.RowKit
open Go.ChangeMaps (open_string shut_string)

namespace StpC
open Dice Arr DieW SortW FracW CutW All6 AllL OwnL FracM WgtM WgtW OpenG PhrM PhrW AnyR PhrV OvI GoalW OvS StpS StpI


set_option maxRecDepth 100000 in
set_option maxHeartbeats 4000000 in
theorem closure_any (gb m b : Nat) (f : Nat → Int) (s : Nat) (x : Int) (w : World) (hC : At w gb m f) (hb : w.cell? ⟨b, 0, none⟩ = some (.slice (some ⟨gb, 0, none⟩) m m)) (hbl : b < w.heap.size) (hm : 1 ≤ m ∧ m ≤ 6) (hs : s < m) :
    Calls Try.prog 80 #[.int .i64 s, .int .i64 x, .pointer (some ⟨b, 0, none⟩)] w fun e w' => e = .returned (.tuple #[.int .i64 (tp f m s x : Nat), .bool (decide (tp f m s x = m))]) ∧ Below w.heap.size w w' := by
  have hc := implCome_any gb m f s x w hC hm hs
  have Hc := Lib.hid hc; clear hc hC
  have Hb := Lib.hid hb
  generalize htp : tp f m s x = q at *
  have hd : ((q : Int) == (m : Int)) = decide (q = m) := by
    by_cases h : q = m
    · subst h; simp
    · rw [decide_eq_false h]; simp; omega
  rw [← hd]
  clear htp hd
  go_enter Try.func80, Try.ntmps80
  go_wp2_with fail
  refine Hc.out.mono ?_
  rintro e w1 ⟨rfl, hb1⟩
  have hb2 : w1.cell? ⟨b, 0, none⟩ = some (.slice (some ⟨gb, 0, none⟩) m m) := (hb1.cell (p := ⟨b, 0, none⟩) hbl).trans Hb.out
  clear hb
  go_wp2_with fail
  go_region
  all_goals
    go_wp2_with fail
    refine bodyPost_ret (results_tmp2 rfl _ _ _) rfl ?_
    exact ⟨rfl, hb1.drew⟩


end StpC
end Go.Proofs.Ytdodokeebmdceaa
