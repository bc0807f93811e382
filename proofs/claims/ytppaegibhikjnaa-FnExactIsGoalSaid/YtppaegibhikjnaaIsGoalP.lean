/-
  FnExactIsGoal: for every goal the law returns true, and the goal reads afterwards as it read before. No condition.
-/
import Derived.Test.YtppaegibhikjnaaRows
import Derived.Test.YtppaegibhikjnaaArr
import Derived.Test.YtppaegibhikjnaaAnyR
import Derived.Test.YtppaegibhikjnaaDieW
import Derived.Test.YtppaegibhikjnaaFracW
import Derived.Test.YtppaegibhikjnaaGoalW
import Derived.Test.YtppaegibhikjnaaOpenG
import Derived.Test.YtppaegibhikjnaaPairA
import Derived.Test.YtppaegibhikjnaaOpenD
import Derived.WalkKit
import Derived.WalkLawsBesides
import Derived.WalkSpells
import Derived.ProofKit
import Derived.OpenShut
import Derived.Deep.RegionWith
import Derived.Deep.QuietTactic
import Derived.BigQuiet
namespace Go.Proofs.Ytppaegibhikjnaa
open Go.ChangeShapes Go.WideShapes Go.ChangeAt Go.RowKit
open Go.ChangeMaps (open_string shut_string)

namespace IsGoalP
open Dice Arr FracW OpenD OpenG GoalW AnyR PairA

set_option maxRecDepth 20000 in
set_option maxHeartbeats 8000000 in
theorem law_any (k b : Int) (w : World)  :
    Calls Try.prog 3 #[v2 k b] w fun e w' => e = .returned (.bool true) ∧ Below w.heap.size w w' := by
  have Htg := Lib.hid toGoal_any
  have hs := specIsGoal_any k b
  have hi := implIsGoal_any k b
  generalize goalOk k b = x at hs hi
  have Hs := Lib.hid hs; clear hs
  have Hi := Lib.hid hi; clear hi
  have hB := n0 w
  go_enter Try.func3, Try.ntmps3
  have hX1 := (At.newGb w k b 23 (p := w.heap.size) rfl)
  have hB := na hB (.cells #[.int .i64 k, .int .i64 b] 23)
  have c2 := hX1.cell 0 (by omega)
  have c3 := hX1.cell 1 (by omega)
  go_wp2_with fail
  clear c2 c3
  refine (Htg.out k b _).mono ?_
  rintro e w4 ⟨rfl, hb⟩
  have hB := nx hB hb
  have hX1 := hX1.up hb
  clear hb
  go_wp2_with fail
  refine (Hs.out _).mono ?_
  rintro e w5 ⟨rfl, hb⟩
  have hB := nx hB hb
  have hX1 := hX1.up hb
  clear hb
  have c6 := hX1.cell 0 (by omega)
  have c7 := hX1.cell 1 (by omega)
  go_wp2_with fail
  clear c6 c7
  refine (Htg.out k b _).mono ?_
  rintro e w8 ⟨rfl, hb⟩
  have hB := nx hB hb
  have hX1 := hX1.up hb
  clear hb
  go_wp2_with fail
  refine (Hi.out _).mono ?_
  rintro e w9 ⟨rfl, hb⟩
  have hB := nx hB hb
  have hX1 := hX1.up hb
  clear hb
  cases x
  all_goals
    go_wp2_with fail
    go_ret
    exact ⟨rfl, hB⟩

theorem laidOut : laidOutB Try.prog = true := by kernel_rfl
set_option maxRecDepth 100000 in
/-- What the walk gives, for every argument. -/
theorem contract (H : Type) (enc : TypeId × Value → H) (W : World) (base : Nat) (args : Array Value) (ds gs : List (DataW H)) (before : List MemPlace)
    (hval : ∀ (j : Nat) t v, Try.f3.params[j]? = some t → args[j]? = some v → Value.okWide Try.prog W .any base t v)
    (hW : DataW.Whole enc Try.prog Try.f3.params.toList Rows.fnExactIsGoalSpec.vars false W args.toList ds gs before) :
    Calls Try.prog 3 args W fun e W' => ∃ v, e = .returned v ∧ Rows.fnExactIsGoalSpec.post enc Try.prog Try.f3 false true false false W args v W' := by
  have hW' := hW
  obtain ⟨p, q, hA0, hV, rfl, hfz, hnd⟩ := hW
  have hA : DataW.TrodAll enc Try.prog W 0 (fun _ => true) true Try.f3.params.toList args.toList ds p := hA0
  rw [Try.params3] at hA hval
  obtain ⟨v0, vs0, d0, ds0, p0, q0, hargs, rfl, rfl, h0, r0⟩ := trodAll_cons hA
  obtain ⟨rfl, rfl, rfl⟩ := trodAll_nil r0
  obtain rfl : args = #[v0] := by cases args; simp_all
  obtain ⟨rfl, rfl⟩ := trodVars_none hV
  obtain ⟨a0, b0, rfl, w0, u0⟩ := OpenG.goal_of (hval 0 23 v0 rfl rfl) h0
  have k0 := h0
  have lt0 : ∀ x ∈ p0, x.block < W.heap.size := fun x hx => by have := hW'.lt x (by simp [hx]); simpa using this
  clear hA0
  simp only [List.append_nil] at hW'
  refine (law_any a0 b0 W).mono fun e W' ⟨he, hg⟩ => ?_
  subst he
  exact ⟨_, rfl, _, _, _, [], (p0 ++ []), [], hW', trodAll_cons_mk (shut_bool Try.underlying4 _) trodAll_mk0, trodAll_cons_mk (Below.trod laidOut (by kernel_rfl) (of_decide_eq_true (by kernel_rfl)) k0 hg lt0) trodAll_mk0, rfl, hg.frame _, fun h => by cases h⟩

theorem own : ownKnob Try.prog.godebug = none := by kernel_rfl

set_option maxRecDepth 100000 in
theorem lifted (os : Os) (started : os.Started) (H : Type) (enc : TypeId × Value → H) :
    ReturnsInHanded {} Try.checked os 3 .any (Rows.fnExactIsGoalSpec.pre6 enc Try.prog Try.f3 Rows.fnExactIsGoalRow.domain false) (Rows.fnExactIsGoalSpec.post enc Try.prog Try.f3 false true false false) := by
  refine returnsInHanded_of_change (C := Try.checked) own started (by kernel_rfl) Try.func3
    (ChangeSpec.witness6 (enc := enc) (C := Try.checked) false ⟨#[], #[.agg #[.int .i64 0, .int .i64 0]], []⟩ 8 (by kernel_rfl) (by kernel_rfl) (by kernel_rfl) (by kernel_rfl)) ?_
  intro W base args ds gs before hval hW _ _
  exact contract H enc W base args ds gs before hval hW

theorem holds : Rows.FnExactIsGoalSaid :=
  OpenClaim.holds_of_wide 3 Try.f3 rfl rfl rfl rfl rfl rfl rfl ⟨rfl, rfl, rfl, rfl, rfl⟩ rfl rfl rfl rfl rfl (by kernel_rfl) Try.func3 (by kernel_rfl)
    (of_decide_eq_true (by kernel_rfl)) (by unfold Func.isWrapper; rw [if_neg (by decide +kernel)]; exact ⟨rfl, rfl⟩)
    (fun os started H enc _ => lifted os started H enc)

end IsGoalP
end Go.Proofs.Ytppaegibhikjnaa
