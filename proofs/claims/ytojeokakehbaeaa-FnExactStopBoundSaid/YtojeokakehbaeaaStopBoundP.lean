/-
  FnExactStopBound: for every array of six numbers and every number of throws the law returns true. No condition.
-/
import Derived.Test.YtojeokakehbaeaaRows
import Derived.Test.YtojeokakehbaeaaArr
import Derived.Test.YtojeokakehbaeaaAnyR
import Derived.Test.YtojeokakehbaeaaDieW
import Derived.Test.YtojeokakehbaeaaFracW
import Derived.Test.YtojeokakehbaeaaSortW
import Derived.Test.YtojeokakehbaeaaOpenD
import Derived.Test.YtojeokakehbaeaaOwnL
import Derived.Test.YtojeokakehbaeaaMarkG
import Derived.Test.YtojeokakehbaeaaFracM
import Derived.Test.YtojeokakehbaeaaStopM
import Derived.Test.YtojeokakehbaeaaCutW
import Derived.Test.YtojeokakehbaeaaGoalW
import Derived.Test.YtojeokakehbaeaaFracB
import Derived.Test.YtojeokakehbaeaaMeansL
import Derived.Test.YtojeokakehbaeaaStopI
import Derived.Test.YtojeokakehbaeaaStopS
import Derived.Test.YtojeokakehbaeaaBoundI
import Derived.Test.YtojeokakehbaeaaBoundS
import Derived.Test.YtojeokakehbaeaaOpenD
import Derived.WalkKit
import Derived.WalkLawsBesides
import Derived.WalkSpells
import Derived.ProofKit
import Derived.OpenShut
import Derived.Deep.RegionWith
import Derived.Deep.QuietTactic
import Derived.BigQuiet
namespace Go.Proofs.Ytojeokakehbaeaa
open Go.ChangeShapes Go.WideShapes Go.ChangeAt Go.RowKit
open Go.ChangeMaps (open_string shut_string)

namespace StopBoundP
open Dice Arr OpenD DieW SortW FracW MarkG FracM OwnL CutW GoalW FracB MeansL StopI AnyR StopS BoundI BoundS

set_option maxRecDepth 20000 in
set_option maxHeartbeats 8000000 in
theorem law_any (d : Nat → Int) (g : Int) (w : World)  :
    Calls Try.prog 3 #[dv d, .int .i64 g] w fun e w' => e = .returned (.bool true) ∧ Below w.heap.size w w' := by
  have ht6 := toA6_any
  unfold dv at ht6
  have Ht6 := Lib.hid ht6; clear ht6
  obtain ⟨x, z, hs, hi⟩ := both d g
  unfold dv at hs hi
  have Hs := Lib.hid hs; clear hs
  have Hi := Lib.hid hi; clear hi
  have hB := n0 w
  unfold dv
  go_enter Try.func3, Try.ntmps3
  have hX1 := (At.new6 w d 22 (b := w.heap.size) rfl)
  have hB := na hB (sixO d 22)
  have c2 := hX1.cell 0 (by omega)
  have c3 := hX1.cell 1 (by omega)
  have c4 := hX1.cell 2 (by omega)
  have c5 := hX1.cell 3 (by omega)
  have c6 := hX1.cell 4 (by omega)
  have c7 := hX1.cell 5 (by omega)
  go_wp2_with fail
  clear c2 c3 c4 c5 c6 c7
  refine (Ht6.out d _).mono ?_
  rintro e w8 ⟨rfl, hb⟩
  have hB := nx hB hb
  have hX1 := hX1.up hb
  clear hb
  go_wp2_with fail
  refine (Hs.out _).mono ?_
  rintro e w9 ⟨rfl, hb⟩
  have hB := nx hB hb
  have hX1 := hX1.up hb
  clear hb
  have c10 := hX1.cell 0 (by omega)
  have c11 := hX1.cell 1 (by omega)
  have c12 := hX1.cell 2 (by omega)
  have c13 := hX1.cell 3 (by omega)
  have c14 := hX1.cell 4 (by omega)
  have c15 := hX1.cell 5 (by omega)
  go_wp2_with fail
  clear c10 c11 c12 c13 c14 c15
  refine (Ht6.out d _).mono ?_
  rintro e w16 ⟨rfl, hb⟩
  have hB := nx hB hb
  have hX1 := hX1.up hb
  clear hb
  go_wp2_with fail
  refine (Hi.out _).mono ?_
  rintro e w17 ⟨rfl, hb⟩
  have hB := nx hB hb
  have hX1 := hX1.up hb
  clear hb
  cases z
  all_goals
    go_wp2_with fail
    go_ret
    exact ⟨rfl, hB⟩

theorem laidOut : laidOutB Try.prog = true := by kernel_rfl
set_option maxRecDepth 100000 in
/-- What the walk gives, for every argument. -/
theorem contract (H : Type) (enc : TypeId × Value → H) (W : World) (base : Nat) (args : Array Value) (ds gs : List (DataW H)) (before : List MemPlace)
    (hval : ∀ (j : Nat) t v, Try.f3.params[j]? = some t → args[j]? = some v → Value.okWide Try.prog W .any base t v)
    (hW : DataW.Whole enc Try.prog Try.f3.params.toList Rows.fnExactStopBoundSpec.vars false W args.toList ds gs before) :
    Calls Try.prog 3 args W fun e W' => ∃ v, e = .returned v ∧ Rows.fnExactStopBoundSpec.post enc Try.prog Try.f3 false true false false W args v W' := by
  have hW' := hW
  obtain ⟨p, q, hA0, hV, rfl, hfz, hnd⟩ := hW
  have hA : DataW.TrodAll enc Try.prog W 0 (fun _ => true) true Try.f3.params.toList args.toList ds p := hA0
  rw [Try.params3] at hA hval
  obtain ⟨v0, vs0, d0, ds0, p0, q0, hargs, rfl, rfl, h0, r0⟩ := trodAll_cons hA
  obtain ⟨v1, vs1, d1, ds1, p1, q1, rfl, rfl, rfl, h1, r1⟩ := trodAll_cons r0
  obtain ⟨rfl, rfl, rfl⟩ := trodAll_nil r1
  obtain rfl : args = #[v0, v1] := by cases args; simp_all
  obtain ⟨rfl, rfl⟩ := trodVars_none hV
  obtain ⟨a0, rfl, w0⟩ := OpenD.die_of (hval 0 22 v0 rfl rfl) h0
  have k0 := h0
  have lt0 : ∀ x ∈ p0, x.block < W.heap.size := fun x hx => by have := hW'.lt x (by simp [hx]); simpa using this
  obtain ⟨a1, rfl, rfl, rfl, wf1⟩ := open_int Try.underlying3 (hval 1 3 v1 rfl rfl) h1
  have w1 : -9223372036854775808 ≤ a1 ∧ a1 ≤ 9223372036854775807 := by simpa [Lit.wf, IntKind.min, IntKind.max, IntKind.bits, IntKind.signed] using wf1
  clear hA0
  simp only [List.append_nil] at hW'
  refine (law_any a0 a1 W).mono fun e W' ⟨he, hg⟩ => ?_
  subst he
  exact ⟨_, rfl, _, _, _, [], (p0 ++ ([] ++ [])), [], hW', trodAll_cons_mk (shut_bool Try.underlying4 _) trodAll_mk0, trodAll_cons_mk (Below.trod laidOut (by kernel_rfl) (of_decide_eq_true (by kernel_rfl)) k0 hg lt0) (trodAll_cons_mk (shut_int Try.underlying3 wf1) trodAll_mk0), rfl, hg.frame _, fun h => by cases h⟩

theorem own : ownKnob Try.prog.godebug = none := by kernel_rfl

set_option maxRecDepth 100000 in
theorem lifted (os : Os) (started : os.Started) (H : Type) (enc : TypeId × Value → H) :
    ReturnsInHanded {} Try.checked os 3 .any (Rows.fnExactStopBoundSpec.pre6 enc Try.prog Try.f3 Rows.fnExactStopBoundRow.domain false) (Rows.fnExactStopBoundSpec.post enc Try.prog Try.f3 false true false false) := by
  refine returnsInHanded_of_change (C := Try.checked) own started (by kernel_rfl) Try.func3
    (ChangeSpec.witness6 (enc := enc) (C := Try.checked) false ⟨#[], #[.agg #[.int .i64 0, .int .i64 0, .int .i64 0, .int .i64 0, .int .i64 0, .int .i64 0], .int .i64 0], []⟩ 8 (by kernel_rfl) (by kernel_rfl) (by kernel_rfl) (by kernel_rfl)) ?_
  intro W base args ds gs before hval hW _ _
  exact contract H enc W base args ds gs before hval hW

theorem holds : Rows.FnExactStopBoundSaid :=
  OpenClaim.holds_of_wide 3 Try.f3 rfl rfl rfl rfl rfl rfl rfl ⟨rfl, rfl, rfl, rfl, rfl⟩ rfl rfl rfl rfl rfl (by kernel_rfl) Try.func3 (by kernel_rfl)
    (of_decide_eq_true (by kernel_rfl)) (by unfold Func.isWrapper; rw [if_neg (by decide +kernel)]; exact ⟨rfl, rfl⟩)
    (fun os started H enc _ => lifted os started H enc)

end StopBoundP
end Go.Proofs.Ytojeokakehbaeaa
