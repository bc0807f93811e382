/-
  FnExactBestThrows: for every number the law returns true. No condition.
-/
import Derived.Test.YtddnlbahelgadaaRows
import Derived.Test.YtddnlbahelgadaaArr
import Derived.Test.YtddnlbahelgadaaDieW
import Derived.Test.YtddnlbahelgadaaFracW
import Derived.Test.YtddnlbahelgadaaFracL
import Derived.Test.YtddnlbahelgadaaAll6
import Derived.Test.YtddnlbahelgadaaAllL
import Derived.Test.YtddnlbahelgadaaFracM
import Derived.Test.YtddnlbahelgadaaCutW
import Derived.Test.YtddnlbahelgadaaMadW
import Derived.Test.YtddnlbahelgadaaMThW
import Derived.Test.YtddnlbahelgadaaBThS
import Derived.Test.YtddnlbahelgadaaBThI
import Derived.Test.YtddnlbahelgadaaOpenD
import Derived.Test.YtddnlbahelgadaaOpenD
import Derived.WalkKit
import Derived.WalkLawsBesides
import Derived.WalkSpells
import Derived.ProofKit
import Derived.OpenShut
import Derived.Deep.RegionWith
import Derived.Deep.QuietTactic
import Derived.BigQuiet
namespace Go.Proofs.Ytddnlbahelgadaa
open Go.ChangeShapes Go.WideShapes Go.ChangeAt Go.RowKit
open Go.ChangeMaps (open_string shut_string)

namespace BestThP
open Dice Arr DieW FracW FracL All6 AllL FracM CutW MadW MThW BThS BThI OpenD

set_option maxRecDepth 20000 in
set_option maxHeartbeats 8000000 in
theorem law_any (k : Int) (w : World)  :
    Calls Try.prog 7 #[.int .i64 k] w fun e w' => e = .returned (.bool true) ∧ Below w.heap.size w w' := by
  have hs := fun w => specB_any k w
  have hi := fun w => implB_any k w
  unfold outB at hs hi
  generalize (((bs k 7).1 : Nat) : Int) = b at hs hi
  generalize (((bs k 7).2.1 : Nat) : Int) = x at hs hi
  generalize (((bs k 7).2.2 : Nat) : Int) = y at hs hi
  generalize decide (0 < (bs k 7).1) = z at hs hi
  have Hs := Lib.hid hs; clear hs
  have Hi := Lib.hid hi; clear hi
  have Hq1 := Lib.hid (fun w => eqA2_any x y w)
  have hB := n0 w
  go_enter Try.func7, Try.ntmps7
  go_wp2_with fail
  refine (Hs.out _).mono ?_
  rintro e w1 ⟨rfl, hb⟩
  have hB := nx hB hb
  clear hb
  have hX2 := (At.newv x y w1)
  have hB := na hB (.cells #[.int .i64 x, .int .i64 y] 33)
  go_wp2_with fail
  refine (Hi.out _).mono ?_
  rintro e w3 ⟨rfl, hb⟩
  have hB := nx hB hb
  have hX2 := hX2.up hb
  clear hb
  have hX4 := (At.newv x y w3)
  have hX2 := hX2.past (.cells #[.int .i64 x, .int .i64 y] 33)
  have hB := na hB (.cells #[.int .i64 x, .int .i64 y] 33)
  have c5 := hX4.cell 0 (by omega)
  have c6 := hX4.cell 1 (by omega)
  have c7 := hX2.cell 0 (by omega)
  have c8 := hX2.cell 1 (by omega)
  go_wp2_with fail
  clear c5 c6 c7 c8
  refine (Hq1.out _).mono ?_
  rintro e w9 ⟨rfl, hb⟩
  have hB := nx hB hb
  have hX2 := hX2.up hb
  have hX4 := hX4.up hb
  clear hb
  cases z
  all_goals
    go_wp2_with fail
    go_ret
    exact ⟨rfl, hB⟩

set_option maxRecDepth 100000 in
/-- What the walk gives, for every argument. -/
theorem contract (H : Type) (enc : TypeId × Value → H) (W : World) (base : Nat) (args : Array Value) (ds gs : List (DataW H)) (before : List MemPlace)
    (hval : ∀ (j : Nat) t v, Try.f7.params[j]? = some t → args[j]? = some v → Value.okWide Try.prog W .any base t v)
    (hW : DataW.Whole enc Try.prog Try.f7.params.toList Rows.fnExactBestThrowsSpec.vars false W args.toList ds gs before) :
    Calls Try.prog 7 args W fun e W' => ∃ v, e = .returned v ∧ Rows.fnExactBestThrowsSpec.post enc Try.prog Try.f7 false true false false W args v W' := by
  have hW' := hW
  obtain ⟨p, q, hA0, hV, rfl, hfz, hnd⟩ := hW
  have hA : DataW.TrodAll enc Try.prog W 0 (fun _ => true) true Try.f7.params.toList args.toList ds p := hA0
  rw [Try.params7] at hA hval
  obtain ⟨v0, vs0, d0, ds0, p0, q0, hargs, rfl, rfl, h0, r0⟩ := trodAll_cons hA
  obtain ⟨rfl, rfl, rfl⟩ := trodAll_nil r0
  obtain rfl : args = #[v0] := by cases args; simp_all
  obtain ⟨rfl, rfl⟩ := trodVars_none hV
  obtain ⟨a0, rfl, rfl, rfl, wf0⟩ := open_int Try.underlying3 (hval 0 3 v0 rfl rfl) h0
  have w0 : -9223372036854775808 ≤ a0 ∧ a0 ≤ 9223372036854775807 := by simpa [Lit.wf, IntKind.min, IntKind.max, IntKind.bits, IntKind.signed] using wf0
  clear hA0
  simp only [List.append_nil] at hW'
  refine (law_any a0 W).mono fun e W' ⟨he, hg⟩ => ?_
  subst he
  exact ⟨_, rfl, _, _, _, [], [], [], hW', trodAll_cons_mk (shut_bool Try.underlying4 _) trodAll_mk0, trodAll_cons_mk (shut_int Try.underlying3 wf0) trodAll_mk0, rfl, hg.frame _, fun h => by cases h⟩

theorem own : ownKnob Try.prog.godebug = none := by kernel_rfl

set_option maxRecDepth 100000 in
theorem lifted (os : Os) (started : os.Started) (H : Type) (enc : TypeId × Value → H) :
    ReturnsInHanded {} Try.checked os 7 .any (Rows.fnExactBestThrowsSpec.pre6 enc Try.prog Try.f7 Rows.fnExactBestThrowsRow.domain false) (Rows.fnExactBestThrowsSpec.post enc Try.prog Try.f7 false true false false) := by
  refine returnsInHanded_of_change (C := Try.checked) own started (by kernel_rfl) Try.func7
    (ChangeSpec.witness6 (enc := enc) (C := Try.checked) false ⟨#[], #[.int .i64 0], []⟩ 8 (by kernel_rfl) (by kernel_rfl) (by kernel_rfl) (by kernel_rfl)) ?_
  intro W base args ds gs before hval hW _ _
  exact contract H enc W base args ds gs before hval hW

theorem holds : Rows.FnExactBestThrowsSaid :=
  OpenClaim.holds_of_wide 7 Try.f7 rfl rfl rfl rfl rfl rfl rfl ⟨rfl, rfl, rfl, rfl, rfl⟩ rfl rfl rfl rfl rfl (by kernel_rfl) Try.func7 (by kernel_rfl)
    (of_decide_eq_true (by kernel_rfl)) (by unfold Func.isWrapper; rw [if_neg (by decide +kernel)]; exact ⟨rfl, rfl⟩)
    (fun os started H enc _ => lifted os started H enc)

end BestThP
end Go.Proofs.Ytddnlbahelgadaa
