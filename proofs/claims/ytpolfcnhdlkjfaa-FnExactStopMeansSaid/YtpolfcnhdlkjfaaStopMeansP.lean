/-
  FnExactStopMeans: for every array of six numbers and every number of rolls the law returns true. No condition.
-/
import Derived.Test.YtpolfcnhdlkjfaaRows
import Derived.Test.YtpolfcnhdlkjfaaArr
import Derived.Test.YtpolfcnhdlkjfaaAnyR
import Derived.Test.YtpolfcnhdlkjfaaDieW
import Derived.Test.YtpolfcnhdlkjfaaFracW
import Derived.Test.YtpolfcnhdlkjfaaSortW
import Derived.Test.YtpolfcnhdlkjfaaOpenD
import Derived.Test.YtpolfcnhdlkjfaaOwnL
import Derived.Test.YtpolfcnhdlkjfaaMarkG
import Derived.Test.YtpolfcnhdlkjfaaFracM
import Derived.Test.YtpolfcnhdlkjfaaStopM
import Derived.Test.YtpolfcnhdlkjfaaCutW
import Derived.Test.YtpolfcnhdlkjfaaGoalW
import Derived.Test.YtpolfcnhdlkjfaaFracB
import Derived.Test.YtpolfcnhdlkjfaaMeansL
import Derived.Test.YtpolfcnhdlkjfaaDice
import Derived.Test.YtpolfcnhdlkjfaaStopI
import Derived.Test.YtpolfcnhdlkjfaaStopS
import Derived.Test.YtpolfcnhdlkjfaaOpenD
import Derived.WalkKit
import Derived.WalkLawsBesides
import Derived.WalkSpells
import Derived.ProofKit
import Derived.OpenShut
import Derived.Deep.RegionWith
import Derived.Deep.QuietTactic
import Derived.BigQuiet
namespace Go.Proofs.Ytpolfcnhdlkjfaa
open Go.ChangeShapes Go.WideShapes Go.ChangeAt Go.RowKit
open Go.ChangeMaps (open_string shut_string)

namespace StopMeansP
open Dice Arr OpenD DieW SortW FracW MarkG FracM OwnL CutW GoalW FracB MeansL AnyR StopI StopS

set_option maxRecDepth 20000 in
set_option maxHeartbeats 8000000 in
theorem law_any (d : Nat → Int) (g : Int) (w : World)  :
    Calls Try.prog 3 #[dv d, .int .i64 g] w fun e w' => e = .returned (.bool true) ∧ Below w.heap.size w w' := by
  have ht6 := toA6_any
  unfold dv at ht6
  have Ht6 := Lib.hid ht6; clear ht6
  have hm9 := Nat.le_trans (lenM_small d g) (show 6 ≤ 1000 by omega)
  have hs := fun w => specStop_any d g w
  have hi := fun w => implStop_any d g w
  generalize lenM d g = m at hs hi hm9
  generalize sf (face d) = f at hs hi
  generalize okM d g = b at hs hi
  unfold dv at hs hi
  have Hs := Lib.hid hs; clear hs
  have Hi := Lib.hid hi; clear hi
  have He := Lib.hid (fun B B' A A' c c' w h h' => eqA2S_any B B' A A' m c c' f w h h' hm9)
  have Hmi := Lib.hid (fun B A c w h => markA2S_any B A m c f w h hm9)
  have Hhi := Lib.hid (fun B A c w h => heldA2S_any B A m c w h hm9)
  have hz2 : decide ((1 : Int) + 2 * (m : Int) < 0) = false := decide_eq_false (by omega)
  clear hm9
  have hB := n0 w
  unfold dv
  go_enter Try.func3, Try.ntmps3
  have hX1 := (At.new6 w d 22 (b := w.heap.size) rfl)
  have hB := na hB (sixO d 22)
  have c2 := hX1.cell 0 (by omega)
  have c3 := hX1.cell 1 (by omega)
  have c4 := hX1.cell 2 (by omega)
  have c5 := hX1.cell 3 (by omega)
  have c6 := hX1.cell 4 (by omega)
  have c7 := hX1.cell 5 (by omega)
  go_wp2_with fail
  clear c2 c3 c4 c5 c6 c7
  refine (Ht6.out d _).mono ?_
  rintro e w8 ⟨rfl, hb⟩
  have hB := nx hB hb
  have hX1 := hX1.up hb
  clear hb
  go_wp2_with fail
  refine (Hs.out _).mono ?_
  rintro e w9 ⟨AL10, cL11, rfl, hL12, hb⟩
  have hs13 := hB.size
  have hx13_0 := hX1.lt
  have hB := nx hB hb
  have hX1 := hX1.up hb
  clear hb
  have hD := n0 w9
  have c14 := hX1.cell 0 (by omega)
  have c15 := hX1.cell 1 (by omega)
  have c16 := hX1.cell 2 (by omega)
  have c17 := hX1.cell 3 (by omega)
  have c18 := hX1.cell 4 (by omega)
  have c19 := hX1.cell 5 (by omega)
  go_wp2_with fail
  clear c14 c15 c16 c17 c18 c19
  refine (Ht6.out d _).mono ?_
  rintro e w20 ⟨rfl, hb⟩
  have hB := nx hB hb
  have hD := nx hD hb
  have hX1 := hX1.up hb
  clear hb
  go_wp2_with fail
  refine (Hi.out _).mono ?_
  rintro e w21 ⟨AL22, cL23, rfl, hL24, hb⟩
  have hs25 := hB.size
  have hd25 := hD.size
  have hx25_0 := hX1.lt
  have hB := nx hB hb
  have hD := nx hD hb
  have hX1 := hX1.up hb
  clear hb
  go_wp2_with fail
  refine (He.out _ _ _ _ _ _ _ hL24 (hL12.up hD)).mono ?_
  rintro e w26 ⟨rfl, hb⟩
  have hB := nx hB hb
  have hD := nx hD hb
  have hX1 := hX1.up hb
  have hL24 := hL24.up hb
  clear hb
  cases b
  all_goals
    go_wp2_with fail
    refine (Hmi.out _ _ _ _ hL24).mono ?_
    rintro e w27 ⟨rfl, hL28, hb⟩
    have hX1 := hX1.below (by omega) hb
    have hB := hB.trans (hb.mono (by omega))
    have hD := hD.trans (hb.mono (by omega))
    clear hb
    go_wp2_with fail
    refine (Hhi.out _ _ _ _ hL28).mono ?_
    rintro e w29 ⟨rfl, hb⟩
    have hB := nx hB hb
    have hD := nx hD hb
    have hX1 := hX1.up hb
    have hL28 := hL28.up hb
    clear hb
    have c30 := hX1.cell 0 (by omega)
    have c31 := hX1.cell 1 (by omega)
    have c32 := hX1.cell 2 (by omega)
    have c33 := hX1.cell 3 (by omega)
    have c34 := hX1.cell 4 (by omega)
    have c35 := hX1.cell 5 (by omega)
    go_wp2_with fail
    clear c30 c31 c32 c33 c34 c35
    refine (Ht6.out d _).mono ?_
    rintro e w36 ⟨rfl, hb⟩
    have hB := nx hB hb
    have hD := nx hD hb
    have hX1 := hX1.up hb
    have hL28 := hL28.up hb
    clear hb
    go_wp2_with fail
    refine (Hi.out _).mono ?_
    rintro e w37 ⟨AL38, cL39, rfl, hL40, hb⟩
    have hs41 := hB.size
    have hd41 := hD.size
    have hx41_0 := hX1.lt
    have hB := nx hB hb
    have hD := nx hD hb
    have hX1 := hX1.up hb
    have hL28 := hL28.up hb
    clear hb
    go_wp2_with fail
    refine (He.out _ _ _ _ _ _ _ hL40 (hL12.up hD)).mono ?_
    rintro e w42 ⟨rfl, hb⟩
    have hB := nx hB hb
    have hD := nx hD hb
    have hX1 := hX1.up hb
    have hL28 := hL28.up hb
    have hL40 := hL40.up hb
    clear hb
    go_wp2_with fail
    refine (Hhi.out _ _ _ _ hL28).mono ?_
    rintro e w43 ⟨rfl, hb⟩
    have hB := nx hB hb
    have hD := nx hD hb
    have hX1 := hX1.up hb
    have hL28 := hL28.up hb
    have hL40 := hL40.up hb
    clear hb
    go_wp2_with fail
    go_ret
    exact ⟨rfl, hB⟩

theorem laidOut : laidOutB Try.prog = true := by kernel_rfl
set_option maxRecDepth 100000 in
/-- What the walk gives, for every argument. -/
theorem contract (H : Type) (enc : TypeId × Value → H) (W : World) (base : Nat) (args : Array Value) (ds gs : List (DataW H)) (before : List MemPlace)
    (hval : ∀ (j : Nat) t v, Try.f3.params[j]? = some t → args[j]? = some v → Value.okWide Try.prog W .any base t v)
    (hW : DataW.Whole enc Try.prog Try.f3.params.toList Rows.fnExactStopMeansSpec.vars false W args.toList ds gs before) :
    Calls Try.prog 3 args W fun e W' => ∃ v, e = .returned v ∧ Rows.fnExactStopMeansSpec.post enc Try.prog Try.f3 false true false false W args v W' := by
  have hW' := hW
  obtain ⟨p, q, hA0, hV, rfl, hfz, hnd⟩ := hW
  have hA : DataW.TrodAll enc Try.prog W 0 (fun _ => true) true Try.f3.params.toList args.toList ds p := hA0
  rw [Try.params3] at hA hval
  obtain ⟨v0, vs0, d0, ds0, p0, q0, hargs, rfl, rfl, h0, r0⟩ := trodAll_cons hA
  obtain ⟨v1, vs1, d1, ds1, p1, q1, rfl, rfl, rfl, h1, r1⟩ := trodAll_cons r0
  obtain ⟨rfl, rfl, rfl⟩ := trodAll_nil r1
  obtain rfl : args = #[v0, v1] := by cases args; simp_all
  obtain ⟨rfl, rfl⟩ := trodVars_none hV
  obtain ⟨a0, rfl, w0⟩ := OpenD.die_of (hval 0 22 v0 rfl rfl) h0
  have k0 := h0
  have lt0 : ∀ x ∈ p0, x.block < W.heap.size := fun x hx => by have := hW'.lt x (by simp [hx]); simpa using this
  obtain ⟨a1, rfl, rfl, rfl, wf1⟩ := open_int Try.underlying3 (hval 1 3 v1 rfl rfl) h1
  have w1 : -9223372036854775808 ≤ a1 ∧ a1 ≤ 9223372036854775807 := by simpa [Lit.wf, IntKind.min, IntKind.max, IntKind.bits, IntKind.signed] using wf1
  clear hA0
  simp only [List.append_nil] at hW'
  refine (law_any a0 a1 W).mono fun e W' ⟨he, hg⟩ => ?_
  subst he
  exact ⟨_, rfl, _, _, _, [], (p0 ++ ([] ++ [])), [], hW', trodAll_cons_mk (shut_bool Try.underlying4 _) trodAll_mk0, trodAll_cons_mk (Below.trod laidOut (by kernel_rfl) (of_decide_eq_true (by kernel_rfl)) k0 hg lt0) (trodAll_cons_mk (shut_int Try.underlying3 wf1) trodAll_mk0), rfl, hg.frame _, fun h => by cases h⟩

theorem own : ownKnob Try.prog.godebug = none := by kernel_rfl

set_option maxRecDepth 100000 in
theorem lifted (os : Os) (started : os.Started) (H : Type) (enc : TypeId × Value → H) :
    ReturnsInHanded {} Try.checked os 3 .any (Rows.fnExactStopMeansSpec.pre6 enc Try.prog Try.f3 Rows.fnExactStopMeansRow.domain false) (Rows.fnExactStopMeansSpec.post enc Try.prog Try.f3 false true false false) := by
  refine returnsInHanded_of_change (C := Try.checked) own started (by kernel_rfl) Try.func3
    (ChangeSpec.witness6 (enc := enc) (C := Try.checked) false ⟨#[], #[.agg #[.int .i64 0, .int .i64 0, .int .i64 0, .int .i64 0, .int .i64 0, .int .i64 0], .int .i64 0], []⟩ 8 (by kernel_rfl) (by kernel_rfl) (by kernel_rfl) (by kernel_rfl)) ?_
  intro W base args ds gs before hval hW _ _
  exact contract H enc W base args ds gs before hval hW

theorem holds : Rows.FnExactStopMeansSaid :=
  OpenClaim.holds_of_wide 3 Try.f3 rfl rfl rfl rfl rfl rfl rfl ⟨rfl, rfl, rfl, rfl, rfl⟩ rfl rfl rfl rfl rfl (by kernel_rfl) Try.func3 (by kernel_rfl)
    (of_decide_eq_true (by kernel_rfl)) (by unfold Func.isWrapper; rw [if_neg (by decide +kernel)]; exact ⟨rfl, rfl⟩)
    (fun os started H enc _ => lifted os started H enc)

end StopMeansP
end Go.Proofs.Ytpolfcnhdlkjfaa
