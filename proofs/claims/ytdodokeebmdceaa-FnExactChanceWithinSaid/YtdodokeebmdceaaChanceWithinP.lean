/-
  FnExactChanceWithin: for every array of six numbers, every number and every number of rolls the law returns true. No condition.
-/
import Derived.Test.YtdodokeebmdceaaRows
import Derived.Test.YtdodokeebmdceaaArr
import Derived.Test.YtdodokeebmdceaaAnyR
import Derived.Test.YtdodokeebmdceaaDieW
import Derived.Test.YtdodokeebmdceaaSortW
import Derived.Test.YtdodokeebmdceaaFracW
import Derived.Test.YtdodokeebmdceaaFracL
import Derived.Test.YtdodokeebmdceaaCutW
import Derived.Test.YtdodokeebmdceaaAll6
import Derived.Test.YtdodokeebmdceaaAllL
import Derived.Test.YtdodokeebmdceaaOwnL
import Derived.Test.YtdodokeebmdceaaFracM
import Derived.Test.YtdodokeebmdceaaWgtM
import Derived.Test.YtdodokeebmdceaaWgtW
import Derived.Test.YtdodokeebmdceaaWaitW
import Derived.Test.YtdodokeebmdceaaBurI
import Derived.Test.YtdodokeebmdceaaChW
import Derived.Test.YtdodokeebmdceaaChV
import Derived.Test.YtdodokeebmdceaaOpenD
import Derived.Test.YtdodokeebmdceaaOpenD
import Derived.WalkKit
import Derived.WalkLawsBesides
import Derived.WalkSpells
import Derived.ProofKit
import Derived.OpenShut
import Derived.Deep.RegionWith
import Derived.Deep.QuietTactic
import Derived.BigQuiet
namespace Go.Proofs.Ytdodokeebmdceaa
open Go.ChangeShapes Go.WideShapes Go.ChangeAt Go.RowKit
open Go.ChangeMaps (open_string shut_string)

namespace ChanceWithinP
open Dice Arr DieW SortW FracW CutW All6 AllL OwnL FracM WgtM WgtW AnyR WaitW ChW ChV OpenD

theorem At.newv (x y : Int) (w : World) : At (w.alloc (.cells #[.int .i64 x, .int .i64 y] 29)) w.heap.size 2 (fr x y) :=
  At.new w _ _ 2 _ fun k hk => by
    obtain rfl | rfl : k = 0 ∨ k = 1 := by omega
    all_goals rfl
set_option maxRecDepth 20000 in
set_option maxHeartbeats 8000000 in
theorem law_any (d : Nat → Int) (g : Int) (k : Int) (w : World)  :
    Calls Try.prog 6 #[dv d, .int .i64 g, .int .i64 k] w fun e w' => e = .returned (.bool true) ∧ Below w.heap.size w w' := by
  have ht6 := toA6_any
  unfold dv at ht6
  have Ht6 := Lib.hid ht6; clear ht6
  have hs := fun w => specCW_any d g k w
  have hi := fun w => implCW_any d g k w
  generalize cx d g k = x at hs hi
  generalize cy d g k = y at hs hi
  generalize okC d k = z at hs hi
  unfold dv at hs hi
  have Hs := Lib.hid hs; clear hs
  have Hi := Lib.hid hi; clear hi
  have Hq0 := Lib.hid (fun w => eqA2_any x y w)
  have hB := n0 w
  unfold dv
  go_enter Try.func6, Try.ntmps6
  have hX1 := (At.new6 w d 22 (b := w.heap.size) rfl)
  have hB := na hB (sixO d 22)
  have c2 := hX1.cell 0 (by omega)
  have c3 := hX1.cell 1 (by omega)
  have c4 := hX1.cell 2 (by omega)
  have c5 := hX1.cell 3 (by omega)
  have c6 := hX1.cell 4 (by omega)
  have c7 := hX1.cell 5 (by omega)
  go_wp2_with fail
  clear c2 c3 c4 c5 c6 c7
  refine (Ht6.out d _).mono ?_
  rintro e w8 ⟨rfl, hb⟩
  have hB := nx hB hb
  have hX1 := hX1.up hb
  clear hb
  go_wp2_with fail
  refine (Hs.out _).mono ?_
  rintro e w9 ⟨rfl, hb⟩
  have hB := nx hB hb
  have hX1 := hX1.up hb
  clear hb
  have hX10 := (At.newv x y w9)
  have hX1 := hX1.past (.cells #[.int .i64 x, .int .i64 y] 29)
  have hB := na hB (.cells #[.int .i64 x, .int .i64 y] 29)
  have c11 := hX1.cell 0 (by omega)
  have c12 := hX1.cell 1 (by omega)
  have c13 := hX1.cell 2 (by omega)
  have c14 := hX1.cell 3 (by omega)
  have c15 := hX1.cell 4 (by omega)
  have c16 := hX1.cell 5 (by omega)
  go_wp2_with fail
  clear c11 c12 c13 c14 c15 c16
  refine (Ht6.out d _).mono ?_
  rintro e w17 ⟨rfl, hb⟩
  have hB := nx hB hb
  have hX1 := hX1.up hb
  have hX10 := hX10.up hb
  clear hb
  go_wp2_with fail
  refine (Hi.out _).mono ?_
  rintro e w18 ⟨rfl, hb⟩
  have hB := nx hB hb
  have hX1 := hX1.up hb
  have hX10 := hX10.up hb
  clear hb
  have hX19 := (At.newv x y w18)
  have hX1 := hX1.past (.cells #[.int .i64 x, .int .i64 y] 29)
  have hX10 := hX10.past (.cells #[.int .i64 x, .int .i64 y] 29)
  have hB := na hB (.cells #[.int .i64 x, .int .i64 y] 29)
  have c20 := hX19.cell 0 (by omega)
  have c21 := hX19.cell 1 (by omega)
  have c22 := hX10.cell 0 (by omega)
  have c23 := hX10.cell 1 (by omega)
  go_wp2_with fail
  clear c20 c21 c22 c23
  refine (Hq0.out _).mono ?_
  rintro e w24 ⟨rfl, hb⟩
  have hB := nx hB hb
  have hX1 := hX1.up hb
  have hX10 := hX10.up hb
  have hX19 := hX19.up hb
  clear hb
  cases z
  all_goals
    go_wp2_with fail
    go_ret
    exact ⟨rfl, hB⟩

theorem laidOut : laidOutB Try.prog = true := by kernel_rfl
set_option maxRecDepth 100000 in
/-- What the walk gives, for every argument. -/
theorem contract (H : Type) (enc : TypeId × Value → H) (W : World) (base : Nat) (args : Array Value) (ds gs : List (DataW H)) (before : List MemPlace)
    (hval : ∀ (j : Nat) t v, Try.f6.params[j]? = some t → args[j]? = some v → Value.okWide Try.prog W .any base t v)
    (hW : DataW.Whole enc Try.prog Try.f6.params.toList Rows.fnExactChanceWithinSpec.vars false W args.toList ds gs before) :
    Calls Try.prog 6 args W fun e W' => ∃ v, e = .returned v ∧ Rows.fnExactChanceWithinSpec.post enc Try.prog Try.f6 false true false false W args v W' := by
  have hW' := hW
  obtain ⟨p, q, hA0, hV, rfl, hfz, hnd⟩ := hW
  have hA : DataW.TrodAll enc Try.prog W 0 (fun _ => true) true Try.f6.params.toList args.toList ds p := hA0
  rw [Try.params6] at hA hval
  obtain ⟨v0, vs0, d0, ds0, p0, q0, hargs, rfl, rfl, h0, r0⟩ := trodAll_cons hA
  obtain ⟨v1, vs1, d1, ds1, p1, q1, rfl, rfl, rfl, h1, r1⟩ := trodAll_cons r0
  obtain ⟨v2, vs2, d2, ds2, p2, q2, rfl, rfl, rfl, h2, r2⟩ := trodAll_cons r1
  obtain ⟨rfl, rfl, rfl⟩ := trodAll_nil r2
  obtain rfl : args = #[v0, v1, v2] := by cases args; simp_all
  obtain ⟨rfl, rfl⟩ := trodVars_none hV
  obtain ⟨a0, rfl, w0⟩ := OpenD.die_of (hval 0 22 v0 rfl rfl) h0
  have k0 := h0
  have lt0 : ∀ x ∈ p0, x.block < W.heap.size := fun x hx => by have := hW'.lt x (by simp [hx]); simpa using this
  obtain ⟨a1, rfl, rfl, rfl, wf1⟩ := open_int Try.underlying3 (hval 1 3 v1 rfl rfl) h1
  have w1 : -9223372036854775808 ≤ a1 ∧ a1 ≤ 9223372036854775807 := by simpa [Lit.wf, IntKind.min, IntKind.max, IntKind.bits, IntKind.signed] using wf1
  obtain ⟨a2, rfl, rfl, rfl, wf2⟩ := open_int Try.underlying3 (hval 2 3 v2 rfl rfl) h2
  have w2 : -9223372036854775808 ≤ a2 ∧ a2 ≤ 9223372036854775807 := by simpa [Lit.wf, IntKind.min, IntKind.max, IntKind.bits, IntKind.signed] using wf2
  clear hA0
  simp only [List.append_nil] at hW'
  refine (law_any a0 a1 a2 W).mono fun e W' ⟨he, hg⟩ => ?_
  subst he
  exact ⟨_, rfl, _, _, _, [], (p0 ++ ([] ++ ([] ++ []))), [], hW', trodAll_cons_mk (shut_bool Try.underlying4 _) trodAll_mk0, trodAll_cons_mk (Below.trod laidOut (by kernel_rfl) (of_decide_eq_true (by kernel_rfl)) k0 hg lt0) (trodAll_cons_mk (shut_int Try.underlying3 wf1) (trodAll_cons_mk (shut_int Try.underlying3 wf2) trodAll_mk0)), rfl, hg.frame _, fun h => by cases h⟩

theorem own : ownKnob Try.prog.godebug = none := by kernel_rfl

set_option maxRecDepth 100000 in
theorem lifted (os : Os) (started : os.Started) (H : Type) (enc : TypeId × Value → H) :
    ReturnsInHanded {} Try.checked os 6 .any (Rows.fnExactChanceWithinSpec.pre6 enc Try.prog Try.f6 Rows.fnExactChanceWithinRow.domain false) (Rows.fnExactChanceWithinSpec.post enc Try.prog Try.f6 false true false false) := by
  refine returnsInHanded_of_change (C := Try.checked) own started (by kernel_rfl) Try.func6
    (ChangeSpec.witness6 (enc := enc) (C := Try.checked) false ⟨#[], #[.agg #[.int .i64 0, .int .i64 0, .int .i64 0, .int .i64 0, .int .i64 0, .int .i64 0], .int .i64 0, .int .i64 0], []⟩ 8 (by kernel_rfl) (by kernel_rfl) (by kernel_rfl) (by kernel_rfl)) ?_
  intro W base args ds gs before hval hW _ _
  exact contract H enc W base args ds gs before hval hW

theorem holds : Rows.FnExactChanceWithinSaid :=
  OpenClaim.holds_of_wide 6 Try.f6 rfl rfl rfl rfl rfl rfl rfl ⟨rfl, rfl, rfl, rfl, rfl⟩ rfl rfl rfl rfl rfl (by kernel_rfl) Try.func6 (by kernel_rfl)
    (of_decide_eq_true (by kernel_rfl)) (by unfold Func.isWrapper; rw [if_neg (by decide +kernel)]; exact ⟨rfl, rfl⟩)
    (fun os started H enc _ => lifted os started H enc)

end ChanceWithinP
end Go.Proofs.Ytdodokeebmdceaa
