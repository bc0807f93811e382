/-
  FnExactBurstTable: for every array of six numbers and every number the law returns true. No condition.
-/
import Derived.Test.YtdodokeebmdceaaRows
import Derived.Test.YtdodokeebmdceaaArr
import Derived.Test.YtdodokeebmdceaaAnyR
import Derived.Test.YtdodokeebmdceaaDieW
import Derived.Test.YtdodokeebmdceaaSortW
import Derived.Test.YtdodokeebmdceaaFracW
import Derived.Test.YtdodokeebmdceaaFracL
import Derived.Test.YtdodokeebmdceaaCutW
import Derived.Test.YtdodokeebmdceaaAll6
import Derived.Test.YtdodokeebmdceaaAllL
import Derived.Test.YtdodokeebmdceaaOwnL
import Derived.Test.YtdodokeebmdceaaFracM
import Derived.Test.YtdodokeebmdceaaWgtM
import Derived.Test.YtdodokeebmdceaaWgtW
import Derived.Test.YtdodokeebmdceaaWaitW
import Derived.Test.YtdodokeebmdceaaBig121
import Derived.Test.YtdodokeebmdceaaBurI
import Derived.Test.YtdodokeebmdceaaBurS
import Derived.Test.YtdodokeebmdceaaOpenD
import Derived.Test.YtdodokeebmdceaaOpenD
import Derived.WalkKit
import Derived.WalkLawsBesides
import Derived.WalkSpells
import Derived.ProofKit
import Derived.OpenShut
import Derived.Deep.RegionWith
import Derived.Deep.QuietTactic
import Derived.BigQuiet
namespace Go.Proofs.Ytdodokeebmdceaa
open Go.ChangeShapes Go.WideShapes Go.ChangeAt Go.RowKit
open Go.ChangeMaps (open_string shut_string)

namespace BurstTableP
open Dice Arr DieW SortW FracW CutW All6 AllL OwnL FracM WgtM WgtW WaitW Big121 BurI BurS OpenD


set_option maxRecDepth 100000 in
set_option maxHeartbeats 8000000 in
theorem law_any (d : Nat → Int) (n : Int) (w : World) : Calls Try.prog 3 #[dv d, .int .i64 n] w fun e w' => e = .returned (.bool true) ∧ Below w.heap.size w w' := by
  have ht := toA6_any d
  have hs := fun w => specBT_any d n w
  have hi := fun w => implBT_any d n w
  generalize bT d n = F at hs hi
  generalize okT d n = z at hs hi
  have hq := fun w => eqT_any F w
  unfold dv at ht hs hi
  have Ht := Lib.hid ht; clear ht
  have Hs := Lib.hid hs; clear hs
  have Hi := Lib.hid hi; clear hi
  have Hq := Lib.hid hq; clear hq
  unfold dv
  have hB := na (n0 w) (sixO d 22)
  have hD := At.new6 w d 22 rfl
  obtain ⟨e0, e1, e2, e3, e4, e5⟩ := hD.six
  go_enter Try.func3, Try.ntmps3
  go_wp2_with fail
  refine (Ht.out _).mono ?_
  rintro e w1 ⟨rfl, hb1⟩
  have hB := nx hB hb1
  have hD := hD.up hb1
  clear e0 e1 e2 e3 e4 e5 hb1
  go_wp2_with fail
  refine (Hs.out _).mono ?_
  rintro e w2 ⟨rfl, hb2⟩
  have hB := nx hB hb2
  have hD := hD.up hb2
  have hDl := hD.lt
  clear hb2
  obtain ⟨w3, hst, hX, hB3, hK3⟩ := store_ex (fresh w2 (b := w2.heap.size) rfl) F
  have hD := hK3 w.heap.size 6 _ (by omega) (hD.past _)
  have hB := (na hB _).trans (hB3 _ hB.size)
  clear hB3 hK3
  obtain ⟨e0, e1, e2, e3, e4, e5⟩ := hD.six
  go_wp2_with fail
  clear hst
  refine (Ht.out _).mono ?_
  rintro e w4 ⟨rfl, hb4⟩
  have hB := nx hB hb4
  have hX := hX.up hb4
  clear e0 e1 e2 e3 e4 e5 hb4 hD
  go_wp2_with fail
  refine (Hi.out _).mono ?_
  rintro e w5 ⟨rfl, hb5⟩
  have hB := nx hB hb5
  have hX := hX.up hb5
  have hXl := hX.lt
  clear hb5
  obtain ⟨w6, hst, hY, hB6, hK6⟩ := store_ex (fresh w5 (b := w5.heap.size) rfl) F
  have hX := hK6 w2.heap.size 121 _ (by omega) (hX.past _)
  have hB := (na hB _).trans (hB6 _ hB.size)
  clear hB6 hK6
  cases z
  all_goals
    go_wp2_with (first | refine ld rfl _ rfl rfl hX ?_ | refine ld rfl _ rfl rfl hY ?_)
    refine (Hq.out _).mono ?_
    rintro e w7 ⟨rfl, hb7⟩
    have hB := nx hB hb7
    go_wp2_with fail
    go_ret
    exact ⟨rfl, hB⟩

theorem laidOut : laidOutB Try.prog = true := by kernel_rfl
set_option maxRecDepth 100000 in
/-- What the walk gives, for every argument. -/
theorem contract (H : Type) (enc : TypeId × Value → H) (W : World) (base : Nat) (args : Array Value) (ds gs : List (DataW H)) (before : List MemPlace)
    (hval : ∀ (j : Nat) t v, Try.f3.params[j]? = some t → args[j]? = some v → Value.okWide Try.prog W .any base t v)
    (hW : DataW.Whole enc Try.prog Try.f3.params.toList Rows.fnExactBurstTableSpec.vars false W args.toList ds gs before) :
    Calls Try.prog 3 args W fun e W' => ∃ v, e = .returned v ∧ Rows.fnExactBurstTableSpec.post enc Try.prog Try.f3 false true false false W args v W' := by
  have hW' := hW
  obtain ⟨p, q, hA0, hV, rfl, hfz, hnd⟩ := hW
  have hA : DataW.TrodAll enc Try.prog W 0 (fun _ => true) true Try.f3.params.toList args.toList ds p := hA0
  rw [Try.params3] at hA hval
  obtain ⟨v0, vs0, d0, ds0, p0, q0, hargs, rfl, rfl, h0, r0⟩ := trodAll_cons hA
  obtain ⟨v1, vs1, d1, ds1, p1, q1, rfl, rfl, rfl, h1, r1⟩ := trodAll_cons r0
  obtain ⟨rfl, rfl, rfl⟩ := trodAll_nil r1
  obtain rfl : args = #[v0, v1] := by cases args; simp_all
  obtain ⟨rfl, rfl⟩ := trodVars_none hV
  obtain ⟨a0, rfl, w0⟩ := OpenD.die_of (hval 0 22 v0 rfl rfl) h0
  have k0 := h0
  have lt0 : ∀ x ∈ p0, x.block < W.heap.size := fun x hx => by have := hW'.lt x (by simp [hx]); simpa using this
  obtain ⟨a1, rfl, rfl, rfl, wf1⟩ := open_int Try.underlying3 (hval 1 3 v1 rfl rfl) h1
  have w1 : -9223372036854775808 ≤ a1 ∧ a1 ≤ 9223372036854775807 := by simpa [Lit.wf, IntKind.min, IntKind.max, IntKind.bits, IntKind.signed] using wf1
  clear hA0
  simp only [List.append_nil] at hW'
  refine (law_any a0 a1 W).mono fun e W' ⟨he, hg⟩ => ?_
  subst he
  exact ⟨_, rfl, _, _, _, [], (p0 ++ ([] ++ [])), [], hW', trodAll_cons_mk (shut_bool Try.underlying4 _) trodAll_mk0, trodAll_cons_mk (Below.trod laidOut (by kernel_rfl) (of_decide_eq_true (by kernel_rfl)) k0 hg lt0) (trodAll_cons_mk (shut_int Try.underlying3 wf1) trodAll_mk0), rfl, hg.frame _, fun h => by cases h⟩

theorem own : ownKnob Try.prog.godebug = none := by kernel_rfl

set_option maxRecDepth 100000 in
theorem lifted (os : Os) (started : os.Started) (H : Type) (enc : TypeId × Value → H) :
    ReturnsInHanded {} Try.checked os 3 .any (Rows.fnExactBurstTableSpec.pre6 enc Try.prog Try.f3 Rows.fnExactBurstTableRow.domain false) (Rows.fnExactBurstTableSpec.post enc Try.prog Try.f3 false true false false) := by
  refine returnsInHanded_of_change (C := Try.checked) own started (by kernel_rfl) Try.func3
    (ChangeSpec.witness6 (enc := enc) (C := Try.checked) false ⟨#[], #[.agg #[.int .i64 0, .int .i64 0, .int .i64 0, .int .i64 0, .int .i64 0, .int .i64 0], .int .i64 0], []⟩ 8 (by kernel_rfl) (by kernel_rfl) (by kernel_rfl) (by kernel_rfl)) ?_
  intro W base args ds gs before hval hW _ _
  exact contract H enc W base args ds gs before hval hW

theorem holds : Rows.FnExactBurstTableSaid :=
  OpenClaim.holds_of_wide 3 Try.f3 rfl rfl rfl rfl rfl rfl rfl ⟨rfl, rfl, rfl, rfl, rfl⟩ rfl rfl rfl rfl rfl (by kernel_rfl) Try.func3 (by kernel_rfl)
    (of_decide_eq_true (by kernel_rfl)) (by unfold Func.isWrapper; rw [if_neg (by decide +kernel)]; exact ⟨rfl, rfl⟩)
    (fun os started H enc _ => lifted os started H enc)

end BurstTableP
end Go.Proofs.Ytdodokeebmdceaa
