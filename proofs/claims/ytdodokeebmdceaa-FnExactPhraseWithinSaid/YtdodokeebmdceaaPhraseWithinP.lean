/-
  FnExactPhraseWithin: for every array of six numbers, every list of numbers and every number of rolls the law returns true, and the list reads afterwards as it read before. No condition.
-/
import Derived.Test.YtdodokeebmdceaaRows
import Derived.Test.YtdodokeebmdceaaArr
import Derived.Test.YtdodokeebmdceaaAnyR
import Derived.Test.YtdodokeebmdceaaDieW
import Derived.Test.YtdodokeebmdceaaSortW
import Derived.Test.YtdodokeebmdceaaFracW
import Derived.Test.YtdodokeebmdceaaFracL
import Derived.Test.YtdodokeebmdceaaCutW
import Derived.Test.YtdodokeebmdceaaAll6
import Derived.Test.YtdodokeebmdceaaAllL
import Derived.Test.YtdodokeebmdceaaOwnL
import Derived.Test.YtdodokeebmdceaaFracM
import Derived.Test.YtdodokeebmdceaaWgtM
import Derived.Test.YtdodokeebmdceaaWgtW
import Derived.Test.YtdodokeebmdceaaShelfSl
import Derived.Test.YtdodokeebmdceaaOpenI
import Derived.Test.YtdodokeebmdceaaPhrM
import Derived.Test.YtdodokeebmdceaaPhrW
import Derived.Test.YtdodokeebmdceaaPhrV
import Derived.Test.YtdodokeebmdceaaOvI
import Derived.Test.YtdodokeebmdceaaGoalW
import Derived.Test.YtdodokeebmdceaaFracB2
import Derived.Test.YtdodokeebmdceaaOvS
import Derived.Test.YtdodokeebmdceaaPOv
import Derived.Test.YtdodokeebmdceaaIntsE
import Derived.Test.YtdodokeebmdceaaOpenD
import Derived.Test.YtdodokeebmdceaaChM
import Derived.Test.YtdodokeebmdceaaChW
import Derived.Test.YtdodokeebmdceaaChV
import Derived.Test.YtdodokeebmdceaaChG
import Derived.Test.YtdodokeebmdceaaStpS
import Derived.Test.YtdodokeebmdceaaStpI
import Derived.Test.YtdodokeebmdceaaStpC
import Derived.Test.YtdodokeebmdceaaPWI
import Derived.Test.YtdodokeebmdceaaPWS
import Derived.Test.YtdodokeebmdceaaOpenD
import Derived.WalkKit
import Derived.WalkLawsBesides
import Derived.WalkSpells
import Derived.ProofKit
import Derived.OpenShut
import Derived.Deep.RegionWith
import Derived.Deep.QuietTactic
import Derived.BigQuiet
namespace Go.Proofs.Ytdodokeebmdceaa
open Go.ChangeShapes Go.WideShapes Go.ChangeAt Go.RowKit
open Go.ChangeMaps (open_string shut_string)

namespace PhraseWithinP
open Dice Arr DieW SortW FracW CutW All6 AllL OwnL FracM WgtM WgtW OpenG PhrM PhrW AnyR PhrV OvI GoalW OvS POv IntsE OpenD PWI PWS

theorem At.newv (x y : Int) (w : World) : At (w.alloc (.cells #[.int .i64 x, .int .i64 y] 29)) w.heap.size 2 (fr x y) :=
  At.new w _ _ 2 _ fun k hk => by
    obtain rfl | rfl : k = 0 ∨ k = 1 := by omega
    all_goals rfl

set_option maxRecDepth 100000 in
set_option maxHeartbeats 8000000 in
theorem law_any (d : Nat → Int) (A : Option Addr) (nA cA : Nat) (fA : Nat → Int) (k : Int) (w : World) (hRA : RowI w A nA fA) (_ : nA ≤ cA) (_ : cA ≤ maxLen) :
    Calls Try.prog 12 #[dv d, .slice A nA cA, .int .i64 k] w fun e w' => e = .returned (.bool true) ∧ Below w.heap.size w w' := by
  by_cases hbigA : nA ≤ 1048576
  case neg =>
    have hgd : decide ((1048576 : Int) < (nA : Int)) = true := decide_eq_true (by omega)
    have hgdN : decide (1048576 < nA) = true := decide_eq_true (by omega)
    clear hRA
    unfold dv
    go_enter Try.func12, Try.ntmps12
    go_wp2_with fail
    go_ret
    exact ⟨rfl, na (n0 w) _⟩
  have hgdA : decide ((1048576 : Int) < (nA : Int)) = false := decide_eq_false (by omega)
  have hgdNA : decide (1048576 < nA) = false := decide_eq_false (by omega)
  have ht6 := toA6_any d
  unfold dv at ht6
  have Ht6 := Lib.hid ht6; clear ht6
  have hs := fun (gA : Nat) (w : World) (hA : At w gA nA fA) => PWS.specPW_any d gA nA fA k w hA
  have hi := fun (gA : Nat) (w : World) (hA : At w gA nA fA) => PWI.implPW_any d gA nA fA k w hA
  generalize PWI.wx d nA fA k = x0 at hs hi
  generalize PWI.wz d nA fA k = y0 at hs hi
  generalize PWI.okW d nA fA k = z0 at hs hi
  unfold dv at hs hi
  have Hs := Lib.hid hs; clear hs
  have Hi := Lib.hid hi; clear hi
  have Hq := Lib.hid (fun w => eqA2_any x0 y0 w)
  have HtA := Lib.hid (fun w h => toInts_any A nA cA fA w h hbigA)
  have HeA := Lib.hid (fun (g g' : Nat) w (h : At w g nA fA) (h' : At w g' nA fA) => eqInts_any 0 0 (some ⟨g, 0, none⟩) (some ⟨g', 0, none⟩) nA nA nA fA w (.inr ⟨g, rfl, Nat.zero_le _, h⟩) (.inr ⟨g', rfl, Nat.zero_le _, h'⟩) (Nat.le_trans hbigA (by unfold maxLen; omega)))
  have HA := Lib.hid hRA; clear hRA
  unfold dv
  have hB := na (n0 w) (sixO d 22)
  have hD := At.new6 w d 22 rfl
  go_enter Try.func12, Try.ntmps12
  obtain ⟨e0, e1, e2, e3, e4, e5⟩ := hD.six
  go_wp2_with fail
  refine (Ht6.out _).mono ?_
  rintro e w1 ⟨rfl, hb⟩
  have hB := nx hB hb
  have hD := hD.up hb
  clear hb
  clear e0 e1 e2 e3 e4 e5
  go_wp2_with fail
  refine (HtA.out _ (HA.out.up hB)).mono ?_
  rintro e w2 ⟨gsA, rfl, hgsA, hXsA, hb⟩
  have hB := nx hB hb
  have hD := hD.up hb
  clear hb
  clear hgsA
  go_wp2_with fail
  refine (Hs.out _ _ hXsA).mono ?_
  rintro e w3 ⟨rfl, hb⟩
  have hB := nx hB hb
  have hD := hD.up hb
  have hXsA := hXsA.up hb
  clear hb
  have hV1 := At.newv x0 y0 w3
  have hB := na hB (.cells #[.int .i64 x0, .int .i64 y0] 29)
  have hD := hD.past (.cells #[.int .i64 x0, .int .i64 y0] 29)
  have hXsA := hXsA.past (.cells #[.int .i64 x0, .int .i64 y0] 29)
  clear hXsA
  go_wp2_with fail
  refine (HtA.out _ (HA.out.up hB)).mono ?_
  rintro e w4 ⟨giA, rfl, hgiA, hXiA, hb⟩
  have hB := nx hB hb
  have hD := hD.up hb
  have hV1 := hV1.up hb
  clear hb
  clear hgiA
  obtain ⟨e0, e1, e2, e3, e4, e5⟩ := hD.six
  go_wp2_with fail
  refine (Ht6.out _).mono ?_
  rintro e w5 ⟨rfl, hb⟩
  have hB := nx hB hb
  have hD := hD.up hb
  have hV1 := hV1.up hb
  have hXiA := hXiA.up hb
  clear hb
  clear e0 e1 e2 e3 e4 e5
  go_wp2_with fail
  refine (Hi.out _ _ hXiA).mono ?_
  rintro e w6 ⟨rfl, hb⟩
  have hB := nx hB hb
  have hD := hD.up hb
  have hV1 := hV1.up hb
  have hXiA := hXiA.up hb
  clear hb
  have hV2 := At.newv x0 y0 w6
  have hB := na hB (.cells #[.int .i64 x0, .int .i64 y0] 29)
  have hD := hD.past (.cells #[.int .i64 x0, .int .i64 y0] 29)
  have hV1 := hV1.past (.cells #[.int .i64 x0, .int .i64 y0] 29)
  have hXiA := hXiA.past (.cells #[.int .i64 x0, .int .i64 y0] 29)
  have v0 := hV1.cell 0 (by omega)
  have v1 := hV1.cell 1 (by omega)
  have v2' := hV2.cell 0 (by omega)
  have v3' := hV2.cell 1 (by omega)
  rw [show fr x0 y0 0 = x0 from rfl] at v0
  rw [show fr x0 y0 0 = x0 from rfl] at v2'
  rw [show fr x0 y0 1 = y0 from rfl] at v1
  rw [show fr x0 y0 1 = y0 from rfl] at v3'
  cases z0
  all_goals
    go_wp2_with fail
    refine (Hq.out _).mono ?_
    rintro e w7 ⟨rfl, hb⟩
    clear v0 v1 v2' v3'
    have hB := nx hB hb
    have hD := hD.up hb
    have hV1 := hV1.up hb
    have hXiA := hXiA.up hb
    have hV2 := hV2.up hb
    clear hb
    go_wp2_with fail
    refine (HtA.out _ (HA.out.up hB)).mono ?_
    rintro e w8 ⟨geA, rfl, hgeA, hXeA, hb⟩
    have hB := nx hB hb
    have hD := hD.up hb
    have hV1 := hV1.up hb
    have hXiA := hXiA.up hb
    have hV2 := hV2.up hb
    clear hb
    clear hgeA
    go_wp2_with fail
    refine (HeA.out _ _ _ hXiA hXeA).mono ?_
    rintro e w9 ⟨rfl, hb⟩
    have hB := nx hB hb
    have hD := hD.up hb
    have hV1 := hV1.up hb
    have hXiA := hXiA.up hb
    have hV2 := hV2.up hb
    have hXeA := hXeA.up hb
    clear hb
    go_wp2_with fail
    go_ret
    exact ⟨rfl, hB⟩

theorem laidOut : laidOutB Try.prog = true := by kernel_rfl
set_option maxRecDepth 100000 in
/-- What the walk gives, for every argument. -/
theorem contract (H : Type) (enc : TypeId × Value → H) (W : World) (base : Nat) (args : Array Value) (ds gs : List (DataW H)) (before : List MemPlace)
    (hval : ∀ (j : Nat) t v, Try.f12.params[j]? = some t → args[j]? = some v → Value.okWide Try.prog W .any base t v)
    (hW : DataW.Whole enc Try.prog Try.f12.params.toList Rows.fnExactPhraseWithinSpec.vars false W args.toList ds gs before) :
    Calls Try.prog 12 args W fun e W' => ∃ v, e = .returned v ∧ Rows.fnExactPhraseWithinSpec.post enc Try.prog Try.f12 false true false false W args v W' := by
  have hW' := hW
  obtain ⟨p, q, hA0, hV, rfl, hfz, hnd⟩ := hW
  have hA : DataW.TrodAll enc Try.prog W 0 (fun _ => true) true Try.f12.params.toList args.toList ds p := hA0
  rw [Try.params12] at hA hval
  obtain ⟨v0, vs0, d0, ds0, p0, q0, hargs, rfl, rfl, h0, r0⟩ := trodAll_cons hA
  obtain ⟨v1, vs1, d1, ds1, p1, q1, rfl, rfl, rfl, h1, r1⟩ := trodAll_cons r0
  obtain ⟨v2, vs2, d2, ds2, p2, q2, rfl, rfl, rfl, h2, r2⟩ := trodAll_cons r1
  obtain ⟨rfl, rfl, rfl⟩ := trodAll_nil r2
  obtain rfl : args = #[v0, v1, v2] := by cases args; simp_all
  obtain ⟨rfl, rfl⟩ := trodVars_none hV
  obtain ⟨a0, rfl, w0⟩ := OpenD.die_of (hval 0 22 v0 rfl rfl) h0
  have k0 := h0
  have lt0 : ∀ x ∈ p0, x.block < W.heap.size := fun x hx => by have := hW'.lt x (by simp [hx]); simpa using this
  obtain ⟨A1, n1, c1, rfl⟩ := okWide_slice Try.underlying37 (hval 1 37 v1 rfl rfl)
  have k1 := h1
  have lt1 : ∀ x ∈ p1, x.block < W.heap.size := fun x hx => by have := hW'.lt x (by simp [hx]); simpa using this
  obtain ⟨fu1, hf1⟩ := h1
  obtain ⟨a1, ht1, hc1, hm1, w1⟩ := OpenG.ints_of hf1 lt1
  obtain ⟨a2, rfl, rfl, rfl, wf2⟩ := open_int Try.underlying3 (hval 2 3 v2 rfl rfl) h2
  have w2 : -9223372036854775808 ≤ a2 ∧ a2 ≤ 9223372036854775807 := by simpa [Lit.wf, IntKind.min, IntKind.max, IntKind.bits, IntKind.signed] using wf2
  clear hA0
  simp only [List.append_nil] at hW'
  refine (law_any a0 A1 n1 c1 a1 a2 W ht1 hc1 hm1).mono fun e W' ⟨he, hg⟩ => ?_
  subst he
  exact ⟨_, rfl, _, _, _, [], (p0 ++ (p1 ++ ([] ++ []))), [], hW', trodAll_cons_mk (shut_bool Try.underlying4 _) trodAll_mk0, trodAll_cons_mk (Below.trod laidOut (by kernel_rfl) (of_decide_eq_true (by kernel_rfl)) k0 hg lt0) (trodAll_cons_mk (Below.trod laidOut (by kernel_rfl) (of_decide_eq_true (by kernel_rfl)) k1 hg lt1) (trodAll_cons_mk (shut_int Try.underlying3 wf2) trodAll_mk0)), rfl, hg.frame _, fun h => by cases h⟩

theorem own : ownKnob Try.prog.godebug = none := by kernel_rfl

set_option maxRecDepth 100000 in
theorem lifted (os : Os) (started : os.Started) (H : Type) (enc : TypeId × Value → H) :
    ReturnsInHanded {} Try.checked os 12 .any (Rows.fnExactPhraseWithinSpec.pre6 enc Try.prog Try.f12 Rows.fnExactPhraseWithinRow.domain false) (Rows.fnExactPhraseWithinSpec.post enc Try.prog Try.f12 false true false false) := by
  refine returnsInHanded_of_change (C := Try.checked) own started (by kernel_rfl) Try.func12
    (ChangeSpec.witness6 (enc := enc) (C := Try.checked) false ⟨#[], #[.agg #[.int .i64 0, .int .i64 0, .int .i64 0, .int .i64 0, .int .i64 0, .int .i64 0], .slice none 0 0, .int .i64 0], []⟩ 8 (by kernel_rfl) (by kernel_rfl) (by kernel_rfl) (by kernel_rfl)) ?_
  intro W base args ds gs before hval hW _ _
  exact contract H enc W base args ds gs before hval hW

theorem holds : Rows.FnExactPhraseWithinSaid :=
  OpenClaim.holds_of_wide 12 Try.f12 rfl rfl rfl rfl rfl rfl rfl ⟨rfl, rfl, rfl, rfl, rfl⟩ rfl rfl rfl rfl rfl (by kernel_rfl) Try.func12 (by kernel_rfl)
    (of_decide_eq_true (by kernel_rfl)) (by unfold Func.isWrapper; rw [if_neg (by decide +kernel)]; exact ⟨rfl, rfl⟩)
    (fun os started H enc _ => lifted os started H enc)

end PhraseWithinP
end Go.Proofs.Ytdodokeebmdceaa
