/-
  FnExactPhraseFirst: for every array of six numbers and every two lists of numbers the law returns true, and the lists read afterwards as they read before. No condition.
-/
import Derived.Test.YtdodokeebmdceaaRows
import Derived.Test.YtdodokeebmdceaaArr
import Derived.Test.YtdodokeebmdceaaAnyR
import Derived.Test.YtdodokeebmdceaaDieW
import Derived.Test.YtdodokeebmdceaaSortW
import Derived.Test.YtdodokeebmdceaaFracW
import Derived.Test.YtdodokeebmdceaaFracL
import Derived.Test.YtdodokeebmdceaaCutW
import Derived.Test.YtdodokeebmdceaaAll6
import Derived.Test.YtdodokeebmdceaaAllL
import Derived.Test.YtdodokeebmdceaaOwnL
import Derived.Test.YtdodokeebmdceaaFracM
import Derived.Test.YtdodokeebmdceaaWgtM
import Derived.Test.YtdodokeebmdceaaWgtW
import Derived.Test.YtdodokeebmdceaaShelfSl
import Derived.Test.YtdodokeebmdceaaOpenI
import Derived.Test.YtdodokeebmdceaaPhrM
import Derived.Test.YtdodokeebmdceaaPhrW
import Derived.Test.YtdodokeebmdceaaPhrV
import Derived.Test.YtdodokeebmdceaaOvI
import Derived.Test.YtdodokeebmdceaaGoalW
import Derived.Test.YtdodokeebmdceaaFracB2
import Derived.Test.YtdodokeebmdceaaOvS
import Derived.Test.YtdodokeebmdceaaPOv
import Derived.Test.YtdodokeebmdceaaFirN
import Derived.Test.YtdodokeebmdceaaFirI
import Derived.Test.YtdodokeebmdceaaFirS
import Derived.Test.YtdodokeebmdceaaIntsE
import Derived.Test.YtdodokeebmdceaaOpenI
import Derived.Test.YtdodokeebmdceaaOpenD
import Derived.Test.YtdodokeebmdceaaOpenD
import Derived.WalkKit
import Derived.WalkLawsBesides
import Derived.WalkSpells
import Derived.ProofKit
import Derived.OpenShut
import Derived.Deep.RegionWith
import Derived.Deep.QuietTactic
import Derived.BigQuiet
namespace Go.Proofs.Ytdodokeebmdceaa
open Go.ChangeShapes Go.WideShapes Go.ChangeAt Go.RowKit
open Go.ChangeMaps (open_string shut_string)

namespace PhraseFirstP
open Dice Arr DieW SortW FracW CutW All6 AllL OwnL FracM WgtM WgtW OpenG PhrM PhrW AnyR PhrV OvI GoalW POv FirN FirI FirS IntsE OpenD

theorem At.newv (x y : Int) (w : World) : At (w.alloc (.cells #[.int .i64 x, .int .i64 y] 29)) w.heap.size 2 (fr x y) :=
  At.new w _ _ 2 _ fun k hk => by
    obtain rfl | rfl : k = 0 ∨ k = 1 := by omega
    all_goals rfl

set_option maxRecDepth 100000 in
set_option maxHeartbeats 8000000 in
theorem law_any (d : Nat → Int) (A : Option Addr) (nA cA : Nat) (fA : Nat → Int) (C : Option Addr) (nC cC : Nat) (fC : Nat → Int) (w : World) (hRA : RowI w A nA fA) (_ : nA ≤ cA) (_ : cA ≤ maxLen) (hRC : RowI w C nC fC) (_ : nC ≤ cC) (_ : cC ≤ maxLen) :
    Calls Try.prog 11 #[dv d, .slice A nA cA, .slice C nC cC] w fun e w' => e = .returned (.bool true) ∧ Below w.heap.size w w' := by
  by_cases hbigA : nA ≤ 1048576
  case neg =>
    have hgd : decide ((1048576 : Int) < (nA : Int)) = true := decide_eq_true (by omega)
    have hgdN : decide (1048576 < nA) = true := decide_eq_true (by omega)
    clear hRA hRC
    unfold dv
    go_enter Try.func11, Try.ntmps11
    go_wp2_with fail
    go_ret
    exact ⟨rfl, na (n0 w) _⟩
  have hgdA : decide ((1048576 : Int) < (nA : Int)) = false := decide_eq_false (by omega)
  have hgdNA : decide (1048576 < nA) = false := decide_eq_false (by omega)
  by_cases hbigC : nC ≤ 1048576
  case neg =>
    have hgd : decide ((1048576 : Int) < (nC : Int)) = true := decide_eq_true (by omega)
    have hgdN : decide (1048576 < nC) = true := decide_eq_true (by omega)
    clear hRA hRC
    unfold dv
    go_enter Try.func11, Try.ntmps11
    go_wp2_with fail
    go_ret
    exact ⟨rfl, na (n0 w) _⟩
  have hgdC : decide ((1048576 : Int) < (nC : Int)) = false := decide_eq_false (by omega)
  have hgdNC : decide (1048576 < nC) = false := decide_eq_false (by omega)
  have ht6 := toA6_any d
  unfold dv at ht6
  have Ht6 := Lib.hid ht6; clear ht6
  have hs := fun (gA : Nat) (gC : Nat) (w : World) (hA : At w gA nA fA) (hC : At w gC nC fC) => specPF_any d gA nA gC nC fA fC w hA hC
  have hi := fun (gA : Nat) (gC : Nat) (w : World) (hA : At w gA nA fA) (hC : At w gC nC fC) => implPF_any d gA nA gC nC fA fC w hA hC
  generalize qx d nA fA nC fC = x0 at hs hi
  generalize qy d nA fA nC fC = y0 at hs hi
  generalize okF d nA fA nC fC = z0 at hs hi
  unfold dv at hs hi
  have Hs := Lib.hid hs; clear hs
  have Hi := Lib.hid hi; clear hi
  have Hq := Lib.hid (fun w => eqA2_any x0 y0 w)
  have HtA := Lib.hid (fun w h => toInts_any A nA cA fA w h hbigA)
  have HeA := Lib.hid (fun (g g' : Nat) w (h : At w g nA fA) (h' : At w g' nA fA) => eqInts_any 0 0 (some ⟨g, 0, none⟩) (some ⟨g', 0, none⟩) nA nA nA fA w (.inr ⟨g, rfl, Nat.zero_le _, h⟩) (.inr ⟨g', rfl, Nat.zero_le _, h'⟩) (Nat.le_trans hbigA (by unfold maxLen; omega)))
  have HA := Lib.hid hRA; clear hRA
  have HtC := Lib.hid (fun w h => toInts_any C nC cC fC w h hbigC)
  have HeC := Lib.hid (fun (g g' : Nat) w (h : At w g nC fC) (h' : At w g' nC fC) => eqInts_any 0 0 (some ⟨g, 0, none⟩) (some ⟨g', 0, none⟩) nC nC nC fC w (.inr ⟨g, rfl, Nat.zero_le _, h⟩) (.inr ⟨g', rfl, Nat.zero_le _, h'⟩) (Nat.le_trans hbigC (by unfold maxLen; omega)))
  have HC := Lib.hid hRC; clear hRC
  unfold dv
  have hB := na (n0 w) (sixO d 22)
  have hD := At.new6 w d 22 rfl
  go_enter Try.func11, Try.ntmps11
  obtain ⟨e0, e1, e2, e3, e4, e5⟩ := hD.six
  go_wp2_with fail
  refine (Ht6.out _).mono ?_
  rintro e w1 ⟨rfl, hb⟩
  have hB := nx hB hb
  have hD := hD.up hb
  clear hb
  clear e0 e1 e2 e3 e4 e5
  go_wp2_with fail
  refine (HtA.out _ (HA.out.up hB)).mono ?_
  rintro e w2 ⟨gsA, rfl, hgsA, hXsA, hb⟩
  have hB := nx hB hb
  have hD := hD.up hb
  clear hb
  clear hgsA
  go_wp2_with fail
  refine (HtC.out _ (HC.out.up hB)).mono ?_
  rintro e w3 ⟨gsC, rfl, hgsC, hXsC, hb⟩
  have hB := nx hB hb
  have hD := hD.up hb
  have hXsA := hXsA.up hb
  clear hb
  clear hgsC
  go_wp2_with fail
  refine (Hs.out _ _ _ hXsA hXsC).mono ?_
  rintro e w4 ⟨rfl, hb⟩
  have hB := nx hB hb
  have hD := hD.up hb
  have hXsA := hXsA.up hb
  have hXsC := hXsC.up hb
  clear hb
  have hV1 := At.newv x0 y0 w4
  have hB := na hB (.cells #[.int .i64 x0, .int .i64 y0] 29)
  have hD := hD.past (.cells #[.int .i64 x0, .int .i64 y0] 29)
  have hXsA := hXsA.past (.cells #[.int .i64 x0, .int .i64 y0] 29)
  have hXsC := hXsC.past (.cells #[.int .i64 x0, .int .i64 y0] 29)
  clear hXsA
  clear hXsC
  go_wp2_with fail
  refine (HtA.out _ (HA.out.up hB)).mono ?_
  rintro e w5 ⟨giA, rfl, hgiA, hXiA, hb⟩
  have hB := nx hB hb
  have hD := hD.up hb
  have hV1 := hV1.up hb
  clear hb
  clear hgiA
  go_wp2_with fail
  refine (HtC.out _ (HC.out.up hB)).mono ?_
  rintro e w6 ⟨giC, rfl, hgiC, hXiC, hb⟩
  have hB := nx hB hb
  have hD := hD.up hb
  have hV1 := hV1.up hb
  have hXiA := hXiA.up hb
  clear hb
  clear hgiC
  obtain ⟨e0, e1, e2, e3, e4, e5⟩ := hD.six
  go_wp2_with fail
  refine (Ht6.out _).mono ?_
  rintro e w7 ⟨rfl, hb⟩
  have hB := nx hB hb
  have hD := hD.up hb
  have hV1 := hV1.up hb
  have hXiA := hXiA.up hb
  have hXiC := hXiC.up hb
  clear hb
  clear e0 e1 e2 e3 e4 e5
  go_wp2_with fail
  refine (Hi.out _ _ _ hXiA hXiC).mono ?_
  rintro e w8 ⟨rfl, hb⟩
  have hB := nx hB hb
  have hD := hD.up hb
  have hV1 := hV1.up hb
  have hXiA := hXiA.up hb
  have hXiC := hXiC.up hb
  clear hb
  have hV2 := At.newv x0 y0 w8
  have hB := na hB (.cells #[.int .i64 x0, .int .i64 y0] 29)
  have hD := hD.past (.cells #[.int .i64 x0, .int .i64 y0] 29)
  have hV1 := hV1.past (.cells #[.int .i64 x0, .int .i64 y0] 29)
  have hXiA := hXiA.past (.cells #[.int .i64 x0, .int .i64 y0] 29)
  have hXiC := hXiC.past (.cells #[.int .i64 x0, .int .i64 y0] 29)
  have v0 := hV1.cell 0 (by omega)
  have v1 := hV1.cell 1 (by omega)
  have v2' := hV2.cell 0 (by omega)
  have v3' := hV2.cell 1 (by omega)
  rw [show fr x0 y0 0 = x0 from rfl] at v0
  rw [show fr x0 y0 0 = x0 from rfl] at v2'
  rw [show fr x0 y0 1 = y0 from rfl] at v1
  rw [show fr x0 y0 1 = y0 from rfl] at v3'
  cases z0
  all_goals
    go_wp2_with fail
    refine (Hq.out _).mono ?_
    rintro e w9 ⟨rfl, hb⟩
    clear v0 v1 v2' v3'
    have hB := nx hB hb
    have hD := hD.up hb
    have hV1 := hV1.up hb
    have hXiA := hXiA.up hb
    have hXiC := hXiC.up hb
    have hV2 := hV2.up hb
    clear hb
    go_wp2_with fail
    refine (HtA.out _ (HA.out.up hB)).mono ?_
    rintro e w10 ⟨geA, rfl, hgeA, hXeA, hb⟩
    have hB := nx hB hb
    have hD := hD.up hb
    have hV1 := hV1.up hb
    have hXiA := hXiA.up hb
    have hXiC := hXiC.up hb
    have hV2 := hV2.up hb
    clear hb
    clear hgeA
    go_wp2_with fail
    refine (HeA.out _ _ _ hXiA hXeA).mono ?_
    rintro e w11 ⟨rfl, hb⟩
    have hB := nx hB hb
    have hD := hD.up hb
    have hV1 := hV1.up hb
    have hXiA := hXiA.up hb
    have hXiC := hXiC.up hb
    have hV2 := hV2.up hb
    have hXeA := hXeA.up hb
    clear hb
    go_wp2_with fail
    refine (HtC.out _ (HC.out.up hB)).mono ?_
    rintro e w12 ⟨geC, rfl, hgeC, hXeC, hb⟩
    have hB := nx hB hb
    have hD := hD.up hb
    have hV1 := hV1.up hb
    have hXiA := hXiA.up hb
    have hXiC := hXiC.up hb
    have hV2 := hV2.up hb
    have hXeA := hXeA.up hb
    clear hb
    clear hgeC
    go_wp2_with fail
    refine (HeC.out _ _ _ hXiC hXeC).mono ?_
    rintro e w13 ⟨rfl, hb⟩
    have hB := nx hB hb
    have hD := hD.up hb
    have hV1 := hV1.up hb
    have hXiA := hXiA.up hb
    have hXiC := hXiC.up hb
    have hV2 := hV2.up hb
    have hXeA := hXeA.up hb
    have hXeC := hXeC.up hb
    clear hb
    go_wp2_with fail
    go_ret
    exact ⟨rfl, hB⟩

theorem laidOut : laidOutB Try.prog = true := by kernel_rfl
set_option maxRecDepth 100000 in
/-- What the walk gives, for every argument. -/
theorem contract (H : Type) (enc : TypeId × Value → H) (W : World) (base : Nat) (args : Array Value) (ds gs : List (DataW H)) (before : List MemPlace)
    (hval : ∀ (j : Nat) t v, Try.f11.params[j]? = some t → args[j]? = some v → Value.okWide Try.prog W .any base t v)
    (hW : DataW.Whole enc Try.prog Try.f11.params.toList Rows.fnExactPhraseFirstSpec.vars false W args.toList ds gs before) :
    Calls Try.prog 11 args W fun e W' => ∃ v, e = .returned v ∧ Rows.fnExactPhraseFirstSpec.post enc Try.prog Try.f11 false true false false W args v W' := by
  have hW' := hW
  obtain ⟨p, q, hA0, hV, rfl, hfz, hnd⟩ := hW
  have hA : DataW.TrodAll enc Try.prog W 0 (fun _ => true) true Try.f11.params.toList args.toList ds p := hA0
  rw [Try.params11] at hA hval
  obtain ⟨v0, vs0, d0, ds0, p0, q0, hargs, rfl, rfl, h0, r0⟩ := trodAll_cons hA
  obtain ⟨v1, vs1, d1, ds1, p1, q1, rfl, rfl, rfl, h1, r1⟩ := trodAll_cons r0
  obtain ⟨v2, vs2, d2, ds2, p2, q2, rfl, rfl, rfl, h2, r2⟩ := trodAll_cons r1
  obtain ⟨rfl, rfl, rfl⟩ := trodAll_nil r2
  obtain rfl : args = #[v0, v1, v2] := by cases args; simp_all
  obtain ⟨rfl, rfl⟩ := trodVars_none hV
  obtain ⟨a0, rfl, w0⟩ := OpenD.die_of (hval 0 22 v0 rfl rfl) h0
  have k0 := h0
  have lt0 : ∀ x ∈ p0, x.block < W.heap.size := fun x hx => by have := hW'.lt x (by simp [hx]); simpa using this
  obtain ⟨A1, n1, c1, rfl⟩ := okWide_slice Try.underlying37 (hval 1 37 v1 rfl rfl)
  have k1 := h1
  have lt1 : ∀ x ∈ p1, x.block < W.heap.size := fun x hx => by have := hW'.lt x (by simp [hx]); simpa using this
  obtain ⟨fu1, hf1⟩ := h1
  obtain ⟨a1, ht1, hc1, hm1, w1⟩ := OpenG.ints_of hf1 lt1
  obtain ⟨A2, n2, c2, rfl⟩ := okWide_slice Try.underlying37 (hval 2 37 v2 rfl rfl)
  have k2 := h2
  have lt2 : ∀ x ∈ p2, x.block < W.heap.size := fun x hx => by have := hW'.lt x (by simp [hx]); simpa using this
  obtain ⟨fu2, hf2⟩ := h2
  obtain ⟨a2, ht2, hc2, hm2, w2⟩ := OpenG.ints_of hf2 lt2
  clear hA0
  simp only [List.append_nil] at hW'
  refine (law_any a0 A1 n1 c1 a1 A2 n2 c2 a2 W ht1 hc1 hm1 ht2 hc2 hm2).mono fun e W' ⟨he, hg⟩ => ?_
  subst he
  exact ⟨_, rfl, _, _, _, [], (p0 ++ (p1 ++ (p2 ++ []))), [], hW', trodAll_cons_mk (shut_bool Try.underlying4 _) trodAll_mk0, trodAll_cons_mk (Below.trod laidOut (by kernel_rfl) (of_decide_eq_true (by kernel_rfl)) k0 hg lt0) (trodAll_cons_mk (Below.trod laidOut (by kernel_rfl) (of_decide_eq_true (by kernel_rfl)) k1 hg lt1) (trodAll_cons_mk (Below.trod laidOut (by kernel_rfl) (of_decide_eq_true (by kernel_rfl)) k2 hg lt2) trodAll_mk0)), rfl, hg.frame _, fun h => by cases h⟩

theorem own : ownKnob Try.prog.godebug = none := by kernel_rfl

set_option maxRecDepth 100000 in
theorem lifted (os : Os) (started : os.Started) (H : Type) (enc : TypeId × Value → H) :
    ReturnsInHanded {} Try.checked os 11 .any (Rows.fnExactPhraseFirstSpec.pre6 enc Try.prog Try.f11 Rows.fnExactPhraseFirstRow.domain false) (Rows.fnExactPhraseFirstSpec.post enc Try.prog Try.f11 false true false false) := by
  refine returnsInHanded_of_change (C := Try.checked) own started (by kernel_rfl) Try.func11
    (ChangeSpec.witness6 (enc := enc) (C := Try.checked) false ⟨#[], #[.agg #[.int .i64 0, .int .i64 0, .int .i64 0, .int .i64 0, .int .i64 0, .int .i64 0], .slice none 0 0, .slice none 0 0], []⟩ 8 (by kernel_rfl) (by kernel_rfl) (by kernel_rfl) (by kernel_rfl)) ?_
  intro W base args ds gs before hval hW _ _
  exact contract H enc W base args ds gs before hval hW

theorem holds : Rows.FnExactPhraseFirstSaid :=
  OpenClaim.holds_of_wide 11 Try.f11 rfl rfl rfl rfl rfl rfl rfl ⟨rfl, rfl, rfl, rfl, rfl⟩ rfl rfl rfl rfl rfl (by kernel_rfl) Try.func11 (by kernel_rfl)
    (of_decide_eq_true (by kernel_rfl)) (by unfold Func.isWrapper; rw [if_neg (by decide +kernel)]; exact ⟨rfl, rfl⟩)
    (fun os started H enc _ => lifted os started H enc)

end PhraseFirstP
end Go.Proofs.Ytdodokeebmdceaa
