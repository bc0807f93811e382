/-
  FnExactMirrorPair: for every pair of arrays of six numbers the law returns true, and the pair reads afterwards as it read before. No condition.
-/
import Derived.Test.YtjdijbidpcjjdaaRows
import Derived.Test.YtjdijbidpcjjdaaMirrW
import Derived.Test.YtjdijbidpcjjdaaPofW
import Derived.Test.YtjdijbidpcjjdaaGoodW
import Derived.Test.YtjdijbidpcjjdaaToP
import Derived.Test.YtjdijbidpcjjdaaPairA
import Derived.Test.YtjdijbidpcjjdaaSortW
import Derived.Test.YtjdijbidpcjjdaaOpenD
import Derived.WalkKit
import Derived.WalkLawsBesides
import Derived.WalkSpells
import Derived.ProofKit
import Derived.OpenShut
import Derived.Deep.RegionWith
import Derived.Deep.QuietTactic
import Derived.BigQuiet
namespace Go.Proofs.Ytjdijbidpcjjdaa
open Go.ChangeShapes Go.WideShapes Go.ChangeAt Go.RowKit
open Go.ChangeMaps (open_string shut_string)

namespace MirrP
open Dice Arr DieW SortW LessW SgnW PairA ToP GoodW PofW MirrW

set_option maxHeartbeats 4000000 in
theorem law_any (a b : Nat → Int) (w : World) : Calls Try.prog 10 #[pv a b] w fun e w' => e = .returned (.bool true) ∧ Below w.heap.size w w' := by
  have ht := toPair_any a b
  have hs := specMirror_any a b
  have hi := implMirror_any a b
  obtain ⟨x, y, c, ho⟩ : ∃ x y c, pmirr a b = #[pv x y, .bool c] := by
    unfold pmirr
    cases isPr a b
    · exact ⟨_, _, _, rfl⟩
    · exact ⟨_, _, _, rfl⟩
  rw [ho] at hs hi
  clear ho
  have hq := eqPair_any x y
  unfold pv at ht hs hi hq
  have Ht := Lib.hid ht; clear ht
  have Hs := Lib.hid hs; clear hs
  have Hi := Lib.hid hi; clear hi
  have Hq := Lib.hid hq; clear hq
  have hp := At.new12 w a b 24 rfl
  have hB := na (n0 w) (twO a b 24)
  unfold pv
  go_enter Try.func10, Try.ntmps10
  go_wp2_with fail
  refine (Ht.out _).mono ?_
  rintro e w1 ⟨rfl, hb1⟩
  go_wp2_with fail
  refine (Hs.out _).mono ?_
  rintro e w2 ⟨rfl, hb2⟩
  have hp := ((hp.up hb1).up hb2).past (twO x y 26)
  have hB := na (nx (nx hB hb1) hb2) (twO x y 26)
  have hx := At.new12 w2 x y 26 rfl
  clear hb1 hb2
  obtain ⟨c0, c1, c2, c3, c4, c5, c6, c7, c8, c9, c10, c11⟩ := At.twelve hp
  go_wp2_with fail
  refine (Ht.out _).mono ?_
  rintro e w3 ⟨rfl, hb1⟩
  go_wp2_with fail
  refine (Hi.out _).mono ?_
  rintro e w4 ⟨rfl, hb2⟩
  have hB := na (nx (nx hB hb1) hb2) (twO x y 26)
  have hx := ((hx.up hb1).up hb2).past (twO x y 26)
  have hy := At.new12 w4 x y 26 rfl
  clear hb1 hb2 c0 c1 c2 c3 c4 c5 c6 c7 c8 c9 c10 c11 hp
  obtain ⟨c0, c1, c2, c3, c4, c5, c6, c7, c8, c9, c10, c11⟩ := At.twelve hx
  obtain ⟨d0, d1, d2, d3, d4, d5, d6, d7, d8, d9, d10, d11⟩ := At.twelve hy
  go_wp2_with fail
  refine (Hq.out _).mono ?_
  rintro e w5 ⟨rfl, hb5⟩
  have hB := nx hB hb5
  clear hb5
  cases c
  all_goals
    go_wp2_with fail
    go_ret
    exact ⟨rfl, hB⟩

theorem laidOut : laidOutB Try.prog = true := by kernel_rfl
set_option maxRecDepth 100000 in
/-- What the walk gives, for every argument. -/
theorem contract (H : Type) (enc : TypeId × Value → H) (W : World) (base : Nat) (args : Array Value) (ds gs : List (DataW H)) (before : List MemPlace)
    (hval : ∀ (j : Nat) t v, Try.f10.params[j]? = some t → args[j]? = some v → Value.okWide Try.prog W .any base t v)
    (hW : DataW.Whole enc Try.prog Try.f10.params.toList Rows.fnExactMirrorPairSpec.vars false W args.toList ds gs before) :
    Calls Try.prog 10 args W fun e W' => ∃ v, e = .returned v ∧ Rows.fnExactMirrorPairSpec.post enc Try.prog Try.f10 false true false false W args v W' := by
  have hW' := hW
  obtain ⟨p, q, hA0, hV, rfl, hfz, hnd⟩ := hW
  have hA : DataW.TrodAll enc Try.prog W 0 (fun _ => true) true Try.f10.params.toList args.toList ds p := hA0
  rw [Try.params10] at hA hval
  obtain ⟨v0, vs0, d0, ds0, p0, q0, hargs, rfl, rfl, h0, r0⟩ := trodAll_cons hA
  obtain ⟨rfl, rfl, rfl⟩ := trodAll_nil r0
  obtain rfl : args = #[v0] := by cases args; simp_all
  obtain ⟨rfl, rfl⟩ := trodVars_none hV
  obtain ⟨a0, b0, rfl, w0, u0⟩ := PairA.pair_of (hval 0 24 v0 rfl rfl) h0
  have k0 := h0
  have lt0 : ∀ x ∈ p0, x.block < W.heap.size := fun x hx => by have := hW'.lt x (by simp [hx]); simpa using this
  clear hA0
  simp only [List.append_nil] at hW'
  refine (law_any a0 b0 W).mono fun e W' ⟨he, hg⟩ => ?_
  subst he
  exact ⟨_, rfl, _, _, _, [], (p0 ++ []), [], hW', trodAll_cons_mk (shut_bool Try.underlying4 _) trodAll_mk0, trodAll_cons_mk (Below.trod laidOut (by kernel_rfl) (of_decide_eq_true (by kernel_rfl)) k0 hg lt0) trodAll_mk0, rfl, hg.frame _, fun h => by cases h⟩

theorem own : ownKnob Try.prog.godebug = none := by kernel_rfl

set_option maxRecDepth 100000 in
theorem lifted (os : Os) (started : os.Started) (H : Type) (enc : TypeId × Value → H) :
    ReturnsInHanded {} Try.checked os 10 .any (Rows.fnExactMirrorPairSpec.pre6 enc Try.prog Try.f10 Rows.fnExactMirrorPairRow.domain false) (Rows.fnExactMirrorPairSpec.post enc Try.prog Try.f10 false true false false) := by
  refine returnsInHanded_of_change (C := Try.checked) own started (by kernel_rfl) Try.func10
    (ChangeSpec.witness6 (enc := enc) (C := Try.checked) false ⟨#[], #[.agg #[.int .i64 0, .int .i64 0, .int .i64 0, .int .i64 0, .int .i64 0, .int .i64 0, .int .i64 0, .int .i64 0, .int .i64 0, .int .i64 0, .int .i64 0, .int .i64 0]], []⟩ 8 (by kernel_rfl) (by kernel_rfl) (by kernel_rfl) (by kernel_rfl)) ?_
  intro W base args ds gs before hval hW _ _
  exact contract H enc W base args ds gs before hval hW

theorem holds : Rows.FnExactMirrorPairSaid :=
  OpenClaim.holds_of_wide 10 Try.f10 rfl rfl rfl rfl rfl rfl rfl ⟨rfl, rfl, rfl, rfl, rfl⟩ rfl rfl rfl rfl rfl (by kernel_rfl) Try.func10 (by kernel_rfl)
    (of_decide_eq_true (by kernel_rfl)) (by unfold Func.isWrapper; rw [if_neg (by decide +kernel)]; exact ⟨rfl, rfl⟩)
    (fun os started H enc _ => lifted os started H enc)

end MirrP
end Go.Proofs.Ytjdijbidpcjjdaa
