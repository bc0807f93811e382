/-
  FnExactIsPair: for every pair of arrays of six numbers the law returns true, and the pair reads afterwards as it read before. No condition.
-/
import Derived.Test.YtjdijbidpcjjdaaRows
import Derived.Test.YtjdijbidpcjjdaaGoodW
import Derived.Test.YtjdijbidpcjjdaaToP
import Derived.Test.YtjdijbidpcjjdaaSgnW
import Derived.Test.YtjdijbidpcjjdaaLessW
import Derived.Test.YtjdijbidpcjjdaaPairA
import Derived.Test.YtjdijbidpcjjdaaSortW
import Derived.Test.YtjdijbidpcjjdaaOpenD
import Derived.WalkKit
import Derived.WalkLawsBesides
import Derived.WalkSpells
import Derived.ProofKit
import Derived.OpenShut
import Derived.Deep.RegionWith
import Derived.Deep.QuietTactic
import Derived.BigQuiet
namespace Go.Proofs.Ytjdijbidpcjjdaa
open Go.ChangeShapes Go.WideShapes Go.ChangeAt Go.RowKit
open Go.ChangeMaps (open_string shut_string)

namespace IsPairP
open Dice Arr DieW SortW LessW SgnW PairA ToP GoodW

set_option maxHeartbeats 2000000 in
theorem law_any (a b : Nat → Int) (w : World) : Calls Try.prog 3 #[pv a b] w fun e w' => e = .returned (.bool true) ∧ Below w.heap.size w w' := by
  have ht := toPair_any a b
  have hs := specPair_any a b
  have hi := implPair_any a b
  generalize isPr a b = x at hs hi
  unfold pv at ht hs hi
  have Ht := Lib.hid ht; clear ht
  have Hs := Lib.hid hs; clear hs
  have Hi := Lib.hid hi; clear hi
  have hp := At.new12 w a b 24 rfl
  have hbl := na (n0 w) (twO a b 24)
  unfold pv
  go_enter Try.func3, Try.ntmps3
  go_wp2_with fail
  refine (Ht.out _).mono ?_
  rintro e w1 ⟨rfl, hb1⟩
  go_wp2_with fail
  refine (Hs.out _).mono ?_
  rintro e w2 ⟨rfl, hb2⟩
  have hB2 := nx (nx hbl hb1) hb2
  obtain ⟨c0, c1, c2, c3, c4, c5, c6, c7, c8, c9, c10, c11⟩ := At.twelve ((hp.up hb1).up hb2)
  clear hb1 hb2 hp hbl
  go_wp2_with fail
  refine (Ht.out _).mono ?_
  rintro e w3 ⟨rfl, hb3⟩
  go_wp2_with fail
  refine (Hi.out _).mono ?_
  rintro e w4 ⟨rfl, hb4⟩
  have hB4 := nx (nx hB2 hb3) hb4
  clear hB2 hb3 hb4
  cases x
  all_goals
    go_wp2_with fail
    go_ret
    exact ⟨rfl, hB4⟩

theorem laidOut : laidOutB Try.prog = true := by kernel_rfl
set_option maxRecDepth 100000 in
/-- What the walk gives, for every argument. -/
theorem contract (H : Type) (enc : TypeId × Value → H) (W : World) (base : Nat) (args : Array Value) (ds gs : List (DataW H)) (before : List MemPlace)
    (hval : ∀ (j : Nat) t v, Try.f3.params[j]? = some t → args[j]? = some v → Value.okWide Try.prog W .any base t v)
    (hW : DataW.Whole enc Try.prog Try.f3.params.toList Rows.fnExactIsPairSpec.vars false W args.toList ds gs before) :
    Calls Try.prog 3 args W fun e W' => ∃ v, e = .returned v ∧ Rows.fnExactIsPairSpec.post enc Try.prog Try.f3 false true false false W args v W' := by
  have hW' := hW
  obtain ⟨p, q, hA0, hV, rfl, hfz, hnd⟩ := hW
  have hA : DataW.TrodAll enc Try.prog W 0 (fun _ => true) true Try.f3.params.toList args.toList ds p := hA0
  rw [Try.params3] at hA hval
  obtain ⟨v0, vs0, d0, ds0, p0, q0, hargs, rfl, rfl, h0, r0⟩ := trodAll_cons hA
  obtain ⟨rfl, rfl, rfl⟩ := trodAll_nil r0
  obtain rfl : args = #[v0] := by cases args; simp_all
  obtain ⟨rfl, rfl⟩ := trodVars_none hV
  obtain ⟨a0, b0, rfl, w0, u0⟩ := PairA.pair_of (hval 0 24 v0 rfl rfl) h0
  have k0 := h0
  have lt0 : ∀ x ∈ p0, x.block < W.heap.size := fun x hx => by have := hW'.lt x (by simp [hx]); simpa using this
  clear hA0
  simp only [List.append_nil] at hW'
  refine (law_any a0 b0 W).mono fun e W' ⟨he, hg⟩ => ?_
  subst he
  exact ⟨_, rfl, _, _, _, [], (p0 ++ []), [], hW', trodAll_cons_mk (shut_bool Try.underlying4 _) trodAll_mk0, trodAll_cons_mk (Below.trod laidOut (by kernel_rfl) (of_decide_eq_true (by kernel_rfl)) k0 hg lt0) trodAll_mk0, rfl, hg.frame _, fun h => by cases h⟩

theorem own : ownKnob Try.prog.godebug = none := by kernel_rfl

set_option maxRecDepth 100000 in
theorem lifted (os : Os) (started : os.Started) (H : Type) (enc : TypeId × Value → H) :
    ReturnsInHanded {} Try.checked os 3 .any (Rows.fnExactIsPairSpec.pre6 enc Try.prog Try.f3 Rows.fnExactIsPairRow.domain false) (Rows.fnExactIsPairSpec.post enc Try.prog Try.f3 false true false false) := by
  refine returnsInHanded_of_change (C := Try.checked) own started (by kernel_rfl) Try.func3
    (ChangeSpec.witness6 (enc := enc) (C := Try.checked) false ⟨#[], #[.agg #[.int .i64 0, .int .i64 0, .int .i64 0, .int .i64 0, .int .i64 0, .int .i64 0, .int .i64 0, .int .i64 0, .int .i64 0, .int .i64 0, .int .i64 0, .int .i64 0]], []⟩ 8 (by kernel_rfl) (by kernel_rfl) (by kernel_rfl) (by kernel_rfl)) ?_
  intro W base args ds gs before hval hW _ _
  exact contract H enc W base args ds gs before hval hW

theorem holds : Rows.FnExactIsPairSaid :=
  OpenClaim.holds_of_wide 3 Try.f3 rfl rfl rfl rfl rfl rfl rfl ⟨rfl, rfl, rfl, rfl, rfl⟩ rfl rfl rfl rfl rfl (by kernel_rfl) Try.func3 (by kernel_rfl)
    (of_decide_eq_true (by kernel_rfl)) (by unfold Func.isWrapper; rw [if_neg (by decide +kernel)]; exact ⟨rfl, rfl⟩)
    (fun os started H enc _ => lifted os started H enc)

end IsPairP
end Go.Proofs.Ytjdijbidpcjjdaa
