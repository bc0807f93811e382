/-
  FnExactIsDie: for every array of six numbers the law returns true, and the array reads afterwards as it read before. No condition.
-/
import Derived.Test.YtlkhjdieddankaaRows
import Derived.Test.YtlkhjdieddankaaSortW
import Derived.Test.YtlkhjdieddankaaOpenD
import Derived.WalkKit
import Derived.WalkLawsBesides
import Derived.WalkSpells
import Derived.ProofKit
import Derived.OpenShut
import Derived.Deep.QuietTactic
import Derived.BigQuiet
namespace Go.Proofs.Ytlkhjdieddankaa
open Go.ChangeShapes Go.WideShapes Go.ChangeAt Go.RowKit
open Go.ChangeMaps (open_string shut_string)

namespace IsDieP
open Dice Arr DieW SortW

theorem specIsDie_any (d : Nat → Int) (w : World) : Calls Try.prog 15 #[dv d] w fun e w' => e = .returned (.bool (isDie d)) ∧ Below w.heap.size w w' := by
  have hc := l2Die_any d
  unfold dv at hc
  have Hc := Lib.hid hc; clear hc
  unfold dv
  go_enter Try.func15, Try.ntmps15
  go_wp2_with fail
  refine (Hc.out _).mono ?_
  rintro e w1 ⟨rfl, hb⟩
  go_wp2_with fail
  go_ret
  exact ⟨rfl, past1 hb⟩

set_option maxHeartbeats 2000000 in
theorem law_any (d : Nat → Int) (w : World) : Calls Try.prog 3 #[dv d] w fun e w' => e = .returned (.bool true) ∧ Below w.heap.size w w' := by
  have ht := toA6_any d
  have hs := specIsDie_any d
  have hi := implIsDie_any d
  unfold dv at ht hs hi
  have Ht := Lib.hid ht; clear ht
  have Hs := Lib.hid hs; clear hs
  have Hi := Lib.hid hi; clear hi
  unfold dv
  go_enter Try.func3, Try.ntmps3
  go_wp2_with fail
  refine (Ht.out _).mono ?_
  rintro e w1 ⟨rfl, hb1⟩
  go_wp2_with fail
  refine (Hs.out _).mono ?_
  rintro e w2 ⟨rfl, hb2⟩
  have hd := ((At.new6 w d 22 rfl).up hb1).up hb2
  obtain ⟨e0, e1, e2, e3, e4, e5⟩ := hd.six
  go_wp2_with fail
  refine (Ht.out _).mono ?_
  rintro e w3 ⟨rfl, hb3⟩
  go_wp2_with fail
  refine (Hi.out _).mono ?_
  rintro e w4 ⟨rfl, hb4⟩
  cases isDie d
  all_goals
    go_wp2_with fail
    go_ret
    exact ⟨rfl, (((past1 hb1).trans (hb2.mono (past1 hb1).size)).trans (hb3.mono ((past1 hb1).trans (hb2.mono (past1 hb1).size)).size)).trans (hb4.mono (((past1 hb1).trans (hb2.mono (past1 hb1).size)).trans (hb3.mono ((past1 hb1).trans (hb2.mono (past1 hb1).size)).size)).size)⟩

theorem laidOut : laidOutB Try.prog = true := by kernel_rfl
/-- What the walk gives, for every argument. -/
theorem contract (H : Type) (enc : TypeId × Value → H) (W : World) (base : Nat) (args : Array Value) (ds gs : List (DataW H)) (before : List MemPlace)
    (hval : ∀ (j : Nat) t v, Try.f3.params[j]? = some t → args[j]? = some v → Value.okWide Try.prog W .any base t v)
    (hW : DataW.Whole enc Try.prog Try.f3.params.toList Rows.fnExactIsDieSpec.vars false W args.toList ds gs before) :
    Calls Try.prog 3 args W fun e W' => ∃ v, e = .returned v ∧ Rows.fnExactIsDieSpec.post enc Try.prog Try.f3 false true false false W args v W' := by
  have hW' := hW
  obtain ⟨p, q, hA0, hV, rfl, hfz, hnd⟩ := hW
  have hA : DataW.TrodAll enc Try.prog W 0 (fun _ => true) true Try.f3.params.toList args.toList ds p := hA0
  rw [Try.params3] at hA hval
  obtain ⟨v0, vs0, d0, ds0, p0, q0, hargs, rfl, rfl, h0, r0⟩ := trodAll_cons hA
  obtain ⟨rfl, rfl, rfl⟩ := trodAll_nil r0
  obtain rfl : args = #[v0] := by cases args; simp_all
  obtain ⟨rfl, rfl⟩ := trodVars_none hV
  obtain ⟨a0, rfl, w0⟩ := OpenD.die_of (hval 0 22 v0 rfl rfl) h0
  have k0 := h0
  have lt0 : ∀ x ∈ p0, x.block < W.heap.size := fun x hx => by have := hW'.lt x (by simp [hx]); simpa using this
  clear hA0
  simp only [List.append_nil] at hW'
  refine (law_any a0 W).mono fun e W' ⟨he, hg⟩ => ?_
  subst he
  exact ⟨_, rfl, _, _, _, [], (p0 ++ []), [], hW', trodAll_cons_mk (shut_bool Try.underlying4 _) trodAll_mk0, trodAll_cons_mk (Below.trod laidOut (by kernel_rfl) (of_decide_eq_true (by kernel_rfl)) k0 hg lt0) trodAll_mk0, rfl, hg.frame _, fun h => by cases h⟩

theorem own : ownKnob Try.prog.godebug = none := by kernel_rfl

set_option maxRecDepth 100000 in
theorem lifted (os : Os) (started : os.Started) (H : Type) (enc : TypeId × Value → H) :
    ReturnsInHanded {} Try.checked os 3 .any (Rows.fnExactIsDieSpec.pre6 enc Try.prog Try.f3 Rows.fnExactIsDieRow.domain false) (Rows.fnExactIsDieSpec.post enc Try.prog Try.f3 false true false false) := by
  refine returnsInHanded_of_change (C := Try.checked) own started (by kernel_rfl) Try.func3
    (ChangeSpec.witness6 (enc := enc) (C := Try.checked) false ⟨#[], #[.agg #[.int .i64 0, .int .i64 0, .int .i64 0, .int .i64 0, .int .i64 0, .int .i64 0]], []⟩ 8 (by kernel_rfl) (by kernel_rfl) (by kernel_rfl) (by kernel_rfl)) ?_
  intro W base args ds gs before hval hW _ _
  exact contract H enc W base args ds gs before hval hW

theorem holds : Rows.FnExactIsDieSaid :=
  OpenClaim.holds_of_wide 3 Try.f3 rfl rfl rfl rfl rfl rfl rfl ⟨rfl, rfl, rfl, rfl, rfl⟩ rfl rfl rfl rfl rfl (by kernel_rfl) Try.func3 (by kernel_rfl)
    (of_decide_eq_true (by kernel_rfl)) (by unfold Func.isWrapper; rw [if_neg (by decide +kernel)]; exact ⟨rfl, rfl⟩)
    (fun os started H enc _ => lifted os started H enc)

end IsDieP
end Go.Proofs.Ytlkhjdieddankaa
