/-
  FnExactBaseOf: for every array of six numbers the law returns true, and the array reads afterwards as it read before. No condition.
-/
import Derived.Test.YtjdijbidpcjjdaaRows
import Derived.Test.YtjdijbidpcjjdaaBaseW
import Derived.Test.YtjdijbidpcjjdaaShiftI
import Derived.Test.YtjdijbidpcjjdaaSortW
import Derived.Test.YtjdijbidpcjjdaaOpenD
import Derived.WalkKit
import Derived.WalkLawsBesides
import Derived.WalkSpells
import Derived.ProofKit
import Derived.OpenShut
import Derived.Deep.RegionWith
import Derived.Deep.QuietTactic
import Derived.BigQuiet
namespace Go.Proofs.Ytjdijbidpcjjdaa
open Go.ChangeShapes Go.WideShapes Go.ChangeAt Go.RowKit
open Go.ChangeMaps (open_string shut_string)

namespace BaseP
open Dice Arr DieW SortW ShiftI BaseW

theorem agree_refl (d : Nat → Int) (n : Nat) : decide (agree d d n) = true := decide_eq_true fun _ _ => rfl
set_option maxHeartbeats 2000000 in
theorem law_any (d : Nat → Int) (w : World) : Calls Try.prog 6 #[dv d] w fun e w' => e = .returned (.bool true) ∧ Below w.heap.size w w' := by
  have ht := toA6_any d
  have hs := specBase_any d
  have hi := implBase_any d
  obtain ⟨r, b, hg⟩ : ∃ g c, pbas d = #[dv g, .bool c] := by
    unfold pbas
    cases isDie d
    · exact ⟨_, _, rfl⟩
    · exact ⟨_, _, rfl⟩
  rw [hg] at hs hi
  clear hg
  have hq := eqA6_any r r
  rw [agree_refl] at hq
  unfold dv at ht hs hi hq
  have Ht := Lib.hid ht; clear ht
  have Hs := Lib.hid hs; clear hs
  have Hi := Lib.hid hi; clear hi
  have Hq := Lib.hid hq; clear hq
  unfold dv
  go_enter Try.func6, Try.ntmps6
  go_wp2_with fail
  refine (Ht.out _).mono ?_
  rintro e w1 ⟨rfl, hb1⟩
  go_wp2_with fail
  refine (Hs.out _).mono ?_
  rintro e w2 ⟨rfl, hb2⟩
  have hd := ((At.new6 w d 22 rfl).up hb1).up hb2
  obtain ⟨e0, e1, e2, e3, e4, e5⟩ := hd.six
  have hl1 := hd.lt
  go_wp2_with fail
  refine (Ht.out _).mono ?_
  rintro e w3 ⟨rfl, hb3⟩
  go_wp2_with fail
  refine (Hi.out _).mono ?_
  rintro e w4 ⟨rfl, hb4⟩
  have hg := ((At.new6 w2 r 22 rfl).up hb3).up hb4
  obtain ⟨g0, g1, g2, g3, g4, g5⟩ := hg.six
  have hl2 := hg.lt
  have hbl : Below w.heap.size w w4 := nx (nx (na (nx (nx (na (n0 w) _) hb1) hb2) _) hb3) hb4
  clear hb1 hb2 hb3 hb4
  go_wp2_with fail
  refine (Hq.out _).mono ?_
  rintro e w5 ⟨rfl, hb5⟩
  have hbl5 := nx (na hbl _) hb5
  clear hb5
  cases b
  all_goals
    go_wp2_with fail
    go_ret
    exact ⟨rfl, hbl5⟩

theorem laidOut : laidOutB Try.prog = true := by kernel_rfl
set_option maxRecDepth 100000 in
/-- What the walk gives, for every argument. -/
theorem contract (H : Type) (enc : TypeId × Value → H) (W : World) (base : Nat) (args : Array Value) (ds gs : List (DataW H)) (before : List MemPlace)
    (hval : ∀ (j : Nat) t v, Try.f6.params[j]? = some t → args[j]? = some v → Value.okWide Try.prog W .any base t v)
    (hW : DataW.Whole enc Try.prog Try.f6.params.toList Rows.fnExactBaseOfSpec.vars false W args.toList ds gs before) :
    Calls Try.prog 6 args W fun e W' => ∃ v, e = .returned v ∧ Rows.fnExactBaseOfSpec.post enc Try.prog Try.f6 false true false false W args v W' := by
  have hW' := hW
  obtain ⟨p, q, hA0, hV, rfl, hfz, hnd⟩ := hW
  have hA : DataW.TrodAll enc Try.prog W 0 (fun _ => true) true Try.f6.params.toList args.toList ds p := hA0
  rw [Try.params6] at hA hval
  obtain ⟨v0, vs0, d0, ds0, p0, q0, hargs, rfl, rfl, h0, r0⟩ := trodAll_cons hA
  obtain ⟨rfl, rfl, rfl⟩ := trodAll_nil r0
  obtain rfl : args = #[v0] := by cases args; simp_all
  obtain ⟨rfl, rfl⟩ := trodVars_none hV
  obtain ⟨a0, rfl, w0⟩ := OpenD.die_of (hval 0 22 v0 rfl rfl) h0
  have k0 := h0
  have lt0 : ∀ x ∈ p0, x.block < W.heap.size := fun x hx => by have := hW'.lt x (by simp [hx]); simpa using this
  clear hA0
  simp only [List.append_nil] at hW'
  refine (law_any a0 W).mono fun e W' ⟨he, hg⟩ => ?_
  subst he
  exact ⟨_, rfl, _, _, _, [], (p0 ++ []), [], hW', trodAll_cons_mk (shut_bool Try.underlying4 _) trodAll_mk0, trodAll_cons_mk (Below.trod laidOut (by kernel_rfl) (of_decide_eq_true (by kernel_rfl)) k0 hg lt0) trodAll_mk0, rfl, hg.frame _, fun h => by cases h⟩

theorem own : ownKnob Try.prog.godebug = none := by kernel_rfl

set_option maxRecDepth 100000 in
theorem lifted (os : Os) (started : os.Started) (H : Type) (enc : TypeId × Value → H) :
    ReturnsInHanded {} Try.checked os 6 .any (Rows.fnExactBaseOfSpec.pre6 enc Try.prog Try.f6 Rows.fnExactBaseOfRow.domain false) (Rows.fnExactBaseOfSpec.post enc Try.prog Try.f6 false true false false) := by
  refine returnsInHanded_of_change (C := Try.checked) own started (by kernel_rfl) Try.func6
    (ChangeSpec.witness6 (enc := enc) (C := Try.checked) false ⟨#[], #[.agg #[.int .i64 0, .int .i64 0, .int .i64 0, .int .i64 0, .int .i64 0, .int .i64 0]], []⟩ 8 (by kernel_rfl) (by kernel_rfl) (by kernel_rfl) (by kernel_rfl)) ?_
  intro W base args ds gs before hval hW _ _
  exact contract H enc W base args ds gs before hval hW

theorem holds : Rows.FnExactBaseOfSaid :=
  OpenClaim.holds_of_wide 6 Try.f6 rfl rfl rfl rfl rfl rfl rfl ⟨rfl, rfl, rfl, rfl, rfl⟩ rfl rfl rfl rfl rfl (by kernel_rfl) Try.func6 (by kernel_rfl)
    (of_decide_eq_true (by kernel_rfl)) (by unfold Func.isWrapper; rw [if_neg (by decide +kernel)]; exact ⟨rfl, rfl⟩)
    (fun os started H enc _ => lifted os started H enc)

end BaseP
end Go.Proofs.Ytjdijbidpcjjdaa
