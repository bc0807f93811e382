/-
  FnExactOrdersOf: for every number the law returns true. No condition.
-/
import Derived.Test.YtiiknpebphpeiaaRows
import Derived.Test.YtiiknpebphpeiaaArr
import Derived.Test.YtiiknpebphpeiaaDieW
import Derived.Test.YtiiknpebphpeiaaSortW
import Derived.Test.YtiiknpebphpeiaaDicesW
import Derived.Test.YtiiknpebphpeiaaPoolW
import Derived.Test.YtiiknpebphpeiaaAll6
import Derived.Test.YtiiknpebphpeiaaIntsW
import Derived.Test.YtiiknpebphpeiaaRollN
import Derived.Test.YtiiknpebphpeiaaRollS
import Derived.Test.YtiiknpebphpeiaaFour
import Derived.Test.YtiiknpebphpeiaaOrdM
import Derived.Test.YtiiknpebphpeiaaOrdT
import Derived.Test.YtiiknpebphpeiaaOrdW
import Derived.Test.YtiiknpebphpeiaaOrdO
import Derived.Test.YtiiknpebphpeiaaOrdI
import Derived.Test.YtiiknpebphpeiaaOrdK
import Derived.Test.YtiiknpebphpeiaaOrdS
import Derived.Test.YtiiknpebphpeiaaOwnL
import Derived.Test.YtiiknpebphpeiaaAnyR
import Derived.Test.YtiiknpebphpeiaaMapO
import Derived.Test.YtiiknpebphpeiaaShelfMax
import Derived.Test.YtiiknpebphpeiaaOrdN
import Derived.Test.YtiiknpebphpeiaaOrdL
import Derived.Test.YtiiknpebphpeiaaCntI
import Derived.Test.YtiiknpebphpeiaaWayI
import Derived.Test.YtiiknpebphpeiaaWayJ
import Derived.Test.YtiiknpebphpeiaaWayS
import Derived.Test.YtiiknpebphpeiaaWayT
import Derived.Test.YtiiknpebphpeiaaEqOrd
import Derived.Test.YtiiknpebphpeiaaEqOs
import Derived.Test.YtiiknpebphpeiaaFactP
import Derived.Test.YtiiknpebphpeiaaOpenD
import Derived.WalkKit
import Derived.WalkLawsBesides
import Derived.WalkSpells
import Derived.ProofKit
import Derived.OpenShut
import Derived.Deep.RegionWith
import Derived.Deep.QuietTactic
import Derived.BigQuiet
namespace Go.Proofs.Ytiiknpebphpeiaa
open Go.ChangeShapes Go.WideShapes Go.ChangeAt Go.RowKit
open Go.ChangeMaps (open_string shut_string)

namespace OrdersP
open Dice Arr OpenD DieW SortW DicesW PoolW All6 IntsW RollW Four OwnL OrdM OrdT OrdW OrdO OrdI OrdK OrdS AnyR MapO OrdN OrdL CntI WayI WayJ WayS WayT EqOrd EqOs

set_option maxRecDepth 20000 in
set_option maxHeartbeats 8000000 in
theorem law_any (n : Int) (w : World)  :
    Calls Try.prog 4 #[.int .i64 n] w fun e w' => e = .returned (.bool true) ∧ Below w.heap.size w w' := by
  have hs := specOL_any n
  have hi := implOL_any n
  have hm9 := outL_len n
  generalize ofL (outL n) = f at hs hi
  generalize (outL n).length = m at hs hi hm9
  generalize okL n = b at hs hi
  have Hs := Lib.hid hs; clear hs
  have Hi := Lib.hid hi; clear hi
  have He := Lib.hid (fun B B' A A' c c' w h h' => eqOS_any B B' A A' m c c' f w h h' (by omega))
  have hmi := fun B A c w h => markOS_any B A m c f w h (by omega)
  have hhi := fun B A c w h => heldOS_any B A m c w h (by omega)
  have Hmi := Lib.hid hmi; clear hmi
  have Hhi := Lib.hid hhi; clear hhi
  have hz2 : decide ((1 : Int) + 4 * (m : Int) < 0) = false := decide_eq_false (by omega)
  clear hm9
  have hB := n0 w
  go_enter Try.func4, Try.ntmps4
  go_wp2_with fail
  refine (Hs.out _).mono ?_
  rintro e w1 ⟨AL2, cL3, rfl, hL4, hb⟩
  have hs5 := hB.size
  have hB := nx hB hb
  clear hb
  have hD := n0 w1
  go_wp2_with fail
  refine (Hi.out _).mono ?_
  rintro e w6 ⟨AL7, cL8, rfl, hL9, hb⟩
  have hs10 := hB.size
  have hd10 := hD.size
  have hB := nx hB hb
  have hD := nx hD hb
  clear hb
  go_wp2_with fail
  refine (He.out _ _ _ _ _ _ _ hL9 (hL4.up hD)).mono ?_
  rintro e w11 ⟨rfl, hb⟩
  have hB := nx hB hb
  have hD := nx hD hb
  have hL9 := hL9.up hb
  clear hb
  cases b
  all_goals
    go_wp2_with fail
    refine (Hmi.out _ _ _ _ hL9).mono ?_
    rintro e w12 ⟨rfl, hL13, hb⟩
    have hB := hB.trans (hb.mono (by omega))
    have hD := hD.trans (hb.mono (by omega))
    clear hb
    go_wp2_with fail
    refine (Hhi.out _ _ _ _ hL13).mono ?_
    rintro e w14 ⟨rfl, hb⟩
    have hB := nx hB hb
    have hD := nx hD hb
    have hL13 := hL13.up hb
    clear hb
    go_wp2_with fail
    refine (Hi.out _).mono ?_
    rintro e w15 ⟨AL16, cL17, rfl, hL18, hb⟩
    have hs19 := hB.size
    have hd19 := hD.size
    have hB := nx hB hb
    have hD := nx hD hb
    have hL13 := hL13.up hb
    clear hb
    go_wp2_with fail
    refine (He.out _ _ _ _ _ _ _ hL18 (hL4.up hD)).mono ?_
    rintro e w20 ⟨rfl, hb⟩
    have hB := nx hB hb
    have hD := nx hD hb
    have hL13 := hL13.up hb
    have hL18 := hL18.up hb
    clear hb
    go_wp2_with fail
    refine (Hhi.out _ _ _ _ hL13).mono ?_
    rintro e w21 ⟨rfl, hb⟩
    have hB := nx hB hb
    have hD := nx hD hb
    have hL13 := hL13.up hb
    have hL18 := hL18.up hb
    clear hb
    go_wp2_with fail
    go_ret
    exact ⟨rfl, hB⟩

set_option maxRecDepth 100000 in
/-- What the walk gives, for every argument. -/
theorem contract (H : Type) (enc : TypeId × Value → H) (W : World) (base : Nat) (args : Array Value) (ds gs : List (DataW H)) (before : List MemPlace)
    (hval : ∀ (j : Nat) t v, Try.f4.params[j]? = some t → args[j]? = some v → Value.okWide Try.prog W .any base t v)
    (hW : DataW.Whole enc Try.prog Try.f4.params.toList Rows.fnExactOrdersOfSpec.vars false W args.toList ds gs before) :
    Calls Try.prog 4 args W fun e W' => ∃ v, e = .returned v ∧ Rows.fnExactOrdersOfSpec.post enc Try.prog Try.f4 false true false false W args v W' := by
  have hW' := hW
  obtain ⟨p, q, hA0, hV, rfl, hfz, hnd⟩ := hW
  have hA : DataW.TrodAll enc Try.prog W 0 (fun _ => true) true Try.f4.params.toList args.toList ds p := hA0
  rw [Try.params4] at hA hval
  obtain ⟨v0, vs0, d0, ds0, p0, q0, hargs, rfl, rfl, h0, r0⟩ := trodAll_cons hA
  obtain ⟨rfl, rfl, rfl⟩ := trodAll_nil r0
  obtain rfl : args = #[v0] := by cases args; simp_all
  obtain ⟨rfl, rfl⟩ := trodVars_none hV
  obtain ⟨a0, rfl, rfl, rfl, wf0⟩ := open_int Try.underlying3 (hval 0 3 v0 rfl rfl) h0
  have w0 : -9223372036854775808 ≤ a0 ∧ a0 ≤ 9223372036854775807 := by simpa [Lit.wf, IntKind.min, IntKind.max, IntKind.bits, IntKind.signed] using wf0
  clear hA0
  simp only [List.append_nil] at hW'
  refine (law_any a0 W).mono fun e W' ⟨he, hg⟩ => ?_
  subst he
  exact ⟨_, rfl, _, _, _, [], [], [], hW', trodAll_cons_mk (shut_bool Try.underlying4 _) trodAll_mk0, trodAll_cons_mk (shut_int Try.underlying3 wf0) trodAll_mk0, rfl, hg.frame _, fun h => by cases h⟩

theorem own : ownKnob Try.prog.godebug = none := by kernel_rfl

set_option maxRecDepth 100000 in
theorem lifted (os : Os) (started : os.Started) (H : Type) (enc : TypeId × Value → H) :
    ReturnsInHanded {} Try.checked os 4 .any (Rows.fnExactOrdersOfSpec.pre6 enc Try.prog Try.f4 Rows.fnExactOrdersOfRow.domain false) (Rows.fnExactOrdersOfSpec.post enc Try.prog Try.f4 false true false false) := by
  refine returnsInHanded_of_change (C := Try.checked) own started (by kernel_rfl) Try.func4
    (ChangeSpec.witness6 (enc := enc) (C := Try.checked) false ⟨#[], #[.int .i64 0], []⟩ 8 (by kernel_rfl) (by kernel_rfl) (by kernel_rfl) (by kernel_rfl)) ?_
  intro W base args ds gs before hval hW _ _
  exact contract H enc W base args ds gs before hval hW

set_option maxHeartbeats 8000000 in
theorem closed : joinedFacts Try.prog 4 Try.f4 Rows.fnExactOrdersOfSpec Rows.fnExactOrdersOfRow = true := by
  unfold joinedFacts
  rw [show Rows.fnExactOrdersOfRow.lifted = false from rfl, show Rows.fnExactOrdersOfRow.make = Rows.fnExactOrderOfRow.make from rfl]
  repeat' with_reducible refine Bool.and_eq_true_iff.mpr ⟨?_, ?_⟩
  all_goals first | with_reducible exact FactP.enters | with_reducible exact FactP.lifts | with_reducible exact FactP.makes | as_aux_lemma => kernel_rfl
theorem holds : Rows.FnExactOrdersOfSaid :=
  OpenClaim.holds_of_wide 4 Try.f4 rfl rfl rfl rfl rfl rfl rfl ⟨rfl, rfl, rfl, rfl, rfl⟩ rfl rfl rfl rfl rfl (by kernel_rfl) Try.func4 closed
    (of_decide_eq_true (by kernel_rfl)) (by unfold Func.isWrapper; rw [if_neg (by decide +kernel)]; exact ⟨rfl, rfl⟩)
    (fun os started H enc _ => lifted os started H enc)

end OrdersP
end Go.Proofs.Ytiiknpebphpeiaa
