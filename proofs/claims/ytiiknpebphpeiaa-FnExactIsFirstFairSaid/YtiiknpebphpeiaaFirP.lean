/-
  FnExactIsFirstFair: for every list of arrays of six numbers the law returns true, and the list reads afterwards as it read before. No condition.
-/
import Derived.Test.YtiiknpebphpeiaaRows
import Derived.Test.YtiiknpebphpeiaaArr
import Derived.Test.YtiiknpebphpeiaaDieW
import Derived.Test.YtiiknpebphpeiaaSortW
import Derived.Test.YtiiknpebphpeiaaDicesW
import Derived.Test.YtiiknpebphpeiaaPoolW
import Derived.Test.YtiiknpebphpeiaaAll6
import Derived.Test.YtiiknpebphpeiaaIntsW
import Derived.Test.YtiiknpebphpeiaaRollN
import Derived.Test.YtiiknpebphpeiaaRollS
import Derived.Test.YtiiknpebphpeiaaFour
import Derived.Test.YtiiknpebphpeiaaOrdM
import Derived.Test.YtiiknpebphpeiaaOrdT
import Derived.Test.YtiiknpebphpeiaaOrdW
import Derived.Test.YtiiknpebphpeiaaOrdO
import Derived.Test.YtiiknpebphpeiaaOrdI
import Derived.Test.YtiiknpebphpeiaaOrdK
import Derived.Test.YtiiknpebphpeiaaOrdS
import Derived.Test.YtiiknpebphpeiaaOwnL
import Derived.Test.YtiiknpebphpeiaaAnyR
import Derived.Test.YtiiknpebphpeiaaMapO
import Derived.Test.YtiiknpebphpeiaaShelfMax
import Derived.Test.YtiiknpebphpeiaaOrdN
import Derived.Test.YtiiknpebphpeiaaOrdL
import Derived.Test.YtiiknpebphpeiaaCntI
import Derived.Test.YtiiknpebphpeiaaWayI
import Derived.Test.YtiiknpebphpeiaaWayJ
import Derived.Test.YtiiknpebphpeiaaWayS
import Derived.Test.YtiiknpebphpeiaaWayT
import Derived.Test.YtiiknpebphpeiaaLevW
import Derived.Test.YtiiknpebphpeiaaAtM
import Derived.Test.YtiiknpebphpeiaaAtI
import Derived.Test.YtiiknpebphpeiaaAtS
import Derived.Test.YtiiknpebphpeiaaAtJ
import Derived.Test.YtiiknpebphpeiaaFairW
import Derived.Test.YtiiknpebphpeiaaFactP
import Derived.Test.YtiiknpebphpeiaaOpenD
import Derived.WalkKit
import Derived.WalkLawsBesides
import Derived.WalkSpells
import Derived.ProofKit
import Derived.OpenShut
import Derived.Deep.RegionWith
import Derived.Deep.QuietTactic
import Derived.BigQuiet
namespace Go.Proofs.Ytiiknpebphpeiaa
open Go.ChangeShapes Go.WideShapes Go.ChangeAt Go.RowKit
open Go.ChangeMaps (open_string shut_string)

namespace FirP
open Dice Arr OpenD DieW SortW DicesW PoolW All6 IntsW RollW Four OwnL OrdM OrdT OrdW OrdO OrdI OrdK OrdS AnyR MapO OrdN OrdL CntI WayI WayJ WayS WayT LevW AtM AtI AtS AtJ FairW

set_option maxRecDepth 20000 in
set_option maxHeartbeats 8000000 in
theorem law_any (A : Option Addr) (n c : Nat) (P : Nat → Nat → Int) (w : World) (h0 : Row w A n P) (hc0 : n ≤ c) (hm0 : c ≤ maxLen) :
    Calls Try.prog 10 #[.slice A n c] w fun e w' => e = .returned (.bool true) ∧ Below w.heap.size w w' := by
  have hn : n ≤ maxLen := Nat.le_trans hc0 hm0
  have hsz := fun w => sz_any A n c w hn
  by_cases hbig : n ≤ 1048576
  · rw [if_pos hbig] at hsz
    have Hsz := Lib.hid hsz; clear hsz
    have Ht0 := Lib.hid (fun w h => toS_any A n c P w h hbig)
    have HqS0 := Lib.hid (fun A B c c' w h h' => eqS_any A B n c c' P w h h' hn)
    have H0 := Lib.hid h0; clear h0
    have hs := fun A c w h => specFF_any A n c P w h hn
    have hi := fun A c w h => implFF_any A n c P w h hn
    generalize ffO n P = x at hs hi
    generalize isPool n P = z at hs hi
    have Hs := Lib.hid hs; clear hs
    have Hi := Lib.hid hi; clear hi
    have hB := n0 w
    clear hc0 hm0 hn
    go_enter Try.func10, Try.ntmps10
    go_wp2_with fail
    refine (Hsz.out _).mono ?_
    rintro e w1 ⟨rfl, hw0⟩
    have hw0 := hw0.symm
    subst hw0
    go_wp2_with fail
    refine (Ht0.out _ (H0.out.up hB)).mono ?_
    rintro e w2 ⟨g3, rfl, hg, hA4, hb⟩
    clear hg
    have hB := nx hB hb
    clear hb
    go_wp2_with fail
    refine (Hs.out _ _ _ (row_of_at hA4)).mono ?_
    rintro e w5 ⟨rfl, hb⟩
    have hB := nx hB hb
    have hA4 := hA4.up hb
    clear hb
    go_wp2_with fail
    refine (Ht0.out _ (H0.out.up hB)).mono ?_
    rintro e w6 ⟨g7, rfl, hg, hA8, hb⟩
    clear hg
    have hB := nx hB hb
    have hA4 := hA4.up hb
    clear hb
    go_wp2_with fail
    refine (Hi.out _ _ _ (row_of_at hA8)).mono ?_
    rintro e w9 ⟨rfl, hb⟩
    have hB := nx hB hb
    have hA4 := hA4.up hb
    have hA8 := hA8.up hb
    clear hb
    cases x
    all_goals
      cases z
      all_goals
        go_wp2_with fail
        refine (Ht0.out _ (H0.out.up hB)).mono ?_
        rintro e w10 ⟨g11, rfl, hg, hA12, hb⟩
        clear hg
        have hB := nx hB hb
        have hA4 := hA4.up hb
        have hA8 := hA8.up hb
        clear hb
        go_wp2_with fail
        refine (HqS0.out _ _ _ _ _ (row_of_at hA8) (row_of_at hA12)).mono ?_
        rintro e w13 ⟨rfl, hb⟩
        have hB := nx hB hb
        have hA4 := hA4.up hb
        have hA8 := hA8.up hb
        have hA12 := hA12.up hb
        clear hb
        go_wp2_with fail
        go_ret
        exact ⟨rfl, hB⟩
  · rw [if_neg hbig] at hsz
    have Hsz := Lib.hid hsz; clear hsz
    clear h0 hbig hc0 hm0 hn
    go_enter Try.func10, Try.ntmps10
    go_wp2_with fail
    refine (Hsz.out _).mono ?_
    rintro e w0 ⟨rfl, hw0⟩
    have hw0 := hw0.symm
    subst hw0
    go_wp2_with fail
    go_ret
    exact ⟨rfl, n0 w⟩

theorem laidOut : laidOutB Try.prog = true := by kernel_rfl
set_option maxRecDepth 100000 in
/-- What the walk gives, for every argument. -/
theorem contract (H : Type) (enc : TypeId × Value → H) (W : World) (base : Nat) (args : Array Value) (ds gs : List (DataW H)) (before : List MemPlace)
    (hval : ∀ (j : Nat) t v, Try.f10.params[j]? = some t → args[j]? = some v → Value.okWide Try.prog W .any base t v)
    (hW : DataW.Whole enc Try.prog Try.f10.params.toList Rows.fnExactIsFirstFairSpec.vars false W args.toList ds gs before) :
    Calls Try.prog 10 args W fun e W' => ∃ v, e = .returned v ∧ Rows.fnExactIsFirstFairSpec.post enc Try.prog Try.f10 false true false false W args v W' := by
  have hW' := hW
  obtain ⟨p, q, hA0, hV, rfl, hfz, hnd⟩ := hW
  have hA : DataW.TrodAll enc Try.prog W 0 (fun _ => true) true Try.f10.params.toList args.toList ds p := hA0
  rw [Try.params10] at hA hval
  obtain ⟨v0, vs0, d0, ds0, p0, q0, hargs, rfl, rfl, h0, r0⟩ := trodAll_cons hA
  obtain ⟨rfl, rfl, rfl⟩ := trodAll_nil r0
  obtain rfl : args = #[v0] := by cases args; simp_all
  obtain ⟨rfl, rfl⟩ := trodVars_none hV
  obtain ⟨A0, n0, c0, rfl⟩ := okWide_slice Try.underlying22 (hval 0 22 v0 rfl rfl)
  have k0 := h0
  have lt0 : ∀ x ∈ p0, x.block < W.heap.size := fun x hx => by have := hW'.lt x (by simp [hx]); simpa using this
  obtain ⟨fu0, hf0⟩ := h0
  obtain ⟨a0, ht0, hc0, hm0, w0⟩ := OpenD.dice_of hf0 lt0
  clear hA0
  simp only [List.append_nil] at hW'
  refine (law_any A0 n0 c0 a0 W ht0 hc0 hm0).mono fun e W' ⟨he, hg⟩ => ?_
  subst he
  exact ⟨_, rfl, _, _, _, [], (p0 ++ []), [], hW', trodAll_cons_mk (shut_bool Try.underlying4 _) trodAll_mk0, trodAll_cons_mk (Below.trod laidOut (by kernel_rfl) (of_decide_eq_true (by kernel_rfl)) k0 hg lt0) trodAll_mk0, rfl, hg.frame _, fun h => by cases h⟩

theorem own : ownKnob Try.prog.godebug = none := by kernel_rfl

set_option maxRecDepth 100000 in
theorem lifted (os : Os) (started : os.Started) (H : Type) (enc : TypeId × Value → H) :
    ReturnsInHanded {} Try.checked os 10 .any (Rows.fnExactIsFirstFairSpec.pre6 enc Try.prog Try.f10 Rows.fnExactIsFirstFairRow.domain false) (Rows.fnExactIsFirstFairSpec.post enc Try.prog Try.f10 false true false false) := by
  refine returnsInHanded_of_change (C := Try.checked) own started (by kernel_rfl) Try.func10
    (ChangeSpec.witness6 (enc := enc) (C := Try.checked) false ⟨#[], #[.slice none 0 0], []⟩ 8 (by kernel_rfl) (by kernel_rfl) (by kernel_rfl) (by kernel_rfl)) ?_
  intro W base args ds gs before hval hW _ _
  exact contract H enc W base args ds gs before hval hW

set_option maxHeartbeats 8000000 in
theorem closed : joinedFacts Try.prog 10 Try.f10 Rows.fnExactIsFirstFairSpec Rows.fnExactIsFirstFairRow = true := by
  unfold joinedFacts
  rw [show Rows.fnExactIsFirstFairRow.lifted = false from rfl, show Rows.fnExactIsFirstFairRow.make = Rows.fnExactOrderOfRow.make from rfl]
  repeat' with_reducible refine Bool.and_eq_true_iff.mpr ⟨?_, ?_⟩
  all_goals first | with_reducible exact FactP.enters | with_reducible exact FactP.lifts | with_reducible exact FactP.makes | as_aux_lemma => kernel_rfl
theorem holds : Rows.FnExactIsFirstFairSaid :=
  OpenClaim.holds_of_wide 10 Try.f10 rfl rfl rfl rfl rfl rfl rfl ⟨rfl, rfl, rfl, rfl, rfl⟩ rfl rfl rfl rfl rfl (by kernel_rfl) Try.func10 closed
    (of_decide_eq_true (by kernel_rfl)) (by unfold Func.isWrapper; rw [if_neg (by decide +kernel)]; exact ⟨rfl, rfl⟩)
    (fun os started H enc _ => lifted os started H enc)

end FirP
end Go.Proofs.Ytiiknpebphpeiaa
