/-
  FnExactOrderWays: for every list of arrays of six numbers the law returns true, and the list reads afterwards as it read before. No condition.
-/
import Derived.Test.YtiiknpebphpeiaaRows
import Derived.Test.YtiiknpebphpeiaaArr
import Derived.Test.YtiiknpebphpeiaaDieW
import Derived.Test.YtiiknpebphpeiaaSortW
import Derived.Test.YtiiknpebphpeiaaDicesW
import Derived.Test.YtiiknpebphpeiaaPoolW
import Derived.Test.YtiiknpebphpeiaaAll6
import Derived.Test.YtiiknpebphpeiaaIntsW
import Derived.Test.YtiiknpebphpeiaaRollN
import Derived.Test.YtiiknpebphpeiaaRollS
import Derived.Test.YtiiknpebphpeiaaFour
import Derived.Test.YtiiknpebphpeiaaOrdM
import Derived.Test.YtiiknpebphpeiaaOrdT
import Derived.Test.YtiiknpebphpeiaaOrdW
import Derived.Test.YtiiknpebphpeiaaOrdO
import Derived.Test.YtiiknpebphpeiaaOrdI
import Derived.Test.YtiiknpebphpeiaaOrdK
import Derived.Test.YtiiknpebphpeiaaOrdS
import Derived.Test.YtiiknpebphpeiaaOwnL
import Derived.Test.YtiiknpebphpeiaaAnyR
import Derived.Test.YtiiknpebphpeiaaMapO
import Derived.Test.YtiiknpebphpeiaaShelfMax
import Derived.Test.YtiiknpebphpeiaaOrdN
import Derived.Test.YtiiknpebphpeiaaOrdL
import Derived.Test.YtiiknpebphpeiaaCntI
import Derived.Test.YtiiknpebphpeiaaWayI
import Derived.Test.YtiiknpebphpeiaaWayJ
import Derived.Test.YtiiknpebphpeiaaWayS
import Derived.Test.YtiiknpebphpeiaaWayT
import Derived.Test.YtiiknpebphpeiaaIntL
import Derived.Test.YtiiknpebphpeiaaFactP
import Derived.Test.YtiiknpebphpeiaaOpenD
import Derived.WalkKit
import Derived.WalkLawsBesides
import Derived.WalkSpells
import Derived.ProofKit
import Derived.OpenShut
import Derived.Deep.RegionWith
import Derived.Deep.QuietTactic
import Derived.BigQuiet
namespace Go.Proofs.Ytiiknpebphpeiaa
open Go.ChangeShapes Go.WideShapes Go.ChangeAt Go.RowKit
open Go.ChangeMaps (open_string shut_string)

namespace WaysP
open Dice Arr OpenD DieW SortW DicesW PoolW All6 IntsW RollW Four OwnL OrdM OrdT OrdW OrdO OrdI OrdK OrdS AnyR MapO OrdN OrdL CntI WayI WayJ WayS WayT IntL

set_option maxRecDepth 20000 in
set_option maxHeartbeats 8000000 in
theorem law_any (A : Option Addr) (n c : Nat) (P : Nat → Nat → Int) (w : World) (h0 : Row w A n P) (hc0 : n ≤ c) (hm0 : c ≤ maxLen) :
    Calls Try.prog 5 #[.slice A n c] w fun e w' => e = .returned (.bool true) ∧ Below w.heap.size w w' := by
  have hn : n ≤ maxLen := Nat.le_trans hc0 hm0
  have hsz := fun w => sz_any A n c w hn
  by_cases hbig : n ≤ 1048576
  · rw [if_pos hbig] at hsz
    have Hsz := Lib.hid hsz; clear hsz
    have Ht0 := Lib.hid (fun w h => toS_any A n c P w h hbig)
    have HqS0 := Lib.hid (fun A B c c' w h h' => eqS_any A B n c c' P w h h' hn)
    have H0 := Lib.hid h0; clear h0
    have hs := fun A c w h => specWays_any A n c P w h hn
    have hi := fun A c w h => implWays_any A n c P w h hn
    have hm9 := Nat.le_trans (mW_le n P) (show 24 ≤ 1048576 by omega)
    generalize mW n P = m at hs hi hm9
    generalize fW n P = f at hs hi
    generalize isPool n P = b at hs hi
    have Hs := Lib.hid hs; clear hs
    have Hi := Lib.hid hi; clear hi
    have He := Lib.hid (fun B B' A A' c c' w h h' => eqInts_any B B' A A' m c c' f w h h' (Nat.le_trans hm9 (by unfold maxLen; omega)))
    have hmd : ∀ (g c : Nat) (f : Nat → Int) (w : World), At w g (n * 6) f → Calls Try.prog 32 #[.slice (some ⟨g, 0, none⟩) n c, .int .i64 1] w fun e w' => e = .returned (.int .i64 (1 + 6 * (n : Int))) ∧ (∃ f, At w' g (n * 6) f) ∧ w.grownBy w' (some g) := fun g c f w h => markDice_grown g n c 1 f w h hbig (by omega)
    have hmi := fun B A c w h => markInts1_any B A m c f w h (by omega)
    have hhi := fun B A c w h => heldInts1_any B A m c w h (by omega)
    have Hmd0 := Lib.hid hmd; clear hmd
    have Hmi := Lib.hid hmi; clear hmi
    have Hhi := Lib.hid hhi; clear hhi
    have hz1 : decide ((1 : Int) + 6 * (n : Int) < 0) = false := decide_eq_false (by omega)
    have hz2 : decide ((1 : Int) + (m : Int) < 0) = false := decide_eq_false (by omega)
    clear hm9
    have hB := n0 w
    clear hc0 hm0 hn
    go_enter Try.func5, Try.ntmps5
    go_wp2_with fail
    refine (Hsz.out _).mono ?_
    rintro e w1 ⟨rfl, hw0⟩
    have hw0 := hw0.symm
    subst hw0
    go_wp2_with fail
    refine (Ht0.out _ (H0.out.up hB)).mono ?_
    rintro e w2 ⟨g3, rfl, hgg3, hA4, hb⟩
    have hs5 := hB.size
    have hB := nx hB hb
    clear hb
    have hlg3 := hA4.lt
    go_wp2_with fail
    refine (Hs.out _ _ _ (row_of_at hA4)).mono ?_
    rintro e w6 ⟨AL7, cL8, rfl, hL9, hb⟩
    have hs10 := hB.size
    have hx10_0 := hA4.lt
    have hB := nx hB hb
    have hA4 := hA4.up hb
    clear hb
    have hD := n0 w6
    go_wp2_with fail
    refine (Ht0.out _ (H0.out.up hB)).mono ?_
    rintro e w11 ⟨g12, rfl, hgg12, hA13, hb⟩
    have hs14 := hB.size
    have hd14 := hD.size
    have hx14_0 := hA4.lt
    have hB := nx hB hb
    have hD := nx hD hb
    have hA4 := hA4.up hb
    clear hb
    have hlg12 := hA13.lt
    go_wp2_with fail
    refine (Hi.out _ _ _ (row_of_at hA13)).mono ?_
    rintro e w15 ⟨AL16, cL17, rfl, hL18, hb⟩
    have hs19 := hB.size
    have hd19 := hD.size
    have hx19_0 := hA4.lt
    have hx19_1 := hA13.lt
    have hB := nx hB hb
    have hD := nx hD hb
    have hA4 := hA4.up hb
    have hA13 := hA13.up hb
    clear hb
    go_wp2_with fail
    refine (He.out _ _ _ _ _ _ _ hL18 (hL9.up hD)).mono ?_
    rintro e w20 ⟨rfl, hb⟩
    have hB := nx hB hb
    have hD := nx hD hb
    have hA4 := hA4.up hb
    have hA13 := hA13.up hb
    have hL18 := hL18.up hb
    clear hb
    cases b
    all_goals
      go_wp2_with fail
      refine (Ht0.out _ (H0.out.up hB)).mono ?_
      rintro e w21 ⟨g22, rfl, hgg22, hA23, hb⟩
      have hs24 := hB.size
      have hd24 := hD.size
      have hx24_0 := hA4.lt
      have hx24_1 := hA13.lt
      have hB := nx hB hb
      have hD := nx hD hb
      have hA4 := hA4.up hb
      have hA13 := hA13.up hb
      have hL18 := hL18.up hb
      clear hb
      have hlg22 := hA23.lt
      go_wp2_with fail
      refine (HqS0.out _ _ _ _ _ (row_of_at hA13) (row_of_at hA23)).mono ?_
      rintro e w25 ⟨rfl, hb⟩
      have hB := nx hB hb
      have hD := nx hD hb
      have hA4 := hA4.up hb
      have hA13 := hA13.up hb
      have hL18 := hL18.up hb
      have hA23 := hA23.up hb
      clear hb
      go_wp2_with fail
      refine (Hmd0.out _ _ _ _ hA13).mono ?_
      rintro e w26 ⟨rfl, _, hR⟩
      have hs27 := hB.size
      have hd27 := hD.size
      have hx27_0 := hA4.lt
      have hx27_1 := hA13.lt
      have hx27_3 := hA23.lt
      have hB := hB.grown hR hs27 (fun k e => by injection e with e; omega)
      have hD := hD.grown hR hd27 (fun k e => by injection e with e; omega)
      have hL18 := Ints.kept hL18 hR (by omega)
      clear hR
      go_wp2_with fail
      refine (He.out _ _ _ _ _ _ _ hL18 (hL9.up hD)).mono ?_
      rintro e w28 ⟨rfl, hb⟩
      have hB := nx hB hb
      have hD := nx hD hb
      have hL18 := hL18.up hb
      clear hb
      go_wp2_with fail
      refine (Hmi.out _ _ _ _ hL18).mono ?_
      rintro e w29 ⟨rfl, hL30, hb⟩
      have hB := hB.trans (hb.mono (by omega))
      have hD := hD.trans (hb.mono (by omega))
      clear hb
      go_wp2_with fail
      refine (Hhi.out _ _ _ _ hL30).mono ?_
      rintro e w31 ⟨rfl, hb⟩
      have hB := nx hB hb
      have hD := nx hD hb
      have hL30 := hL30.up hb
      clear hb
      go_wp2_with fail
      refine (Ht0.out _ (H0.out.up hB)).mono ?_
      rintro e w32 ⟨g33, rfl, hgg33, hA34, hb⟩
      have hs35 := hB.size
      have hd35 := hD.size
      have hB := nx hB hb
      have hD := nx hD hb
      have hL30 := hL30.up hb
      clear hb
      have hlg33 := hA34.lt
      go_wp2_with fail
      refine (Hi.out _ _ _ (row_of_at hA34)).mono ?_
      rintro e w36 ⟨AL37, cL38, rfl, hL39, hb⟩
      have hs40 := hB.size
      have hd40 := hD.size
      have hx40_1 := hA34.lt
      have hB := nx hB hb
      have hD := nx hD hb
      have hL30 := hL30.up hb
      have hA34 := hA34.up hb
      clear hb
      go_wp2_with fail
      refine (He.out _ _ _ _ _ _ _ hL39 (hL9.up hD)).mono ?_
      rintro e w41 ⟨rfl, hb⟩
      have hB := nx hB hb
      have hD := nx hD hb
      have hL30 := hL30.up hb
      have hA34 := hA34.up hb
      have hL39 := hL39.up hb
      clear hb
      go_wp2_with fail
      refine (Hhi.out _ _ _ _ hL30).mono ?_
      rintro e w42 ⟨rfl, hb⟩
      have hB := nx hB hb
      have hD := nx hD hb
      have hL30 := hL30.up hb
      have hA34 := hA34.up hb
      have hL39 := hL39.up hb
      clear hb
      go_wp2_with fail
      go_ret
      exact ⟨rfl, hB⟩
  · rw [if_neg hbig] at hsz
    have Hsz := Lib.hid hsz; clear hsz
    clear h0 hbig hc0 hm0 hn
    go_enter Try.func5, Try.ntmps5
    go_wp2_with fail
    refine (Hsz.out _).mono ?_
    rintro e w0 ⟨rfl, hw0⟩
    have hw0 := hw0.symm
    subst hw0
    go_wp2_with fail
    go_ret
    exact ⟨rfl, n0 w⟩

theorem laidOut : laidOutB Try.prog = true := by kernel_rfl
set_option maxRecDepth 100000 in
/-- What the walk gives, for every argument. -/
theorem contract (H : Type) (enc : TypeId × Value → H) (W : World) (base : Nat) (args : Array Value) (ds gs : List (DataW H)) (before : List MemPlace)
    (hval : ∀ (j : Nat) t v, Try.f5.params[j]? = some t → args[j]? = some v → Value.okWide Try.prog W .any base t v)
    (hW : DataW.Whole enc Try.prog Try.f5.params.toList Rows.fnExactOrderWaysSpec.vars false W args.toList ds gs before) :
    Calls Try.prog 5 args W fun e W' => ∃ v, e = .returned v ∧ Rows.fnExactOrderWaysSpec.post enc Try.prog Try.f5 false true false false W args v W' := by
  have hW' := hW
  obtain ⟨p, q, hA0, hV, rfl, hfz, hnd⟩ := hW
  have hA : DataW.TrodAll enc Try.prog W 0 (fun _ => true) true Try.f5.params.toList args.toList ds p := hA0
  rw [Try.params5] at hA hval
  obtain ⟨v0, vs0, d0, ds0, p0, q0, hargs, rfl, rfl, h0, r0⟩ := trodAll_cons hA
  obtain ⟨rfl, rfl, rfl⟩ := trodAll_nil r0
  obtain rfl : args = #[v0] := by cases args; simp_all
  obtain ⟨rfl, rfl⟩ := trodVars_none hV
  obtain ⟨A0, n0, c0, rfl⟩ := okWide_slice Try.underlying22 (hval 0 22 v0 rfl rfl)
  have k0 := h0
  have lt0 : ∀ x ∈ p0, x.block < W.heap.size := fun x hx => by have := hW'.lt x (by simp [hx]); simpa using this
  obtain ⟨fu0, hf0⟩ := h0
  obtain ⟨a0, ht0, hc0, hm0, w0⟩ := OpenD.dice_of hf0 lt0
  clear hA0
  simp only [List.append_nil] at hW'
  refine (law_any A0 n0 c0 a0 W ht0 hc0 hm0).mono fun e W' ⟨he, hg⟩ => ?_
  subst he
  exact ⟨_, rfl, _, _, _, [], (p0 ++ []), [], hW', trodAll_cons_mk (shut_bool Try.underlying4 _) trodAll_mk0, trodAll_cons_mk (Below.trod laidOut (by kernel_rfl) (of_decide_eq_true (by kernel_rfl)) k0 hg lt0) trodAll_mk0, rfl, hg.frame _, fun h => by cases h⟩

theorem own : ownKnob Try.prog.godebug = none := by kernel_rfl

set_option maxRecDepth 100000 in
theorem lifted (os : Os) (started : os.Started) (H : Type) (enc : TypeId × Value → H) :
    ReturnsInHanded {} Try.checked os 5 .any (Rows.fnExactOrderWaysSpec.pre6 enc Try.prog Try.f5 Rows.fnExactOrderWaysRow.domain false) (Rows.fnExactOrderWaysSpec.post enc Try.prog Try.f5 false true false false) := by
  refine returnsInHanded_of_change (C := Try.checked) own started (by kernel_rfl) Try.func5
    (ChangeSpec.witness6 (enc := enc) (C := Try.checked) false ⟨#[], #[.slice none 0 0], []⟩ 8 (by kernel_rfl) (by kernel_rfl) (by kernel_rfl) (by kernel_rfl)) ?_
  intro W base args ds gs before hval hW _ _
  exact contract H enc W base args ds gs before hval hW

set_option maxHeartbeats 8000000 in
theorem closed : joinedFacts Try.prog 5 Try.f5 Rows.fnExactOrderWaysSpec Rows.fnExactOrderWaysRow = true := by
  unfold joinedFacts
  rw [show Rows.fnExactOrderWaysRow.lifted = false from rfl, show Rows.fnExactOrderWaysRow.make = Rows.fnExactOrderOfRow.make from rfl]
  repeat' with_reducible refine Bool.and_eq_true_iff.mpr ⟨?_, ?_⟩
  all_goals first | with_reducible exact FactP.enters | with_reducible exact FactP.lifts | with_reducible exact FactP.makes | as_aux_lemma => kernel_rfl
theorem holds : Rows.FnExactOrderWaysSaid :=
  OpenClaim.holds_of_wide 5 Try.f5 rfl rfl rfl rfl rfl rfl rfl ⟨rfl, rfl, rfl, rfl, rfl⟩ rfl rfl rfl rfl rfl (by kernel_rfl) Try.func5 closed
    (of_decide_eq_true (by kernel_rfl)) (by unfold Func.isWrapper; rw [if_neg (by decide +kernel)]; exact ⟨rfl, rfl⟩)
    (fun os started H enc _ => lifted os started H enc)

end WaysP
end Go.Proofs.Ytiiknpebphpeiaa
