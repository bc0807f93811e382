/-
  FnExactPatternsOf: for every list of arrays of six numbers the law returns true, and the list reads afterwards as it read before. No condition.
-/
import Derived.Test.YtbcaahaaaodhkaaRows
import Derived.Test.YtbcaahaaaodhkaaPOfS
import Derived.Test.YtbcaahaaaodhkaaPOfI
import Derived.Test.YtbcaahaaaodhkaaFoursW
import Derived.Test.YtbcaahaaaodhkaaKeysW
import Derived.Test.YtbcaahaaaodhkaaPKey
import Derived.Test.YtbcaahaaaodhkaaShelfS4
import Derived.Test.YtbcaahaaaodhkaaAnyR
import Derived.Test.YtbcaahaaaodhkaaPatC
import Derived.Test.YtbcaahaaaodhkaaPatS
import Derived.Test.YtbcaahaaaodhkaaPatsI
import Derived.Test.YtbcaahaaaodhkaaPlS
import Derived.Test.YtbcaahaaaodhkaaPatI
import Derived.Test.YtbcaahaaaodhkaaPlI
import Derived.Test.YtbcaahaaaodhkaaFour
import Derived.Test.YtbcaahaaaodhkaaPatM
import Derived.Test.YtbcaahaaaodhkaaSortDn
import Derived.Test.YtbcaahaaaodhkaaPlaces
import Derived.Test.YtbcaahaaaodhkaaRollWM
import Derived.Test.YtbcaahaaaodhkaaIntsM
import Derived.Test.YtbcaahaaaodhkaaPoolW
import Derived.Test.YtbcaahaaaodhkaaAll6
import Derived.Test.YtbcaahaaaodhkaaDicesW
import Derived.Test.YtbcaahaaaodhkaaOpenD
import Derived.WalkKit
import Derived.WalkLawsBesides
import Derived.WalkSpells
import Derived.ProofKit
import Derived.OpenShut
import Derived.Deep.RegionWith
import Derived.Deep.QuietTactic
import Derived.BigQuiet
namespace Go.Proofs.Ytbcaahaaaodhkaa
open Go.ChangeShapes Go.WideShapes Go.ChangeAt Go.RowKit
open Go.ChangeMaps (open_string shut_string)

namespace POfP
open Dice Arr OpenD DieW SortW DicesW PoolW All6 IntsW RollW Places PatM SortDn PlI Four PatI PatsI PlS PatS PatC PKey KeysW FoursW POfI POfS AnyR



set_option maxRecDepth 100000 in
set_option maxHeartbeats 8000000 in
theorem law_any (A : Option Addr) (n c : Nat) (P : Nat → Nat → Int) (w : World) (h : Row w A n P) (hc : n ≤ c) (hm : c ≤ maxLen) (_ : ∀ i, i < n → ∀ k, k < 6 → fit (P i k)) :
    Calls Try.prog 5 #[.slice A n c] w fun e w' => e = .returned (.bool true) ∧ Below w.heap.size w w' := by
  have hn : n ≤ maxLen := Nat.le_trans hc hm
  have hsz := sz_any A n c w hn
  by_cases hbig : n ≤ 1048576
  · rw [if_pos hbig] at hsz
    have Hsz := Lib.hid hsz; clear hsz
    have Ht := Lib.hid (fun w h => toS_any A n c P w h hbig)
    have Hq := Lib.hid (fun A B c c' w h h' => eqS_any A B n c c' P w h h' hn)
    have H := Lib.hid h; clear h
    have Hs := Lib.hid (fun A c w h => specP_any A n c P w h hn)
    have Hi := Lib.hid (fun A c w h => implP_any A n c P w h hn)
    have h4 := outP_len n P
    generalize hk : kf (outP n P) = f at *
    clear hk
    generalize (outP n P).length = m at *
    generalize isPool n P = b at *
    have He := Lib.hid (fun B B' A A' c c' w h h' => eqA4S_any B B' A A' m c c' f w h h' (by omega))
    have hmd : ∀ (g c : Nat) (f : Nat → Int) (w : World), At w g (n * 6) f → Calls Try.prog 22 #[.slice (some ⟨g, 0, none⟩) n c, .int .i64 1] w fun e w' => e = .returned (.int .i64 (1 + 6 * (n : Int))) ∧ (∃ f, At w' g (n * 6) f) ∧ w.grownBy w' (some g) := fun g c f w h => markDice_grown g n c 1 f w h hbig (by omega)
    have hmi := fun B A c w h => markA4S_any B A m c f w h (by omega)
    have hhi := fun B A c w h => heldA4S_any B A m c w h (by omega)
    have Hmd := Lib.hid hmd; clear hmd
    have Hmi := Lib.hid hmi; clear hmi
    have Hhi := Lib.hid hhi; clear hhi
    have hz1 : decide ((1 : Int) + 6 * (n : Int) < 0) = false := decide_eq_false (by omega)
    have hz2 : decide ((1 : Int) + 4 * (m : Int) < 0) = false := decide_eq_false (by omega)
    clear hc hm hn h4
    go_enter Try.func5, Try.ntmps5
    go_wp2_with fail
    refine Hsz.out.mono ?_
    rintro e w0 ⟨rfl, rfl⟩
    go_wp2_with fail
    refine (Ht.out _ H.out).mono ?_
    rintro e w1 ⟨g1, rfl, hg1, hA1, hb1⟩
    go_wp2_with fail
    refine (Hs.out _ _ _ (row_of_at hA1)).mono ?_
    rintro e w2 ⟨AW, cW, rfl, hW, hb2⟩
    have hB := nx hb1 hb2
    go_wp2_with fail
    refine (Ht.out _ (H.out.up hB)).mono ?_
    rintro e w3 ⟨g3, rfl, hg3, hA3, hb3⟩
    have hB3 := nx hB hb3
    go_wp2_with fail
    refine (Hi.out _ _ _ (row_of_at hA3)).mono ?_
    rintro e w4 ⟨AG, cG, rfl, hG, hb4⟩
    have hB4 := nx hB3 hb4
    have hD4 := nx hb3 hb4
    have hA4 := hA3.up hb4
    go_wp2_with fail
    refine (He.out _ _ _ _ _ _ _ hG (hW.up hD4)).mono ?_
    rintro e w5 ⟨rfl, hb5⟩
    have hB5 := nx hB4 hb5
    have hD5 := nx hD4 hb5
    have hA5 := hA4.up hb5
    have hG5 := hG.up hb5
    cases b
    all_goals
      go_wp2_with fail
      refine (Ht.out _ (H.out.up hB5)).mono ?_
      rintro e w6 ⟨g6, rfl, hg6, hA6, hb6⟩
      have hB6 := nx hB5 hb6
      have hD6 := nx hD5 hb6
      have hA6' := hA5.up hb6
      have hG6 := hG5.up hb6
      go_wp2_with fail
      refine (Hq.out _ _ _ _ _ (row_of_at hA6') (row_of_at hA6)).mono ?_
      rintro e w7 ⟨rfl, hb7⟩
      have hB7 := nx hB6 hb7
      have hD7 := nx hD6 hb7
      have hA7 := hA6'.up hb7
      have hG7 := hG6.up hb7
      go_wp2_with fail
      refine (Hmd.out _ _ _ _ hA7).mono ?_
      rintro e w8 ⟨rfl, _, hR8⟩
      have hlt3 := hA3.lt
      have hs01 := hB.size
      have hs7 := hB7.size
      have hs7' := hD7.size
      have hB8 : Below w0.heap.size w0 w8 := hB7.grown hR8 hs7 (fun k e => by injection e with e; omega)
      have hD8 : Below w2.heap.size w2 w8 := hD7.grown hR8 hs7' (fun k e => by injection e with e; omega)
      have hG8 := FoursW.Fours.kept hG7 hR8 hlt3
      go_wp2_with fail
      refine (He.out _ _ _ _ _ _ _ hG8 (hW.up hD8)).mono ?_
      rintro e w9 ⟨rfl, hb9⟩
      have hB9 := nx hB8 hb9
      have hD9 := nx hD8 hb9
      have hG9 := hG8.up hb9
      go_wp2_with fail
      refine (Hmi.out _ _ _ _ hG9).mono ?_
      rintro e w10 ⟨rfl, hG10, hb10⟩
      have hs23 := hb3.size
      have hB10 : Below w0.heap.size w0 w10 := hB9.trans (hb10.mono (by omega))
      have hD10 : Below w2.heap.size w2 w10 := hD9.trans (hb10.mono (by omega))
      go_wp2_with fail
      refine (Hhi.out _ _ _ _ hG10).mono ?_
      rintro e w11 ⟨rfl, hb11⟩
      have hB11 := nx hB10 hb11
      have hD11 := nx hD10 hb11
      have hG11 := hG10.up hb11
      go_wp2_with fail
      refine (Ht.out _ (H.out.up hB11)).mono ?_
      rintro e w12 ⟨g12, rfl, hg12, hA12, hb12⟩
      have hB12 := nx hB11 hb12
      have hD12 := nx hD11 hb12
      have hG12 := hG11.up hb12
      go_wp2_with fail
      refine (Hi.out _ _ _ (row_of_at hA12)).mono ?_
      rintro e w13 ⟨AH, cH, rfl, hH, hb13⟩
      have hB13 := nx hB12 hb13
      have hD13 := nx hD12 hb13
      have hG13 := hG12.up hb13
      go_wp2_with fail
      refine (He.out _ _ _ _ _ _ _ hH (hW.up hD13)).mono ?_
      rintro e w14 ⟨rfl, hb14⟩
      have hB14 := nx hB13 hb14
      have hG14 := hG13.up hb14
      go_wp2_with fail
      refine (Hhi.out _ _ _ _ hG14).mono ?_
      rintro e w15 ⟨rfl, hb15⟩
      go_wp2_with fail
      go_ret
      exact ⟨rfl, nx hB14 hb15⟩
  · rw [if_neg hbig] at hsz
    have Hsz := Lib.hid hsz; clear hsz
    clear h hbig hc hm hn
    go_enter Try.func5, Try.ntmps5
    go_wp2_with fail
    refine Hsz.out.mono ?_
    rintro e w0 ⟨rfl, rfl⟩
    go_wp2_with fail
    go_ret
    exact ⟨rfl, n0 _⟩



theorem laidOut : laidOutB Try.prog = true := by kernel_rfl
set_option maxRecDepth 100000 in
/-- What the walk gives, for every argument. -/
theorem contract (H : Type) (enc : TypeId × Value → H) (W : World) (base : Nat) (args : Array Value) (ds gs : List (DataW H)) (before : List MemPlace)
    (hval : ∀ (j : Nat) t v, Try.f5.params[j]? = some t → args[j]? = some v → Value.okWide Try.prog W .any base t v)
    (hW : DataW.Whole enc Try.prog Try.f5.params.toList Rows.fnExactPatternsOfSpec.vars false W args.toList ds gs before) :
    Calls Try.prog 5 args W fun e W' => ∃ v, e = .returned v ∧ Rows.fnExactPatternsOfSpec.post enc Try.prog Try.f5 false true false false W args v W' := by
  have hW' := hW
  obtain ⟨p, q, hA0, hV, rfl, hfz, hnd⟩ := hW
  have hA : DataW.TrodAll enc Try.prog W 0 (fun _ => true) true Try.f5.params.toList args.toList ds p := hA0
  rw [Try.params5] at hA hval
  obtain ⟨v0, vs0, d0, ds0, p0, q0, hargs, rfl, rfl, h0, r0⟩ := trodAll_cons hA
  obtain ⟨rfl, rfl, rfl⟩ := trodAll_nil r0
  obtain rfl : args = #[v0] := by cases args; simp_all
  obtain ⟨rfl, rfl⟩ := trodVars_none hV
  obtain ⟨A0, n0, c0, rfl⟩ := okWide_slice Try.underlying22 (hval 0 22 v0 rfl rfl)
  have k0 := h0
  have lt0 : ∀ x ∈ p0, x.block < W.heap.size := fun x hx => by have := hW'.lt x (by simp [hx]); simpa using this
  obtain ⟨fu0, hf0⟩ := h0
  obtain ⟨a0, ht0, hc0, hm0, w0⟩ := OpenD.dice_of hf0 lt0
  clear hA0
  simp only [List.append_nil] at hW'
  refine (law_any A0 n0 c0 a0 W ht0 hc0 hm0 w0).mono fun e W' ⟨he, hg⟩ => ?_
  subst he
  exact ⟨_, rfl, _, _, _, [], (p0 ++ []), [], hW', trodAll_cons_mk (shut_bool Try.underlying4 _) trodAll_mk0, trodAll_cons_mk (Below.trod laidOut (by kernel_rfl) (of_decide_eq_true (by kernel_rfl)) k0 hg lt0) trodAll_mk0, rfl, hg.frame _, fun h => by cases h⟩

theorem own : ownKnob Try.prog.godebug = none := by kernel_rfl

set_option maxRecDepth 100000 in
theorem lifted (os : Os) (started : os.Started) (H : Type) (enc : TypeId × Value → H) :
    ReturnsInHanded {} Try.checked os 5 .any (Rows.fnExactPatternsOfSpec.pre6 enc Try.prog Try.f5 Rows.fnExactPatternsOfRow.domain false) (Rows.fnExactPatternsOfSpec.post enc Try.prog Try.f5 false true false false) := by
  refine returnsInHanded_of_change (C := Try.checked) own started (by kernel_rfl) Try.func5
    (ChangeSpec.witness6 (enc := enc) (C := Try.checked) false ⟨#[], #[.slice none 0 0], []⟩ 8 (by kernel_rfl) (by kernel_rfl) (by kernel_rfl) (by kernel_rfl)) ?_
  intro W base args ds gs before hval hW _ _
  exact contract H enc W base args ds gs before hval hW

theorem holds : Rows.FnExactPatternsOfSaid :=
  OpenClaim.holds_of_wide 5 Try.f5 rfl rfl rfl rfl rfl rfl rfl ⟨rfl, rfl, rfl, rfl, rfl⟩ rfl rfl rfl rfl rfl (by kernel_rfl) Try.func5 (by kernel_rfl)
    (of_decide_eq_true (by kernel_rfl)) (by unfold Func.isWrapper; rw [if_neg (by decide +kernel)]; exact ⟨rfl, rfl⟩)
    (fun os started H enc _ => lifted os started H enc)
end POfP
end Go.Proofs.Ytbcaahaaaodhkaa
