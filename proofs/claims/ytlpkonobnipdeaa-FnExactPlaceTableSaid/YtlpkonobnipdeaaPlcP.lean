/-
  FnExactPlaceTable: for every list of arrays of six numbers and every number the law returns true, and the list reads afterwards as it read before. No condition.
-/
import Derived.Test.YtlpkonobnipdeaaRows
import Derived.Test.YtlpkonobnipdeaaPlcI
import Derived.Test.YtlpkonobnipdeaaPlcS
import Derived.Test.YtlpkonobnipdeaaBig31
import Derived.Test.YtlpkonobnipdeaaPlS
import Derived.Test.YtlpkonobnipdeaaPlcC
import Derived.Test.YtlpkonobnipdeaaPlI
import Derived.Test.YtlpkonobnipdeaaSortDn
import Derived.Test.YtlpkonobnipdeaaPlaces
import Derived.Test.YtlpkonobnipdeaaRollWM
import Derived.Test.YtlpkonobnipdeaaIntsM
import Derived.Test.YtlpkonobnipdeaaPoolW
import Derived.Test.YtlpkonobnipdeaaAll6
import Derived.Test.YtlpkonobnipdeaaDicesW
import Derived.Test.YtlpkonobnipdeaaOpenD
import Derived.WalkKit
import Derived.WalkLawsBesides
import Derived.WalkSpells
import Derived.ProofKit
import Derived.OpenShut
import Derived.Deep.RegionWith
import Derived.Deep.WholeRow
import Derived.Deep.QuietTactic
import Derived.BigQuiet
namespace Go.Proofs.Ytlpkonobnipdeaa
open Go.ChangeShapes Go.WideShapes Go.ChangeAt Go.RowKit
open Go.ChangeMaps (open_string shut_string)

namespace PlcP
open Dice Arr OpenD DieW SortW DicesW PoolW All6 IntsW RollW Places SortDn PlI PlcC Big31 PlS PlcI PlcS

set_option maxRecDepth 100000 in
set_option maxHeartbeats 4000000 in
theorem law_any (A : Option Addr) (n c : Nat) (P : Nat → Nat → Int) (k : Int) (w : World) (h : Row w A n P) (hc : n ≤ c) (hm : c ≤ maxLen) (_ : ∀ i, i < n → ∀ k, k < 6 → fit (P i k)) :
    Calls Try.prog 9 #[.slice A n c, .int .i64 k] w fun e w' => e = .returned (.bool true) ∧ Below w.heap.size w w' := by
  have hn : n ≤ maxLen := Nat.le_trans hc hm
  have hsz := sz_any A n c w hn
  by_cases hbig : n ≤ 1048576
  · rw [if_pos hbig] at hsz
    have Hsz := Lib.hid hsz; clear hsz
    have Ht := Lib.hid (fun w h => toS_any A n c P w h hbig)
    have Hq := Lib.hid (fun A B c c' w h h' => eqS_any A B n c c' P w h h' hn)
    have H := Lib.hid h; clear h
    obtain ⟨r, b, ho⟩ : ∃ r b, (if okK n P k then #[tv (cnt (numOf P n (k.toNat - 1)) (all6 n)), .bool true] else #[tv fun _ => 0, .bool false] : Array Value) = #[tv r, .bool b] := by
      cases okK n P k
      · exact ⟨fun _ => 0, false, rfl⟩
      · exact ⟨_, true, rfl⟩
    have hs := fun A c w h => specPlace_any A n c P k w h hn
    have hi := fun A c w h => implPlace_any A n c P k w h hn
    rw [ho] at hs hi
    have Hs := Lib.hid hs; clear hs
    have Hi := Lib.hid hi; clear hi
    clear ho
    have Hq2 := Lib.hid (fun w => eqT_any r w)
    clear hc hm hn
    go_enter Try.func9, Try.ntmps9
    go_wp2_with fail
    refine Hsz.out.mono ?_
    rintro e w0 ⟨rfl, rfl⟩
    go_wp2_with fail
    refine (Ht.out _ H.out).mono ?_
    rintro e w1 ⟨g1, rfl, hg1, hA1, hb1⟩
    go_wp2_with fail
    refine (Hs.out _ _ _ (row_of_at hA1)).mono ?_
    rintro e w2 ⟨rfl, hb2⟩
    have hB2 := nx hb1 hb2
    obtain ⟨w2', hst2, hW2, hS2, hK2⟩ := store_ex (fresh w2 (b := w2.heap.size) rfl) r
    have hB2' := (na hB2 _).trans (hS2 _ hB2.size)
    clear hS2 hK2
    go_wp2_with fail
    clear hst2
    refine (Ht.out _ (H.out.up hB2')).mono ?_
    rintro e w3 ⟨g3, rfl, hg3, hA3, hb3⟩
    have hB3 := nx hB2' hb3
    have hW3 := hW2.up hb3
    go_wp2_with fail
    refine (Hi.out _ _ _ (row_of_at hA3)).mono ?_
    rintro e w4 ⟨rfl, hb4⟩
    have hB4 := nx hB3 hb4
    have hA4 := hA3.up hb4
    have hW4 := hW3.up hb4
    obtain ⟨w4', hst4, hG4, hS4, hK4⟩ := store_ex (fresh w4 (b := w4.heap.size) rfl) r
    have hB4' := (na hB4 _).trans (hS4 _ hB4.size)
    have hW4' := hK4 _ _ _ (Nat.ne_of_lt hW4.lt) (hW4.past _)
    have hA4' := hK4 _ _ _ (Nat.ne_of_lt hA4.lt) (hA4.past _)
    clear hA1 hb1 hb2 hb3 hb4 hB2 hB3 hA3 hW2 hW3 hS4 hK4 hB2' hB4 hA4 hW4
    go_wp2_with (first | refine ld rfl _ rfl rfl hG4 ?_ | refine ld rfl _ rfl rfl hW4' ?_)
    refine (Hq2.out _).mono ?_
    rintro e w5 ⟨rfl, hb5⟩
    have hBx := nx hB4' hb5
    have hAx := hA4'.up hb5
    clear hb5 hB4' hA4' hst4
    cases b
    all_goals
      go_wp2_with fail
      refine (Ht.out _ (H.out.up hBx)).mono ?_
      rintro e w8 ⟨g8, rfl, hg8, hA8, hb8⟩
      have hA8' := hAx.up hb8
      go_wp2_with fail
      refine (Hq.out _ _ _ _ _ (row_of_at hA8') (row_of_at hA8)).mono ?_
      rintro e w9 ⟨rfl, hb9⟩
      go_wp2_with fail
      go_ret
      exact ⟨rfl, nx (nx hBx hb8) hb9⟩
  · rw [if_neg hbig] at hsz
    have Hsz := Lib.hid hsz; clear hsz
    clear h hbig hc hm hn
    go_enter Try.func9, Try.ntmps9
    go_wp2_with fail
    refine Hsz.out.mono ?_
    rintro e w0 ⟨rfl, rfl⟩
    go_wp2_with fail
    go_ret
    exact ⟨rfl, n0 _⟩

theorem laidOut : laidOutB Try.prog = true := by kernel_rfl
set_option maxRecDepth 100000 in
/-- What the walk gives, for every argument. -/
theorem contract (H : Type) (enc : TypeId × Value → H) (W : World) (base : Nat) (args : Array Value) (ds gs : List (DataW H)) (before : List MemPlace)
    (hval : ∀ (j : Nat) t v, Try.f9.params[j]? = some t → args[j]? = some v → Value.okWide Try.prog W .any base t v)
    (hW : DataW.Whole enc Try.prog Try.f9.params.toList Rows.fnExactPlaceTableSpec.vars false W args.toList ds gs before) :
    Calls Try.prog 9 args W fun e W' => ∃ v, e = .returned v ∧ Rows.fnExactPlaceTableSpec.post enc Try.prog Try.f9 false true false false W args v W' := by
  have hW' := hW
  obtain ⟨p, q, hA0, hV, rfl, hfz, hnd⟩ := hW
  have hA : DataW.TrodAll enc Try.prog W 0 (fun _ => true) true Try.f9.params.toList args.toList ds p := hA0
  rw [Try.params9] at hA hval
  obtain ⟨v0, vs0, d0, ds0, p0, q0, hargs, rfl, rfl, h0, r0⟩ := trodAll_cons hA
  obtain ⟨v1, vs1, d1, ds1, p1, q1, rfl, rfl, rfl, h1, r1⟩ := trodAll_cons r0
  obtain ⟨rfl, rfl, rfl⟩ := trodAll_nil r1
  obtain rfl : args = #[v0, v1] := by cases args; simp_all
  obtain ⟨rfl, rfl⟩ := trodVars_none hV
  obtain ⟨A0, n0, c0, rfl⟩ := okWide_slice Try.underlying24 (hval 0 24 v0 rfl rfl)
  have k0 := h0
  have lt0 : ∀ x ∈ p0, x.block < W.heap.size := fun x hx => by have := hW'.lt x (by simp [hx]); simpa using this
  obtain ⟨fu0, hf0⟩ := h0
  obtain ⟨a0, ht0, hc0, hm0, w0⟩ := OpenD.dice_of hf0 lt0
  obtain ⟨a1, rfl, rfl, rfl, wf1⟩ := open_int Try.underlying3 (hval 1 3 v1 rfl rfl) h1
  have w1 : -9223372036854775808 ≤ a1 ∧ a1 ≤ 9223372036854775807 := by simpa [Lit.wf, IntKind.min, IntKind.max, IntKind.bits, IntKind.signed] using wf1
  clear hA0
  simp only [List.append_nil] at hW'
  refine (law_any A0 n0 c0 a0 a1 W ht0 hc0 hm0 w0).mono fun e W' ⟨he, hg⟩ => ?_
  subst he
  exact ⟨_, rfl, _, _, _, [], (p0 ++ ([] ++ [])), [], hW', trodAll_cons_mk (shut_bool Try.underlying4 _) trodAll_mk0, trodAll_cons_mk (Below.trod laidOut (by kernel_rfl) (of_decide_eq_true (by kernel_rfl)) k0 hg lt0) (trodAll_cons_mk (shut_int Try.underlying3 wf1) trodAll_mk0), rfl, hg.frame _, fun h => by cases h⟩

theorem own : ownKnob Try.prog.godebug = none := by kernel_rfl

set_option maxRecDepth 100000 in
theorem lifted (os : Os) (started : os.Started) (H : Type) (enc : TypeId × Value → H) :
    ReturnsInHanded {} Try.checked os 9 .any (Rows.fnExactPlaceTableSpec.pre6 enc Try.prog Try.f9 Rows.fnExactPlaceTableRow.domain false) (Rows.fnExactPlaceTableSpec.post enc Try.prog Try.f9 false true false false) := by
  refine returnsInHanded_of_change (C := Try.checked) own started (by kernel_rfl) Try.func9
    (ChangeSpec.witness6 (enc := enc) (C := Try.checked) false ⟨#[], #[.slice none 0 0, .int .i64 0], []⟩ 8 (by kernel_rfl) (by kernel_rfl) (by kernel_rfl) (by kernel_rfl)) ?_
  intro W base args ds gs before hval hW _ _
  exact contract H enc W base args ds gs before hval hW

theorem holds : Rows.FnExactPlaceTableSaid :=
  OpenClaim.holds_of_wide 9 Try.f9 rfl rfl rfl rfl rfl rfl rfl ⟨rfl, rfl, rfl, rfl, rfl⟩ rfl rfl rfl rfl rfl (by kernel_rfl) Try.func9 (by kernel_rfl)
    (of_decide_eq_true (by kernel_rfl)) (by unfold Func.isWrapper; rw [if_neg (by decide +kernel)]; exact ⟨rfl, rfl⟩)
    (fun os started H enc _ => lifted os started H enc)

end PlcP
end Go.Proofs.Ytlpkonobnipdeaa
