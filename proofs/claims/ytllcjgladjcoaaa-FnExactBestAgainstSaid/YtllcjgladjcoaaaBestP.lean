/-
  FnExactBestAgainst: for every list of arrays of six numbers and every such array the law returns true, and both read afterwards as they read before. No condition.
-/
import Derived.Test.YtllcjgladjcoaaaRows
import Derived.Test.YtllcjgladjcoaaaBestI
import Derived.Test.YtllcjgladjcoaaaBestS
import Derived.Test.YtllcjgladjcoaaaManyW
import Derived.Test.YtllcjgladjcoaaaDicesW
import Derived.Test.YtllcjgladjcoaaaTopW
import Derived.Test.YtllcjgladjcoaaaDuel
import Derived.Test.YtllcjgladjcoaaaDieW
import Derived.Test.YtllcjgladjcoaaaSortW
import Derived.Test.YtllcjgladjcoaaaOpenD
import Derived.WalkKit
import Derived.WalkLawsBesides
import Derived.WalkSpells
import Derived.ProofKit
import Derived.OpenShut
import Derived.Deep.RegionWith
import Derived.Deep.Cut
import Derived.Deep.CutRange
import Derived.Deep.DeepCutAuto
import Derived.Deep.QuietTactic
import Derived.BigQuiet
namespace Go.Proofs.Ytllcjgladjcoaaa
open Go.ChangeShapes Go.WideShapes Go.ChangeAt Go.RowKit
open Go.ChangeMaps (open_string shut_string)

namespace BestP
open Dice Arr OpenD DieW SortW Duel ManyW TopW DicesW BestS BestI

set_option maxRecDepth 100000 in
set_option maxHeartbeats 8000000 in
theorem law_any (A : Option Addr) (n c : Nat) (P : Nat → Nat → Int) (d : Nat → Int) (w : World) (h : Row w A n P) (hc : n ≤ c) (hm : c ≤ maxLen) :
    Calls Try.prog 9 #[.slice A n c, dv d] w fun e w' => e = .returned (.bool true) ∧ Below w.heap.size w w' := by
  have hn : n ≤ maxLen := Nat.le_trans hc hm
  have hsz := sz_any A n c (w.alloc (sixO d 22)) hn
  have hD := At.new6 w d 22 (b := w.heap.size) rfl
  have hB := na (n0 w) (sixO d 22)
  by_cases hbig : n ≤ 1048576
  · rw [if_pos hbig] at hsz
    have Hsz := Lib.hid hsz; clear hsz
    have Ht := Lib.hid (fun w h => toS_any A n c P w h hbig)
    have Hq := Lib.hid (fun A B c c' w h h' => eqS_any A B n c c' P w h h' hn)
    have H := Lib.hid h; clear h
    obtain ⟨x, y, b, ho⟩ : ∃ x y b, outT n P d = #[.int .i64 x, .int .i64 y, .bool b] := by
      unfold outT
      cases okT n P d
      · exact ⟨_, _, _, rfl⟩
      · exact ⟨_, _, _, rfl⟩
    have ha := toA6_any d
    have hs := fun A c w h => specBest_any A n c P d w h hn
    have hi := fun A c w h => implBest_any A n c P d w h hn
    rw [ho] at hs hi
    unfold dv at ha hs hi
    have Ha := Lib.hid ha; clear ha
    have Hs := Lib.hid hs; clear hs
    have Hi := Lib.hid hi; clear hi
    clear ho hc hm hn
    unfold dv
    go_enter Try.func9, Try.ntmps9
    go_wp2_with fail
    refine Hsz.out.mono ?_
    rintro e w0 ⟨rfl, rfl⟩
    go_upto_region 5 with (fail)
    generalize w.alloc (sixO d 22) = W at hD hB ⊢
    replace hB := hB.drew
    replace hD := hD.drew
    go_cut [6, 7, 8] from 18 to 26 (fun s6 s7 s8 wx => s6 = .int .i64 x ∧ s7 = .int .i64 y ∧ s8 = .bool b ∧ Below w.heap.size w wx ∧ At wx w.heap.size 6 d)
    case first =>
      obtain ⟨x0, x1, x2, x3, x4, x5⟩ := hD.six
      go_region_with (first | (go_at_call 23; refine (Ht.out _ (H.out.up hB)).mono ?_; rintro e w1 ⟨g1, rfl, hg1, hA1, hb1⟩; replace hB := nx hB hb1; replace hD := hD.up hb1; clear hb1 x0 x1 x2 x3 x4 x5; obtain ⟨x0, x1, x2, x3, x4, x5⟩ := hD.six) | (go_at_call 16; refine (Ha.out _).mono ?_; rintro e w2 ⟨rfl, hb2⟩; replace hB := nx hB hb2; replace hD := hD.up hb2; try (replace hA1 := hA1.up hb2); clear hb2 x0 x1 x2 x3 x4 x5; obtain ⟨x0, x1, x2, x3, x4, x5⟩ := hD.six) | (go_at_call 39; refine (Hs.out _ _ _ (row_of_at hA1)).mono ?_; rintro e w3 ⟨rfl, hb3⟩; replace hB := nx hB hb3; replace hD := hD.up hb3; clear hb3 x0 x1 x2 x3 x4 x5; obtain ⟨x0, x1, x2, x3, x4, x5⟩ := hD.six))
      all_goals
        go_wp2_with fail
        go_meet
        case rel => exact ⟨rfl, rfl, rfl, hB, hD⟩
    case rest =>
      clear hB hD
      obtain ⟨rfl, rfl, rfl, hB, hD⟩ := hcut
      go_wp2_with fail
      refine (Ht.out _ (H.out.up hB)).mono ?_
      rintro e w3 ⟨g3, rfl, hg3, hA3, hb3⟩
      have hB3 := nx hB hb3
      have hD3 := hD.up hb3
      clear hb3 hB hD
      obtain ⟨x0, x1, x2, x3, x4, x5⟩ := hD3.six
      go_wp2_with fail
      refine (Ha.out _).mono ?_
      rintro e w4 ⟨rfl, hb4⟩
      have hB4 := nx hB3 hb4
      have hA4 := hA3.up hb4
      clear hb4 hB3 hA3 x0 x1 x2 x3 x4 x5 hD3
      go_wp2_with fail
      refine (Hi.out _ _ _ (row_of_at hA4)).mono ?_
      rintro e w5 ⟨rfl, hb5⟩
      have hB5 := nx hB4 hb5
      have hA5 := hA4.up hb5
      clear hb5 hB4 hA4
      cases b
      all_goals
        go_wp2_with fail
        refine (Ht.out _ (H.out.up hB5)).mono ?_
        rintro e w6 ⟨g6, rfl, hg6, hA6, hb6⟩
        have hA7 := hA5.up hb6
        go_wp2_with fail
        refine (Hq.out _ _ _ _ _ (row_of_at hA7) (row_of_at hA6)).mono ?_
        rintro e w7 ⟨rfl, hb7⟩
        go_wp2_with fail
        go_ret
        exact ⟨rfl, nx (nx hB5 hb6) hb7⟩
  · rw [if_neg hbig] at hsz
    have Hsz := Lib.hid hsz; clear hsz
    clear h hbig hc hm hn
    unfold dv
    go_enter Try.func9, Try.ntmps9
    go_wp2_with fail
    refine Hsz.out.mono ?_
    rintro e w0 ⟨rfl, rfl⟩
    go_wp2_with fail
    go_ret
    exact ⟨rfl, hB⟩

theorem laidOut : laidOutB Try.prog = true := by kernel_rfl
set_option maxRecDepth 100000 in
/-- What the walk gives, for every argument. -/
theorem contract (H : Type) (enc : TypeId × Value → H) (W : World) (base : Nat) (args : Array Value) (ds gs : List (DataW H)) (before : List MemPlace)
    (hval : ∀ (j : Nat) t v, Try.f9.params[j]? = some t → args[j]? = some v → Value.okWide Try.prog W .any base t v)
    (hW : DataW.Whole enc Try.prog Try.f9.params.toList Rows.fnExactBestAgainstSpec.vars false W args.toList ds gs before) :
    Calls Try.prog 9 args W fun e W' => ∃ v, e = .returned v ∧ Rows.fnExactBestAgainstSpec.post enc Try.prog Try.f9 false true false false W args v W' := by
  have hW' := hW
  obtain ⟨p, q, hA0, hV, rfl, hfz, hnd⟩ := hW
  have hA : DataW.TrodAll enc Try.prog W 0 (fun _ => true) true Try.f9.params.toList args.toList ds p := hA0
  rw [Try.params9] at hA hval
  obtain ⟨v0, vs0, d0, ds0, p0, q0, hargs, rfl, rfl, h0, r0⟩ := trodAll_cons hA
  obtain ⟨v1, vs1, d1, ds1, p1, q1, rfl, rfl, rfl, h1, r1⟩ := trodAll_cons r0
  obtain ⟨rfl, rfl, rfl⟩ := trodAll_nil r1
  obtain rfl : args = #[v0, v1] := by cases args; simp_all
  obtain ⟨rfl, rfl⟩ := trodVars_none hV
  obtain ⟨A0, n0, c0, rfl⟩ := okWide_slice Try.underlying31 (hval 0 31 v0 rfl rfl)
  have k0 := h0
  have lt0 : ∀ x ∈ p0, x.block < W.heap.size := fun x hx => by have := hW'.lt x (by simp [hx]); simpa using this
  obtain ⟨fu0, hf0⟩ := h0
  obtain ⟨a0, ht0, hc0, hm0, w0⟩ := OpenD.dice_of hf0 lt0
  obtain ⟨a1, rfl, w1⟩ := OpenD.die_of (hval 1 22 v1 rfl rfl) h1
  have k1 := h1
  have lt1 : ∀ x ∈ p1, x.block < W.heap.size := fun x hx => by have := hW'.lt x (by simp [hx]); simpa using this
  clear hA0
  simp only [List.append_nil] at hW'
  refine (law_any A0 n0 c0 a0 a1 W ht0 hc0 hm0).mono fun e W' ⟨he, hg⟩ => ?_
  subst he
  exact ⟨_, rfl, _, _, _, [], (p0 ++ (p1 ++ [])), [], hW', trodAll_cons_mk (shut_bool Try.underlying4 _) trodAll_mk0, trodAll_cons_mk (Below.trod laidOut (by kernel_rfl) (of_decide_eq_true (by kernel_rfl)) k0 hg lt0) (trodAll_cons_mk (Below.trod laidOut (by kernel_rfl) (of_decide_eq_true (by kernel_rfl)) k1 hg lt1) trodAll_mk0), rfl, hg.frame _, fun h => by cases h⟩

theorem own : ownKnob Try.prog.godebug = none := by kernel_rfl

set_option maxRecDepth 100000 in
theorem lifted (os : Os) (started : os.Started) (H : Type) (enc : TypeId × Value → H) :
    ReturnsInHanded {} Try.checked os 9 .any (Rows.fnExactBestAgainstSpec.pre6 enc Try.prog Try.f9 Rows.fnExactBestAgainstRow.domain false) (Rows.fnExactBestAgainstSpec.post enc Try.prog Try.f9 false true false false) := by
  refine returnsInHanded_of_change (C := Try.checked) own started (by kernel_rfl) Try.func9
    (ChangeSpec.witness6 (enc := enc) (C := Try.checked) false ⟨#[], #[.slice none 0 0, .agg #[.int .i64 0, .int .i64 0, .int .i64 0, .int .i64 0, .int .i64 0, .int .i64 0]], []⟩ 8 (by kernel_rfl) (by kernel_rfl) (by kernel_rfl) (by kernel_rfl)) ?_
  intro W base args ds gs before hval hW _ _
  exact contract H enc W base args ds gs before hval hW

theorem holds : Rows.FnExactBestAgainstSaid :=
  OpenClaim.holds_of_wide 9 Try.f9 rfl rfl rfl rfl rfl rfl rfl ⟨rfl, rfl, rfl, rfl, rfl⟩ rfl rfl rfl rfl rfl (by kernel_rfl) Try.func9 (by kernel_rfl)
    (of_decide_eq_true (by kernel_rfl)) (by unfold Func.isWrapper; rw [if_neg (by decide +kernel)]; exact ⟨rfl, rfl⟩)
    (fun os started H enc _ => lifted os started H enc)

end BestP
end Go.Proofs.Ytllcjgladjcoaaa
