/-
  FnExactWaysOfPattern: for every list of arrays of six numbers and every array of four numbers the law returns true, and both read afterwards as they read before. No condition.
-/
import Derived.Test.YtbcaahaaaodhkaaRows
import Derived.Test.YtbcaahaaaodhkaaPWaysI
import Derived.Test.YtbcaahaaaodhkaaPWaysS
import Derived.Test.YtbcaahaaaodhkaaWaysC
import Derived.Test.YtbcaahaaaodhkaaOpenF
import Derived.Test.YtbcaahaaaodhkaaPatV
import Derived.Test.YtbcaahaaaodhkaaPatC
import Derived.Test.YtbcaahaaaodhkaaRollR
import Derived.Test.YtbcaahaaaodhkaaFracW
import Derived.Test.YtbcaahaaaodhkaaCutW
import Derived.Test.YtbcaahaaaodhkaaPatsI
import Derived.Test.YtbcaahaaaodhkaaPatS
import Derived.Test.YtbcaahaaaodhkaaPlS
import Derived.Test.YtbcaahaaaodhkaaPatI
import Derived.Test.YtbcaahaaaodhkaaPlI
import Derived.Test.YtbcaahaaaodhkaaFour
import Derived.Test.YtbcaahaaaodhkaaPatM
import Derived.Test.YtbcaahaaaodhkaaSortDn
import Derived.Test.YtbcaahaaaodhkaaPlaces
import Derived.Test.YtbcaahaaaodhkaaRollWM
import Derived.Test.YtbcaahaaaodhkaaIntsM
import Derived.Test.YtbcaahaaaodhkaaPoolW
import Derived.Test.YtbcaahaaaodhkaaAll6
import Derived.Test.YtbcaahaaaodhkaaDicesW
import Derived.Test.YtbcaahaaaodhkaaOpenD
import Derived.WalkKit
import Derived.WalkLawsBesides
import Derived.WalkSpells
import Derived.ProofKit
import Derived.OpenShut
import Derived.Deep.RegionWith
import Derived.Deep.QuietTactic
import Derived.BigQuiet
namespace Go.Proofs.Ytbcaahaaaodhkaa
open Go.ChangeShapes Go.WideShapes Go.ChangeAt Go.RowKit
open Go.ChangeMaps (open_string shut_string)

namespace PWaysP
open Dice Arr OpenD DieW SortW DicesW PoolW All6 IntsW RollW Places PatM SortDn PlI Four PatI PatsI PlS PatS PatV PatC WaysC PWaysI PWaysS

set_option maxRecDepth 20000 in
set_option maxHeartbeats 8000000 in
theorem law_any (A : Option Addr) (n c : Nat) (P : Nat → Nat → Int) (g : Nat → Int) (w : World) (h : Row w A n P) (hc : n ≤ c) (hm : c ≤ maxLen) :
    Calls Try.prog 3 #[.slice A n c, v4 g] w fun e w' => e = .returned (.bool true) ∧ Below w.heap.size w w' := by
  have hn : n ≤ maxLen := Nat.le_trans hc hm
  have hsz := fun w => sz_any A n c w hn
  have hX := At.new4 w g 23 rfl
  have hB := na (n0 w) (fourO g 23)
  by_cases hbig : n ≤ 1048576
  · rw [if_pos hbig] at hsz
    have Hsz := Lib.hid hsz; clear hsz
    have Ht := Lib.hid (fun w h => toS_any A n c P w h hbig)
    have Hq := Lib.hid (fun A B c c' w h h' => eqS_any A B n c c' P w h h' hn)
    have Ht4 := Lib.hid (fun w => toA4_any g w)
    have H := Lib.hid h; clear h
    obtain ⟨x, b, ho⟩ : ∃ x b, (if isPool n P && valid n g then #[.int .i64 (wN (isG P n g) (all6 n) : Nat), .bool true] else #[.int .i64 0, .bool false] : Array Value) = #[.int .i64 x, .bool b] := by
      cases (isPool n P && valid n g)
      · exact ⟨0, false, rfl⟩
      · exact ⟨_, true, rfl⟩
    have hs := fun A c w h => specW_any A n c P g w h hn hbig
    have hi := fun A c w h => implW_any A n c P g w h hn hbig
    rw [ho] at hs hi
    have Hs := Lib.hid hs; clear hs
    have Hi := Lib.hid hi; clear hi
    clear ho
    clear hc hm hn
    go_enter Try.func3, Try.ntmps3
    go_wp2_with fail
    refine (Hsz.out _).mono ?_
    rintro e w0 ⟨rfl, hw0⟩
    have hw0 := hw0.symm
    subst hw0
    go_wp2_with fail
    obtain ⟨x0, x1, x2, x3⟩ := At.four hX
    generalize w.alloc (fourO g 23) = W at *
    refine wp_region_any (by kernel_rfl) ?_
    change wpAny _ _ _ _ _ _ _ (World.drew _)
    have hB := hB.drew
    have hX := hX.drew
    refine wpAny_take (i := 0) (v := .slice A n c) rfl (by kernel_rfl) (by kernel_rfl) (by kernel_rfl) (fun _ _ _ h => h) (Or.inl ⟨by rfl, by intro w; go_simp⟩) ?_
    refine wpAny_ready (rs := [1, 2]) (by kernel_rfl) (by simp) ?_
    refine AllReady.cons rfl (fun K hK => ?_) ?_
    · go_simp
      refine (Ht.out _ (H.out.up hB)).mono ?_
      rintro e w9 ⟨g1, rfl, hg1, hA1, hb⟩
      have hB := nx hB hb
      have hX := hX.up hb
      clear hb hg1
      obtain ⟨x0, x1, x2, x3⟩ := At.four hX
      go_simp
      refine hK _ _ ?_
      clear hK K
      refine wpAny_ready (rs := [2]) (by kernel_rfl) (by simp) ?_
      refine AllReady.cons rfl (fun K hK => ?_) ?_
      · go_simp
        refine hK _ _ ?_
        clear hK K
        refine wpAny_ready (rs := [3]) (by kernel_rfl) (by simp) ?_
        refine AllReady.cons rfl (fun K hK => ?_) ?_
        · go_simp
          refine (Ht4.out _).mono ?_
          rintro e w9 ⟨rfl, hb⟩
          have hB := nx hB hb
          have hX := hX.up hb
          have hA1 := hA1.up hb
          clear hb
          obtain ⟨x0, x1, x2, x3⟩ := At.four hX
          go_simp
          refine hK _ _ ?_
          clear hK K
          refine wpAny_ready (rs := [4]) (by kernel_rfl) (by simp) ?_
          refine AllReady.cons rfl (fun K hK => ?_) ?_
          · go_simp
            refine (Hs.out _ _ _ (row_of_at hA1)).mono ?_
            rintro e w9 ⟨rfl, hb⟩
            have hB := nx hB hb
            have hX := hX.up hb
            clear hb hA1
            obtain ⟨x0, x1, x2, x3⟩ := At.four hX
            go_simp
            refine hK _ _ ?_
            clear hK K
            refine wpAny_take (i := 5) (v := .tuple #[.int .i64 x, .bool b]) rfl (by kernel_rfl) (by kernel_rfl) (by kernel_rfl) (fun _ _ _ h => h) (Or.inl ⟨by rfl, by intro w; go_simp⟩) ?_
            refine wpAny_take (i := 6) (v := .int .i64 x) rfl (by kernel_rfl) (by kernel_rfl) (by kernel_rfl) (fun _ _ _ h => h) (Or.inl ⟨by rfl, by intro w; go_simp⟩) ?_
            refine wpAny_take (i := 7) (v := .bool b) rfl (by kernel_rfl) (by kernel_rfl) (by kernel_rfl) (fun _ _ _ h => h) (Or.inl ⟨by rfl, by intro w; go_simp⟩) ?_
            refine wpAny_take (i := 8) (v := .int .i64 x) rfl (by kernel_rfl) (by kernel_rfl) (by kernel_rfl) (fun _ _ _ h => h) (Or.inl ⟨by rfl, by intro w; go_simp⟩) ?_
            refine wpAny_take (i := 9) (v := .bool b) rfl (by kernel_rfl) (by kernel_rfl) (by kernel_rfl) (fun _ _ _ h => h) (Or.inl ⟨by rfl, by intro w; go_simp⟩) ?_
            refine wpAny_done (by kernel_rfl) ?_ _
            go_wp2_with fail
            refine (Ht.out _ (H.out.up hB)).mono ?_
            rintro e w3 ⟨g3, rfl, hg3, hA3, hb⟩
            have hB := nx hB hb
            have hX := hX.up hb
            clear hb
            obtain ⟨x0, x1, x2, x3⟩ := At.four hX
            go_wp2_with fail
            refine (Ht4.out _).mono ?_
            rintro e w4 ⟨rfl, hb⟩
            have hB := nx hB hb
            have hA3 := hA3.up hb
            clear hb
            go_wp2_with fail
            refine (Hi.out _ _ _ (row_of_at hA3)).mono ?_
            rintro e w5 ⟨rfl, hb⟩
            have hB4 := nx hB hb
            have hA4 := hA3.up hb
            clear hb hA3 hX x0 x1 x2 x3
            cases b
            all_goals
              go_wp2_with fail
              refine (Ht.out _ (H.out.up hB4)).mono ?_
              rintro e w6 ⟨g5, rfl, hg5, hA5, hb5⟩
              have hA5' := hA4.up hb5
              go_wp2_with fail
              refine (Hq.out _ _ _ _ _ (row_of_at hA5') (row_of_at hA5)).mono ?_
              rintro e w7 ⟨rfl, hb6⟩
              go_wp2_with fail
              go_ret
              exact ⟨rfl, nx (nx hB4 hb5) hb6⟩
          exact AllReady.nil
        exact AllReady.nil
      exact AllReady.nil
    refine AllReady.cons rfl (fun K hK => ?_) ?_
    · go_simp
      refine hK _ _ ?_
      clear hK K
      refine wpAny_ready (rs := [1]) (by kernel_rfl) (by simp) ?_
      refine AllReady.cons rfl (fun K hK => ?_) ?_
      · go_simp
        refine (Ht.out _ (H.out.up hB)).mono ?_
        rintro e w9 ⟨g1, rfl, hg1, hA1, hb⟩
        have hB := nx hB hb
        have hX := hX.up hb
        clear hb hg1
        obtain ⟨x0, x1, x2, x3⟩ := At.four hX
        go_simp
        refine hK _ _ ?_
        clear hK K
        refine wpAny_ready (rs := [3]) (by kernel_rfl) (by simp) ?_
        refine AllReady.cons rfl (fun K hK => ?_) ?_
        · go_simp
          refine (Ht4.out _).mono ?_
          rintro e w9 ⟨rfl, hb⟩
          have hB := nx hB hb
          have hX := hX.up hb
          have hA1 := hA1.up hb
          clear hb
          obtain ⟨x0, x1, x2, x3⟩ := At.four hX
          go_simp
          refine hK _ _ ?_
          clear hK K
          refine wpAny_ready (rs := [4]) (by kernel_rfl) (by simp) ?_
          refine AllReady.cons rfl (fun K hK => ?_) ?_
          · go_simp
            refine (Hs.out _ _ _ (row_of_at hA1)).mono ?_
            rintro e w9 ⟨rfl, hb⟩
            have hB := nx hB hb
            have hX := hX.up hb
            clear hb hA1
            obtain ⟨x0, x1, x2, x3⟩ := At.four hX
            go_simp
            refine hK _ _ ?_
            clear hK K
            refine wpAny_take (i := 5) (v := .tuple #[.int .i64 x, .bool b]) rfl (by kernel_rfl) (by kernel_rfl) (by kernel_rfl) (fun _ _ _ h => h) (Or.inl ⟨by rfl, by intro w; go_simp⟩) ?_
            refine wpAny_take (i := 6) (v := .int .i64 x) rfl (by kernel_rfl) (by kernel_rfl) (by kernel_rfl) (fun _ _ _ h => h) (Or.inl ⟨by rfl, by intro w; go_simp⟩) ?_
            refine wpAny_take (i := 7) (v := .bool b) rfl (by kernel_rfl) (by kernel_rfl) (by kernel_rfl) (fun _ _ _ h => h) (Or.inl ⟨by rfl, by intro w; go_simp⟩) ?_
            refine wpAny_take (i := 8) (v := .int .i64 x) rfl (by kernel_rfl) (by kernel_rfl) (by kernel_rfl) (fun _ _ _ h => h) (Or.inl ⟨by rfl, by intro w; go_simp⟩) ?_
            refine wpAny_take (i := 9) (v := .bool b) rfl (by kernel_rfl) (by kernel_rfl) (by kernel_rfl) (fun _ _ _ h => h) (Or.inl ⟨by rfl, by intro w; go_simp⟩) ?_
            refine wpAny_done (by kernel_rfl) ?_ _
            go_wp2_with fail
            refine (Ht.out _ (H.out.up hB)).mono ?_
            rintro e w3 ⟨g3, rfl, hg3, hA3, hb⟩
            have hB := nx hB hb
            have hX := hX.up hb
            clear hb
            obtain ⟨x0, x1, x2, x3⟩ := At.four hX
            go_wp2_with fail
            refine (Ht4.out _).mono ?_
            rintro e w4 ⟨rfl, hb⟩
            have hB := nx hB hb
            have hA3 := hA3.up hb
            clear hb
            go_wp2_with fail
            refine (Hi.out _ _ _ (row_of_at hA3)).mono ?_
            rintro e w5 ⟨rfl, hb⟩
            have hB4 := nx hB hb
            have hA4 := hA3.up hb
            clear hb hA3 hX x0 x1 x2 x3
            cases b
            all_goals
              go_wp2_with fail
              refine (Ht.out _ (H.out.up hB4)).mono ?_
              rintro e w6 ⟨g5, rfl, hg5, hA5, hb5⟩
              have hA5' := hA4.up hb5
              go_wp2_with fail
              refine (Hq.out _ _ _ _ _ (row_of_at hA5') (row_of_at hA5)).mono ?_
              rintro e w7 ⟨rfl, hb6⟩
              go_wp2_with fail
              go_ret
              exact ⟨rfl, nx (nx hB4 hb5) hb6⟩
          exact AllReady.nil
        exact AllReady.nil
      exact AllReady.nil
    exact AllReady.nil
  · rw [if_neg hbig] at hsz
    have Hsz := Lib.hid hsz; clear hsz
    clear h hbig hc hm hn
    go_enter Try.func3, Try.ntmps3
    go_wp2_with fail
    refine (Hsz.out _).mono ?_
    rintro e w0 ⟨rfl, hw0⟩
    have hw0 := hw0.symm
    subst hw0
    go_wp2_with fail
    go_ret
    exact ⟨rfl, hB⟩

theorem laidOut : laidOutB Try.prog = true := by kernel_rfl
set_option maxRecDepth 100000 in
/-- What the walk gives, for every argument. -/
theorem contract (H : Type) (enc : TypeId × Value → H) (W : World) (base : Nat) (args : Array Value) (ds gs : List (DataW H)) (before : List MemPlace)
    (hval : ∀ (j : Nat) t v, Try.f3.params[j]? = some t → args[j]? = some v → Value.okWide Try.prog W .any base t v)
    (hW : DataW.Whole enc Try.prog Try.f3.params.toList Rows.fnExactWaysOfPatternSpec.vars false W args.toList ds gs before) :
    Calls Try.prog 3 args W fun e W' => ∃ v, e = .returned v ∧ Rows.fnExactWaysOfPatternSpec.post enc Try.prog Try.f3 false true false false W args v W' := by
  have hW' := hW
  obtain ⟨p, q, hA0, hV, rfl, hfz, hnd⟩ := hW
  have hA : DataW.TrodAll enc Try.prog W 0 (fun _ => true) true Try.f3.params.toList args.toList ds p := hA0
  rw [Try.params3] at hA hval
  obtain ⟨v0, vs0, d0, ds0, p0, q0, hargs, rfl, rfl, h0, r0⟩ := trodAll_cons hA
  obtain ⟨v1, vs1, d1, ds1, p1, q1, rfl, rfl, rfl, h1, r1⟩ := trodAll_cons r0
  obtain ⟨rfl, rfl, rfl⟩ := trodAll_nil r1
  obtain rfl : args = #[v0, v1] := by cases args; simp_all
  obtain ⟨rfl, rfl⟩ := trodVars_none hV
  obtain ⟨A0, n0, c0, rfl⟩ := okWide_slice Try.underlying22 (hval 0 22 v0 rfl rfl)
  have k0 := h0
  have lt0 : ∀ x ∈ p0, x.block < W.heap.size := fun x hx => by have := hW'.lt x (by simp [hx]); simpa using this
  obtain ⟨fu0, hf0⟩ := h0
  obtain ⟨a0, ht0, hc0, hm0, w0⟩ := OpenD.dice_of hf0 lt0
  obtain ⟨a1, rfl, w1⟩ := OpenF.four_of (hval 1 23 v1 rfl rfl) h1
  have k1 := h1
  have lt1 : ∀ x ∈ p1, x.block < W.heap.size := fun x hx => by have := hW'.lt x (by simp [hx]); simpa using this
  clear hA0
  simp only [List.append_nil] at hW'
  refine (law_any A0 n0 c0 a0 a1 W ht0 hc0 hm0).mono fun e W' ⟨he, hg⟩ => ?_
  subst he
  exact ⟨_, rfl, _, _, _, [], (p0 ++ (p1 ++ [])), [], hW', trodAll_cons_mk (shut_bool Try.underlying4 _) trodAll_mk0, trodAll_cons_mk (Below.trod laidOut (by kernel_rfl) (of_decide_eq_true (by kernel_rfl)) k0 hg lt0) (trodAll_cons_mk (Below.trod laidOut (by kernel_rfl) (of_decide_eq_true (by kernel_rfl)) k1 hg lt1) trodAll_mk0), rfl, hg.frame _, fun h => by cases h⟩

theorem own : ownKnob Try.prog.godebug = none := by kernel_rfl

set_option maxRecDepth 100000 in
theorem lifted (os : Os) (started : os.Started) (H : Type) (enc : TypeId × Value → H) :
    ReturnsInHanded {} Try.checked os 3 .any (Rows.fnExactWaysOfPatternSpec.pre6 enc Try.prog Try.f3 Rows.fnExactWaysOfPatternRow.domain false) (Rows.fnExactWaysOfPatternSpec.post enc Try.prog Try.f3 false true false false) := by
  refine returnsInHanded_of_change (C := Try.checked) own started (by kernel_rfl) Try.func3
    (ChangeSpec.witness6 (enc := enc) (C := Try.checked) false ⟨#[], #[.slice none 0 0, .agg #[.int .i64 0, .int .i64 0, .int .i64 0, .int .i64 0]], []⟩ 8 (by kernel_rfl) (by kernel_rfl) (by kernel_rfl) (by kernel_rfl)) ?_
  intro W base args ds gs before hval hW _ _
  exact contract H enc W base args ds gs before hval hW

theorem holds : Rows.FnExactWaysOfPatternSaid :=
  OpenClaim.holds_of_wide 3 Try.f3 rfl rfl rfl rfl rfl rfl rfl ⟨rfl, rfl, rfl, rfl, rfl⟩ rfl rfl rfl rfl rfl (by kernel_rfl) Try.func3 (by kernel_rfl)
    (of_decide_eq_true (by kernel_rfl)) (by unfold Func.isWrapper; rw [if_neg (by decide +kernel)]; exact ⟨rfl, rfl⟩)
    (fun os started H enc _ => lifted os started H enc)

end PWaysP
end Go.Proofs.Ytbcaahaaaodhkaa
