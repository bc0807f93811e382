/-
  FnExactPlayTurn: for every array of six numbers, every bad face, every hold and every list of places the law returns true, and the list reads afterwards as it read before. No condition.
-/
import Derived.Test.YtcffglnfdnanhaaRows
import Derived.Test.YtcffglnfdnanhaaArr
import Derived.Test.YtcffglnfdnanhaaAnyR
import Derived.Test.YtcffglnfdnanhaaDieW
import Derived.Test.YtcffglnfdnanhaaSortW
import Derived.Test.YtcffglnfdnanhaaFracW
import Derived.Test.YtcffglnfdnanhaaFracL
import Derived.Test.YtcffglnfdnanhaaCutW
import Derived.Test.YtcffglnfdnanhaaAll6
import Derived.Test.YtcffglnfdnanhaaAllL
import Derived.Test.YtcffglnfdnanhaaOwnL
import Derived.Test.YtcffglnfdnanhaaFracM
import Derived.Test.YtcffglnfdnanhaaStopM
import Derived.Test.YtcffglnfdnanhaaRunM
import Derived.Test.YtcffglnfdnanhaaRunI
import Derived.Test.YtcffglnfdnanhaaRunS
import Derived.Test.YtcffglnfdnanhaaRunW
import Derived.Test.YtcffglnfdnanhaaHoldM
import Derived.Test.YtcffglnfdnanhaaBig40
import Derived.Test.YtcffglnfdnanhaaBig41
import Derived.Test.YtcffglnfdnanhaaHoldI
import Derived.Test.YtcffglnfdnanhaaHoldS
import Derived.Test.YtcffglnfdnanhaaHoldW
import Derived.Test.YtcffglnfdnanhaaRunW
import Derived.Test.YtcffglnfdnanhaaOpenI
import Derived.Test.YtcffglnfdnanhaaOpenD
import Derived.Test.YtcffglnfdnanhaaPlayW
import Derived.Test.YtcffglnfdnanhaaPlayI
import Derived.Test.YtcffglnfdnanhaaOpenD
import Derived.WalkKit
import Derived.WalkLawsBesides
import Derived.WalkSpells
import Derived.ProofKit
import Derived.OpenShut
import Derived.Deep.RegionWith
import Derived.Deep.QuietTactic
import Derived.BigQuiet
namespace Go.Proofs.Ytcffglnfdnanhaa
open Go.ChangeShapes Go.WideShapes Go.ChangeAt Go.RowKit
open Go.ChangeMaps (open_string shut_string)

namespace PlayTurnP
open Dice Arr DieW SortW FracW CutW All6 AllL OwnL FracM StopM RunM RunI RunS RunW HoldM HoldI HoldS HoldW OpenG OpenD PlayW PlayI


set_option maxRecDepth 100000 in
set_option maxHeartbeats 16000000 in
theorem law_any (d : Nat → Int) (bad h : Int) (A : Option Addr) (n c : Nat) (p : Nat → Int) (w : World) (hR : RowI w A n p) (_ : n ≤ c) (_ : c ≤ maxLen) :
    Calls Try.prog 13 #[dv d, .int .i64 bad, .int .i64 h, .slice A n c] w fun e w' => e = .returned (.bool true) ∧ Below w.heap.size w w' := by
  have hB := na (n0 w) (sixO d 22)
  have hD := At.new6 w d 22 rfl
  have H := Lib.hid (hR.up (na (n0 w) (sixO d 22)))
  clear hR
  unfold dv
  by_cases hbig : n ≤ 1048576
  · have hgd : decide ((1048576 : Int) < (n : Int)) = false := decide_eq_false (by omega)
    have hgdN : decide (1048576 < n) = false := decide_eq_false (by omega)
    have ht := toA6_any d
    have hs := fun g c w h' => specPlay_any d bad h g n c p w h' hbig
    have hi := fun g c w h' => implPlay_any d bad h g n c p w h' hbig
    obtain ⟨x, y, z1, z2, ho⟩ : ∃ x y z1 z2, ptv (outP d bad h p n) = .tuple #[.int .i64 x, .int .i64 y, .bool z1, .bool z2] := ⟨_, _, _, _, rfl⟩
    rw [ho] at hs hi
    clear ho
    unfold dv at ht hs hi
    have Ht := Lib.hid ht; clear ht
    have Hs := Lib.hid hs; clear hs
    have Hi := Lib.hid hi; clear hi
    have Htoi := Lib.hid (fun w h' => toInts_any A n c p w h' hbig)
    have Hq := Lib.hid (fun B B' A A' c c' w h' h'' => eqInts_any B B' A A' n c c' p w h' h'' (Nat.le_trans hbig (by unfold maxLen; omega)))
    clear hbig
    obtain ⟨e0, e1, e2, e3, e4, e5⟩ := hD.six
    go_enter Try.func13, Try.ntmps13
    go_wp2_with fail
    refine (Ht.out _).mono ?_
    rintro e w1 ⟨rfl, hb1⟩
    have hB1 := nx hB hb1
    have hD1 := hD.up hb1
    have H1 := Lib.hid (H.out.up hb1)
    clear e0 e1 e2 e3 e4 e5 hB hD H hb1
    go_wp2_with fail
    refine (Htoi.out _ H1.out).mono ?_
    rintro e w2 ⟨g2, rfl, _, hA2, hb2⟩
    have hB2 := nx hB1 hb2
    have hD2 := hD1.up hb2
    have H2 := Lib.hid (H1.out.up hb2)
    clear hB1 hD1 H1 hb2
    go_wp2_with fail
    refine (Hs.out _ _ _ hA2).mono ?_
    rintro e w3 ⟨rfl, hb3⟩
    have hB3 := nx hB2 hb3
    have hD3 := hD2.up hb3
    have H3 := Lib.hid (H2.out.up hb3)
    clear hB2 hD2 H2 hb3 hA2
    go_wp2_with fail
    refine (Htoi.out _ H3.out).mono ?_
    rintro e w4 ⟨g4, rfl, _, hA4, hb4⟩
    have hB4 := nx hB3 hb4
    have hD4 := hD3.up hb4
    have H4 := Lib.hid (H3.out.up hb4)
    clear hB3 hD3 H3 hb4
    obtain ⟨e0, e1, e2, e3, e4, e5⟩ := hD4.six
    go_wp2_with fail
    refine (Ht.out _).mono ?_
    rintro e w5 ⟨rfl, hb5⟩
    have hB5 := nx hB4 hb5
    have hA5 := hA4.up hb5
    have H5 := Lib.hid (H4.out.up hb5)
    clear e0 e1 e2 e3 e4 e5 hB4 hD4 H4 hb5 hA4
    go_wp2_with fail
    refine (Hi.out _ _ _ hA5).mono ?_
    rintro e w6 ⟨rfl, hb6⟩
    have hB6 := nx hB5 hb6
    have hA6 := hA5.up hb6
    have H6 := Lib.hid (H5.out.up hb6)
    clear hB5 H5 hb6 hA5
    cases z1
    all_goals
      cases z2
      all_goals
        go_wp2_with fail
        refine (Htoi.out _ H6.out).mono ?_
        rintro e w7 ⟨g7, rfl, _, hA7, hb7⟩
        have hB7 := nx hB6 hb7
        have hA6' := hA6.up hb7
        go_wp2_with fail
        refine (Hq.out 0 0 _ _ _ _ _ (.inr ⟨g4, rfl, Nat.zero_le _, hA6'⟩) (.inr ⟨g7, rfl, Nat.zero_le _, hA7⟩)).mono ?_
        rintro e w8 ⟨rfl, hb8⟩
        go_wp2_with fail
        go_ret
        exact ⟨rfl, nx hB7 hb8⟩
  · have hgd : decide ((1048576 : Int) < (n : Int)) = true := decide_eq_true (by omega)
    have hgdN : decide (1048576 < n) = true := decide_eq_true (by omega)
    clear hbig hD H
    go_enter Try.func13, Try.ntmps13
    go_wp2_with fail
    go_ret
    exact ⟨rfl, hB⟩

theorem laidOut : laidOutB Try.prog = true := by kernel_rfl
set_option maxRecDepth 100000 in
/-- What the walk gives, for every argument. -/
theorem contract (H : Type) (enc : TypeId × Value → H) (W : World) (base : Nat) (args : Array Value) (ds gs : List (DataW H)) (before : List MemPlace)
    (hval : ∀ (j : Nat) t v, Try.f13.params[j]? = some t → args[j]? = some v → Value.okWide Try.prog W .any base t v)
    (hW : DataW.Whole enc Try.prog Try.f13.params.toList Rows.fnExactPlayTurnSpec.vars false W args.toList ds gs before) :
    Calls Try.prog 13 args W fun e W' => ∃ v, e = .returned v ∧ Rows.fnExactPlayTurnSpec.post enc Try.prog Try.f13 false true false false W args v W' := by
  have hW' := hW
  obtain ⟨p, q, hA0, hV, rfl, hfz, hnd⟩ := hW
  have hA : DataW.TrodAll enc Try.prog W 0 (fun _ => true) true Try.f13.params.toList args.toList ds p := hA0
  rw [Try.params13] at hA hval
  obtain ⟨v0, vs0, d0, ds0, p0, q0, hargs, rfl, rfl, h0, r0⟩ := trodAll_cons hA
  obtain ⟨v1, vs1, d1, ds1, p1, q1, rfl, rfl, rfl, h1, r1⟩ := trodAll_cons r0
  obtain ⟨v2, vs2, d2, ds2, p2, q2, rfl, rfl, rfl, h2, r2⟩ := trodAll_cons r1
  obtain ⟨v3, vs3, d3, ds3, p3, q3, rfl, rfl, rfl, h3, r3⟩ := trodAll_cons r2
  obtain ⟨rfl, rfl, rfl⟩ := trodAll_nil r3
  obtain rfl : args = #[v0, v1, v2, v3] := by cases args; simp_all
  obtain ⟨rfl, rfl⟩ := trodVars_none hV
  obtain ⟨a0, rfl, w0⟩ := OpenD.die_of (hval 0 22 v0 rfl rfl) h0
  have k0 := h0
  have lt0 : ∀ x ∈ p0, x.block < W.heap.size := fun x hx => by have := hW'.lt x (by simp [hx]); simpa using this
  obtain ⟨a1, rfl, rfl, rfl, wf1⟩ := open_int Try.underlying3 (hval 1 3 v1 rfl rfl) h1
  have w1 : -9223372036854775808 ≤ a1 ∧ a1 ≤ 9223372036854775807 := by simpa [Lit.wf, IntKind.min, IntKind.max, IntKind.bits, IntKind.signed] using wf1
  obtain ⟨a2, rfl, rfl, rfl, wf2⟩ := open_int Try.underlying3 (hval 2 3 v2 rfl rfl) h2
  have w2 : -9223372036854775808 ≤ a2 ∧ a2 ≤ 9223372036854775807 := by simpa [Lit.wf, IntKind.min, IntKind.max, IntKind.bits, IntKind.signed] using wf2
  obtain ⟨A3, n3, c3, rfl⟩ := okWide_slice Try.underlying51 (hval 3 51 v3 rfl rfl)
  have k3 := h3
  have lt3 : ∀ x ∈ p3, x.block < W.heap.size := fun x hx => by have := hW'.lt x (by simp [hx]); simpa using this
  obtain ⟨fu3, hf3⟩ := h3
  obtain ⟨a3, ht3, hc3, hm3, w3⟩ := OpenG.ints_of hf3 lt3
  clear hA0
  simp only [List.append_nil] at hW'
  refine (law_any a0 a1 a2 A3 n3 c3 a3 W ht3 hc3 hm3).mono fun e W' ⟨he, hg⟩ => ?_
  subst he
  exact ⟨_, rfl, _, _, _, [], (p0 ++ ([] ++ ([] ++ (p3 ++ [])))), [], hW', trodAll_cons_mk (shut_bool Try.underlying4 _) trodAll_mk0, trodAll_cons_mk (Below.trod laidOut (by kernel_rfl) (of_decide_eq_true (by kernel_rfl)) k0 hg lt0) (trodAll_cons_mk (shut_int Try.underlying3 wf1) (trodAll_cons_mk (shut_int Try.underlying3 wf2) (trodAll_cons_mk (Below.trod laidOut (by kernel_rfl) (of_decide_eq_true (by kernel_rfl)) k3 hg lt3) trodAll_mk0))), rfl, hg.frame _, fun h => by cases h⟩

theorem own : ownKnob Try.prog.godebug = none := by kernel_rfl

set_option maxRecDepth 100000 in
theorem lifted (os : Os) (started : os.Started) (H : Type) (enc : TypeId × Value → H) :
    ReturnsInHanded {} Try.checked os 13 .any (Rows.fnExactPlayTurnSpec.pre6 enc Try.prog Try.f13 Rows.fnExactPlayTurnRow.domain false) (Rows.fnExactPlayTurnSpec.post enc Try.prog Try.f13 false true false false) := by
  refine returnsInHanded_of_change (C := Try.checked) own started (by kernel_rfl) Try.func13
    (ChangeSpec.witness6 (enc := enc) (C := Try.checked) false ⟨#[], #[.agg #[.int .i64 0, .int .i64 0, .int .i64 0, .int .i64 0, .int .i64 0, .int .i64 0], .int .i64 0, .int .i64 0, .slice none 0 0], []⟩ 8 (by kernel_rfl) (by kernel_rfl) (by kernel_rfl) (by kernel_rfl)) ?_
  intro W base args ds gs before hval hW _ _
  exact contract H enc W base args ds gs before hval hW

theorem holds : Rows.FnExactPlayTurnSaid :=
  OpenClaim.holds_of_wide 13 Try.f13 rfl rfl rfl rfl rfl rfl rfl ⟨rfl, rfl, rfl, rfl, rfl⟩ rfl rfl rfl rfl rfl (by kernel_rfl) Try.func13 (by kernel_rfl)
    (of_decide_eq_true (by kernel_rfl)) (by unfold Func.isWrapper; rw [if_neg (by decide +kernel)]; exact ⟨rfl, rfl⟩)
    (fun os started H enc _ => lifted os started H enc)

end PlayTurnP
end Go.Proofs.Ytcffglnfdnanhaa
