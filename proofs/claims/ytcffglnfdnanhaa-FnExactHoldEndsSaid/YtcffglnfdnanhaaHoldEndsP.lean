/-
  FnExactHoldEnds: for every array of six numbers, every bad face and every hold the law returns true. No condition.
-/
import Derived.Test.YtcffglnfdnanhaaRows
import Derived.Test.YtcffglnfdnanhaaArr
import Derived.Test.YtcffglnfdnanhaaAnyR
import Derived.Test.YtcffglnfdnanhaaDieW
import Derived.Test.YtcffglnfdnanhaaSortW
import Derived.Test.YtcffglnfdnanhaaFracW
import Derived.Test.YtcffglnfdnanhaaFracL
import Derived.Test.YtcffglnfdnanhaaCutW
import Derived.Test.YtcffglnfdnanhaaAll6
import Derived.Test.YtcffglnfdnanhaaAllL
import Derived.Test.YtcffglnfdnanhaaOwnL
import Derived.Test.YtcffglnfdnanhaaFracM
import Derived.Test.YtcffglnfdnanhaaStopM
import Derived.Test.YtcffglnfdnanhaaRunM
import Derived.Test.YtcffglnfdnanhaaRunI
import Derived.Test.YtcffglnfdnanhaaRunS
import Derived.Test.YtcffglnfdnanhaaRunW
import Derived.Test.YtcffglnfdnanhaaHoldM
import Derived.Test.YtcffglnfdnanhaaBig40
import Derived.Test.YtcffglnfdnanhaaBig41
import Derived.Test.YtcffglnfdnanhaaHoldI
import Derived.Test.YtcffglnfdnanhaaHoldS
import Derived.Test.YtcffglnfdnanhaaHoldW
import Derived.Test.YtcffglnfdnanhaaRunW
import Derived.Test.YtcffglnfdnanhaaRunS
import Derived.Test.YtcffglnfdnanhaaEndL
import Derived.Test.YtcffglnfdnanhaaHEnds
import Derived.Test.YtcffglnfdnanhaaOpenD
import Derived.Test.YtcffglnfdnanhaaOpenD
import Derived.WalkKit
import Derived.WalkLawsBesides
import Derived.WalkSpells
import Derived.ProofKit
import Derived.OpenShut
import Derived.Deep.RegionWith
import Derived.Deep.QuietTactic
import Derived.BigQuiet
namespace Go.Proofs.Ytcffglnfdnanhaa
open Go.ChangeShapes Go.WideShapes Go.ChangeAt Go.RowKit
open Go.ChangeMaps (open_string shut_string)

namespace HoldEndsP
open Dice Arr DieW SortW FracW CutW All6 AllL OwnL FracM StopM RunM RunI RunS RunW HoldM HoldI HoldS HoldW EndL Go.Deep HEnds AnyR OpenD

set_option maxRecDepth 20000 in
set_option maxHeartbeats 8000000 in
theorem law_any (d : Nat → Int) (bad : Int) (h : Int) (w : World)  :
    Calls Try.prog 9 #[dv d, .int .i64 bad, .int .i64 h] w fun e w' => e = .returned (.bool true) ∧ Below w.heap.size w w' := by
  have ht6 := toA6_any
  unfold dv at ht6
  have Ht6 := Lib.hid ht6; clear ht6
  have hm9 := Nat.le_trans (lenE_small d bad h) (show 41 ≤ 1000 by omega)
  have hs := fun w => specEndsL_any d bad h w
  have hi := fun w => implEndsL_any d bad h w
  generalize lenE d bad h = m at hs hi hm9
  generalize efE d bad h = f at hs hi
  generalize okT d bad h = b at hs hi
  unfold dv at hs hi
  have Hs := Lib.hid hs; clear hs
  have Hi := Lib.hid hi; clear hi
  have He := Lib.hid (fun B B' A A' c c' w h h' => eqEndS_any B B' A A' m c c' f w h h' hm9)
  have Hmi := Lib.hid (fun B A c w h => markEndS_any B A m c f w h hm9)
  have Hhi := Lib.hid (fun B A c w h => heldEndS_any B A m c w h hm9)
  have hz2 : decide ((1 : Int) + 3 * (m : Int) < 0) = false := decide_eq_false (by omega)
  clear hm9
  have hB := n0 w
  unfold dv
  go_enter Try.func9, Try.ntmps9
  have hX1 := (At.new6 w d 22 (b := w.heap.size) rfl)
  have hB := na hB (sixO d 22)
  have c2 := hX1.cell 0 (by omega)
  have c3 := hX1.cell 1 (by omega)
  have c4 := hX1.cell 2 (by omega)
  have c5 := hX1.cell 3 (by omega)
  have c6 := hX1.cell 4 (by omega)
  have c7 := hX1.cell 5 (by omega)
  go_wp2_with fail
  clear c2 c3 c4 c5 c6 c7
  refine (Ht6.out d _).mono ?_
  rintro e w8 ⟨rfl, hb⟩
  have hB := nx hB hb
  have hX1 := hX1.up hb
  clear hb
  go_wp2_with fail
  refine (Hs.out _).mono ?_
  rintro e w9 ⟨AL10, cL11, rfl, hL12, hb⟩
  have hs13 := hB.size
  have hx13_0 := hX1.lt
  have hB := nx hB hb
  have hX1 := hX1.up hb
  clear hb
  have hD := n0 w9
  have c14 := hX1.cell 0 (by omega)
  have c15 := hX1.cell 1 (by omega)
  have c16 := hX1.cell 2 (by omega)
  have c17 := hX1.cell 3 (by omega)
  have c18 := hX1.cell 4 (by omega)
  have c19 := hX1.cell 5 (by omega)
  go_wp2_with fail
  clear c14 c15 c16 c17 c18 c19
  refine (Ht6.out d _).mono ?_
  rintro e w20 ⟨rfl, hb⟩
  have hB := nx hB hb
  have hD := nx hD hb
  have hX1 := hX1.up hb
  clear hb
  go_wp2_with fail
  refine (Hi.out _).mono ?_
  rintro e w21 ⟨AL22, cL23, rfl, hL24, hb⟩
  have hs25 := hB.size
  have hd25 := hD.size
  have hx25_0 := hX1.lt
  have hB := nx hB hb
  have hD := nx hD hb
  have hX1 := hX1.up hb
  clear hb
  go_wp2_with fail
  refine (He.out _ _ _ _ _ _ _ hL24 (hL12.up hD)).mono ?_
  rintro e w26 ⟨rfl, hb⟩
  have hB := nx hB hb
  have hD := nx hD hb
  have hX1 := hX1.up hb
  have hL24 := hL24.up hb
  clear hb
  cases b
  all_goals
    go_wp2_with fail
    refine (Hmi.out _ _ _ _ hL24).mono ?_
    rintro e w27 ⟨rfl, hL28, hb⟩
    have hX1 := hX1.below (by omega) hb
    have hB := hB.trans (hb.mono (by omega))
    have hD := hD.trans (hb.mono (by omega))
    clear hb
    go_wp2_with fail
    refine (Hhi.out _ _ _ _ hL28).mono ?_
    rintro e w29 ⟨rfl, hb⟩
    have hB := nx hB hb
    have hD := nx hD hb
    have hX1 := hX1.up hb
    have hL28 := hL28.up hb
    clear hb
    have c30 := hX1.cell 0 (by omega)
    have c31 := hX1.cell 1 (by omega)
    have c32 := hX1.cell 2 (by omega)
    have c33 := hX1.cell 3 (by omega)
    have c34 := hX1.cell 4 (by omega)
    have c35 := hX1.cell 5 (by omega)
    go_wp2_with fail
    clear c30 c31 c32 c33 c34 c35
    refine (Ht6.out d _).mono ?_
    rintro e w36 ⟨rfl, hb⟩
    have hB := nx hB hb
    have hD := nx hD hb
    have hX1 := hX1.up hb
    have hL28 := hL28.up hb
    clear hb
    go_wp2_with fail
    refine (Hi.out _).mono ?_
    rintro e w37 ⟨AL38, cL39, rfl, hL40, hb⟩
    have hs41 := hB.size
    have hd41 := hD.size
    have hx41_0 := hX1.lt
    have hB := nx hB hb
    have hD := nx hD hb
    have hX1 := hX1.up hb
    have hL28 := hL28.up hb
    clear hb
    go_wp2_with fail
    refine (He.out _ _ _ _ _ _ _ hL40 (hL12.up hD)).mono ?_
    rintro e w42 ⟨rfl, hb⟩
    have hB := nx hB hb
    have hD := nx hD hb
    have hX1 := hX1.up hb
    have hL28 := hL28.up hb
    have hL40 := hL40.up hb
    clear hb
    go_wp2_with fail
    refine (Hhi.out _ _ _ _ hL28).mono ?_
    rintro e w43 ⟨rfl, hb⟩
    have hB := nx hB hb
    have hD := nx hD hb
    have hX1 := hX1.up hb
    have hL28 := hL28.up hb
    have hL40 := hL40.up hb
    clear hb
    go_wp2_with fail
    go_ret
    exact ⟨rfl, hB⟩

theorem laidOut : laidOutB Try.prog = true := by kernel_rfl
set_option maxRecDepth 100000 in
/-- What the walk gives, for every argument. -/
theorem contract (H : Type) (enc : TypeId × Value → H) (W : World) (base : Nat) (args : Array Value) (ds gs : List (DataW H)) (before : List MemPlace)
    (hval : ∀ (j : Nat) t v, Try.f9.params[j]? = some t → args[j]? = some v → Value.okWide Try.prog W .any base t v)
    (hW : DataW.Whole enc Try.prog Try.f9.params.toList Rows.fnExactHoldEndsSpec.vars false W args.toList ds gs before) :
    Calls Try.prog 9 args W fun e W' => ∃ v, e = .returned v ∧ Rows.fnExactHoldEndsSpec.post enc Try.prog Try.f9 false true false false W args v W' := by
  have hW' := hW
  obtain ⟨p, q, hA0, hV, rfl, hfz, hnd⟩ := hW
  have hA : DataW.TrodAll enc Try.prog W 0 (fun _ => true) true Try.f9.params.toList args.toList ds p := hA0
  rw [Try.params9] at hA hval
  obtain ⟨v0, vs0, d0, ds0, p0, q0, hargs, rfl, rfl, h0, r0⟩ := trodAll_cons hA
  obtain ⟨v1, vs1, d1, ds1, p1, q1, rfl, rfl, rfl, h1, r1⟩ := trodAll_cons r0
  obtain ⟨v2, vs2, d2, ds2, p2, q2, rfl, rfl, rfl, h2, r2⟩ := trodAll_cons r1
  obtain ⟨rfl, rfl, rfl⟩ := trodAll_nil r2
  obtain rfl : args = #[v0, v1, v2] := by cases args; simp_all
  obtain ⟨rfl, rfl⟩ := trodVars_none hV
  obtain ⟨a0, rfl, w0⟩ := OpenD.die_of (hval 0 22 v0 rfl rfl) h0
  have k0 := h0
  have lt0 : ∀ x ∈ p0, x.block < W.heap.size := fun x hx => by have := hW'.lt x (by simp [hx]); simpa using this
  obtain ⟨a1, rfl, rfl, rfl, wf1⟩ := open_int Try.underlying3 (hval 1 3 v1 rfl rfl) h1
  have w1 : -9223372036854775808 ≤ a1 ∧ a1 ≤ 9223372036854775807 := by simpa [Lit.wf, IntKind.min, IntKind.max, IntKind.bits, IntKind.signed] using wf1
  obtain ⟨a2, rfl, rfl, rfl, wf2⟩ := open_int Try.underlying3 (hval 2 3 v2 rfl rfl) h2
  have w2 : -9223372036854775808 ≤ a2 ∧ a2 ≤ 9223372036854775807 := by simpa [Lit.wf, IntKind.min, IntKind.max, IntKind.bits, IntKind.signed] using wf2
  clear hA0
  simp only [List.append_nil] at hW'
  refine (law_any a0 a1 a2 W).mono fun e W' ⟨he, hg⟩ => ?_
  subst he
  exact ⟨_, rfl, _, _, _, [], (p0 ++ ([] ++ ([] ++ []))), [], hW', trodAll_cons_mk (shut_bool Try.underlying4 _) trodAll_mk0, trodAll_cons_mk (Below.trod laidOut (by kernel_rfl) (of_decide_eq_true (by kernel_rfl)) k0 hg lt0) (trodAll_cons_mk (shut_int Try.underlying3 wf1) (trodAll_cons_mk (shut_int Try.underlying3 wf2) trodAll_mk0)), rfl, hg.frame _, fun h => by cases h⟩

theorem own : ownKnob Try.prog.godebug = none := by kernel_rfl

set_option maxRecDepth 100000 in
theorem lifted (os : Os) (started : os.Started) (H : Type) (enc : TypeId × Value → H) :
    ReturnsInHanded {} Try.checked os 9 .any (Rows.fnExactHoldEndsSpec.pre6 enc Try.prog Try.f9 Rows.fnExactHoldEndsRow.domain false) (Rows.fnExactHoldEndsSpec.post enc Try.prog Try.f9 false true false false) := by
  refine returnsInHanded_of_change (C := Try.checked) own started (by kernel_rfl) Try.func9
    (ChangeSpec.witness6 (enc := enc) (C := Try.checked) false ⟨#[], #[.agg #[.int .i64 0, .int .i64 0, .int .i64 0, .int .i64 0, .int .i64 0, .int .i64 0], .int .i64 0, .int .i64 0], []⟩ 8 (by kernel_rfl) (by kernel_rfl) (by kernel_rfl) (by kernel_rfl)) ?_
  intro W base args ds gs before hval hW _ _
  exact contract H enc W base args ds gs before hval hW

theorem holds : Rows.FnExactHoldEndsSaid :=
  OpenClaim.holds_of_wide 9 Try.f9 rfl rfl rfl rfl rfl rfl rfl ⟨rfl, rfl, rfl, rfl, rfl⟩ rfl rfl rfl rfl rfl (by kernel_rfl) Try.func9 (by kernel_rfl)
    (of_decide_eq_true (by kernel_rfl)) (by unfold Func.isWrapper; rw [if_neg (by decide +kernel)]; exact ⟨rfl, rfl⟩)
    (fun os started H enc _ => lifted os started H enc)

end HoldEndsP
end Go.Proofs.Ytcffglnfdnanhaa
