/-
  FnExactScoreOf: for every goal and every list of integers the law returns true, and both read afterwards as they read before. No condition.
-/
import Derived.Test.YtppaegibhikjnaaRows
import Derived.Test.YtppaegibhikjnaaArr
import Derived.Test.YtppaegibhikjnaaAll6
import Derived.Test.YtppaegibhikjnaaDieW
import Derived.Test.YtppaegibhikjnaaFracW
import Derived.Test.YtppaegibhikjnaaDicesW
import Derived.Test.YtppaegibhikjnaaOwnL
import Derived.Test.YtppaegibhikjnaaOpenG
import Derived.Test.YtppaegibhikjnaaIntsW
import Derived.Test.YtppaegibhikjnaaPairA
import Derived.Test.YtppaegibhikjnaaGoalW
import Derived.Test.YtppaegibhikjnaaScoreM
import Derived.Test.YtppaegibhikjnaaScoreI
import Derived.Test.YtppaegibhikjnaaToIW
import Derived.Test.YtppaegibhikjnaaOpenD
import Derived.WalkKit
import Derived.WalkLawsBesides
import Derived.WalkSpells
import Derived.ProofKit
import Derived.OpenShut
import Derived.Deep.RegionWith
import Derived.Deep.QuietTactic
import Derived.BigQuiet
namespace Go.Proofs.Ytppaegibhikjnaa
open Go.ChangeShapes Go.WideShapes Go.ChangeAt Go.RowKit
open Go.ChangeMaps (open_string shut_string)

namespace ScoreOfP
open Dice Arr FracW OpenD OpenG GoalW PairA OwnL IntsW ToIW ScoreM ScoreI DicesW


set_option maxHeartbeats 4000000 in
theorem law_any (k b : Int) (A : Option Addr) (n c : Nat) (f : Nat → Int) (w : World) (h : RowI w A n f) (hc : n ≤ c) (hm : c ≤ maxLen) :
    Calls Try.prog 4 #[v2 k b, .slice A n c] w fun e w' => e = .returned (.bool true) ∧ Below w.heap.size w w' := by
  have hn : n ≤ maxLen := Nat.le_trans hc hm
  unfold maxLen at hn
  by_cases hbig : n ≤ 1048576
  · have hlen : decide ((1048576 : Int) < (n : Int)) = false := decide_eq_false (by omega)
    have Ht := Lib.hid (fun w h => toInts_any A n c f w h hbig)
    have Htg := Lib.hid toGoal_any
    have Hq := Lib.hid (fun B B' A A' c c' w h h' => eqInts_any B B' A A' n c c' f w h h' (by unfold maxLen; omega))
    have hs := fun B A c w h => specScoreOf_any k b f B A n c w h
    have hi := fun B A c w h => implScoreOf_any k b f B A n c w h
    generalize outS k b f n = x at hs hi
    generalize okS k b f n = y at hs hi
    have Hs := Lib.hid hs; clear hs
    have Hi := Lib.hid hi; clear hi
    have hp := At.newG k b w 23
    have H := Lib.hid (h.up (na (n0 w) (.cells #[.int .i64 k, .int .i64 b] 23))); clear h
    have hB := na (n0 w) (.cells #[.int .i64 k, .int .i64 b] 23)
    clear hc hm hn
    go_enter Try.func4, Try.ntmps4
    go_wp2_with fail
    generalize w.alloc (.cells #[.int .i64 k, .int .i64 b] 23) = W at *
    generalize hwz : w.heap.size = z at *
    have hzs : z ≤ W.heap.size := by rw [← hwz]; exact hB.size
    have Hwz := Lib.hid hwz; clear hwz
    refine (Htg.out k b _).mono ?_
    rintro e w1 ⟨rfl, hb1⟩
    have hB1 := hB.trans (hb1.mono hzs)
    go_wp2_with fail
    refine (Ht.out _ (H.out.up hb1)).mono ?_
    rintro e w2 ⟨g2, rfl, hg2, hA2, hb2⟩
    have hW2 := nx hb1 hb2
    go_wp2_with fail
    refine (Hs.out _ _ _ _ (.inr ⟨g2, rfl, Nat.le_refl _, hA2⟩)).mono ?_
    rintro e w3 ⟨rfl, hb3⟩
    have hW3 := nx hW2 hb3
    go_wp2_with fail
    refine (Ht.out _ (H.out.up hW3)).mono ?_
    rintro e w4 ⟨g4, rfl, hg4, hA4, hb4⟩
    have hW4 := nx hW3 hb4
    have hp4 := hp.below hp.lt (hW4.mono (Nat.le_refl _))
    have q0 := hp4.cell 0 (by omega)
    have q1 := hp4.cell 1 (by omega)
    rw [show fr k b 0 = k from rfl] at q0
    rw [show fr k b 1 = b from rfl] at q1
    go_wp2_with fail
    refine (Htg.out k b _).mono ?_
    rintro e w5 ⟨rfl, hb5⟩
    have hW5 := nx hW4 hb5
    have hA5 := hA4.up hb5
    clear q0 q1
    go_wp2_with fail
    refine (Hi.out _ _ _ _ (.inr ⟨g4, rfl, Nat.le_refl _, hA5⟩)).mono ?_
    rintro e w6 ⟨rfl, hb6⟩
    have hW6 := nx hW5 hb6
    have hA6 := hA5.up hb6
    cases y
    all_goals
      go_wp2_with fail
      refine (Ht.out _ (H.out.up hW6)).mono ?_
      rintro e w7 ⟨g7, rfl, hg7, hA7, hb7⟩
      have hW7 := nx hW6 hb7
      have hA67 := hA6.up hb7
      go_wp2_with fail
      refine (Hq.out _ _ _ _ _ _ _ (.inr ⟨g4, rfl, Nat.le_refl _, hA67⟩) (.inr ⟨g7, rfl, Nat.le_refl _, hA7⟩)).mono ?_
      rintro e w8 ⟨rfl, hb8⟩
      have hW8 := nx hW7 hb8
      go_wp2_with fail
      go_ret
      exact ⟨rfl, by rw [Hwz.out]; exact hB.trans (hW8.mono hzs)⟩
  · have hlen : decide ((1048576 : Int) < (n : Int)) = true := decide_eq_true (by omega)
    clear h hc hm hn hbig
    go_enter Try.func4, Try.ntmps4
    go_wp2_with fail
    go_ret
    exact ⟨rfl, na (n0 w) _⟩

theorem laidOut : laidOutB Try.prog = true := by kernel_rfl
set_option maxRecDepth 100000 in
/-- What the walk gives, for every argument. -/
theorem contract (H : Type) (enc : TypeId × Value → H) (W : World) (base : Nat) (args : Array Value) (ds gs : List (DataW H)) (before : List MemPlace)
    (hval : ∀ (j : Nat) t v, Try.f4.params[j]? = some t → args[j]? = some v → Value.okWide Try.prog W .any base t v)
    (hW : DataW.Whole enc Try.prog Try.f4.params.toList Rows.fnExactScoreOfSpec.vars false W args.toList ds gs before) :
    Calls Try.prog 4 args W fun e W' => ∃ v, e = .returned v ∧ Rows.fnExactScoreOfSpec.post enc Try.prog Try.f4 false true false false W args v W' := by
  have hW' := hW
  obtain ⟨p, q, hA0, hV, rfl, hfz, hnd⟩ := hW
  have hA : DataW.TrodAll enc Try.prog W 0 (fun _ => true) true Try.f4.params.toList args.toList ds p := hA0
  rw [Try.params4] at hA hval
  obtain ⟨v0, vs0, d0, ds0, p0, q0, hargs, rfl, rfl, h0, r0⟩ := trodAll_cons hA
  obtain ⟨v1, vs1, d1, ds1, p1, q1, rfl, rfl, rfl, h1, r1⟩ := trodAll_cons r0
  obtain ⟨rfl, rfl, rfl⟩ := trodAll_nil r1
  obtain rfl : args = #[v0, v1] := by cases args; simp_all
  obtain ⟨rfl, rfl⟩ := trodVars_none hV
  obtain ⟨a0, b0, rfl, w0, u0⟩ := OpenG.goal_of (hval 0 23 v0 rfl rfl) h0
  have k0 := h0
  have lt0 : ∀ x ∈ p0, x.block < W.heap.size := fun x hx => by have := hW'.lt x (by simp [hx]); simpa using this
  obtain ⟨A1, n1, c1, rfl⟩ := okWide_slice Try.underlying28 (hval 1 28 v1 rfl rfl)
  have k1 := h1
  have lt1 : ∀ x ∈ p1, x.block < W.heap.size := fun x hx => by have := hW'.lt x (by simp [hx]); simpa using this
  obtain ⟨fu1, hf1⟩ := h1
  obtain ⟨a1, ht1, hc1, hm1, w1⟩ := OpenG.ints_of hf1 lt1
  clear hA0
  simp only [List.append_nil] at hW'
  refine (law_any a0 b0 A1 n1 c1 a1 W ht1 hc1 hm1).mono fun e W' ⟨he, hg⟩ => ?_
  subst he
  exact ⟨_, rfl, _, _, _, [], (p0 ++ (p1 ++ [])), [], hW', trodAll_cons_mk (shut_bool Try.underlying4 _) trodAll_mk0, trodAll_cons_mk (Below.trod laidOut (by kernel_rfl) (of_decide_eq_true (by kernel_rfl)) k0 hg lt0) (trodAll_cons_mk (Below.trod laidOut (by kernel_rfl) (of_decide_eq_true (by kernel_rfl)) k1 hg lt1) trodAll_mk0), rfl, hg.frame _, fun h => by cases h⟩

theorem own : ownKnob Try.prog.godebug = none := by kernel_rfl

set_option maxRecDepth 100000 in
theorem lifted (os : Os) (started : os.Started) (H : Type) (enc : TypeId × Value → H) :
    ReturnsInHanded {} Try.checked os 4 .any (Rows.fnExactScoreOfSpec.pre6 enc Try.prog Try.f4 Rows.fnExactScoreOfRow.domain false) (Rows.fnExactScoreOfSpec.post enc Try.prog Try.f4 false true false false) := by
  refine returnsInHanded_of_change (C := Try.checked) own started (by kernel_rfl) Try.func4
    (ChangeSpec.witness6 (enc := enc) (C := Try.checked) false ⟨#[], #[.agg #[.int .i64 0, .int .i64 0], .slice none 0 0], []⟩ 8 (by kernel_rfl) (by kernel_rfl) (by kernel_rfl) (by kernel_rfl)) ?_
  intro W base args ds gs before hval hW _ _
  exact contract H enc W base args ds gs before hval hW

theorem holds : Rows.FnExactScoreOfSaid :=
  OpenClaim.holds_of_wide 4 Try.f4 rfl rfl rfl rfl rfl rfl rfl ⟨rfl, rfl, rfl, rfl, rfl⟩ rfl rfl rfl rfl rfl (by kernel_rfl) Try.func4 (by kernel_rfl)
    (of_decide_eq_true (by kernel_rfl)) (by unfold Func.isWrapper; rw [if_neg (by decide +kernel)]; exact ⟨rfl, rfl⟩)
    (fun os started H enc _ => lifted os started H enc)

end ScoreOfP
end Go.Proofs.Ytppaegibhikjnaa
