/-
  FnExactAreLike: for every two pairs of arrays of six numbers the law returns true, and both pairs read afterwards as they read before. No condition.
-/
import Derived.Test.YtjdijbidpcjjdaaRows
import Derived.Test.YtjdijbidpcjjdaaLikeW
import Derived.Test.YtjdijbidpcjjdaaToP
import Derived.Test.YtjdijbidpcjjdaaGoodW
import Derived.Test.YtjdijbidpcjjdaaPairA
import Derived.Test.YtjdijbidpcjjdaaQuietR
import Derived.Test.YtjdijbidpcjjdaaSortW
import Derived.Test.YtjdijbidpcjjdaaOpenD
import Derived.WalkKit
import Derived.WalkLawsBesides
import Derived.WalkSpells
import Derived.ProofKit
import Derived.OpenShut
import Derived.Deep.RegionWith
import Derived.Deep.WholeRow
import Derived.Deep.QuietTactic
import Derived.BigQuiet
namespace Go.Proofs.Ytjdijbidpcjjdaa
open Go.ChangeShapes Go.WideShapes Go.ChangeAt Go.RowKit
open Go.ChangeMaps (open_string shut_string)

namespace LikeP
open Dice Arr DieW SortW LessW SgnW PairA ToP GoodW QuietR LikeW

set_option maxRecDepth 20000 in
set_option maxHeartbeats 8000000 in
theorem law_any (a b c d : Nat → Int) (w : World) : Calls Try.prog 5 #[pv a b, pv c d] w fun e w' => e = .returned (.bool true) ∧ Below w.heap.size w w' := by
  have ht := toPair_any
  have hs := specLike_any a b c d
  have hi := implLike_any a b c d
  generalize likeO a b c d = x at hs hi
  generalize (isPr a b && isPr c d) = y at hs hi
  unfold pv at ht hs hi
  have Ht := Lib.hid ht; clear ht
  have Hs := Lib.hid hs; clear hs
  have Hi := Lib.hid hi; clear hi
  have hp := (At.new12 w a b 24 rfl).past (twO c d 24)
  have hq := At.new12 (w.alloc (twO a b 24)) c d 24 (p := w.heap.size + 1) (by rw [size_alloc])
  have hB := na (na (n0 w) (twO a b 24)) (twO c d 24)
  unfold pv
  go_enter Try.func5, Try.ntmps5
  go_wp2_with fail
  generalize (w.alloc (twO a b 24)).alloc (twO c d 24) = W at hp hq hB ⊢
  refine wp_region_quiet (C := fun w' => Below w.heap.size w w' ∧ At w' w.heap.size 12 (pr a b) ∧ At w' (w.heap.size + 1) 12 (pr c d)) (by kernel_rfl) (by kernel_rfl) ⟨hB.drew, hp.drew, hq.drew⟩ ?_
  clear hB hp hq
  refine BigFrame.wpQuiet_want rfl (fun K hK => ?_); refine quiet_ld12L _ rfl rfl (fun _ h => h.2.1) (hK _ ?_); clear hK K; go_simp
  go_big_quiet_want; rename_i K hK; refine ⟨pv a b, fun w' hw' => ?_, hK _ ?_⟩
  · clear hK K
    have Hw := Lib.hid hw'; clear hw'
    go_simp
    refine (Ht.out a b _).mono ?_
    rintro e w5 ⟨rfl, hb⟩
    exact ⟨rfl, nx Hw.out.1 hb, Hw.out.2.1.up hb, Hw.out.2.2.up hb⟩
  clear hK K; go_simp
  go_big_quiet_want; rename_i K hK; refine quiet_ld12L _ rfl rfl (fun _ h => h.2.2) (hK _ ?_); clear hK K; go_simp
  go_big_quiet_want; rename_i K hK; refine ⟨pv c d, fun w' hw' => ?_, hK _ ?_⟩
  · clear hK K
    have Hw := Lib.hid hw'; clear hw'
    go_simp
    refine (Ht.out c d _).mono ?_
    rintro e w5 ⟨rfl, hb⟩
    exact ⟨rfl, nx Hw.out.1 hb, Hw.out.2.1.up hb, Hw.out.2.2.up hb⟩
  clear hK K; go_simp
  go_big_quiet_want; rename_i K hK; refine ⟨(.tuple #[.bool x, .bool y]), fun w' hw' => ?_, hK _ ?_⟩
  · clear hK K
    have Hw := Lib.hid hw'; clear hw'
    go_simp
    refine (Hs.out _).mono ?_
    rintro e w5 ⟨rfl, hb⟩
    exact ⟨rfl, nx Hw.out.1 hb, Hw.out.2.1.up hb, Hw.out.2.2.up hb⟩
  clear hK K; go_simp
  go_big_quiet_want; go_big_quiet_op; first | go_big_quiet_on | (rename_i K hK; refine ⟨_, by intros; rfl, hK _ ?_⟩; clear hK K; go_simp)
  go_big_quiet_want; go_big_quiet_op; first | go_big_quiet_on | (rename_i K hK; refine ⟨_, by intros; rfl, hK _ ?_⟩; clear hK K; go_simp)
  go_big_quiet_want; go_big_quiet_op; first | go_big_quiet_on | (rename_i K hK; refine ⟨_, by intros; rfl, hK _ ?_⟩; clear hK K; go_simp)
  go_big_quiet_want; go_big_quiet_op; first | go_big_quiet_on | (rename_i K hK; refine ⟨_, by intros; rfl, hK _ ?_⟩; clear hK K; go_simp)
  go_big_quiet_want; go_big_quiet_op; first | go_big_quiet_on | (rename_i K hK; refine ⟨_, by intros; rfl, hK _ ?_⟩; clear hK K; go_simp)
  refine wpQuiet_nil ?_
  intro w2 hB hp hq
  go_wp2_with fail
  refine wp_region_quiet (C := fun w' => Below w.heap.size w w' ∧ At w' w.heap.size 12 (pr a b) ∧ At w' (w.heap.size + 1) 12 (pr c d)) (by kernel_rfl) (by kernel_rfl) ⟨hB.drew, hp.drew, hq.drew⟩ ?_
  clear hB hp hq
  refine BigFrame.wpQuiet_want rfl (fun K hK => ?_); refine quiet_ld12L _ rfl rfl (fun _ h => h.2.1) (hK _ ?_); clear hK K; go_simp
  go_big_quiet_want; rename_i K hK; refine ⟨pv a b, fun w' hw' => ?_, hK _ ?_⟩
  · clear hK K
    have Hw := Lib.hid hw'; clear hw'
    go_simp
    refine (Ht.out a b _).mono ?_
    rintro e w5 ⟨rfl, hb⟩
    exact ⟨rfl, nx Hw.out.1 hb, Hw.out.2.1.up hb, Hw.out.2.2.up hb⟩
  clear hK K; go_simp
  go_big_quiet_want; rename_i K hK; refine quiet_ld12L _ rfl rfl (fun _ h => h.2.2) (hK _ ?_); clear hK K; go_simp
  go_big_quiet_want; rename_i K hK; refine ⟨pv c d, fun w' hw' => ?_, hK _ ?_⟩
  · clear hK K
    have Hw := Lib.hid hw'; clear hw'
    go_simp
    refine (Ht.out c d _).mono ?_
    rintro e w5 ⟨rfl, hb⟩
    exact ⟨rfl, nx Hw.out.1 hb, Hw.out.2.1.up hb, Hw.out.2.2.up hb⟩
  clear hK K; go_simp
  go_big_quiet_want; rename_i K hK; refine ⟨(.tuple #[.bool x, .bool y]), fun w' hw' => ?_, hK _ ?_⟩
  · clear hK K
    have Hw := Lib.hid hw'; clear hw'
    go_simp
    refine (Hi.out _).mono ?_
    rintro e w5 ⟨rfl, hb⟩
    exact ⟨rfl, nx Hw.out.1 hb, Hw.out.2.1.up hb, Hw.out.2.2.up hb⟩
  clear hK K; go_simp
  go_big_quiet_want; go_big_quiet_op; first | go_big_quiet_on | (rename_i K hK; refine ⟨_, by intros; rfl, hK _ ?_⟩; clear hK K; go_simp)
  go_big_quiet_want; go_big_quiet_op; first | go_big_quiet_on | (rename_i K hK; refine ⟨_, by intros; rfl, hK _ ?_⟩; clear hK K; go_simp)
  go_big_quiet_want; go_big_quiet_op; first | go_big_quiet_on | (rename_i K hK; refine ⟨_, by intros; rfl, hK _ ?_⟩; clear hK K; go_simp)
  go_big_quiet_want; go_big_quiet_op; first | go_big_quiet_on | (rename_i K hK; refine ⟨_, by intros; rfl, hK _ ?_⟩; clear hK K; go_simp)
  go_big_quiet_want; go_big_quiet_op; first | go_big_quiet_on | (rename_i K hK; refine ⟨_, by intros; rfl, hK _ ?_⟩; clear hK K; go_simp)
  refine wpQuiet_nil ?_
  intro w3 hB hp hq
  go_wp2_with fail
  cases x
  all_goals
    cases y
    all_goals
      go_wp2_with fail
      go_ret
      exact ⟨rfl, hB⟩

theorem laidOut : laidOutB Try.prog = true := by kernel_rfl
set_option maxRecDepth 100000 in
/-- What the walk gives, for every argument. -/
theorem contract (H : Type) (enc : TypeId × Value → H) (W : World) (base : Nat) (args : Array Value) (ds gs : List (DataW H)) (before : List MemPlace)
    (hval : ∀ (j : Nat) t v, Try.f5.params[j]? = some t → args[j]? = some v → Value.okWide Try.prog W .any base t v)
    (hW : DataW.Whole enc Try.prog Try.f5.params.toList Rows.fnExactAreLikeSpec.vars false W args.toList ds gs before) :
    Calls Try.prog 5 args W fun e W' => ∃ v, e = .returned v ∧ Rows.fnExactAreLikeSpec.post enc Try.prog Try.f5 false true false false W args v W' := by
  have hW' := hW
  obtain ⟨p, q, hA0, hV, rfl, hfz, hnd⟩ := hW
  have hA : DataW.TrodAll enc Try.prog W 0 (fun _ => true) true Try.f5.params.toList args.toList ds p := hA0
  rw [Try.params5] at hA hval
  obtain ⟨v0, vs0, d0, ds0, p0, q0, hargs, rfl, rfl, h0, r0⟩ := trodAll_cons hA
  obtain ⟨v1, vs1, d1, ds1, p1, q1, rfl, rfl, rfl, h1, r1⟩ := trodAll_cons r0
  obtain ⟨rfl, rfl, rfl⟩ := trodAll_nil r1
  obtain rfl : args = #[v0, v1] := by cases args; simp_all
  obtain ⟨rfl, rfl⟩ := trodVars_none hV
  obtain ⟨a0, b0, rfl, w0, u0⟩ := PairA.pair_of (hval 0 24 v0 rfl rfl) h0
  have k0 := h0
  have lt0 : ∀ x ∈ p0, x.block < W.heap.size := fun x hx => by have := hW'.lt x (by simp [hx]); simpa using this
  obtain ⟨a1, b1, rfl, w1, u1⟩ := PairA.pair_of (hval 1 24 v1 rfl rfl) h1
  have k1 := h1
  have lt1 : ∀ x ∈ p1, x.block < W.heap.size := fun x hx => by have := hW'.lt x (by simp [hx]); simpa using this
  clear hA0
  simp only [List.append_nil] at hW'
  refine (law_any a0 b0 a1 b1 W).mono fun e W' ⟨he, hg⟩ => ?_
  subst he
  exact ⟨_, rfl, _, _, _, [], (p0 ++ (p1 ++ [])), [], hW', trodAll_cons_mk (shut_bool Try.underlying4 _) trodAll_mk0, trodAll_cons_mk (Below.trod laidOut (by kernel_rfl) (of_decide_eq_true (by kernel_rfl)) k0 hg lt0) (trodAll_cons_mk (Below.trod laidOut (by kernel_rfl) (of_decide_eq_true (by kernel_rfl)) k1 hg lt1) trodAll_mk0), rfl, hg.frame _, fun h => by cases h⟩

theorem own : ownKnob Try.prog.godebug = none := by kernel_rfl

set_option maxRecDepth 100000 in
theorem lifted (os : Os) (started : os.Started) (H : Type) (enc : TypeId × Value → H) :
    ReturnsInHanded {} Try.checked os 5 .any (Rows.fnExactAreLikeSpec.pre6 enc Try.prog Try.f5 Rows.fnExactAreLikeRow.domain false) (Rows.fnExactAreLikeSpec.post enc Try.prog Try.f5 false true false false) := by
  refine returnsInHanded_of_change (C := Try.checked) own started (by kernel_rfl) Try.func5
    (ChangeSpec.witness6 (enc := enc) (C := Try.checked) false ⟨#[], #[.agg #[.int .i64 0, .int .i64 0, .int .i64 0, .int .i64 0, .int .i64 0, .int .i64 0, .int .i64 0, .int .i64 0, .int .i64 0, .int .i64 0, .int .i64 0, .int .i64 0], .agg #[.int .i64 0, .int .i64 0, .int .i64 0, .int .i64 0, .int .i64 0, .int .i64 0, .int .i64 0, .int .i64 0, .int .i64 0, .int .i64 0, .int .i64 0, .int .i64 0]], []⟩ 8 (by kernel_rfl) (by kernel_rfl) (by kernel_rfl) (by kernel_rfl)) ?_
  intro W base args ds gs before hval hW _ _
  exact contract H enc W base args ds gs before hval hW

theorem holds : Rows.FnExactAreLikeSaid :=
  OpenClaim.holds_of_wide 5 Try.f5 rfl rfl rfl rfl rfl rfl rfl ⟨rfl, rfl, rfl, rfl, rfl⟩ rfl rfl rfl rfl rfl (by kernel_rfl) Try.func5 (by kernel_rfl)
    (of_decide_eq_true (by kernel_rfl)) (by unfold Func.isWrapper; rw [if_neg (by decide +kernel)]; exact ⟨rfl, rfl⟩)
    (fun os started H enc _ => lifted os started H enc)

end LikeP
end Go.Proofs.Ytjdijbidpcjjdaa
