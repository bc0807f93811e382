/-
  FnExactLeastShift: for every two arrays of six numbers the law returns true, and both read afterwards as they read before. No condition.
-/
import Derived.Test.YtllcjgladjcoaaaRows
import Derived.Test.YtllcjgladjcoaaaLeastShW
import Derived.Test.YtllcjgladjcoaaaCompW
import Derived.Test.YtllcjgladjcoaaaQuietD
import Derived.Test.YtllcjgladjcoaaaDieW
import Derived.Test.YtllcjgladjcoaaaSortW
import Derived.Test.YtllcjgladjcoaaaOpenD
import Derived.WalkKit
import Derived.WalkLawsBesides
import Derived.WalkSpells
import Derived.ProofKit
import Derived.OpenShut
import Derived.Deep.RegionWith
import Derived.Deep.QuietTactic
import Derived.BigQuiet
namespace Go.Proofs.Ytllcjgladjcoaaa
open Go.ChangeShapes Go.WideShapes Go.ChangeAt Go.RowKit
open Go.ChangeMaps (open_string shut_string)

namespace LeastShP
open Dice Arr DieW SortW QuietD Duel CompW LeastShW

set_option maxHeartbeats 4000000 in
theorem law_any (d g : Nat → Int) (w : World) : Calls Try.prog 13 #[dv d, dv g] w fun e w' => e = .returned (.bool true) ∧ Below w.heap.size w w' := by
  have Ht := Lib.hid toA6_any
  obtain ⟨x, b, ho⟩ : ∃ x b, outL d g = #[.int .i64 x, .bool b] := by
    unfold outL
    cases okD d g
    · exact ⟨_, _, rfl⟩
    · exact ⟨_, _, rfl⟩
  have hs := specLeast_any d g
  have hi := implLeast_any d g
  rw [ho] at hs hi
  have Hs := Lib.hid hs; clear hs
  have Hi := Lib.hid hi; clear hi
  clear ho
  have hd := (At.new6 w d 22 rfl).past (sixO g 22)
  have hg := At.new6 (w.alloc (sixO d 22)) g 22 (b := w.heap.size + 1) (by rw [size_alloc])
  have hB := na (na (n0 w) (sixO d 22)) (sixO g 22)
  show Calls Try.prog 13 #[.agg #[.int .i64 (d 0), .int .i64 (d 1), .int .i64 (d 2), .int .i64 (d 3), .int .i64 (d 4), .int .i64 (d 5)], .agg #[.int .i64 (g 0), .int .i64 (g 1), .int .i64 (g 2), .int .i64 (g 3), .int .i64 (g 4), .int .i64 (g 5)]] w fun e w' => e = .returned (.bool true) ∧ Below w.heap.size w w'
  go_enter Try.func13, Try.ntmps13
  go_wp2_with fail
  generalize (w.alloc (sixO d 22)).alloc (sixO g 22) = W at hd hg hB ⊢
  refine wp_region_quiet (C := fun w' => Below w.heap.size w w' ∧ At w' w.heap.size 6 d ∧ At w' (w.heap.size + 1) 6 g) (by kernel_rfl) (by kernel_rfl) ⟨hB.drew, hd.drew, hg.drew⟩ ?_
  clear hd hg hB
  refine BigFrame.wpQuiet_want rfl (fun K hK => quiet_ld6 _ rfl rfl (fun _ h => h.2.1) (hK _ ?_)); clear hK K; go_simp
  refine BigFrame.wpQuiet_want rfl (fun K hK => ⟨dv d, fun w' hw' => ?_, hK _ ?_⟩)
  · clear hK K
    have Hw := Lib.hid hw'; clear hw'
    go_simp
    refine (Ht.out d _).mono ?_
    rintro e w5 ⟨rfl, hb⟩
    exact ⟨rfl, nx Hw.out.1 hb, Hw.out.2.1.up hb, Hw.out.2.2.up hb⟩
  clear hK K; go_simp
  refine BigFrame.wpQuiet_want rfl (fun K hK => quiet_ld6 _ rfl rfl (fun _ h => h.2.2) (hK _ ?_)); clear hK K; go_simp
  refine BigFrame.wpQuiet_want rfl (fun K hK => ⟨dv g, fun w' hw' => ?_, hK _ ?_⟩)
  · clear hK K
    have Hw := Lib.hid hw'; clear hw'
    go_simp
    refine (Ht.out g _).mono ?_
    rintro e w5 ⟨rfl, hb⟩
    exact ⟨rfl, nx Hw.out.1 hb, Hw.out.2.1.up hb, Hw.out.2.2.up hb⟩
  clear hK K; go_simp
  refine BigFrame.wpQuiet_want rfl (fun K hK => ⟨.tuple #[.int .i64 x, .bool b], fun w' hw' => ?_, hK _ ?_⟩)
  · clear hK K
    have Hw := Lib.hid hw'; clear hw'
    go_simp
    refine (Hs.out _).mono ?_
    rintro e w5 ⟨rfl, hb⟩
    exact ⟨rfl, nx Hw.out.1 hb, Hw.out.2.1.up hb, Hw.out.2.2.up hb⟩
  clear hK K; go_simp
  refine BigFrame.wpQuiet_want rfl (fun K hK => BigFrame.quiet_move _ rfl (hK _ ?_)); clear hK K; go_simp
  refine BigFrame.wpQuiet_want rfl (fun K hK => ?_); go_big_quiet_op; refine ⟨_, fun _ _ _ _ => rfl, hK _ ?_⟩; clear hK K; go_simp
  refine BigFrame.wpQuiet_want rfl (fun K hK => ?_); go_big_quiet_op; refine ⟨_, fun _ _ _ _ => rfl, hK _ ?_⟩; clear hK K; go_simp
  refine BigFrame.wpQuiet_want rfl (fun K hK => BigFrame.quiet_assign _ rfl (hK _ ?_)); clear hK K; go_simp
  refine BigFrame.wpQuiet_want rfl (fun K hK => BigFrame.quiet_assign _ rfl (hK _ ?_)); clear hK K; go_simp
  refine wpQuiet_nil ?_
  intro w2 hB hd hg
  go_wp2_with fail
  refine wp_region_quiet (C := fun w' => Below w.heap.size w w' ∧ At w' w.heap.size 6 d ∧ At w' (w.heap.size + 1) 6 g) (by kernel_rfl) (by kernel_rfl) ⟨hB.drew, hd.drew, hg.drew⟩ ?_
  clear hd hg hB
  refine BigFrame.wpQuiet_want rfl (fun K hK => quiet_ld6 _ rfl rfl (fun _ h => h.2.1) (hK _ ?_)); clear hK K; go_simp
  refine BigFrame.wpQuiet_want rfl (fun K hK => ⟨dv d, fun w' hw' => ?_, hK _ ?_⟩)
  · clear hK K
    have Hw := Lib.hid hw'; clear hw'
    go_simp
    refine (Ht.out d _).mono ?_
    rintro e w5 ⟨rfl, hb⟩
    exact ⟨rfl, nx Hw.out.1 hb, Hw.out.2.1.up hb, Hw.out.2.2.up hb⟩
  clear hK K; go_simp
  refine BigFrame.wpQuiet_want rfl (fun K hK => quiet_ld6 _ rfl rfl (fun _ h => h.2.2) (hK _ ?_)); clear hK K; go_simp
  refine BigFrame.wpQuiet_want rfl (fun K hK => ⟨dv g, fun w' hw' => ?_, hK _ ?_⟩)
  · clear hK K
    have Hw := Lib.hid hw'; clear hw'
    go_simp
    refine (Ht.out g _).mono ?_
    rintro e w5 ⟨rfl, hb⟩
    exact ⟨rfl, nx Hw.out.1 hb, Hw.out.2.1.up hb, Hw.out.2.2.up hb⟩
  clear hK K; go_simp
  refine BigFrame.wpQuiet_want rfl (fun K hK => ⟨.tuple #[.int .i64 x, .bool b], fun w' hw' => ?_, hK _ ?_⟩)
  · clear hK K
    have Hw := Lib.hid hw'; clear hw'
    go_simp
    refine (Hi.out _).mono ?_
    rintro e w5 ⟨rfl, hb⟩
    exact ⟨rfl, nx Hw.out.1 hb, Hw.out.2.1.up hb, Hw.out.2.2.up hb⟩
  clear hK K; go_simp
  refine BigFrame.wpQuiet_want rfl (fun K hK => BigFrame.quiet_move _ rfl (hK _ ?_)); clear hK K; go_simp
  refine BigFrame.wpQuiet_want rfl (fun K hK => ?_); go_big_quiet_op; refine ⟨_, fun _ _ _ _ => rfl, hK _ ?_⟩; clear hK K; go_simp
  refine BigFrame.wpQuiet_want rfl (fun K hK => ?_); go_big_quiet_op; refine ⟨_, fun _ _ _ _ => rfl, hK _ ?_⟩; clear hK K; go_simp
  refine BigFrame.wpQuiet_want rfl (fun K hK => BigFrame.quiet_assign _ rfl (hK _ ?_)); clear hK K; go_simp
  refine BigFrame.wpQuiet_want rfl (fun K hK => BigFrame.quiet_assign _ rfl (hK _ ?_)); clear hK K; go_simp
  refine wpQuiet_nil ?_
  intro w3 hB hd hg
  go_wp2_with fail
  cases b
  all_goals
    go_wp2_with fail
    go_ret
    exact ⟨rfl, hB⟩

theorem laidOut : laidOutB Try.prog = true := by kernel_rfl
set_option maxRecDepth 100000 in
/-- What the walk gives, for every argument. -/
theorem contract (H : Type) (enc : TypeId × Value → H) (W : World) (base : Nat) (args : Array Value) (ds gs : List (DataW H)) (before : List MemPlace)
    (hval : ∀ (j : Nat) t v, Try.f13.params[j]? = some t → args[j]? = some v → Value.okWide Try.prog W .any base t v)
    (hW : DataW.Whole enc Try.prog Try.f13.params.toList Rows.fnExactLeastShiftSpec.vars false W args.toList ds gs before) :
    Calls Try.prog 13 args W fun e W' => ∃ v, e = .returned v ∧ Rows.fnExactLeastShiftSpec.post enc Try.prog Try.f13 false true false false W args v W' := by
  have hW' := hW
  obtain ⟨p, q, hA0, hV, rfl, hfz, hnd⟩ := hW
  have hA : DataW.TrodAll enc Try.prog W 0 (fun _ => true) true Try.f13.params.toList args.toList ds p := hA0
  rw [Try.params13] at hA hval
  obtain ⟨v0, vs0, d0, ds0, p0, q0, hargs, rfl, rfl, h0, r0⟩ := trodAll_cons hA
  obtain ⟨v1, vs1, d1, ds1, p1, q1, rfl, rfl, rfl, h1, r1⟩ := trodAll_cons r0
  obtain ⟨rfl, rfl, rfl⟩ := trodAll_nil r1
  obtain rfl : args = #[v0, v1] := by cases args; simp_all
  obtain ⟨rfl, rfl⟩ := trodVars_none hV
  obtain ⟨a0, rfl, w0⟩ := OpenD.die_of (hval 0 22 v0 rfl rfl) h0
  have k0 := h0
  have lt0 : ∀ x ∈ p0, x.block < W.heap.size := fun x hx => by have := hW'.lt x (by simp [hx]); simpa using this
  obtain ⟨a1, rfl, w1⟩ := OpenD.die_of (hval 1 22 v1 rfl rfl) h1
  have k1 := h1
  have lt1 : ∀ x ∈ p1, x.block < W.heap.size := fun x hx => by have := hW'.lt x (by simp [hx]); simpa using this
  clear hA0
  simp only [List.append_nil] at hW'
  refine (law_any a0 a1 W).mono fun e W' ⟨he, hg⟩ => ?_
  subst he
  exact ⟨_, rfl, _, _, _, [], (p0 ++ (p1 ++ [])), [], hW', trodAll_cons_mk (shut_bool Try.underlying4 _) trodAll_mk0, trodAll_cons_mk (Below.trod laidOut (by kernel_rfl) (of_decide_eq_true (by kernel_rfl)) k0 hg lt0) (trodAll_cons_mk (Below.trod laidOut (by kernel_rfl) (of_decide_eq_true (by kernel_rfl)) k1 hg lt1) trodAll_mk0), rfl, hg.frame _, fun h => by cases h⟩

theorem own : ownKnob Try.prog.godebug = none := by kernel_rfl

set_option maxRecDepth 100000 in
theorem lifted (os : Os) (started : os.Started) (H : Type) (enc : TypeId × Value → H) :
    ReturnsInHanded {} Try.checked os 13 .any (Rows.fnExactLeastShiftSpec.pre6 enc Try.prog Try.f13 Rows.fnExactLeastShiftRow.domain false) (Rows.fnExactLeastShiftSpec.post enc Try.prog Try.f13 false true false false) := by
  refine returnsInHanded_of_change (C := Try.checked) own started (by kernel_rfl) Try.func13
    (ChangeSpec.witness6 (enc := enc) (C := Try.checked) false ⟨#[], #[.agg #[.int .i64 0, .int .i64 0, .int .i64 0, .int .i64 0, .int .i64 0, .int .i64 0], .agg #[.int .i64 0, .int .i64 0, .int .i64 0, .int .i64 0, .int .i64 0, .int .i64 0]], []⟩ 8 (by kernel_rfl) (by kernel_rfl) (by kernel_rfl) (by kernel_rfl)) ?_
  intro W base args ds gs before hval hW _ _
  exact contract H enc W base args ds gs before hval hW

theorem holds : Rows.FnExactLeastShiftSaid :=
  OpenClaim.holds_of_wide 13 Try.f13 rfl rfl rfl rfl rfl rfl rfl ⟨rfl, rfl, rfl, rfl, rfl⟩ rfl rfl rfl rfl rfl (by kernel_rfl) Try.func13 (by kernel_rfl)
    (of_decide_eq_true (by kernel_rfl)) (by unfold Func.isWrapper; rw [if_neg (by decide +kernel)]; exact ⟨rfl, rfl⟩)
    (fun os started H enc _ => lifted os started H enc)

end LeastShP
end Go.Proofs.Ytllcjgladjcoaaa
