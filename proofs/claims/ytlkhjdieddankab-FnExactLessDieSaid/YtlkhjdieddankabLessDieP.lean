/-
  FnExactLessDie: for every two arrays of six numbers the law returns true, and both read afterwards as they read before. No condition.
-/
import Derived.Test.YtlkhjdieddankabRows
import Derived.Test.YtlkhjdieddankabLessW
import Derived.Test.YtlkhjdieddankabSortW
import Derived.Test.YtlkhjdieddankabOpenD
import Derived.WalkKit
import Derived.WalkLawsBesides
import Derived.WalkSpells
import Derived.ProofKit
import Derived.OpenShut
import Derived.Deep.RegionWith
import Derived.Deep.QuietTactic
import Derived.BigQuiet
namespace Go.Proofs.Ytlkhjdieddankab
open Go.ChangeShapes Go.WideShapes Go.ChangeAt Go.RowKit
open Go.ChangeMaps (open_string shut_string)

namespace LessDieP
open Dice Arr DieW SortW LessW


set_option maxHeartbeats 2000000 in
theorem specLess_any (a b : Nat → Int) (w : World) :
    Calls Try.prog 21 #[dv a, dv b] w fun e w' => e = .returned (.tuple (if isDie a && isDie b then #[.bool (bef a b), .bool true] else #[.bool false, .bool false])) ∧ Below w.heap.size w w' := by
  have ha := l2Die_any a
  have hb := l2Die_any b
  have hd1 := (At.new6 w a 22 rfl).past (sixO b 22)
  have hd2 := At.new6 (w.alloc (sixO a 22)) b 22 (b := w.heap.size + 1) (by rw [size_alloc])
  have hB0 := na (na (n0 w) (sixO a 22)) (sixO b 22)
  cases hqa : isDie a
  · rw [hqa] at ha
    simp only [Bool.false_and, Bool.false_eq_true, ↓reduceIte]
    unfold dv at ha
    have Ha := Lib.hid ha; clear ha hb hqa
    unfold dv
    go_enter Try.func21, Try.ntmps21
    go_wp2_with fail
    refine (Ha.out _).mono ?_
    rintro e w1 ⟨rfl, hb1⟩
    go_wp2_with fail
    go_ret2
    exact ⟨rfl, nx hB0 hb1⟩
  cases hqb : isDie b
  · rw [hqa] at ha
    rw [hqb] at hb
    simp only [Bool.and_false, Bool.false_eq_true, ↓reduceIte]
    unfold dv at ha hb
    have Ha := Lib.hid ha; clear ha hqa hqb
    have Hb := Lib.hid hb; clear hb
    unfold dv
    go_enter Try.func21, Try.ntmps21
    go_wp2_with fail
    refine (Ha.out _).mono ?_
    rintro e w1 ⟨rfl, hb1⟩
    obtain ⟨x0, x1, x2, x3, x4, x5⟩ := (hd2.up hb1).six
    go_wp2_with fail
    refine (Hb.out _).mono ?_
    rintro e w2 ⟨rfl, hb2⟩
    go_wp2_with fail
    go_ret2
    exact ⟨rfl, nx (nx hB0 hb1) hb2⟩
  · rw [hqa] at ha
    rw [hqb] at hb
    simp only [Bool.and_self, ↓reduceIte]
    have hc := before_any a b
    unfold dv at ha hb hc
    have Ha := Lib.hid ha; clear ha hqa hqb
    have Hb := Lib.hid hb; clear hb
    have Hc := Lib.hid hc; clear hc
    unfold dv
    go_enter Try.func21, Try.ntmps21
    go_wp2_with fail
    refine (Ha.out _).mono ?_
    rintro e w1 ⟨rfl, hb1⟩
    obtain ⟨x0, x1, x2, x3, x4, x5⟩ := (hd2.up hb1).six
    go_wp2_with fail
    refine (Hb.out _).mono ?_
    rintro e w2 ⟨rfl, hb2⟩
    obtain ⟨y0, y1, y2, y3, y4, y5⟩ := ((hd1.up hb1).up hb2).six
    obtain ⟨x0, x1, x2, x3, x4, x5⟩ := ((hd2.up hb1).up hb2).six
    go_wp2_with fail
    refine (Hc.out _).mono ?_
    rintro e w3 ⟨rfl, hb3⟩
    go_wp2_with fail
    go_ret2
    exact ⟨rfl, nx (nx (nx hB0 hb1) hb2) hb3⟩

set_option maxHeartbeats 2000000 in
theorem implLess_any (a b : Nat → Int) (w : World) :
    Calls Try.prog 22 #[dv a, dv b] w fun e w' => e = .returned (.tuple (if isDie a && isDie b then #[.bool (bef a b), .bool true] else #[.bool false, .bool false])) ∧ Below w.heap.size w w' := by
  have ha := implIsDie_any a
  have hb := implIsDie_any b
  have hd1 := (At.new6 w a 22 rfl).past (sixO b 22)
  have hd2 := At.new6 (w.alloc (sixO a 22)) b 22 (b := w.heap.size + 1) (by rw [size_alloc])
  have hB0 := na (na (n0 w) (sixO a 22)) (sixO b 22)
  cases hqa : isDie a
  · rw [hqa] at ha
    simp only [Bool.false_and, Bool.false_eq_true, ↓reduceIte]
    unfold dv at ha
    have Ha := Lib.hid ha; clear ha hb hqa
    unfold dv
    go_enter Try.func22, Try.ntmps22
    go_wp2_with fail
    refine (Ha.out _).mono ?_
    rintro e w1 ⟨rfl, hb1⟩
    go_wp2_with fail
    go_ret2
    exact ⟨rfl, nx hB0 hb1⟩
  cases hqb : isDie b
  · rw [hqa] at ha
    rw [hqb] at hb
    simp only [Bool.and_false, Bool.false_eq_true, ↓reduceIte]
    unfold dv at ha hb
    have Ha := Lib.hid ha; clear ha hqa hqb
    have Hb := Lib.hid hb; clear hb
    unfold dv
    go_enter Try.func22, Try.ntmps22
    go_wp2_with fail
    refine (Ha.out _).mono ?_
    rintro e w1 ⟨rfl, hb1⟩
    obtain ⟨x0, x1, x2, x3, x4, x5⟩ := (hd2.up hb1).six
    go_wp2_with fail
    refine (Hb.out _).mono ?_
    rintro e w2 ⟨rfl, hb2⟩
    go_wp2_with fail
    go_ret2
    exact ⟨rfl, nx (nx hB0 hb1) hb2⟩
  · rw [hqa] at ha
    rw [hqb] at hb
    simp only [Bool.and_self, ↓reduceIte]
    have hc := compareDice_any a b
    unfold dv at ha hb hc
    have Ha := Lib.hid ha; clear ha hqa hqb
    have Hb := Lib.hid hb; clear hb
    have Hc := Lib.hid hc; clear hc
    unfold dv
    go_enter Try.func22, Try.ntmps22
    go_wp2_with fail
    refine (Ha.out _).mono ?_
    rintro e w1 ⟨rfl, hb1⟩
    obtain ⟨x0, x1, x2, x3, x4, x5⟩ := (hd2.up hb1).six
    go_wp2_with fail
    refine (Hb.out _).mono ?_
    rintro e w2 ⟨rfl, hb2⟩
    obtain ⟨y0, y1, y2, y3, y4, y5⟩ := ((hd1.up hb1).up hb2).six
    obtain ⟨x0, x1, x2, x3, x4, x5⟩ := ((hd2.up hb1).up hb2).six
    go_wp2_with fail
    refine (Hc.out _).mono ?_
    rintro e w3 ⟨⟨c, rfl, hcl⟩, hb3⟩
    have Hcl := Lib.hid hcl; clear hcl
    go_wp2_with fail
    go_ret2
    exact ⟨by rw [← Hcl.out]; rfl, nx (nx (nx hB0 hb1) hb2) hb3⟩

end LessDieP
namespace Arr
theorem At.sd {w w2 : World} {b n : Nat} {f : Nat → Int} (h : At w b n f) (hb : Below w.drew.heap.size w.drew w2) : At w2 b n f := h.drew.up hb
theorem sdB {w0 w w2 : World} (h : Below w0.heap.size w0 w) (hb : Below w.drew.heap.size w.drew w2) : Below w0.heap.size w0 w2 := nx h.drew hb
end Arr
namespace LessDieP
open Dice Arr DieW SortW LessW
set_option maxHeartbeats 16000000 in
theorem law_any (d g : Nat → Int) (w : World) : Calls Try.prog 6 #[dv d, dv g] w fun e w' => e = .returned (.bool true) ∧ Below w.heap.size w w' := by
  have ht := toA6_any
  obtain ⟨x, b, ho⟩ : ∃ x b, (if isDie d && isDie g then #[.bool (bef d g), .bool true] else #[.bool false, .bool false] : Array Value) = #[.bool x, .bool b] := by
    cases (isDie d && isDie g)
    · exact ⟨false, false, rfl⟩
    · exact ⟨_, true, rfl⟩
  have hs := specLess_any d g
  have hi := implLess_any d g
  rw [ho] at hs hi
  unfold dv at ht hs hi
  have Ht := Lib.hid ht; clear ht
  have Hs := Lib.hid hs; clear hs
  have Hi := Lib.hid hi; clear hi
  clear ho
  have hd := (At.new6 w d 22 rfl).past (sixO g 22)
  have hg := At.new6 (w.alloc (sixO d 22)) g 22 (b := w.heap.size + 1) (by rw [size_alloc])
  have hB := na (na (n0 w) (sixO d 22)) (sixO g 22)
  unfold dv
  go_enter Try.func6, Try.ntmps6
  go_wp2_with fail
  generalize (w.alloc (sixO d 22)).alloc (sixO g 22) = W at hd hg hB ⊢
  obtain ⟨x0, x1, x2, x3, x4, x5⟩ := hd.six
  obtain ⟨y0, y1, y2, y3, y4, y5⟩ := hg.six
  go_region_with (first | (go_at_call_of 9 (d 0); refine (Ht.out d _).mono ?_; rintro e w1 ⟨rfl, hb1⟩; first | (replace hd := hd.up hb1; replace hg := hg.up hb1; replace hB := nx hB hb1; clear hb1 x0 x1 x2 x3 x4 x5 y0 y1 y2 y3 y4 y5; obtain ⟨x0, x1, x2, x3, x4, x5⟩ := hd.six; obtain ⟨y0, y1, y2, y3, y4, y5⟩ := hg.six) | (replace hd := At.sd hd hb1; replace hg := At.sd hg hb1; replace hB := sdB hB hb1; clear hb1 x0 x1 x2 x3 x4 x5 y0 y1 y2 y3 y4 y5; obtain ⟨x0, x1, x2, x3, x4, x5⟩ := hd.six; obtain ⟨y0, y1, y2, y3, y4, y5⟩ := hg.six)) | (go_at_call_of 9 (g 0); refine (Ht.out g _).mono ?_; rintro e w1 ⟨rfl, hb1⟩; first | (replace hd := hd.up hb1; replace hg := hg.up hb1; replace hB := nx hB hb1; clear hb1 x0 x1 x2 x3 x4 x5 y0 y1 y2 y3 y4 y5; obtain ⟨x0, x1, x2, x3, x4, x5⟩ := hd.six; obtain ⟨y0, y1, y2, y3, y4, y5⟩ := hg.six) | (replace hd := At.sd hd hb1; replace hg := At.sd hg hb1; replace hB := sdB hB hb1; clear hb1 x0 x1 x2 x3 x4 x5 y0 y1 y2 y3 y4 y5; obtain ⟨x0, x1, x2, x3, x4, x5⟩ := hd.six; obtain ⟨y0, y1, y2, y3, y4, y5⟩ := hg.six)) | (go_at_call 21; refine (Hs.out _).mono ?_; rintro e w1 ⟨rfl, hb1⟩; first | (replace hd := hd.up hb1; replace hg := hg.up hb1; replace hB := nx hB hb1; clear hb1 x0 x1 x2 x3 x4 x5 y0 y1 y2 y3 y4 y5; obtain ⟨x0, x1, x2, x3, x4, x5⟩ := hd.six; obtain ⟨y0, y1, y2, y3, y4, y5⟩ := hg.six) | (replace hd := At.sd hd hb1; replace hg := At.sd hg hb1; replace hB := sdB hB hb1; clear hb1 x0 x1 x2 x3 x4 x5 y0 y1 y2 y3 y4 y5; obtain ⟨x0, x1, x2, x3, x4, x5⟩ := hd.six; obtain ⟨y0, y1, y2, y3, y4, y5⟩ := hg.six)))
  all_goals
    go_wp2_with fail
    go_region_with (first | (go_at_call_of 9 (d 0); refine (Ht.out d _).mono ?_; rintro e w1 ⟨rfl, hb1⟩; first | (replace hd := hd.up hb1; replace hg := hg.up hb1; replace hB := nx hB hb1; clear hb1 x0 x1 x2 x3 x4 x5 y0 y1 y2 y3 y4 y5; obtain ⟨x0, x1, x2, x3, x4, x5⟩ := hd.six; obtain ⟨y0, y1, y2, y3, y4, y5⟩ := hg.six) | (replace hd := At.sd hd hb1; replace hg := At.sd hg hb1; replace hB := sdB hB hb1; clear hb1 x0 x1 x2 x3 x4 x5 y0 y1 y2 y3 y4 y5; obtain ⟨x0, x1, x2, x3, x4, x5⟩ := hd.six; obtain ⟨y0, y1, y2, y3, y4, y5⟩ := hg.six)) | (go_at_call_of 9 (g 0); refine (Ht.out g _).mono ?_; rintro e w1 ⟨rfl, hb1⟩; first | (replace hd := hd.up hb1; replace hg := hg.up hb1; replace hB := nx hB hb1; clear hb1 x0 x1 x2 x3 x4 x5 y0 y1 y2 y3 y4 y5; obtain ⟨x0, x1, x2, x3, x4, x5⟩ := hd.six; obtain ⟨y0, y1, y2, y3, y4, y5⟩ := hg.six) | (replace hd := At.sd hd hb1; replace hg := At.sd hg hb1; replace hB := sdB hB hb1; clear hb1 x0 x1 x2 x3 x4 x5 y0 y1 y2 y3 y4 y5; obtain ⟨x0, x1, x2, x3, x4, x5⟩ := hd.six; obtain ⟨y0, y1, y2, y3, y4, y5⟩ := hg.six)) | (go_at_call 22; refine (Hi.out _).mono ?_; rintro e w1 ⟨rfl, hb1⟩; first | (replace hd := hd.up hb1; replace hg := hg.up hb1; replace hB := nx hB hb1; clear hb1 x0 x1 x2 x3 x4 x5 y0 y1 y2 y3 y4 y5; obtain ⟨x0, x1, x2, x3, x4, x5⟩ := hd.six; obtain ⟨y0, y1, y2, y3, y4, y5⟩ := hg.six) | (replace hd := At.sd hd hb1; replace hg := At.sd hg hb1; replace hB := sdB hB hb1; clear hb1 x0 x1 x2 x3 x4 x5 y0 y1 y2 y3 y4 y5; obtain ⟨x0, x1, x2, x3, x4, x5⟩ := hd.six; obtain ⟨y0, y1, y2, y3, y4, y5⟩ := hg.six)))
    all_goals
      clear x0 x1 x2 x3 x4 x5 y0 y1 y2 y3 y4 y5
      cases b
      all_goals
        cases x
        all_goals
          go_wp2_with fail
          go_ret
          exact ⟨rfl, hB⟩

theorem laidOut : laidOutB Try.prog = true := by kernel_rfl
/-- What the walk gives, for every argument. -/
theorem contract (H : Type) (enc : TypeId × Value → H) (W : World) (base : Nat) (args : Array Value) (ds gs : List (DataW H)) (before : List MemPlace)
    (hval : ∀ (j : Nat) t v, Try.f6.params[j]? = some t → args[j]? = some v → Value.okWide Try.prog W .any base t v)
    (hW : DataW.Whole enc Try.prog Try.f6.params.toList Rows.fnExactLessDieSpec.vars false W args.toList ds gs before) :
    Calls Try.prog 6 args W fun e W' => ∃ v, e = .returned v ∧ Rows.fnExactLessDieSpec.post enc Try.prog Try.f6 false true false false W args v W' := by
  have hW' := hW
  obtain ⟨p, q, hA0, hV, rfl, hfz, hnd⟩ := hW
  have hA : DataW.TrodAll enc Try.prog W 0 (fun _ => true) true Try.f6.params.toList args.toList ds p := hA0
  rw [Try.params6] at hA hval
  obtain ⟨v0, vs0, d0, ds0, p0, q0, hargs, rfl, rfl, h0, r0⟩ := trodAll_cons hA
  obtain ⟨v1, vs1, d1, ds1, p1, q1, rfl, rfl, rfl, h1, r1⟩ := trodAll_cons r0
  obtain ⟨rfl, rfl, rfl⟩ := trodAll_nil r1
  obtain rfl : args = #[v0, v1] := by cases args; simp_all
  obtain ⟨rfl, rfl⟩ := trodVars_none hV
  obtain ⟨a0, rfl, w0⟩ := OpenD.die_of (hval 0 22 v0 rfl rfl) h0
  have k0 := h0
  have lt0 : ∀ x ∈ p0, x.block < W.heap.size := fun x hx => by have := hW'.lt x (by simp [hx]); simpa using this
  obtain ⟨a1, rfl, w1⟩ := OpenD.die_of (hval 1 22 v1 rfl rfl) h1
  have k1 := h1
  have lt1 : ∀ x ∈ p1, x.block < W.heap.size := fun x hx => by have := hW'.lt x (by simp [hx]); simpa using this
  clear hA0
  simp only [List.append_nil] at hW'
  refine (law_any a0 a1 W).mono fun e W' ⟨he, hg⟩ => ?_
  subst he
  exact ⟨_, rfl, _, _, _, [], (p0 ++ (p1 ++ [])), [], hW', trodAll_cons_mk (shut_bool Try.underlying4 _) trodAll_mk0, trodAll_cons_mk (Below.trod laidOut (by kernel_rfl) (of_decide_eq_true (by kernel_rfl)) k0 hg lt0) (trodAll_cons_mk (Below.trod laidOut (by kernel_rfl) (of_decide_eq_true (by kernel_rfl)) k1 hg lt1) trodAll_mk0), rfl, hg.frame _, fun h => by cases h⟩

theorem own : ownKnob Try.prog.godebug = none := by kernel_rfl

set_option maxRecDepth 100000 in
theorem lifted (os : Os) (started : os.Started) (H : Type) (enc : TypeId × Value → H) :
    ReturnsInHanded {} Try.checked os 6 .any (Rows.fnExactLessDieSpec.pre6 enc Try.prog Try.f6 Rows.fnExactLessDieRow.domain false) (Rows.fnExactLessDieSpec.post enc Try.prog Try.f6 false true false false) := by
  refine returnsInHanded_of_change (C := Try.checked) own started (by kernel_rfl) Try.func6
    (ChangeSpec.witness6 (enc := enc) (C := Try.checked) false ⟨#[], #[.agg #[.int .i64 0, .int .i64 0, .int .i64 0, .int .i64 0, .int .i64 0, .int .i64 0], .agg #[.int .i64 0, .int .i64 0, .int .i64 0, .int .i64 0, .int .i64 0, .int .i64 0]], []⟩ 8 (by kernel_rfl) (by kernel_rfl) (by kernel_rfl) (by kernel_rfl)) ?_
  intro W base args ds gs before hval hW _ _
  exact contract H enc W base args ds gs before hval hW

theorem holds : Rows.FnExactLessDieSaid :=
  OpenClaim.holds_of_wide 6 Try.f6 rfl rfl rfl rfl rfl rfl rfl ⟨rfl, rfl, rfl, rfl, rfl⟩ rfl rfl rfl rfl rfl (by kernel_rfl) Try.func6 (by kernel_rfl)
    (of_decide_eq_true (by kernel_rfl)) (by unfold Func.isWrapper; rw [if_neg (by decide +kernel)]; exact ⟨rfl, rfl⟩)
    (fun os started H enc _ => lifted os started H enc)

end LessDieP
end Go.Proofs.Ytlkhjdieddankab
