/-
  FnExactDoesCover: for every two arrays of six numbers the law returns true, and both read afterwards as they read before. No condition.
-/
import Derived.Test.YtllcjgladjcoaaaRows
import Derived.Test.YtllcjgladjcoaaaQuietD
import Derived.Test.YtllcjgladjcoaaaDieW
import Derived.Test.YtllcjgladjcoaaaSortW
import Derived.Test.YtllcjgladjcoaaaOpenD
import Derived.WalkKit
import Derived.WalkLawsBesides
import Derived.WalkSpells
import Derived.ProofKit
import Derived.OpenShut
import Derived.Deep.RegionWith
import Derived.Deep.QuietTactic
import Derived.BigQuiet
namespace Go.Proofs.Ytllcjgladjcoaaa
open Go.ChangeShapes Go.WideShapes Go.ChangeAt Go.RowKit
open Go.ChangeMaps (open_string shut_string)

namespace CoverP
open Dice Arr DieW SortW QuietD

/-- No face of the first k is less. -/
def cov (x y : Nat → Int) (k : Nat) : Prop := ∀ j, j < k → ¬ x j < y j
instance (x y : Nat → Int) (k : Nat) : Decidable (cov x y k) := by unfold cov; infer_instance
def covers (x y : Nat → Int) : Bool := decide (cov x y 6)
theorem cov_no {x y : Nat → Int} {k : Nat} (hk : k < 6) (h : x k < y k) : covers x y = false := decide_eq_false fun hc => hc k hk h
theorem cov_yes {x y : Nat → Int} (h : cov x y 6) : covers x y = true := decide_eq_true h
theorem cov_succ {x y : Nat → Int} {k : Nat} (h : cov x y k) (hk : ¬ x k < y k) : cov x y (k + 1) := fun j hj => by
  by_cases hjk : j = k
  · subst hjk; exact hk
  · exact h j (by omega)

set_option maxHeartbeats 2000000 in
theorem specCover_any (a b : Nat → Int) (w : World) :
    Calls Try.prog 48 #[dv a, dv b] w fun e w' => e = .returned (.tuple (if isDie a && isDie b then #[.bool (covers a b), .bool true] else #[.bool false, .bool false])) ∧ Below w.heap.size w w' := by
  have ha := l2Die_any a
  have hb := l2Die_any b
  have hd1 := (At.new6 w a 22 rfl).past (sixO b 22)
  have hd2 := At.new6 (w.alloc (sixO a 22)) b 22 (b := w.heap.size + 1) (by rw [size_alloc])
  have hB0 := na (na (n0 w) (sixO a 22)) (sixO b 22)
  cases hqa : isDie a
  · rw [hqa] at ha
    simp only [Bool.false_and, Bool.false_eq_true, ↓reduceIte]
    unfold dv at ha
    have Ha := Lib.hid ha; clear ha hb hqa
    unfold dv
    go_enter Try.func48, Try.ntmps48
    go_wp2_with fail
    refine (Ha.out _).mono ?_
    rintro e w1 ⟨rfl, hb1⟩
    go_wp2_with fail
    go_ret2
    exact ⟨rfl, nx hB0 hb1⟩
  cases hqb : isDie b
  · rw [hqa] at ha
    rw [hqb] at hb
    simp only [Bool.and_false, Bool.false_eq_true, ↓reduceIte]
    unfold dv at ha hb
    have Ha := Lib.hid ha; clear ha hqa hqb
    have Hb := Lib.hid hb; clear hb
    unfold dv
    go_enter Try.func48, Try.ntmps48
    go_wp2_with fail
    refine (Ha.out _).mono ?_
    rintro e w1 ⟨rfl, hb1⟩
    obtain ⟨x0, x1, x2, x3, x4, x5⟩ := (hd2.up hb1).six
    go_wp2_with fail
    refine (Hb.out _).mono ?_
    rintro e w2 ⟨rfl, hb2⟩
    go_wp2_with fail
    go_ret2
    exact ⟨rfl, nx (nx hB0 hb1) hb2⟩
  · rw [hqa] at ha
    rw [hqb] at hb
    simp only [Bool.and_self, ↓reduceIte]
    unfold dv at ha hb
    have Ha := Lib.hid ha; clear ha hqa hqb
    have Hb := Lib.hid hb; clear hb
    unfold dv
    go_enter Try.func48, Try.ntmps48
    go_wp2_with fail
    refine (Ha.out _).mono ?_
    rintro e w1 ⟨rfl, hb1⟩
    obtain ⟨x0, x1, x2, x3, x4, x5⟩ := (hd2.up hb1).six
    go_wp2_with fail
    refine (Hb.out _).mono ?_
    rintro e w2 ⟨rfl, hb2⟩
    have hA := (hd1.up hb1).up hb2
    have hG := (hd2.up hb1).up hb2
    have hB := nx (nx hB0 hb1) hb2
    clear hb1 hb2 hd1 hd2 hB0 x0 x1 x2 x3 x4 x5
    go_wp2_with fail
    go_loopw [6] (fun i wr => ∃ k : Nat, k ≤ 6 ∧ i = .int .i64 k ∧ Below w.heap.size w wr ∧ At wr w.heap.size 6 a ∧ At wr (w.heap.size + 1) 6 b ∧ Hid (cov a b k)) (fun i _ => 6 - (intOf i).toNat)
    case atStart => exact ⟨0, by omega, rfl, hB, hA, hG, fun j hj => by omega⟩
    case round =>
      clear hA hG hB
      obtain ⟨k, hk, rfl, hB, hA, hG, he⟩ := hrel
      by_cases hlt : k < 6
      · have c1 := hA.cell k hlt
        have c2 := hG.cell k hlt
        by_cases hab : a k < b k
        · have hld : decide (a k < b k) = true := decide_eq_true hab
          have hr := Lib.hid (cov_no hlt hab)
          go_wp2_with fail
          go_region
          all_goals
            go_wp2_with fail
            go_ret2
            exact ⟨by rw [hr.out]; rfl, hB.drew⟩
        · have hld : decide (a k < b k) = false := decide_eq_false hab
          have hs := Lib.hid (cov_succ he.out hab)
          go_wp2_with fail
          go_region
          all_goals
            go_wp2_with fail
            go_roundw
            case rel => exact ⟨k + 1, by omega, by go_num, hB.drew, hA.drew, hG.drew, hs⟩
            case measure => simp [intOf]; omega
      · obtain rfl : k = 6 := by omega
        have hr := Lib.hid (cov_yes he.out)
        go_wp2_with fail
        go_ret2
        exact ⟨by rw [hr.out]; rfl, hB⟩

set_option maxHeartbeats 2000000 in
theorem implCover_any (a b : Nat → Int) (w : World) :
    Calls Try.prog 49 #[dv a, dv b] w fun e w' => e = .returned (.tuple (if isDie a && isDie b then #[.bool (covers a b), .bool true] else #[.bool false, .bool false])) ∧ Below w.heap.size w w' := by
  have ha := implIsDie_any a
  have hb := implIsDie_any b
  have hd1 := (At.new6 w a 22 rfl).past (sixO b 22)
  have hd2 := At.new6 (w.alloc (sixO a 22)) b 22 (b := w.heap.size + 1) (by rw [size_alloc])
  have hB0 := na (na (n0 w) (sixO a 22)) (sixO b 22)
  cases hqa : isDie a
  · rw [hqa] at ha
    simp only [Bool.false_and, Bool.false_eq_true, ↓reduceIte]
    unfold dv at ha
    have Ha := Lib.hid ha; clear ha hb hqa
    unfold dv
    go_enter Try.func49, Try.ntmps49
    go_wp2_with fail
    refine (Ha.out _).mono ?_
    rintro e w1 ⟨rfl, hb1⟩
    go_wp2_with fail
    go_ret2
    exact ⟨rfl, nx hB0 hb1⟩
  cases hqb : isDie b
  · rw [hqa] at ha
    rw [hqb] at hb
    simp only [Bool.and_false, Bool.false_eq_true, ↓reduceIte]
    unfold dv at ha hb
    have Ha := Lib.hid ha; clear ha hqa hqb
    have Hb := Lib.hid hb; clear hb
    unfold dv
    go_enter Try.func49, Try.ntmps49
    go_wp2_with fail
    refine (Ha.out _).mono ?_
    rintro e w1 ⟨rfl, hb1⟩
    obtain ⟨x0, x1, x2, x3, x4, x5⟩ := (hd2.up hb1).six
    go_wp2_with fail
    refine (Hb.out _).mono ?_
    rintro e w2 ⟨rfl, hb2⟩
    go_wp2_with fail
    go_ret2
    exact ⟨rfl, nx (nx hB0 hb1) hb2⟩
  · rw [hqa] at ha
    rw [hqb] at hb
    simp only [Bool.and_self, ↓reduceIte]
    unfold dv at ha hb
    have Ha := Lib.hid ha; clear ha hqa hqb
    have Hb := Lib.hid hb; clear hb
    unfold dv
    go_enter Try.func49, Try.ntmps49
    go_wp2_with fail
    refine (Ha.out _).mono ?_
    rintro e w1 ⟨rfl, hb1⟩
    obtain ⟨x0, x1, x2, x3, x4, x5⟩ := (hd2.up hb1).six
    go_wp2_with fail
    refine (Hb.out _).mono ?_
    rintro e w2 ⟨rfl, hb2⟩
    have hA := (hd1.up hb1).up hb2
    have hG := (hd2.up hb1).up hb2
    have hB := nx (nx hB0 hb1) hb2
    clear hb1 hb2 hd1 hd2 hB0 x0 x1 x2 x3 x4 x5
    go_wp2_with fail
    go_loopw [15] (fun i wr => ∃ k : Nat, k ≤ 6 ∧ i = .int .i64 k ∧ Below w.heap.size w wr ∧ At wr w.heap.size 6 a ∧ At wr (w.heap.size + 1) 6 b ∧ Hid (cov a b k)) (fun i _ => 6 - (intOf i).toNat)
    case atStart => exact ⟨0, by omega, rfl, hB, hA, hG, fun j hj => by omega⟩
    case round =>
      clear hA hG hB
      obtain ⟨k, hk, rfl, hB, hA, hG, he⟩ := hrel
      by_cases hlt : k < 6
      · have c1 := hA.cell k hlt
        have c2 := hG.cell k hlt
        by_cases hab : a k < b k
        · have hld : decide (a k < b k) = true := decide_eq_true hab
          have hr := Lib.hid (cov_no hlt hab)
          go_wp2_with fail
          go_region
          all_goals
            go_wp2_with fail
            go_ret2
            exact ⟨by rw [hr.out]; rfl, hB.drew⟩
        · have hld : decide (a k < b k) = false := decide_eq_false hab
          have hs := Lib.hid (cov_succ he.out hab)
          go_wp2_with fail
          go_region
          all_goals
            go_wp2_with fail
            go_roundw
            case rel => exact ⟨k + 1, by omega, by go_num, hB.drew, hA.drew, hG.drew, hs⟩
            case measure => simp [intOf]; omega
      · obtain rfl : k = 6 := by omega
        have hr := Lib.hid (cov_yes he.out)
        go_wp2_with fail
        go_ret2
        exact ⟨by rw [hr.out]; rfl, hB⟩

set_option maxHeartbeats 4000000 in
theorem law_any (d g : Nat → Int) (w : World) : Calls Try.prog 12 #[dv d, dv g] w fun e w' => e = .returned (.bool true) ∧ Below w.heap.size w w' := by
  have Ht := Lib.hid toA6_any
  obtain ⟨x, b, ho⟩ : ∃ x b, (if isDie d && isDie g then #[.bool (covers d g), .bool true] else #[.bool false, .bool false] : Array Value) = #[.bool x, .bool b] := by
    cases isDie d && isDie g
    · exact ⟨false, false, rfl⟩
    · exact ⟨_, true, rfl⟩
  have hs := specCover_any d g
  have hi := implCover_any d g
  rw [ho] at hs hi
  have Hs := Lib.hid hs; clear hs
  have Hi := Lib.hid hi; clear hi
  clear ho
  have hd := (At.new6 w d 22 rfl).past (sixO g 22)
  have hg := At.new6 (w.alloc (sixO d 22)) g 22 (b := w.heap.size + 1) (by rw [size_alloc])
  have hB := na (na (n0 w) (sixO d 22)) (sixO g 22)
  show Calls Try.prog 12 #[.agg #[.int .i64 (d 0), .int .i64 (d 1), .int .i64 (d 2), .int .i64 (d 3), .int .i64 (d 4), .int .i64 (d 5)], .agg #[.int .i64 (g 0), .int .i64 (g 1), .int .i64 (g 2), .int .i64 (g 3), .int .i64 (g 4), .int .i64 (g 5)]] w fun e w' => e = .returned (.bool true) ∧ Below w.heap.size w w'
  go_enter Try.func12, Try.ntmps12
  go_wp2_with fail
  generalize (w.alloc (sixO d 22)).alloc (sixO g 22) = W at hd hg hB ⊢
  refine wp_region_quiet (C := fun w' => Below w.heap.size w w' ∧ At w' w.heap.size 6 d ∧ At w' (w.heap.size + 1) 6 g) (by kernel_rfl) (by kernel_rfl) ⟨hB.drew, hd.drew, hg.drew⟩ ?_
  clear hd hg hB
  refine BigFrame.wpQuiet_want rfl (fun K hK => quiet_ld6 _ rfl rfl (fun _ h => h.2.1) (hK _ ?_)); clear hK K; go_simp
  refine BigFrame.wpQuiet_want rfl (fun K hK => ⟨dv d, fun w' hw' => ?_, hK _ ?_⟩)
  · clear hK K
    have Hw := Lib.hid hw'; clear hw'
    go_simp
    refine (Ht.out d _).mono ?_
    rintro e w5 ⟨rfl, hb⟩
    exact ⟨rfl, nx Hw.out.1 hb, Hw.out.2.1.up hb, Hw.out.2.2.up hb⟩
  clear hK K; go_simp
  refine BigFrame.wpQuiet_want rfl (fun K hK => quiet_ld6 _ rfl rfl (fun _ h => h.2.2) (hK _ ?_)); clear hK K; go_simp
  refine BigFrame.wpQuiet_want rfl (fun K hK => ⟨dv g, fun w' hw' => ?_, hK _ ?_⟩)
  · clear hK K
    have Hw := Lib.hid hw'; clear hw'
    go_simp
    refine (Ht.out g _).mono ?_
    rintro e w5 ⟨rfl, hb⟩
    exact ⟨rfl, nx Hw.out.1 hb, Hw.out.2.1.up hb, Hw.out.2.2.up hb⟩
  clear hK K; go_simp
  refine BigFrame.wpQuiet_want rfl (fun K hK => ⟨.tuple #[.bool x, .bool b], fun w' hw' => ?_, hK _ ?_⟩)
  · clear hK K
    have Hw := Lib.hid hw'; clear hw'
    go_simp
    refine (Hs.out _).mono ?_
    rintro e w5 ⟨rfl, hb⟩
    exact ⟨rfl, nx Hw.out.1 hb, Hw.out.2.1.up hb, Hw.out.2.2.up hb⟩
  clear hK K; go_simp
  refine BigFrame.wpQuiet_want rfl (fun K hK => BigFrame.quiet_move _ rfl (hK _ ?_)); clear hK K; go_simp
  refine BigFrame.wpQuiet_want rfl (fun K hK => ?_); go_big_quiet_op; refine ⟨_, fun _ _ _ _ => rfl, hK _ ?_⟩; clear hK K; go_simp
  refine BigFrame.wpQuiet_want rfl (fun K hK => ?_); go_big_quiet_op; refine ⟨_, fun _ _ _ _ => rfl, hK _ ?_⟩; clear hK K; go_simp
  refine BigFrame.wpQuiet_want rfl (fun K hK => BigFrame.quiet_assign _ rfl (hK _ ?_)); clear hK K; go_simp
  refine BigFrame.wpQuiet_want rfl (fun K hK => BigFrame.quiet_assign _ rfl (hK _ ?_)); clear hK K; go_simp
  refine wpQuiet_nil ?_
  intro w2 hB hd hg
  go_wp2_with fail
  refine wp_region_quiet (C := fun w' => Below w.heap.size w w' ∧ At w' w.heap.size 6 d ∧ At w' (w.heap.size + 1) 6 g) (by kernel_rfl) (by kernel_rfl) ⟨hB.drew, hd.drew, hg.drew⟩ ?_
  clear hd hg hB
  refine BigFrame.wpQuiet_want rfl (fun K hK => quiet_ld6 _ rfl rfl (fun _ h => h.2.1) (hK _ ?_)); clear hK K; go_simp
  refine BigFrame.wpQuiet_want rfl (fun K hK => ⟨dv d, fun w' hw' => ?_, hK _ ?_⟩)
  · clear hK K
    have Hw := Lib.hid hw'; clear hw'
    go_simp
    refine (Ht.out d _).mono ?_
    rintro e w5 ⟨rfl, hb⟩
    exact ⟨rfl, nx Hw.out.1 hb, Hw.out.2.1.up hb, Hw.out.2.2.up hb⟩
  clear hK K; go_simp
  refine BigFrame.wpQuiet_want rfl (fun K hK => quiet_ld6 _ rfl rfl (fun _ h => h.2.2) (hK _ ?_)); clear hK K; go_simp
  refine BigFrame.wpQuiet_want rfl (fun K hK => ⟨dv g, fun w' hw' => ?_, hK _ ?_⟩)
  · clear hK K
    have Hw := Lib.hid hw'; clear hw'
    go_simp
    refine (Ht.out g _).mono ?_
    rintro e w5 ⟨rfl, hb⟩
    exact ⟨rfl, nx Hw.out.1 hb, Hw.out.2.1.up hb, Hw.out.2.2.up hb⟩
  clear hK K; go_simp
  refine BigFrame.wpQuiet_want rfl (fun K hK => ⟨.tuple #[.bool x, .bool b], fun w' hw' => ?_, hK _ ?_⟩)
  · clear hK K
    have Hw := Lib.hid hw'; clear hw'
    go_simp
    refine (Hi.out _).mono ?_
    rintro e w5 ⟨rfl, hb⟩
    exact ⟨rfl, nx Hw.out.1 hb, Hw.out.2.1.up hb, Hw.out.2.2.up hb⟩
  clear hK K; go_simp
  refine BigFrame.wpQuiet_want rfl (fun K hK => BigFrame.quiet_move _ rfl (hK _ ?_)); clear hK K; go_simp
  refine BigFrame.wpQuiet_want rfl (fun K hK => ?_); go_big_quiet_op; refine ⟨_, fun _ _ _ _ => rfl, hK _ ?_⟩; clear hK K; go_simp
  refine BigFrame.wpQuiet_want rfl (fun K hK => ?_); go_big_quiet_op; refine ⟨_, fun _ _ _ _ => rfl, hK _ ?_⟩; clear hK K; go_simp
  refine BigFrame.wpQuiet_want rfl (fun K hK => BigFrame.quiet_assign _ rfl (hK _ ?_)); clear hK K; go_simp
  refine BigFrame.wpQuiet_want rfl (fun K hK => BigFrame.quiet_assign _ rfl (hK _ ?_)); clear hK K; go_simp
  refine wpQuiet_nil ?_
  intro w3 hB hd hg
  go_wp2_with fail
  cases b
  all_goals
    cases x
    all_goals
      go_wp2_with fail
      go_ret
      exact ⟨rfl, hB⟩

theorem laidOut : laidOutB Try.prog = true := by kernel_rfl
set_option maxRecDepth 100000 in
/-- What the walk gives, for every argument. -/
theorem contract (H : Type) (enc : TypeId × Value → H) (W : World) (base : Nat) (args : Array Value) (ds gs : List (DataW H)) (before : List MemPlace)
    (hval : ∀ (j : Nat) t v, Try.f12.params[j]? = some t → args[j]? = some v → Value.okWide Try.prog W .any base t v)
    (hW : DataW.Whole enc Try.prog Try.f12.params.toList Rows.fnExactDoesCoverSpec.vars false W args.toList ds gs before) :
    Calls Try.prog 12 args W fun e W' => ∃ v, e = .returned v ∧ Rows.fnExactDoesCoverSpec.post enc Try.prog Try.f12 false true false false W args v W' := by
  have hW' := hW
  obtain ⟨p, q, hA0, hV, rfl, hfz, hnd⟩ := hW
  have hA : DataW.TrodAll enc Try.prog W 0 (fun _ => true) true Try.f12.params.toList args.toList ds p := hA0
  rw [Try.params12] at hA hval
  obtain ⟨v0, vs0, d0, ds0, p0, q0, hargs, rfl, rfl, h0, r0⟩ := trodAll_cons hA
  obtain ⟨v1, vs1, d1, ds1, p1, q1, rfl, rfl, rfl, h1, r1⟩ := trodAll_cons r0
  obtain ⟨rfl, rfl, rfl⟩ := trodAll_nil r1
  obtain rfl : args = #[v0, v1] := by cases args; simp_all
  obtain ⟨rfl, rfl⟩ := trodVars_none hV
  obtain ⟨a0, rfl, w0⟩ := OpenD.die_of (hval 0 22 v0 rfl rfl) h0
  have k0 := h0
  have lt0 : ∀ x ∈ p0, x.block < W.heap.size := fun x hx => by have := hW'.lt x (by simp [hx]); simpa using this
  obtain ⟨a1, rfl, w1⟩ := OpenD.die_of (hval 1 22 v1 rfl rfl) h1
  have k1 := h1
  have lt1 : ∀ x ∈ p1, x.block < W.heap.size := fun x hx => by have := hW'.lt x (by simp [hx]); simpa using this
  clear hA0
  simp only [List.append_nil] at hW'
  refine (law_any a0 a1 W).mono fun e W' ⟨he, hg⟩ => ?_
  subst he
  exact ⟨_, rfl, _, _, _, [], (p0 ++ (p1 ++ [])), [], hW', trodAll_cons_mk (shut_bool Try.underlying4 _) trodAll_mk0, trodAll_cons_mk (Below.trod laidOut (by kernel_rfl) (of_decide_eq_true (by kernel_rfl)) k0 hg lt0) (trodAll_cons_mk (Below.trod laidOut (by kernel_rfl) (of_decide_eq_true (by kernel_rfl)) k1 hg lt1) trodAll_mk0), rfl, hg.frame _, fun h => by cases h⟩

theorem own : ownKnob Try.prog.godebug = none := by kernel_rfl

set_option maxRecDepth 100000 in
theorem lifted (os : Os) (started : os.Started) (H : Type) (enc : TypeId × Value → H) :
    ReturnsInHanded {} Try.checked os 12 .any (Rows.fnExactDoesCoverSpec.pre6 enc Try.prog Try.f12 Rows.fnExactDoesCoverRow.domain false) (Rows.fnExactDoesCoverSpec.post enc Try.prog Try.f12 false true false false) := by
  refine returnsInHanded_of_change (C := Try.checked) own started (by kernel_rfl) Try.func12
    (ChangeSpec.witness6 (enc := enc) (C := Try.checked) false ⟨#[], #[.agg #[.int .i64 0, .int .i64 0, .int .i64 0, .int .i64 0, .int .i64 0, .int .i64 0], .agg #[.int .i64 0, .int .i64 0, .int .i64 0, .int .i64 0, .int .i64 0, .int .i64 0]], []⟩ 8 (by kernel_rfl) (by kernel_rfl) (by kernel_rfl) (by kernel_rfl)) ?_
  intro W base args ds gs before hval hW _ _
  exact contract H enc W base args ds gs before hval hW

theorem holds : Rows.FnExactDoesCoverSaid :=
  OpenClaim.holds_of_wide 12 Try.f12 rfl rfl rfl rfl rfl rfl rfl ⟨rfl, rfl, rfl, rfl, rfl⟩ rfl rfl rfl rfl rfl (by kernel_rfl) Try.func12 (by kernel_rfl)
    (of_decide_eq_true (by kernel_rfl)) (by unfold Func.isWrapper; rw [if_neg (by decide +kernel)]; exact ⟨rfl, rfl⟩)
    (fun os started H enc _ => lifted os started H enc)

end CoverP
end Go.Proofs.Ytllcjgladjcoaaa
