/-
  FnExactSortDie: for every array of six numbers the law returns true, and the array reads afterwards as it read before. No condition.
-/
import Derived.Test.YtlkhjdieddankaaRows
import Derived.Test.YtlkhjdieddankaaSortW
import Derived.Test.YtlkhjdieddankaaOpenD
import Derived.WalkKit
import Derived.WalkLawsBesides
import Derived.WalkSpells
import Derived.ProofKit
import Derived.OpenShut
import Derived.Deep.RegionWith
import Derived.Deep.QuietTactic
import Derived.BigQuiet
namespace Go.Proofs.Ytlkhjdieddankaa
open Go.ChangeShapes Go.WideShapes Go.ChangeAt Go.RowKit
open Go.ChangeMaps (open_string shut_string)

namespace SortDieP
open Dice Arr DieW SortW

set_option maxHeartbeats 2000000 in
theorem specSortDie_any (d : Nat → Int) (w : World) : Calls Try.prog 18 #[dv d] w fun e w' => e = .returned (.tuple (if fits d then #[dv (srt d), .bool true] else #[dv fun _ => 0, .bool false])) ∧ Below w.heap.size w w' := by
  have hs := l2Sorted_any d
  have hc := l2Die_any (srt d)
  rw [isDie_srt] at hc
  unfold dv at hs hc
  have Hs := Lib.hid hs; clear hs
  have Hc := Lib.hid hc; clear hc
  unfold dv
  cases hf : fits d
  · rw [hf] at Hc
    simp only [Bool.false_eq_true, ↓reduceIte]
    clear hf
    go_enter Try.func18, Try.ntmps18
    go_wp2_with fail
    refine (Hs.out _).mono ?_
    rintro e w1 ⟨rfl, hb1⟩
    go_wp2_with fail
    refine (Hc.out _).mono ?_
    rintro e w2 ⟨rfl, hb2⟩
    have hr := (((At.new6 (w.alloc (sixO d 22)) (fun _ => 0) 22 (b := w.heap.size + 1) (by rw [size_alloc])).up hb1).past (sixO (srt d) 22)).up hb2
    obtain ⟨r0, r1, r2, r3, r4, r5⟩ := hr.six
    obtain ⟨z0, z1, z2, z3, z4, z5⟩ := hr.free6
    have hbl : Below w.heap.size w w2 := nx (na (nx (na (na (n0 w) _) _) hb1) _) hb2
    have hq := (At.new6 w1 (srt d) 22 rfl).up hb2
    obtain ⟨e0, e1, e2, e3, e4, e5⟩ := hq.six
    clear hb1 hb2
    go_wp2_with fail
    refine ret_cell_tmp (b := w.heap.size + 1) (n := 6) (f := fun _ => 0) Try.results18 rfl rfl Try.underlying22 (by kernel_rfl) (hr.stored (fun _ => 0)) rfl ⟨rfl, ?_⟩
    exact hbl.trans (setCells_below (w := w2) (p := w.heap.size + 1) (B := w.heap.size) (by omega) (vals 6 (fun _ => 0)) 0)
  · rw [hf] at Hc
    simp only [↓reduceIte]
    clear hf
    go_enter Try.func18, Try.ntmps18
    go_wp2_with fail
    refine (Hs.out _).mono ?_
    rintro e w1 ⟨rfl, hb1⟩
    go_wp2_with fail
    refine (Hc.out _).mono ?_
    rintro e w2 ⟨rfl, hb2⟩
    have hr := (((At.new6 (w.alloc (sixO d 22)) (fun _ => 0) 22 (b := w.heap.size + 1) (by rw [size_alloc])).up hb1).past (sixO (srt d) 22)).up hb2
    obtain ⟨r0, r1, r2, r3, r4, r5⟩ := hr.six
    obtain ⟨z0, z1, z2, z3, z4, z5⟩ := hr.free6
    have hbl : Below w.heap.size w w2 := nx (na (nx (na (na (n0 w) _) _) hb1) _) hb2
    have hq := (At.new6 w1 (srt d) 22 rfl).up hb2
    obtain ⟨e0, e1, e2, e3, e4, e5⟩ := hq.six
    clear hb1 hb2
    go_wp2_with fail
    refine ret_cell_tmp (b := w.heap.size + 1) (n := 6) (f := srt d) Try.results18 rfl rfl Try.underlying22 (by kernel_rfl) (hr.stored (srt d)) rfl ⟨rfl, ?_⟩
    exact hbl.trans (setCells_below (w := w2) (p := w.heap.size + 1) (B := w.heap.size) (by omega) (vals 6 (srt d)) 0)

/-- What both answer. -/
def so (d : Nat → Int) : Nat → Int := if fits d then srt d else fun _ => 0
theorem so_eq (d : Nat → Int) : (if fits d then #[dv (srt d), .bool true] else #[dv fun _ => 0, .bool false]) = #[dv (so d), .bool (fits d)] := by
  unfold so
  cases fits d <;> rfl
theorem agree_refl (d : Nat → Int) (n : Nat) : decide (agree d d n) = true := decide_eq_true fun _ _ => rfl

set_option maxHeartbeats 2000000 in
theorem law_any (d : Nat → Int) (w : World) : Calls Try.prog 4 #[dv d] w fun e w' => e = .returned (.bool true) ∧ Below w.heap.size w w' := by
  have ht := toA6_any d
  have hs := specSortDie_any d
  have hi := implSortDie_any d
  have hq := eqA6_any (so d) (so d)
  rw [so_eq] at hs hi
  rw [agree_refl] at hq
  generalize so d = r at hs hi hq
  generalize fits d = b at hs hi
  unfold dv at ht hs hi hq
  have Ht := Lib.hid ht; clear ht
  have Hs := Lib.hid hs; clear hs
  have Hi := Lib.hid hi; clear hi
  have Hq := Lib.hid hq; clear hq
  unfold dv
  go_enter Try.func4, Try.ntmps4
  go_wp2_with fail
  refine (Ht.out _).mono ?_
  rintro e w1 ⟨rfl, hb1⟩
  go_wp2_with fail
  refine (Hs.out _).mono ?_
  rintro e w2 ⟨rfl, hb2⟩
  have hd := ((At.new6 w d 22 rfl).up hb1).up hb2
  obtain ⟨e0, e1, e2, e3, e4, e5⟩ := hd.six
  have hl1 := hd.lt
  go_wp2_with fail
  refine (Ht.out _).mono ?_
  rintro e w3 ⟨rfl, hb3⟩
  go_wp2_with fail
  refine (Hi.out _).mono ?_
  rintro e w4 ⟨rfl, hb4⟩
  have hg := ((At.new6 w2 r 22 rfl).up hb3).up hb4
  obtain ⟨g0, g1, g2, g3, g4, g5⟩ := hg.six
  have hl2 := hg.lt
  have hbl : Below w.heap.size w w4 := nx (nx (na (nx (nx (na (n0 w) _) hb1) hb2) _) hb3) hb4
  clear hb1 hb2 hb3 hb4
  go_wp2_with fail
  refine (Hq.out _).mono ?_
  rintro e w5 ⟨rfl, hb5⟩
  have hbl5 := nx (na hbl _) hb5
  clear hb5
  cases b
  all_goals
    go_wp2_with fail
    go_ret
    exact ⟨rfl, hbl5⟩

theorem laidOut : laidOutB Try.prog = true := by kernel_rfl
/-- What the walk gives, for every argument. -/
theorem contract (H : Type) (enc : TypeId × Value → H) (W : World) (base : Nat) (args : Array Value) (ds gs : List (DataW H)) (before : List MemPlace)
    (hval : ∀ (j : Nat) t v, Try.f4.params[j]? = some t → args[j]? = some v → Value.okWide Try.prog W .any base t v)
    (hW : DataW.Whole enc Try.prog Try.f4.params.toList Rows.fnExactSortDieSpec.vars false W args.toList ds gs before) :
    Calls Try.prog 4 args W fun e W' => ∃ v, e = .returned v ∧ Rows.fnExactSortDieSpec.post enc Try.prog Try.f4 false true false false W args v W' := by
  have hW' := hW
  obtain ⟨p, q, hA0, hV, rfl, hfz, hnd⟩ := hW
  have hA : DataW.TrodAll enc Try.prog W 0 (fun _ => true) true Try.f4.params.toList args.toList ds p := hA0
  rw [Try.params4] at hA hval
  obtain ⟨v0, vs0, d0, ds0, p0, q0, hargs, rfl, rfl, h0, r0⟩ := trodAll_cons hA
  obtain ⟨rfl, rfl, rfl⟩ := trodAll_nil r0
  obtain rfl : args = #[v0] := by cases args; simp_all
  obtain ⟨rfl, rfl⟩ := trodVars_none hV
  obtain ⟨a0, rfl, w0⟩ := OpenD.die_of (hval 0 22 v0 rfl rfl) h0
  have k0 := h0
  have lt0 : ∀ x ∈ p0, x.block < W.heap.size := fun x hx => by have := hW'.lt x (by simp [hx]); simpa using this
  clear hA0
  simp only [List.append_nil] at hW'
  refine (law_any a0 W).mono fun e W' ⟨he, hg⟩ => ?_
  subst he
  exact ⟨_, rfl, _, _, _, [], (p0 ++ []), [], hW', trodAll_cons_mk (shut_bool Try.underlying4 _) trodAll_mk0, trodAll_cons_mk (Below.trod laidOut (by kernel_rfl) (of_decide_eq_true (by kernel_rfl)) k0 hg lt0) trodAll_mk0, rfl, hg.frame _, fun h => by cases h⟩

theorem own : ownKnob Try.prog.godebug = none := by kernel_rfl

set_option maxRecDepth 100000 in
theorem lifted (os : Os) (started : os.Started) (H : Type) (enc : TypeId × Value → H) :
    ReturnsInHanded {} Try.checked os 4 .any (Rows.fnExactSortDieSpec.pre6 enc Try.prog Try.f4 Rows.fnExactSortDieRow.domain false) (Rows.fnExactSortDieSpec.post enc Try.prog Try.f4 false true false false) := by
  refine returnsInHanded_of_change (C := Try.checked) own started (by kernel_rfl) Try.func4
    (ChangeSpec.witness6 (enc := enc) (C := Try.checked) false ⟨#[], #[.agg #[.int .i64 0, .int .i64 0, .int .i64 0, .int .i64 0, .int .i64 0, .int .i64 0]], []⟩ 8 (by kernel_rfl) (by kernel_rfl) (by kernel_rfl) (by kernel_rfl)) ?_
  intro W base args ds gs before hval hW _ _
  exact contract H enc W base args ds gs before hval hW

theorem holds : Rows.FnExactSortDieSaid :=
  OpenClaim.holds_of_wide 4 Try.f4 rfl rfl rfl rfl rfl rfl rfl ⟨rfl, rfl, rfl, rfl, rfl⟩ rfl rfl rfl rfl rfl (by kernel_rfl) Try.func4 (by kernel_rfl)
    (of_decide_eq_true (by kernel_rfl)) (by unfold Func.isWrapper; rw [if_neg (by decide +kernel)]; exact ⟨rfl, rfl⟩)
    (fun os started H enc _ => lifted os started H enc)

end SortDieP
end Go.Proofs.Ytlkhjdieddankaa
