/-
  FnExactOppositeDie: for every array of six numbers the law returns true, and the array reads afterwards as it read before. No condition.
-/
import Derived.Test.YtlkhjdieddankaaRows
import Derived.Test.YtlkhjdieddankaaSortW
import Derived.Test.YtlkhjdieddankaaOpenD
import Derived.WalkKit
import Derived.WalkLawsBesides
import Derived.WalkSpells
import Derived.ProofKit
import Derived.OpenShut
import Derived.Deep.RegionWith
import Derived.Deep.QuietTactic
import Derived.BigQuiet
namespace Go.Proofs.Ytlkhjdieddankaa
open Go.ChangeShapes Go.WideShapes Go.ChangeAt Go.RowKit
open Go.ChangeMaps (open_string shut_string)

namespace OppP
open Dice Arr DieW SortW

/-- The opposite numbers. -/
def opp (d : Nat → Int) (k : Nat) : Int := d 0 + d 5 - d (5 - k)

set_option maxHeartbeats 2000000 in
theorem specOpp_any (d : Nat → Int) (w : World) : Calls Try.prog 49 #[dv d] w fun e w' => e = .returned (.tuple (if isDie d then #[dv (opp d), .bool true] else #[dv fun _ => 0, .bool false])) ∧ Below w.heap.size w w' := by
  have hc := l2Die_any d
  unfold dv at hc
  have Hc := Lib.hid hc; clear hc
  unfold dv
  cases hf : isDie d
  · rw [hf] at Hc
    simp only [Bool.false_eq_true, ↓reduceIte]
    clear hf
    go_enter Try.func49, Try.ntmps49
    go_wp2_with fail
    refine (Hc.out _).mono ?_
    rintro e w1 ⟨rfl, hb1⟩
    have hbl : Below w.heap.size w w1 := nx (na (na (n0 w) _) _) hb1
    have hr := (At.new6 (w.alloc (sixO d 22)) (fun _ => 0) 22 (b := w.heap.size + 1) (by rw [size_alloc])).up hb1
    obtain ⟨r0, r1, r2, r3, r4, r5⟩ := hr.six
    obtain ⟨z0, z1, z2, z3, z4, z5⟩ := hr.free6
    clear hb1
    go_wp2_with fail
    refine ret_cell_tmp (b := w.heap.size + 1) (n := 6) (f := fun _ => 0) Try.results49 rfl rfl Try.underlying22 (by kernel_rfl) (hr.stored (fun _ => 0)) rfl ⟨rfl, ?_⟩
    exact hbl.trans (setCells_below (w := w1) (p := w.heap.size + 1) (B := w.heap.size) (by omega) (vals 6 (fun _ => 0)) 0)

  · have hu : upto d 6 := of_decide_eq_true hf
    rw [hf] at Hc
    simp only [↓reduceIte]
    clear hf
    go_enter Try.func49, Try.ntmps49
    go_wp2_with fail
    refine (Hc.out _).mono ?_
    rintro e w1 ⟨rfl, hb1⟩
    have hbl : Below w.heap.size w w1 := nx (na (na (n0 w) _) _) hb1
    have hr1 := (At.new6 (w.alloc (sixO d 22)) (fun _ => 0) 22 (b := w.heap.size + 1) (by rw [size_alloc])).up hb1
    have hd1 := ((At.new6 w d 22 rfl).past (sixO (fun _ => 0) 22)).up hb1
    clear hb1
    have hlt1 := hr1.lt
    go_wp2_with fail
    go_loopw [5] (fun i wr => ∃ (k : Nat) (f : Nat → Int), k ≤ 6 ∧ i = .int .i64 k ∧ Below w.heap.size w wr ∧ At wr w.heap.size 6 d ∧ At wr (w.heap.size + 1) 6 (fun _ => 0) ∧ At wr w1.heap.size 6 f ∧ w.heap.size + 1 < w1.heap.size ∧ Hid (∀ j, j < k → f j = opp d j)) (fun i _ => 6 - (intOf i).toNat)
    case atStart => exact ⟨0, fun _ => 0, by omega, rfl, na hbl _, hd1.past _, hr1.past _, At.new6 w1 (fun _ => 0) _ rfl, hlt1, fun j hj => by omega⟩
    case round =>
      obtain ⟨k, f, hk, rfl, hb, hd, hr, hf, hs, he⟩ := hrel
      by_cases hlt : k < 6
      · have c0 := hd.cell 0 (by omega)
        have c5 := hd.cell 5 (by omega)
        have ck := hd.cell (5 - k) (by omega)
        have co := hf.cell k hlt
        have zo := hf.free k
        have b0 := hu 0 (by omega)
        have b5 := hu 5 (by omega)
        have bk := hu (5 - k) (by omega)
        have hix : ((5 : Int) - (k : Int)).toNat = 5 - k := by omega
        go_wp2_with fail
        go_region
        all_goals
          go_wp2_with fail
          go_roundw
          case rel => exact ⟨k + 1, put f k (opp d k), by omega, by go_num, (hb.setCell (p := ⟨w1.heap.size, k, none⟩) (by show w.heap.size ≤ w1.heap.size; omega) _).drew, (hd.other (by omega) _ _).drew, (hr.other (by omega) _ _).drew, (hf.set hlt _).drew, hs, put_fill he.out⟩
          case measure => simp [intOf]; omega
      · obtain rfl : k = 6 := by omega
        have hf' : At wr w1.heap.size 6 (opp d) := hf.congr fun k hk => he.out k hk
        obtain ⟨e0, e1, e2, e3, e4, e5⟩ := hf'.six
        obtain ⟨r0, r1, r2, r3, r4, r5⟩ := hr.six
        obtain ⟨z0, z1, z2, z3, z4, z5⟩ := hr.free6
        go_wp2_with fail
  
        refine ret_cell_tmp (b := w.heap.size + 1) (n := 6) (f := opp d) Try.results49 rfl rfl Try.underlying22 (by kernel_rfl) (hr.stored (opp d)) rfl ⟨rfl, ?_⟩
        exact hb.trans (setCells_below (w := wr) (p := w.heap.size + 1) (B := w.heap.size) (by omega) (vals 6 (opp d)) 0)
set_option maxHeartbeats 2000000 in
theorem implOpp_any (d : Nat → Int) (w : World) : Calls Try.prog 50 #[dv d] w fun e w' => e = .returned (.tuple (if isDie d then #[dv (opp d), .bool true] else #[dv fun _ => 0, .bool false])) ∧ Below w.heap.size w w' := by
  have hc := implIsDie_any d
  unfold dv at hc
  have Hc := Lib.hid hc; clear hc
  unfold dv
  cases hf : isDie d
  · rw [hf] at Hc
    simp only [Bool.false_eq_true, ↓reduceIte]
    clear hf
    go_enter Try.func50, Try.ntmps50
    go_wp2_with fail
    refine (Hc.out _).mono ?_
    rintro e w1 ⟨rfl, hb1⟩
    have hbl : Below w.heap.size w w1 := nx (na (na (n0 w) _) _) hb1
    have hr := (At.new6 (w.alloc (sixO d 22)) (fun _ => 0) 22 (b := w.heap.size + 1) (by rw [size_alloc])).up hb1
    obtain ⟨r0, r1, r2, r3, r4, r5⟩ := hr.six
    obtain ⟨z0, z1, z2, z3, z4, z5⟩ := hr.free6
    clear hb1
    go_wp2_with fail
    refine ret_cell_tmp (b := w.heap.size + 1) (n := 6) (f := fun _ => 0) Try.results50 rfl rfl Try.underlying22 (by kernel_rfl) (hr.stored (fun _ => 0)) rfl ⟨rfl, ?_⟩
    exact hbl.trans (setCells_below (w := w1) (p := w.heap.size + 1) (B := w.heap.size) (by omega) (vals 6 (fun _ => 0)) 0)

  · have hu : upto d 6 := of_decide_eq_true hf
    rw [hf] at Hc
    simp only [↓reduceIte]
    clear hf
    go_enter Try.func50, Try.ntmps50
    go_wp2_with fail
    refine (Hc.out _).mono ?_
    rintro e w1 ⟨rfl, hb1⟩
    have hbl : Below w.heap.size w w1 := nx (na (na (n0 w) _) _) hb1
    have hr1 := (At.new6 (w.alloc (sixO d 22)) (fun _ => 0) 22 (b := w.heap.size + 1) (by rw [size_alloc])).up hb1
    have hd1 := ((At.new6 w d 22 rfl).past (sixO (fun _ => 0) 22)).up hb1
    clear hb1
    have hlt1 := hr1.lt
    obtain ⟨x0, x1, x2, x3, x4, x5⟩ := hd1.six
    have hltd := hd1.lt
    have hix0 := fun (w : World) (k : Nat) (hk : k < 6) => run_index_vals (P := Try.prog) w 22 3 6 Try.underlying22 Try.underlying3 Try.sizeOf3 d hk
    simp only [← dv_vals] at hix0
    unfold dv at hix0
    have Hix := Lib.hid hix0; clear hix0
    go_wp2_with fail
    go_loopw [12] (fun i wr => ∃ (k : Nat) (f : Nat → Int), k ≤ 6 ∧ i = .int .i64 k ∧ Below w.heap.size w wr ∧ At wr w.heap.size 6 d ∧ At wr (w.heap.size + 1) 6 (fun _ => 0) ∧ At wr w1.heap.size 6 f ∧ w.heap.size + 1 < w1.heap.size ∧ Hid (∀ j, j < k → f (5 - j) = opp d (5 - j))) (fun i _ => 6 - (intOf i).toNat)
    case atStart => exact ⟨0, fun _ => 0, by omega, rfl, na hbl _, hd1.past _, hr1.past _, At.new6 w1 (fun _ => 0) _ rfl, hlt1, fun j hj => by omega⟩
    case round =>
      clear x0 x1 x2 x3 x4 x5
      obtain ⟨k, f, hk, rfl, hb, hd, hr, hf, hs, he⟩ := hrel
      by_cases hlt : k < 6
      · have c0 := hd.cell 0 (by omega)
        have c5 := hd.cell 5 (by omega)
        have co := hf.cell (5 - k) (by omega)
        have zo := hf.free (5 - k)
        have b0 := hu 0 (by omega)
        have b5 := hu 5 (by omega)
        have bk := hu k (by omega)
        have hix := fun w => Hix.out w k hlt
        have h5k : ((5 : Int) - (k : Int)).toNat = 5 - k := by omega
        go_wp2_with fail
        go_roundw
        case rel =>
          refine ⟨k + 1, put f (5 - k) (d 0 + d 5 - d k), by omega, by go_num, hb.setCell (p := ⟨w1.heap.size, 5 - k, none⟩) (by show w.heap.size ≤ w1.heap.size; omega) _, hd.other (by omega) _ _, hr.other (by omega) _ _, hf.set (by omega) _, hs, ?_⟩
          intro j hj
          by_cases hjk : j = k
          · subst hjk
            rw [put_same]
            unfold opp
            rw [show 5 - (5 - j) = j by omega]
          · rw [put_other _ (by omega)]
            exact he.out j (by omega)
        case measure => simp [intOf]; omega
      · obtain rfl : k = 6 := by omega
        have hf' : At wr w1.heap.size 6 (opp d) := hf.congr fun k hk => by have := he.out (5 - k) (by omega); rwa [show 5 - (5 - k) = k by omega] at this
        obtain ⟨e0, e1, e2, e3, e4, e5⟩ := hf'.six
        obtain ⟨r0, r1, r2, r3, r4, r5⟩ := hr.six
        obtain ⟨z0, z1, z2, z3, z4, z5⟩ := hr.free6
        go_wp2_with fail
  
        refine ret_cell_tmp (b := w.heap.size + 1) (n := 6) (f := opp d) Try.results50 rfl rfl Try.underlying22 (by kernel_rfl) (hr.stored (opp d)) rfl ⟨rfl, ?_⟩
        exact hb.trans (setCells_below (w := wr) (p := w.heap.size + 1) (B := w.heap.size) (by omega) (vals 6 (opp d)) 0)

/-- What both answer. -/
def out (d : Nat → Int) : Nat → Int := if isDie d then opp d else fun _ => 0
theorem out_eq (d : Nat → Int) : (if isDie d then #[dv (opp d), .bool true] else #[dv fun _ => 0, .bool false]) = #[dv (out d), .bool (isDie d)] := by
  unfold out
  cases isDie d <;> rfl
theorem agree_refl (d : Nat → Int) (n : Nat) : decide (agree d d n) = true := decide_eq_true fun _ _ => rfl

set_option maxHeartbeats 2000000 in
theorem law_any (d : Nat → Int) (w : World) : Calls Try.prog 14 #[dv d] w fun e w' => e = .returned (.bool true) ∧ Below w.heap.size w w' := by
  have ht := toA6_any d
  have hs := specOpp_any d
  have hi := implOpp_any d
  have hq := eqA6_any (out d) (out d)
  rw [out_eq] at hs hi
  rw [agree_refl] at hq
  generalize out d = r at hs hi hq
  generalize isDie d = b at hs hi
  unfold dv at ht hs hi hq
  have Ht := Lib.hid ht; clear ht
  have Hs := Lib.hid hs; clear hs
  have Hi := Lib.hid hi; clear hi
  have Hq := Lib.hid hq; clear hq
  unfold dv
  go_enter Try.func14, Try.ntmps14
  go_wp2_with fail
  refine (Ht.out _).mono ?_
  rintro e w1 ⟨rfl, hb1⟩
  go_wp2_with fail
  refine (Hs.out _).mono ?_
  rintro e w2 ⟨rfl, hb2⟩
  have hd := ((At.new6 w d 22 rfl).up hb1).up hb2
  obtain ⟨e0, e1, e2, e3, e4, e5⟩ := hd.six
  have hl1 := hd.lt
  go_wp2_with fail
  refine (Ht.out _).mono ?_
  rintro e w3 ⟨rfl, hb3⟩
  go_wp2_with fail
  refine (Hi.out _).mono ?_
  rintro e w4 ⟨rfl, hb4⟩
  have hg := ((At.new6 w2 r 22 rfl).up hb3).up hb4
  obtain ⟨g0, g1, g2, g3, g4, g5⟩ := hg.six
  have hl2 := hg.lt
  have hbl : Below w.heap.size w w4 := nx (nx (na (nx (nx (na (n0 w) _) hb1) hb2) _) hb3) hb4
  clear hb1 hb2 hb3 hb4
  go_wp2_with fail
  refine (Hq.out _).mono ?_
  rintro e w5 ⟨rfl, hb5⟩
  have hbl5 := nx (na hbl _) hb5
  clear hb5
  cases b
  all_goals
    go_wp2_with fail
    go_ret
    exact ⟨rfl, hbl5⟩

theorem laidOut : laidOutB Try.prog = true := by kernel_rfl
/-- What the walk gives, for every argument. -/
theorem contract (H : Type) (enc : TypeId × Value → H) (W : World) (base : Nat) (args : Array Value) (ds gs : List (DataW H)) (before : List MemPlace)
    (hval : ∀ (j : Nat) t v, Try.f14.params[j]? = some t → args[j]? = some v → Value.okWide Try.prog W .any base t v)
    (hW : DataW.Whole enc Try.prog Try.f14.params.toList Rows.fnExactOppositeDieSpec.vars false W args.toList ds gs before) :
    Calls Try.prog 14 args W fun e W' => ∃ v, e = .returned v ∧ Rows.fnExactOppositeDieSpec.post enc Try.prog Try.f14 false true false false W args v W' := by
  have hW' := hW
  obtain ⟨p, q, hA0, hV, rfl, hfz, hnd⟩ := hW
  have hA : DataW.TrodAll enc Try.prog W 0 (fun _ => true) true Try.f14.params.toList args.toList ds p := hA0
  rw [Try.params14] at hA hval
  obtain ⟨v0, vs0, d0, ds0, p0, q0, hargs, rfl, rfl, h0, r0⟩ := trodAll_cons hA
  obtain ⟨rfl, rfl, rfl⟩ := trodAll_nil r0
  obtain rfl : args = #[v0] := by cases args; simp_all
  obtain ⟨rfl, rfl⟩ := trodVars_none hV
  obtain ⟨a0, rfl, w0⟩ := OpenD.die_of (hval 0 22 v0 rfl rfl) h0
  have k0 := h0
  have lt0 : ∀ x ∈ p0, x.block < W.heap.size := fun x hx => by have := hW'.lt x (by simp [hx]); simpa using this
  clear hA0
  simp only [List.append_nil] at hW'
  refine (law_any a0 W).mono fun e W' ⟨he, hg⟩ => ?_
  subst he
  exact ⟨_, rfl, _, _, _, [], (p0 ++ []), [], hW', trodAll_cons_mk (shut_bool Try.underlying4 _) trodAll_mk0, trodAll_cons_mk (Below.trod laidOut (by kernel_rfl) (of_decide_eq_true (by kernel_rfl)) k0 hg lt0) trodAll_mk0, rfl, hg.frame _, fun h => by cases h⟩

theorem own : ownKnob Try.prog.godebug = none := by kernel_rfl

set_option maxRecDepth 100000 in
theorem lifted (os : Os) (started : os.Started) (H : Type) (enc : TypeId × Value → H) :
    ReturnsInHanded {} Try.checked os 14 .any (Rows.fnExactOppositeDieSpec.pre6 enc Try.prog Try.f14 Rows.fnExactOppositeDieRow.domain false) (Rows.fnExactOppositeDieSpec.post enc Try.prog Try.f14 false true false false) := by
  refine returnsInHanded_of_change (C := Try.checked) own started (by kernel_rfl) Try.func14
    (ChangeSpec.witness6 (enc := enc) (C := Try.checked) false ⟨#[], #[.agg #[.int .i64 0, .int .i64 0, .int .i64 0, .int .i64 0, .int .i64 0, .int .i64 0]], []⟩ 8 (by kernel_rfl) (by kernel_rfl) (by kernel_rfl) (by kernel_rfl)) ?_
  intro W base args ds gs before hval hW _ _
  exact contract H enc W base args ds gs before hval hW

theorem holds : Rows.FnExactOppositeDieSaid :=
  OpenClaim.holds_of_wide 14 Try.f14 rfl rfl rfl rfl rfl rfl rfl ⟨rfl, rfl, rfl, rfl, rfl⟩ rfl rfl rfl rfl rfl (by kernel_rfl) Try.func14 (by kernel_rfl)
    (of_decide_eq_true (by kernel_rfl)) (by unfold Func.isWrapper; rw [if_neg (by decide +kernel)]; exact ⟨rfl, rfl⟩)
    (fun os started H enc _ => lifted os started H enc)

end OppP
end Go.Proofs.Ytlkhjdieddankaa
