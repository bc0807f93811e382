/-
  FnExactCountFaces: for every array of six numbers the law returns true, and the array reads afterwards as it read before. No condition.
-/
import Derived.Test.YtlkhjdieddankaaRows
import Derived.Test.YtlkhjdieddankaaSortW
import Derived.Test.YtlkhjdieddankaaOpenD
import Derived.WalkKit
import Derived.WalkLawsBesides
import Derived.WalkSpells
import Derived.ProofKit
import Derived.OpenShut
import Derived.Deep.RegionWith
import Derived.Deep.WholeRow
import Derived.Deep.QuietTactic
import Derived.BigQuiet
namespace Go.Proofs.Ytlkhjdieddankaa
open Go.ChangeShapes Go.WideShapes Go.ChangeAt Go.RowKit
open Go.ChangeMaps (open_string shut_string)

namespace CountP
open Dice Arr DieW SortW

abbrev cv (f : Nat → Int) : Value := .agg (vals 31 f).toArray
/-- How many of the first k faces are j. -/
def cnt (d : Nat → Int) : Nat → Nat → Int
  | 0 => fun _ => 0
  | k + 1 => put (cnt d k) (d k).toNat (cnt d k (d k).toNat + 1)
theorem cnt_bound (d : Nat → Int) : ∀ k j, 0 ≤ cnt d k j ∧ cnt d k j ≤ k := by
  intro k
  induction k with
  | zero => intro j; simp [cnt]
  | succ k ih =>
    intro j
    have h1 := ih j
    have h2 := ih (d k).toNat
    unfold cnt put
    split <;> omega
theorem size31 : (Try.prog.info? 50).map (·.size) = some 31 := by kernel_rfl
abbrev zC : Array Value := #[.int .i64 0, .int .i64 0, .int .i64 0, .int .i64 0, .int .i64 0, .int .i64 0, .int .i64 0, .int .i64 0, .int .i64 0, .int .i64 0, .int .i64 0, .int .i64 0, .int .i64 0, .int .i64 0, .int .i64 0, .int .i64 0, .int .i64 0, .int .i64 0, .int .i64 0, .int .i64 0, .int .i64 0, .int .i64 0, .int .i64 0, .int .i64 0, .int .i64 0, .int .i64 0, .int .i64 0, .int .i64 0, .int .i64 0, .int .i64 0, .int .i64 0]
theorem zC_get {k : Nat} (h : k < 31) : zC[k]? = some (.int .i64 0) := by
  have e : zC = (vals 31 fun _ => 0).toArray := by kernel_rfl
  rw [e, List.getElem?_toArray]
  exact vals_get h
theorem fresh31 (w : World) {b : Nat} (hb : b = w.heap.size) : At (w.alloc (.cells zC 50)) b 31 (fun _ => 0) := by
  subst hb
  exact At.new w _ _ 31 _ fun k hk => zC_get hk
theorem ld31 {ops : Array Oper} {rest : List Oper} {o : Oper} {a : Act} {w : World} {Q : Exit → Act → World → Prop} (hgd : o.guard = none) (x : Operand) (ho : o.op = .load 50 x) {b : Nat} {f : Nat → Int} (hx : a.eval x = .pointer (some ⟨b, 0, none⟩)) (hA : At w b 31 f)
    (h : wpList Try.prog ops Q rest (a.put o.dst (cv f)) w) : wpList Try.prog ops Q (o :: rest) a w :=
  wpList_plain hgd fun _ hK => by
    unfold Oper.wp execOp
    simp only [ho, hx, Instr.loadAt, Instr.sureAddr, Sem.run_bind, Sem.run_pure, Result.andThen_ok, hA.loadVar Try.underlying50 size31]
    exact hK _ _ h
theorem store31 {w : World} {b : Nat} {f : Nat → Int} (h : At w b 31 f) (g : Nat → Int) : ∃ w2, (storeCells ⟨b, 0, none⟩ (vals 31 g)).run Try.prog w = .ok () w2 ∧ At w2 b 31 g ∧ (∀ B, B ≤ b → Below B w w2) ∧ ∀ p n f', p ≠ b → At w p n f' → At w2 p n f' :=
  ⟨w.setCells b 0 (vals 31 g), h.store g, h.stored g, fun _ hB => setCells_below hB _ _, fun _ _ _ hp hf => hf.keep hp _ _⟩
theorem bz31 {ops : Array Oper} {rest : List Oper} {o : Oper} {a : Act} {w : World} {Q : Exit → Act → World → Prop} (hgd : o.guard = none) (ho : o.op = .build 50 #[])
    (h : wpList Try.prog ops Q rest (a.put o.dst (cv fun _ => 0)) w) : wpList Try.prog ops Q (o :: rest) a w := by
  have e : Try.prog.built 50 [] = some (vals 31 fun _ => 0).toArray := by kernel_rfl
  refine wpList_build hgd 50 #[] ho ?_ ?_
  · simp only [List.map_toArray, List.map_nil, e, Option.isSome_some]
  · simp only [List.map_toArray, List.map_nil, e, Option.getD_some]
    exact h

set_option maxRecDepth 100000 in
set_option maxHeartbeats 4000000 in
theorem implCount_any (d : Nat → Int) (w : World) :
    Calls Try.prog 47 #[dv d] w fun e w' => e = .returned (.tuple (if isDie d then #[cv (cnt d 6), .bool true] else #[cv fun _ => 0, .bool false])) ∧ Below w.heap.size w w' := by
  have hc := implIsDie_any d
  have hix0 := fun (w : World) (k : Nat) (hk : k < 6) => run_index_vals (P := Try.prog) w 22 3 6 Try.underlying22 Try.underlying3 Try.sizeOf3 d hk
  simp only [← dv_vals] at hix0
  unfold dv at hix0
  have Hix := Lib.hid hix0; clear hix0
  have hD0 := ((At.new6 w d 22 rfl).past (.cells zC 50)).past (.cells zC 50)
  have hR0 := (fresh31 (w.alloc (sixO d 22)) (b := w.heap.size + 1) (by rw [size_alloc])).past (.cells zC 50)
  have hM0 := fresh31 ((w.alloc (sixO d 22)).alloc (.cells zC 50)) (b := w.heap.size + 2) (by rw [size_alloc, size_alloc])
  have hB0 := na (na (na (n0 w) (sixO d 22)) (.cells zC 50)) (.cells zC 50)
  cases hf : isDie d
  · rw [hf] at hc
    simp only [Bool.false_eq_true, ↓reduceIte]
    unfold dv at hc
    have Hc := Lib.hid hc; clear hc hf
    unfold dv
    go_enter Try.func47, Try.ntmps47
    go_wp2_with fail
    refine (Hc.out _).mono ?_
    rintro e w1 ⟨rfl, hb1⟩
    have hm := hM0.up hb1
    have hr := hR0.up hb1
    have hB := nx hB0 hb1
    obtain ⟨w2, hst, hA2, hB2, hK2⟩ := store31 hr (fun _ => 0)
    have hbl := hB.trans (hB2 _ (by omega))
    clear hb1 hD0 hR0 hM0 hB0 hB2 hK2
    go_wp2_with (refine ld31 rfl _ rfl rfl hm ?_)
    exact ret_cell_tmp (b := w.heap.size + 1) (n := 31) (f := fun _ => 0) Try.results47 rfl rfl Try.underlying50 size31 hA2 rfl ⟨rfl, hbl⟩
  · have hu : upto d 6 := of_decide_eq_true hf
    have hbnd := cnt_bound d
    rw [hf] at hc
    simp only [↓reduceIte]
    unfold dv at hc
    have Hc := Lib.hid hc; clear hc hf
    have Hcb := Lib.hid hbnd; clear hbnd
    unfold dv
    go_enter Try.func47, Try.ntmps47
    go_wp2_with fail
    refine (Hc.out _).mono ?_
    rintro e w1 ⟨rfl, hb1⟩
    have hd1 := hD0.up hb1
    have hm1 := hM0.up hb1
    have hr1 := hR0.up hb1
    have hB1 := nx hB0 hb1
    obtain ⟨e0, e1, e2, e3, e4, e5⟩ := hd1.six
    clear hb1 hD0 hR0 hM0 hB0
    go_wp2_with fail
    clear e0 e1 e2 e3 e4 e5
    go_loopw [12] (fun iv wr => ∃ k : Nat, k ≤ 6 ∧ iv = .int .i64 k ∧ Below w.heap.size w wr ∧ At wr w.heap.size 6 d ∧ At wr (w.heap.size + 1) 31 (fun _ => 0) ∧ At wr (w.heap.size + 2) 31 (cnt d k)) (fun iv _ => 6 - (intOf iv).toNat)
    case atStart => exact ⟨0, by omega, rfl, hB1, hd1, hr1, hm1⟩
    case round =>
      clear hd1 hm1 hr1 hB1
      obtain ⟨k, hk, rfl, hb, hd, hr, hm⟩ := hrel
      by_cases hlt : k < 6
      · have bk := hu k hlt
        have hj : (d k).toNat < 31 := by omega
        have cj := hm.cell (d k).toNat hj
        have zj := hm.free (d k).toNat
        have hcb := Hcb.out k (d k).toNat
        have hdk := hd.cell k hlt
        have hlt31 : d k < 31 := by omega
        have hix := fun w => Hix.out w k hlt
        go_wp2_with fail
        go_roundw
        case rel => exact ⟨k + 1, by omega, by go_num, hb.setCell (p := ⟨w.heap.size + 2, (d k).toNat, none⟩) (by show w.heap.size ≤ w.heap.size + 2; omega) _, hd.other (by omega) _ _, hr.other (by omega) _ _, hm.set hj _⟩
        case measure => simp [intOf]; omega
      · obtain rfl : k = 6 := by omega
        obtain ⟨w2, hst, hA2, hB2, hK2⟩ := store31 hr (cnt d 6)
        have hbl := hb.trans (hB2 _ (by omega))
        clear hB2 hK2
        go_wp2_with (refine ld31 rfl _ rfl rfl hm ?_)
        exact ret_cell_tmp (b := w.heap.size + 1) (n := 31) (f := cnt d 6) Try.results47 rfl rfl Try.underlying50 size31 hA2 rfl ⟨rfl, hbl⟩

set_option maxRecDepth 100000 in
set_option maxHeartbeats 4000000 in
theorem specCount_any (d : Nat → Int) (w : World) :
    Calls Try.prog 46 #[dv d] w fun e w' => e = .returned (.tuple (if isDie d then #[cv (cnt d 6), .bool true] else #[cv fun _ => 0, .bool false])) ∧ Below w.heap.size w w' := by
  have hc := l2Die_any d
  have hD0 := ((At.new6 w d 22 rfl).past (.cells zC 50)).past (.cells zC 50)
  have hR0 := (fresh31 (w.alloc (sixO d 22)) (b := w.heap.size + 1) (by rw [size_alloc])).past (.cells zC 50)
  have hM0 := fresh31 ((w.alloc (sixO d 22)).alloc (.cells zC 50)) (b := w.heap.size + 2) (by rw [size_alloc, size_alloc])
  obtain ⟨w0', hst0, hM', hB', hK'⟩ := store31 hM0 (fun _ => 0)
  have hD' := hK' _ _ _ (by omega) hD0
  have hR' := hK' _ _ _ (by omega) hR0
  have hB0 := na (na (na (n0 w) (sixO d 22)) (.cells zC 50)) (.cells zC 50)
  have hBB := hB0.trans (hB' _ (by omega))
  clear hD0 hR0 hM0 hB0 hB' hK'
  cases hf : isDie d
  · rw [hf] at hc
    simp only [Bool.false_eq_true, ↓reduceIte]
    unfold dv at hc
    have Hc := Lib.hid hc; clear hc hf
    unfold dv
    go_enter Try.func46, Try.ntmps46
    obtain ⟨q0, q1, q2, q3, q4, q5⟩ := hD'.six
    go_wp2_with (refine bz31 rfl rfl ?_)
    clear hst0 q0 q1 q2 q3 q4 q5
    refine (Hc.out _).mono ?_
    rintro e w1 ⟨rfl, hb1⟩
    have hm := hM'.up hb1
    have hr := hR'.up hb1
    have hB := nx hBB hb1
    obtain ⟨w2, hst, hA2, hB2, hK2⟩ := store31 hr (fun _ => 0)
    have hbl := hB.trans (hB2 _ (by omega))
    clear hb1 hD' hR' hM' hBB hB2 hK2
    go_wp2_with (refine ld31 rfl _ rfl rfl hm ?_)
    exact ret_cell_tmp (b := w.heap.size + 1) (n := 31) (f := fun _ => 0) Try.results46 rfl rfl Try.underlying50 size31 hA2 rfl ⟨rfl, hbl⟩
  · have hu : upto d 6 := of_decide_eq_true hf
    have hbnd := cnt_bound d
    rw [hf] at hc
    simp only [↓reduceIte]
    unfold dv at hc
    have Hc := Lib.hid hc; clear hc hf
    have Hcb := Lib.hid hbnd; clear hbnd
    unfold dv
    go_enter Try.func46, Try.ntmps46
    obtain ⟨q0, q1, q2, q3, q4, q5⟩ := hD'.six
    go_wp2_with (refine bz31 rfl rfl ?_)
    clear hst0 q0 q1 q2 q3 q4 q5
    refine (Hc.out _).mono ?_
    rintro e w1 ⟨rfl, hb1⟩
    have hd1 := hD'.up hb1
    have hm1 := hM'.up hb1
    have hr1 := hR'.up hb1
    have hB1 := nx hBB hb1
    clear hb1 hD' hR' hM' hBB
    go_wp2_with fail
    go_loopw [5] (fun iv wr => ∃ k : Nat, k ≤ 6 ∧ iv = .int .i64 k ∧ Below w.heap.size w wr ∧ At wr w.heap.size 6 d ∧ At wr (w.heap.size + 1) 31 (fun _ => 0) ∧ At wr (w.heap.size + 2) 31 (cnt d k)) (fun iv _ => 6 - (intOf iv).toNat)
    case atStart => exact ⟨0, by omega, rfl, hB1, hd1, hr1, hm1⟩
    case round =>
      clear hd1 hm1 hr1 hB1
      obtain ⟨k, hk, rfl, hb, hd, hr, hm⟩ := hrel
      by_cases hlt : k < 6
      · have bk := hu k hlt
        have hj : (d k).toNat < 31 := by omega
        have cj := hm.cell (d k).toNat hj
        have zj := hm.free (d k).toNat
        have hcb := Hcb.out k (d k).toNat
        have hdk := hd.cell k hlt
        have hlt31 : d k < 31 := by omega
        go_wp2_with fail
        go_roundw
        case rel => exact ⟨k + 1, by omega, by go_num, hb.setCell (p := ⟨w.heap.size + 2, (d k).toNat, none⟩) (by show w.heap.size ≤ w.heap.size + 2; omega) _, hd.other (by omega) _ _, hr.other (by omega) _ _, hm.set hj _⟩
        case measure => simp [intOf]; omega
      · obtain rfl : k = 6 := by omega
        obtain ⟨w2, hst, hA2, hB2, hK2⟩ := store31 hr (cnt d 6)
        have hbl := hb.trans (hB2 _ (by omega))
        clear hB2 hK2
        go_wp2_with (refine ld31 rfl _ rfl rfl hm ?_)
        exact ret_cell_tmp (b := w.heap.size + 1) (n := 31) (f := cnt d 6) Try.results46 rfl rfl Try.underlying50 size31 hA2 rfl ⟨rfl, hbl⟩

theorem cv_new (w : World) (f : Nat → Int) : At (w.alloc (.cells (vals 31 f).toArray 50)) w.heap.size 31 f :=
  At.new w _ _ 31 f fun k hk => by rw [List.getElem?_toArray]; exact vals_get hk
set_option maxRecDepth 100000 in
set_option maxHeartbeats 4000000 in
theorem eq31_any (f : Nat → Int) (w : World) :
    Calls Try.prog 48 #[cv f, cv f] w fun e w' => e = .returned (.bool true) ∧ Below w.heap.size w w' := by
  have h1 := (cv_new w f).past (.cells (vals 31 f).toArray 50)
  have h2 := cv_new (w.alloc (.cells (vals 31 f).toArray 50)) f
  rw [size_alloc] at h2
  have hB := na (na (n0 w) (.cells (vals 31 f).toArray 50)) (.cells (vals 31 f).toArray 50)
  go_enter Try.func48, Try.ntmps48
  go_wp2_with fail
  go_loopw [5] (fun i wr => ∃ k : Nat, k ≤ 31 ∧ i = .int .i64 k ∧ Below w.heap.size w wr ∧ At wr w.heap.size 31 f ∧ At wr (w.heap.size + 1) 31 f) (fun i _ => 31 - (intOf i).toNat)
  case atStart => exact ⟨0, by omega, rfl, hB, h1, h2⟩
  case round =>
    clear hB h1 h2
    obtain ⟨k, hk, rfl, hb, hd, hg⟩ := hrel
    by_cases hlt : k < 31
    · have c1 := hd.cell k hlt
      have c2 := hg.cell k hlt
      go_wp2_with fail
      go_region
      go_wp2_with fail
      go_roundw
      case rel => exact ⟨k + 1, by omega, by go_num, hb.drew, hd.drew, hg.drew⟩
      case measure => simp [intOf]; omega
    · obtain rfl : k = 31 := by omega
      go_wp2_with fail
      go_ret
      exact ⟨rfl, hb⟩

set_option maxRecDepth 100000 in
set_option maxHeartbeats 4000000 in
theorem law_any (d : Nat → Int) (w : World) : Calls Try.prog 13 #[dv d] w fun e w' => e = .returned (.bool true) ∧ Below w.heap.size w w' := by
  obtain ⟨r, b, ho⟩ : ∃ r b, (if isDie d then #[cv (cnt d 6), .bool true] else #[cv fun _ => 0, .bool false] : Array Value) = #[cv r, .bool b] := by
    cases isDie d
    · exact ⟨fun _ => 0, false, rfl⟩
    · exact ⟨_, true, rfl⟩
  have ht := toA6_any d
  have hs := specCount_any d
  have hi := implCount_any d
  rw [ho] at hs hi
  unfold dv at ht hs hi
  have Ht := Lib.hid ht; clear ht
  have Hs := Lib.hid hs; clear hs
  have Hi := Lib.hid hi; clear hi
  have Hq := Lib.hid (fun w => eq31_any r w)
  clear ho
  unfold dv
  go_enter Try.func13, Try.ntmps13
  go_wp2_with fail
  refine (Ht.out _).mono ?_
  rintro e w1 ⟨rfl, hb1⟩
  go_wp2_with fail
  refine (Hs.out _).mono ?_
  rintro e w2 ⟨rfl, hb2⟩
  have hB2 := nx (nx (na (n0 w) _) hb1) hb2
  have hd2 := ((At.new6 w d 22 rfl).up hb1).up hb2
  obtain ⟨w2', hst2, hW2, hS2, hK2⟩ := store31 (fresh31 w2 (b := w2.heap.size) rfl) r
  have hB2' := (na hB2 _).trans (hS2 _ hB2.size)
  have hd := hK2 _ _ _ (Nat.ne_of_lt hd2.lt) (hd2.past _)
  clear hS2 hK2 hb1 hb2 hB2 hd2
  obtain ⟨e0, e1, e2, e3, e4, e5⟩ := hd.six
  go_wp2_with fail
  clear hst2 e0 e1 e2 e3 e4 e5
  refine (Ht.out _).mono ?_
  rintro e w3 ⟨rfl, hb3⟩
  go_wp2_with fail
  refine (Hi.out _).mono ?_
  rintro e w4 ⟨rfl, hb4⟩
  have hB4 := nx (nx hB2' hb3) hb4
  have hW4 := (hW2.up hb3).up hb4
  obtain ⟨w4', hst4, hG4, hS4, hK4⟩ := store31 (fresh31 w4 (b := w4.heap.size) rfl) r
  have hB4' := (na hB4 _).trans (hS4 _ hB4.size)
  have hW4' := hK4 _ _ _ (Nat.ne_of_lt hW4.lt) (hW4.past _)
  clear hb3 hb4 hB4 hW4 hS4 hK4 hW2 hB2' hd
  go_wp2_with (first | refine ld31 rfl _ rfl rfl hG4 ?_ | refine ld31 rfl _ rfl rfl hW4' ?_)
  refine (Hq.out _).mono ?_
  rintro e w5 ⟨rfl, hb5⟩
  have hbl5 := nx hB4' hb5
  clear hb5 hst4
  cases b
  all_goals
    go_wp2_with fail
    go_ret
    exact ⟨rfl, hbl5⟩

theorem laidOut : laidOutB Try.prog = true := by kernel_rfl
/-- What the walk gives, for every argument. -/
theorem contract (H : Type) (enc : TypeId × Value → H) (W : World) (base : Nat) (args : Array Value) (ds gs : List (DataW H)) (before : List MemPlace)
    (hval : ∀ (j : Nat) t v, Try.f13.params[j]? = some t → args[j]? = some v → Value.okWide Try.prog W .any base t v)
    (hW : DataW.Whole enc Try.prog Try.f13.params.toList Rows.fnExactCountFacesSpec.vars false W args.toList ds gs before) :
    Calls Try.prog 13 args W fun e W' => ∃ v, e = .returned v ∧ Rows.fnExactCountFacesSpec.post enc Try.prog Try.f13 false true false false W args v W' := by
  have hW' := hW
  obtain ⟨p, q, hA0, hV, rfl, hfz, hnd⟩ := hW
  have hA : DataW.TrodAll enc Try.prog W 0 (fun _ => true) true Try.f13.params.toList args.toList ds p := hA0
  rw [Try.params13] at hA hval
  obtain ⟨v0, vs0, d0, ds0, p0, q0, hargs, rfl, rfl, h0, r0⟩ := trodAll_cons hA
  obtain ⟨rfl, rfl, rfl⟩ := trodAll_nil r0
  obtain rfl : args = #[v0] := by cases args; simp_all
  obtain ⟨rfl, rfl⟩ := trodVars_none hV
  obtain ⟨a0, rfl, w0⟩ := OpenD.die_of (hval 0 22 v0 rfl rfl) h0
  have k0 := h0
  have lt0 : ∀ x ∈ p0, x.block < W.heap.size := fun x hx => by have := hW'.lt x (by simp [hx]); simpa using this
  clear hA0
  simp only [List.append_nil] at hW'
  refine (law_any a0 W).mono fun e W' ⟨he, hg⟩ => ?_
  subst he
  exact ⟨_, rfl, _, _, _, [], (p0 ++ []), [], hW', trodAll_cons_mk (shut_bool Try.underlying4 _) trodAll_mk0, trodAll_cons_mk (Below.trod laidOut (by kernel_rfl) (of_decide_eq_true (by kernel_rfl)) k0 hg lt0) trodAll_mk0, rfl, hg.frame _, fun h => by cases h⟩

theorem own : ownKnob Try.prog.godebug = none := by kernel_rfl

set_option maxRecDepth 100000 in
theorem lifted (os : Os) (started : os.Started) (H : Type) (enc : TypeId × Value → H) :
    ReturnsInHanded {} Try.checked os 13 .any (Rows.fnExactCountFacesSpec.pre6 enc Try.prog Try.f13 Rows.fnExactCountFacesRow.domain false) (Rows.fnExactCountFacesSpec.post enc Try.prog Try.f13 false true false false) := by
  refine returnsInHanded_of_change (C := Try.checked) own started (by kernel_rfl) Try.func13
    (ChangeSpec.witness6 (enc := enc) (C := Try.checked) false ⟨#[], #[.agg #[.int .i64 0, .int .i64 0, .int .i64 0, .int .i64 0, .int .i64 0, .int .i64 0]], []⟩ 8 (by kernel_rfl) (by kernel_rfl) (by kernel_rfl) (by kernel_rfl)) ?_
  intro W base args ds gs before hval hW _ _
  exact contract H enc W base args ds gs before hval hW

theorem holds : Rows.FnExactCountFacesSaid :=
  OpenClaim.holds_of_wide 13 Try.f13 rfl rfl rfl rfl rfl rfl rfl ⟨rfl, rfl, rfl, rfl, rfl⟩ rfl rfl rfl rfl rfl (by kernel_rfl) Try.func13 (by kernel_rfl)
    (of_decide_eq_true (by kernel_rfl)) (by unfold Func.isWrapper; rw [if_neg (by decide +kernel)]; exact ⟨rfl, rfl⟩)
    (fun os started H enc _ => lifted os started H enc)

end CountP
end Go.Proofs.Ytlkhjdieddankaa
