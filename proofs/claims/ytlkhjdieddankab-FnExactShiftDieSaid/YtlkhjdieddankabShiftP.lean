/-
  FnExactShiftDie: for every array of six numbers and every number the law returns true, and the array reads afterwards as it read before. No condition.
-/
import Derived.Test.YtlkhjdieddankabRows
import Derived.Test.YtlkhjdieddankabSortW
import Derived.Test.YtlkhjdieddankabOpenD
import Derived.WalkKit
import Derived.WalkLawsBesides
import Derived.WalkSpells
import Derived.ProofKit
import Derived.OpenShut
import Derived.Deep.RegionWith
import Derived.Deep.QuietTactic
import Derived.BigQuiet
namespace Go.Proofs.Ytlkhjdieddankab
open Go.ChangeShapes Go.WideShapes Go.ChangeAt Go.RowKit
open Go.ChangeMaps (open_string shut_string)

namespace ShiftP
open Dice Arr DieW SortW

/-- The numbers shifted. -/
def sh (d : Nat → Int) (k : Int) (j : Nat) : Int := wrap64 (d j + k)
theorem wrap_id {x : Int} (h1 : -9223372036854775808 ≤ x) (h2 : x ≤ 9223372036854775807) : wrap64 x = x := by
  unfold wrap64
  omega
theorem no_shift {d : Nat → Int} {k : Int} (hu : upto d 6) (hk : OpenD.fit k) (h : ¬ (-30 ≤ k ∧ k ≤ 30)) : isDie (sh d k) = false := by
  refine decide_eq_false fun hs => h ?_
  have h0 := hs 0 (by omega)
  have u0 := hu 0 (by omega)
  unfold OpenD.fit at hk
  have e : sh d k 0 = d 0 + k ∨ sh d k 0 = d 0 + k - 18446744073709551616 ∨ sh d k 0 = d 0 + k + 18446744073709551616 := by
    unfold sh
    unfold wrap64
    omega
  omega
set_option maxHeartbeats 4000000 in
theorem specShift_any (d : Nat → Int) (k : Int) (w : World) (hk : OpenD.fit k) : Calls Try.prog 8 #[dv d, .int .i64 k] w fun e w' => e = .returned (.tuple (if isDie d && isDie (sh d k) then #[dv (sh d k), .bool true] else #[dv fun _ => 0, .bool false])) ∧ Below w.heap.size w w' := by
  have Hin := Lib.hid (fun (x a b : Int) (w : World) => l1In_any x a b w)
  have hc := l2Die_any d
  have hc2 := l2Die_any (sh d k)
  unfold dv at hc hc2
  have Hc := Lib.hid hc; clear hc
  have Hc2 := Lib.hid hc2; clear hc2
  unfold dv
  cases hf : isDie d
  · rw [hf] at Hc
    simp only [Bool.false_and, Bool.false_eq_true, ↓reduceIte]
    clear hf Hc2
    go_enter Try.func8, Try.ntmps8
    go_wp2_with fail
    refine (Hc.out _).mono ?_
    rintro e w1 ⟨rfl, hb1⟩
    have hbl : Below w.heap.size w w1 := nx (na (na (n0 w) _) _) hb1
    have hr := (At.new6 (w.alloc (sixO d 22)) (fun _ => 0) 22 (b := w.heap.size + 1) (by rw [size_alloc])).up hb1
    clear hb1
    obtain ⟨r0, r1, r2, r3, r4, r5⟩ := hr.six
    obtain ⟨z0, z1, z2, z3, z4, z5⟩ := hr.free6
    go_wp2_with fail
    refine ret_cell_tmp (b := w.heap.size + 1) (n := 6) (f := fun _ => 0) Try.results8 rfl rfl Try.underlying22 (by kernel_rfl) (hr.stored (fun _ => 0)) rfl ⟨rfl, ?_⟩
    exact hbl.trans (setCells_below (w := w1) (p := w.heap.size + 1) (B := w.heap.size) (by omega) (vals 6 (fun _ => 0)) 0)

  have hu : upto d 6 := of_decide_eq_true hf
  rw [hf] at Hc
  clear hf
  cases hg : isDie (sh d k)
  · rw [hg] at Hc2
    simp only [Bool.and_false, Bool.false_eq_true, ↓reduceIte]
    clear hg
    by_cases hin : -30 ≤ k ∧ k ≤ 30
    · have hin2 := hin
      have hind : decide (-30 ≤ k ∧ k ≤ 30) = true := decide_eq_true hin
      go_enter Try.func8, Try.ntmps8
      go_wp2_with fail
      refine (Hc.out _).mono ?_
      rintro e w1 ⟨rfl, hb1⟩
      have hbl : Below w.heap.size w w1 := nx (na (na (n0 w) _) _) hb1
      have hr := (At.new6 (w.alloc (sixO d 22)) (fun _ => 0) 22 (b := w.heap.size + 1) (by rw [size_alloc])).up hb1
      have hd1 := ((At.new6 w d 22 rfl).past (sixO (fun _ => 0) 22)).up hb1
      clear hb1
      go_wp2_with fail
      refine (Hin.out _ _ _ _).mono ?_
      rintro e w2 ⟨rfl, rfl⟩
      go_wp2_with fail
      go_loopw [6] (fun i wr => ∃ (j : Nat) (f : Nat → Int), j ≤ 6 ∧ i = .int .i64 j ∧ Below w.heap.size w wr ∧ At wr w.heap.size 6 f ∧ At wr (w.heap.size + 1) 6 (fun _ => 0) ∧ Hid (∀ m, m < 6 → f m = if m < j then sh d k m else d m)) (fun i _ => 6 - (intOf i).toNat)
      case atStart => exact ⟨0, d, by omega, rfl, hbl, hd1, hr, fun m hm => by rw [if_neg (by omega)]⟩
      case round =>
        clear hd1 hr
        obtain ⟨j, f, hj, rfl, hb, hf, hr, he⟩ := hrel
        by_cases hlt : j < 6
        · have cj := hf.cell j hlt
          have zj := hf.free j
          have ej := he.out j hlt
          rw [if_neg (by omega)] at ej
          rw [ej] at cj
          have bj := hu j hlt
          clear ej
          go_wp2_with fail
          go_roundw
          case rel =>
            have es : d j + k = sh d k j := (wrap_id (by omega) (by omega)).symm
            refine ⟨j + 1, put f j (sh d k j), by omega, by go_num, ?_, ?_, ?_, ?_⟩
            · rw [es]; exact hb.setCell (p := ⟨w.heap.size, j, none⟩) (by show w.heap.size ≤ w.heap.size; omega) _
            · rw [es]; exact hf.set hlt _
            · rw [es]; exact hr.other (by omega) _ _
            intro m hm
            by_cases hmj : m = j
            · subst hmj
              rw [put_same, if_pos (by omega)]
            · rw [put_other _ hmj, he.out m hm]
              by_cases h1 : m < j
              · rw [if_pos h1, if_pos (by omega)]
              · rw [if_neg h1, if_neg (by omega)]
          case measure => simp [intOf]; omega
        · obtain rfl : j = 6 := by omega
          have hf' : At wr w.heap.size 6 (sh d k) := hf.congr fun m hm => by rw [he.out m hm, if_pos hm]
          obtain ⟨e0, e1, e2, e3, e4, e5⟩ := hf'.six
          go_wp2_with fail
          refine (Hc2.out _).mono ?_
          rintro e w2 ⟨rfl, hb2⟩
          have hbl2 := nx hb hb2
          have hr := hr.up hb2
          obtain ⟨r0, r1, r2, r3, r4, r5⟩ := hr.six
          obtain ⟨z0, z1, z2, z3, z4, z5⟩ := hr.free6
          go_wp2_with fail
          refine ret_cell_tmp (b := w.heap.size + 1) (n := 6) (f := fun _ => 0) Try.results8 rfl rfl Try.underlying22 (by kernel_rfl) (hr.stored (fun _ => 0)) rfl ⟨rfl, ?_⟩
          exact hbl2.trans (setCells_below (w := w2) (p := w.heap.size + 1) (B := w.heap.size) (by omega) (vals 6 (fun _ => 0)) 0)
    · have hind : decide (-30 ≤ k ∧ k ≤ 30) = false := decide_eq_false hin
      clear Hc2
      go_enter Try.func8, Try.ntmps8
      go_wp2_with fail
      refine (Hc.out _).mono ?_
      rintro e w1 ⟨rfl, hb1⟩
      have hbl : Below w.heap.size w w1 := nx (na (na (n0 w) _) _) hb1
      have hr := (At.new6 (w.alloc (sixO d 22)) (fun _ => 0) 22 (b := w.heap.size + 1) (by rw [size_alloc])).up hb1
      clear hb1
      obtain ⟨r0, r1, r2, r3, r4, r5⟩ := hr.six
      obtain ⟨z0, z1, z2, z3, z4, z5⟩ := hr.free6
      go_wp2_with fail
      refine (Hin.out _ _ _ _).mono ?_
      rintro e w2 ⟨rfl, rfl⟩
      go_wp2_with fail
      refine ret_cell_tmp (b := w.heap.size + 1) (n := 6) (f := fun _ => 0) Try.results8 rfl rfl Try.underlying22 (by kernel_rfl) (hr.stored (fun _ => 0)) rfl ⟨rfl, ?_⟩
      exact hbl.trans (setCells_below (w := w2) (p := w.heap.size + 1) (B := w.heap.size) (by omega) (vals 6 (fun _ => 0)) 0)


  · rw [hg] at Hc2
    simp only [Bool.and_self, ↓reduceIte]
    have Hg := Lib.hid hg; clear hg
    by_cases hin : -30 ≤ k ∧ k ≤ 30
    · have hin2 := hin
      have hind : decide (-30 ≤ k ∧ k ≤ 30) = true := decide_eq_true hin
      go_enter Try.func8, Try.ntmps8
      go_wp2_with fail
      refine (Hc.out _).mono ?_
      rintro e w1 ⟨rfl, hb1⟩
      have hbl : Below w.heap.size w w1 := nx (na (na (n0 w) _) _) hb1
      have hr := (At.new6 (w.alloc (sixO d 22)) (fun _ => 0) 22 (b := w.heap.size + 1) (by rw [size_alloc])).up hb1
      have hd1 := ((At.new6 w d 22 rfl).past (sixO (fun _ => 0) 22)).up hb1
      clear hb1
      go_wp2_with fail
      refine (Hin.out _ _ _ _).mono ?_
      rintro e w2 ⟨rfl, rfl⟩
      go_wp2_with fail
      go_loopw [6] (fun i wr => ∃ (j : Nat) (f : Nat → Int), j ≤ 6 ∧ i = .int .i64 j ∧ Below w.heap.size w wr ∧ At wr w.heap.size 6 f ∧ At wr (w.heap.size + 1) 6 (fun _ => 0) ∧ Hid (∀ m, m < 6 → f m = if m < j then sh d k m else d m)) (fun i _ => 6 - (intOf i).toNat)
      case atStart => exact ⟨0, d, by omega, rfl, hbl, hd1, hr, fun m hm => by rw [if_neg (by omega)]⟩
      case round =>
        clear hd1 hr
        obtain ⟨j, f, hj, rfl, hb, hf, hr, he⟩ := hrel
        by_cases hlt : j < 6
        · have cj := hf.cell j hlt
          have zj := hf.free j
          have ej := he.out j hlt
          rw [if_neg (by omega)] at ej
          rw [ej] at cj
          have bj := hu j hlt
          clear ej
          go_wp2_with fail
          go_roundw
          case rel =>
            have es : d j + k = sh d k j := (wrap_id (by omega) (by omega)).symm
            refine ⟨j + 1, put f j (sh d k j), by omega, by go_num, ?_, ?_, ?_, ?_⟩
            · rw [es]; exact hb.setCell (p := ⟨w.heap.size, j, none⟩) (by show w.heap.size ≤ w.heap.size; omega) _
            · rw [es]; exact hf.set hlt _
            · rw [es]; exact hr.other (by omega) _ _
            intro m hm
            by_cases hmj : m = j
            · subst hmj
              rw [put_same, if_pos (by omega)]
            · rw [put_other _ hmj, he.out m hm]
              by_cases h1 : m < j
              · rw [if_pos h1, if_pos (by omega)]
              · rw [if_neg h1, if_neg (by omega)]
          case measure => simp [intOf]; omega
        · obtain rfl : j = 6 := by omega
          have hf' : At wr w.heap.size 6 (sh d k) := hf.congr fun m hm => by rw [he.out m hm, if_pos hm]
          obtain ⟨e0, e1, e2, e3, e4, e5⟩ := hf'.six
          go_wp2_with fail
          refine (Hc2.out _).mono ?_
          rintro e w2 ⟨rfl, hb2⟩
          have hbl2 := nx hb hb2
          have hr := hr.up hb2
          obtain ⟨r0, r1, r2, r3, r4, r5⟩ := hr.six
          obtain ⟨z0, z1, z2, z3, z4, z5⟩ := hr.free6
          obtain ⟨y0, y1, y2, y3, y4, y5⟩ := (hf'.up hb2).six
          go_wp2_with fail
          refine ret_cell_tmp (b := w.heap.size + 1) (n := 6) (f := sh d k) Try.results8 rfl rfl Try.underlying22 (by kernel_rfl) (hr.stored (sh d k)) rfl ⟨rfl, ?_⟩
          exact hbl2.trans (setCells_below (w := w2) (p := w.heap.size + 1) (B := w.heap.size) (by omega) (vals 6 (sh d k)) 0)
    · exact absurd (no_shift hu hk hin) (by rw [Hg.out]; decide)


set_option maxHeartbeats 4000000 in
theorem implShift_any (d : Nat → Int) (k : Int) (w : World) : Calls Try.prog 10 #[dv d, .int .i64 k] w fun e w' => e = .returned (.tuple (if isDie d && isDie (sh d k) then #[dv (sh d k), .bool true] else #[dv fun _ => 0, .bool false])) ∧ Below w.heap.size w w' := by
  have hc := implIsDie_any d
  have hc2 := implIsDie_any (sh d k)
  unfold dv at hc hc2
  have Hc := Lib.hid hc; clear hc
  have Hc2 := Lib.hid hc2; clear hc2
  unfold dv
  cases hf : isDie d
  · rw [hf] at Hc
    simp only [Bool.false_and, Bool.false_eq_true, ↓reduceIte]
    clear hf Hc2
    go_enter Try.func10, Try.ntmps10
    go_wp2_with fail
    refine (Hc.out _).mono ?_
    rintro e w1 ⟨rfl, hb1⟩
    have hbl : Below w.heap.size w w1 := nx (na (na (n0 w) _) _) hb1
    have hr := (At.new6 (w.alloc (sixO d 22)) (fun _ => 0) 22 (b := w.heap.size + 1) (by rw [size_alloc])).up hb1
    clear hb1
    obtain ⟨r0, r1, r2, r3, r4, r5⟩ := hr.six
    obtain ⟨z0, z1, z2, z3, z4, z5⟩ := hr.free6
    go_wp2_with fail
    refine ret_cell_tmp (b := w.heap.size + 1) (n := 6) (f := fun _ => 0) Try.results10 rfl rfl Try.underlying22 (by kernel_rfl) (hr.stored (fun _ => 0)) rfl ⟨rfl, ?_⟩
    exact hbl.trans (setCells_below (w := w1) (p := w.heap.size + 1) (B := w.heap.size) (by omega) (vals 6 (fun _ => 0)) 0)

  have hu : upto d 6 := of_decide_eq_true hf
  rw [hf] at Hc
  clear hf
  cases hg : isDie (sh d k)
  · rw [hg] at Hc2
    simp only [Bool.and_false, Bool.false_eq_true, ↓reduceIte]
    clear hg
    go_enter Try.func10, Try.ntmps10
    go_wp2_with fail
    refine (Hc.out _).mono ?_
    rintro e w1 ⟨rfl, hb1⟩
    have hbl : Below w.heap.size w w1 := nx (na (na (n0 w) _) _) hb1
    have hr := (At.new6 (w.alloc (sixO d 22)) (fun _ => 0) 22 (b := w.heap.size + 1) (by rw [size_alloc])).up hb1
    have hd1 := ((At.new6 w d 22 rfl).past (sixO (fun _ => 0) 22)).up hb1
    clear hb1
    go_wp2_with fail
    go_loopw [11] (fun i wr => ∃ (j : Nat) (f : Nat → Int), j ≤ 6 ∧ i = .int .i64 j ∧ Below w.heap.size w wr ∧ At wr w.heap.size 6 f ∧ At wr (w.heap.size + 1) 6 (fun _ => 0) ∧ Hid (∀ m, m < 6 → f m = if m < j then sh d k m else d m)) (fun i _ => 6 - (intOf i).toNat)
    case atStart => exact ⟨0, d, by omega, rfl, hbl, hd1, hr, fun m hm => by rw [if_neg (by omega)]⟩
    case round =>
      clear hd1 hr
      obtain ⟨j, f, hj, rfl, hb, hf, hr, he⟩ := hrel
      by_cases hlt : j < 6
      · have cj := hf.cell j hlt
        have zj := hf.free j
        have ej := he.out j hlt
        rw [if_neg (by omega)] at ej
        rw [ej] at cj
        have bj := hu j hlt
        clear ej
        go_wp2_with fail
        go_roundw
        case rel =>
          have es : wrap64 (d j + k) = sh d k j := rfl
          refine ⟨j + 1, put f j (sh d k j), by omega, by go_num, ?_, ?_, ?_, ?_⟩
          · rw [es]; exact hb.setCell (p := ⟨w.heap.size, j, none⟩) (by show w.heap.size ≤ w.heap.size; omega) _
          · rw [es]; exact hf.set hlt _
          · rw [es]; exact hr.other (by omega) _ _
          intro m hm
          by_cases hmj : m = j
          · subst hmj
            rw [put_same, if_pos (by omega)]
          · rw [put_other _ hmj, he.out m hm]
            by_cases h1 : m < j
            · rw [if_pos h1, if_pos (by omega)]
            · rw [if_neg h1, if_neg (by omega)]
        case measure => simp [intOf]; omega
      · obtain rfl : j = 6 := by omega
        have hf' : At wr w.heap.size 6 (sh d k) := hf.congr fun m hm => by rw [he.out m hm, if_pos hm]
        obtain ⟨e0, e1, e2, e3, e4, e5⟩ := hf'.six
        go_wp2_with fail
        refine (Hc2.out _).mono ?_
        rintro e w2 ⟨rfl, hb2⟩
        have hbl2 := nx hb hb2
        have hr := hr.up hb2
        obtain ⟨r0, r1, r2, r3, r4, r5⟩ := hr.six
        obtain ⟨z0, z1, z2, z3, z4, z5⟩ := hr.free6
        go_wp2_with fail
        refine ret_cell_tmp (b := w.heap.size + 1) (n := 6) (f := fun _ => 0) Try.results10 rfl rfl Try.underlying22 (by kernel_rfl) (hr.stored (fun _ => 0)) rfl ⟨rfl, ?_⟩
        exact hbl2.trans (setCells_below (w := w2) (p := w.heap.size + 1) (B := w.heap.size) (by omega) (vals 6 (fun _ => 0)) 0)

  · rw [hg] at Hc2
    simp only [Bool.and_self, ↓reduceIte]
    clear hg
    go_enter Try.func10, Try.ntmps10
    go_wp2_with fail
    refine (Hc.out _).mono ?_
    rintro e w1 ⟨rfl, hb1⟩
    have hbl : Below w.heap.size w w1 := nx (na (na (n0 w) _) _) hb1
    have hr := (At.new6 (w.alloc (sixO d 22)) (fun _ => 0) 22 (b := w.heap.size + 1) (by rw [size_alloc])).up hb1
    have hd1 := ((At.new6 w d 22 rfl).past (sixO (fun _ => 0) 22)).up hb1
    clear hb1
    go_wp2_with fail
    go_loopw [11] (fun i wr => ∃ (j : Nat) (f : Nat → Int), j ≤ 6 ∧ i = .int .i64 j ∧ Below w.heap.size w wr ∧ At wr w.heap.size 6 f ∧ At wr (w.heap.size + 1) 6 (fun _ => 0) ∧ Hid (∀ m, m < 6 → f m = if m < j then sh d k m else d m)) (fun i _ => 6 - (intOf i).toNat)
    case atStart => exact ⟨0, d, by omega, rfl, hbl, hd1, hr, fun m hm => by rw [if_neg (by omega)]⟩
    case round =>
      clear hd1 hr
      obtain ⟨j, f, hj, rfl, hb, hf, hr, he⟩ := hrel
      by_cases hlt : j < 6
      · have cj := hf.cell j hlt
        have zj := hf.free j
        have ej := he.out j hlt
        rw [if_neg (by omega)] at ej
        rw [ej] at cj
        have bj := hu j hlt
        clear ej
        go_wp2_with fail
        go_roundw
        case rel =>
          have es : wrap64 (d j + k) = sh d k j := rfl
          refine ⟨j + 1, put f j (sh d k j), by omega, by go_num, ?_, ?_, ?_, ?_⟩
          · rw [es]; exact hb.setCell (p := ⟨w.heap.size, j, none⟩) (by show w.heap.size ≤ w.heap.size; omega) _
          · rw [es]; exact hf.set hlt _
          · rw [es]; exact hr.other (by omega) _ _
          intro m hm
          by_cases hmj : m = j
          · subst hmj
            rw [put_same, if_pos (by omega)]
          · rw [put_other _ hmj, he.out m hm]
            by_cases h1 : m < j
            · rw [if_pos h1, if_pos (by omega)]
            · rw [if_neg h1, if_neg (by omega)]
        case measure => simp [intOf]; omega
      · obtain rfl : j = 6 := by omega
        have hf' : At wr w.heap.size 6 (sh d k) := hf.congr fun m hm => by rw [he.out m hm, if_pos hm]
        obtain ⟨e0, e1, e2, e3, e4, e5⟩ := hf'.six
        go_wp2_with fail
        refine (Hc2.out _).mono ?_
        rintro e w2 ⟨rfl, hb2⟩
        have hbl2 := nx hb hb2
        have hr := hr.up hb2
        obtain ⟨r0, r1, r2, r3, r4, r5⟩ := hr.six
        obtain ⟨z0, z1, z2, z3, z4, z5⟩ := hr.free6
        obtain ⟨y0, y1, y2, y3, y4, y5⟩ := (hf'.up hb2).six
        go_wp2_with fail
        refine ret_cell_tmp (b := w.heap.size + 1) (n := 6) (f := sh d k) Try.results10 rfl rfl Try.underlying22 (by kernel_rfl) (hr.stored (sh d k)) rfl ⟨rfl, ?_⟩
        exact hbl2.trans (setCells_below (w := w2) (p := w.heap.size + 1) (B := w.heap.size) (by omega) (vals 6 (sh d k)) 0)


/-- What both answer. -/
def out (d : Nat → Int) (k : Int) : Nat → Int := if (isDie d && isDie (sh d k)) then sh d k else fun _ => 0
theorem out_eq (d : Nat → Int) (k : Int) : (if (isDie d && isDie (sh d k)) then #[dv (sh d k), .bool true] else #[dv fun _ => 0, .bool false]) = #[dv (out d k), .bool ((isDie d && isDie (sh d k)))] := by
  unfold out
  cases (isDie d && isDie (sh d k)) <;> rfl
theorem agree_refl (d : Nat → Int) (n : Nat) : decide (agree d d n) = true := decide_eq_true fun _ _ => rfl

set_option maxHeartbeats 2000000 in
theorem law_any (d : Nat → Int) (k : Int) (hk : OpenD.fit k) (w : World) : Calls Try.prog 3 #[dv d, .int .i64 k] w fun e w' => e = .returned (.bool true) ∧ Below w.heap.size w w' := by
  have ht := toA6_any d
  have hs := fun w => specShift_any d k w hk
  have hi := implShift_any d k
  have hq := eqA6_any (out d k) (out d k)
  rw [out_eq] at hs hi
  rw [agree_refl] at hq
  generalize out d k = r at hs hi hq
  generalize (isDie d && isDie (sh d k)) = b at hs hi
  unfold dv at ht hs hi hq
  have Ht := Lib.hid ht; clear ht
  have Hs := Lib.hid hs; clear hs
  have Hi := Lib.hid hi; clear hi
  have Hq := Lib.hid hq; clear hq
  unfold dv
  go_enter Try.func3, Try.ntmps3
  go_wp2_with fail
  refine (Ht.out _).mono ?_
  rintro e w1 ⟨rfl, hb1⟩
  go_wp2_with fail
  refine (Hs.out _).mono ?_
  rintro e w2 ⟨rfl, hb2⟩
  have hd := ((At.new6 w d 22 rfl).up hb1).up hb2
  obtain ⟨e0, e1, e2, e3, e4, e5⟩ := hd.six
  have hl1 := hd.lt
  go_wp2_with fail
  refine (Ht.out _).mono ?_
  rintro e w3 ⟨rfl, hb3⟩
  go_wp2_with fail
  refine (Hi.out _).mono ?_
  rintro e w4 ⟨rfl, hb4⟩
  have hg := ((At.new6 w2 r 22 rfl).up hb3).up hb4
  obtain ⟨g0, g1, g2, g3, g4, g5⟩ := hg.six
  have hl2 := hg.lt
  have hbl : Below w.heap.size w w4 := nx (nx (na (nx (nx (na (n0 w) _) hb1) hb2) _) hb3) hb4
  clear hb1 hb2 hb3 hb4
  go_wp2_with fail
  refine (Hq.out _).mono ?_
  rintro e w5 ⟨rfl, hb5⟩
  have hbl5 := nx (na hbl _) hb5
  clear hb5
  cases b
  all_goals
    go_wp2_with fail
    go_ret
    exact ⟨rfl, hbl5⟩

theorem laidOut : laidOutB Try.prog = true := by kernel_rfl
/-- What the walk gives, for every argument. -/
theorem contract (H : Type) (enc : TypeId × Value → H) (W : World) (base : Nat) (args : Array Value) (ds gs : List (DataW H)) (before : List MemPlace)
    (hval : ∀ (j : Nat) t v, Try.f3.params[j]? = some t → args[j]? = some v → Value.okWide Try.prog W .any base t v)
    (hW : DataW.Whole enc Try.prog Try.f3.params.toList Rows.fnExactShiftDieSpec.vars false W args.toList ds gs before) :
    Calls Try.prog 3 args W fun e W' => ∃ v, e = .returned v ∧ Rows.fnExactShiftDieSpec.post enc Try.prog Try.f3 false true false false W args v W' := by
  have hW' := hW
  obtain ⟨p, q, hA0, hV, rfl, hfz, hnd⟩ := hW
  have hA : DataW.TrodAll enc Try.prog W 0 (fun _ => true) true Try.f3.params.toList args.toList ds p := hA0
  rw [Try.params3] at hA hval
  obtain ⟨v0, vs0, d0, ds0, p0, q0, hargs, rfl, rfl, h0, r0⟩ := trodAll_cons hA
  obtain ⟨v1, vs1, d1, ds1, p1, q1, rfl, rfl, rfl, h1, r1⟩ := trodAll_cons r0
  obtain ⟨rfl, rfl, rfl⟩ := trodAll_nil r1
  obtain rfl : args = #[v0, v1] := by cases args; simp_all
  obtain ⟨rfl, rfl⟩ := trodVars_none hV
  obtain ⟨a0, rfl, w0⟩ := OpenD.die_of (hval 0 22 v0 rfl rfl) h0
  have k0 := h0
  have lt0 : ∀ x ∈ p0, x.block < W.heap.size := fun x hx => by have := hW'.lt x (by simp [hx]); simpa using this
  obtain ⟨a1, rfl, rfl, rfl, wf1⟩ := open_int Try.underlying3 (hval 1 3 v1 rfl rfl) h1
  have w1 : -9223372036854775808 ≤ a1 ∧ a1 ≤ 9223372036854775807 := by simpa [Lit.wf, IntKind.min, IntKind.max, IntKind.bits, IntKind.signed] using wf1
  clear hA0
  simp only [List.append_nil] at hW'
  refine (law_any a0 a1 w1 W).mono fun e W' ⟨he, hg⟩ => ?_
  subst he
  exact ⟨_, rfl, _, _, _, [], (p0 ++ ([] ++ [])), [], hW', trodAll_cons_mk (shut_bool Try.underlying4 _) trodAll_mk0, trodAll_cons_mk (Below.trod laidOut (by kernel_rfl) (of_decide_eq_true (by kernel_rfl)) k0 hg lt0) (trodAll_cons_mk (shut_int Try.underlying3 wf1) trodAll_mk0), rfl, hg.frame _, fun h => by cases h⟩

theorem own : ownKnob Try.prog.godebug = none := by kernel_rfl

set_option maxRecDepth 100000 in
theorem lifted (os : Os) (started : os.Started) (H : Type) (enc : TypeId × Value → H) :
    ReturnsInHanded {} Try.checked os 3 .any (Rows.fnExactShiftDieSpec.pre6 enc Try.prog Try.f3 Rows.fnExactShiftDieRow.domain false) (Rows.fnExactShiftDieSpec.post enc Try.prog Try.f3 false true false false) := by
  refine returnsInHanded_of_change (C := Try.checked) own started (by kernel_rfl) Try.func3
    (ChangeSpec.witness6 (enc := enc) (C := Try.checked) false ⟨#[], #[.agg #[.int .i64 0, .int .i64 0, .int .i64 0, .int .i64 0, .int .i64 0, .int .i64 0], .int .i64 0], []⟩ 8 (by kernel_rfl) (by kernel_rfl) (by kernel_rfl) (by kernel_rfl)) ?_
  intro W base args ds gs before hval hW _ _
  exact contract H enc W base args ds gs before hval hW

theorem holds : Rows.FnExactShiftDieSaid :=
  OpenClaim.holds_of_wide 3 Try.f3 rfl rfl rfl rfl rfl rfl rfl ⟨rfl, rfl, rfl, rfl, rfl⟩ rfl rfl rfl rfl rfl (by kernel_rfl) Try.func3 (by kernel_rfl)
    (of_decide_eq_true (by kernel_rfl)) (by unfold Func.isWrapper; rw [if_neg (by decide +kernel)]; exact ⟨rfl, rfl⟩)
    (fun os started H enc _ => lifted os started H enc)

end ShiftP
end Go.Proofs.Ytlkhjdieddankab
