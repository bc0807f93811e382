/-
  A die shifted, by the program.
-/
import Derived.Test.YtjdijbidpcjjdaaRows
import Derived.Test.YtjdijbidpcjjdaaSortW
import Derived.Test.YtjdijbidpcjjdaaOpenD
import Derived.WalkKit
import Derived.WalkLawsBesides
import Derived.WalkSpells
import Derived.ProofKit
import Derived.OpenShut
import Derived.Deep.RegionWith
import Derived.Deep.QuietTactic
import Derived.BigQuiet
namespace Go.Proofs.Ytjdijbidpcjjdaa
open Go.ChangeShapes Go.WideShapes Go.ChangeAt Go.RowKit
open Go.ChangeMaps (open_string shut_string)

namespace ShiftI
open Dice Arr DieW SortW

/-- The numbers shifted. -/
def sh (d : Nat → Int) (k : Int) (j : Nat) : Int := wrap64 (d j + k)
theorem wrap_id {x : Int} (h1 : -9223372036854775808 ≤ x) (h2 : x ≤ 9223372036854775807) : wrap64 x = x := by
  unfold wrap64
  omega
theorem no_shift {d : Nat → Int} {k : Int} (hu : upto d 6) (hk : OpenD.fit k) (h : ¬ (-30 ≤ k ∧ k ≤ 30)) : isDie (sh d k) = false := by
  refine decide_eq_false fun hs => h ?_
  have h0 := hs 0 (by omega)
  have u0 := hu 0 (by omega)
  unfold OpenD.fit at hk
  have e : sh d k 0 = d 0 + k ∨ sh d k 0 = d 0 + k - 18446744073709551616 ∨ sh d k 0 = d 0 + k + 18446744073709551616 := by
    unfold sh
    unfold wrap64
    omega
  omega
set_option maxHeartbeats 4000000 in
theorem implShift_any (d : Nat → Int) (k : Int) (w : World) : Calls Try.prog 46 #[dv d, .int .i64 k] w fun e w' => e = .returned (.tuple (if isDie d && isDie (sh d k) then #[dv (sh d k), .bool true] else #[dv fun _ => 0, .bool false])) ∧ Below w.heap.size w w' := by
  have hc := implIsDie_any d
  have hc2 := implIsDie_any (sh d k)
  unfold dv at hc hc2
  have Hc := Lib.hid hc; clear hc
  have Hc2 := Lib.hid hc2; clear hc2
  unfold dv
  cases hf : isDie d
  · rw [hf] at Hc
    simp only [Bool.false_and, Bool.false_eq_true, ↓reduceIte]
    clear hf Hc2
    go_enter Try.func46, Try.ntmps46
    go_wp2_with fail
    refine (Hc.out _).mono ?_
    rintro e w1 ⟨rfl, hb1⟩
    have hbl : Below w.heap.size w w1 := nx (na (na (n0 w) _) _) hb1
    have hr := (At.new6 (w.alloc (sixO d 22)) (fun _ => 0) 22 (b := w.heap.size + 1) (by rw [size_alloc])).up hb1
    clear hb1
    obtain ⟨r0, r1, r2, r3, r4, r5⟩ := hr.six
    obtain ⟨z0, z1, z2, z3, z4, z5⟩ := hr.free6
    go_wp2_with fail
    refine ret_cell_tmp (b := w.heap.size + 1) (n := 6) (f := fun _ => 0) Try.results46 rfl rfl Try.underlying22 (by kernel_rfl) (hr.stored (fun _ => 0)) rfl ⟨rfl, ?_⟩
    exact hbl.trans (setCells_below (w := w1) (p := w.heap.size + 1) (B := w.heap.size) (by omega) (vals 6 (fun _ => 0)) 0)

  have hu : upto d 6 := of_decide_eq_true hf
  rw [hf] at Hc
  clear hf
  cases hg : isDie (sh d k)
  · rw [hg] at Hc2
    simp only [Bool.and_false, Bool.false_eq_true, ↓reduceIte]
    clear hg
    go_enter Try.func46, Try.ntmps46
    go_wp2_with fail
    refine (Hc.out _).mono ?_
    rintro e w1 ⟨rfl, hb1⟩
    have hbl : Below w.heap.size w w1 := nx (na (na (n0 w) _) _) hb1
    have hr := (At.new6 (w.alloc (sixO d 22)) (fun _ => 0) 22 (b := w.heap.size + 1) (by rw [size_alloc])).up hb1
    have hd1 := ((At.new6 w d 22 rfl).past (sixO (fun _ => 0) 22)).up hb1
    clear hb1
    go_wp2_with fail
    go_loopw [11] (fun i wr => ∃ (j : Nat) (f : Nat → Int), j ≤ 6 ∧ i = .int .i64 j ∧ Below w.heap.size w wr ∧ At wr w.heap.size 6 f ∧ At wr (w.heap.size + 1) 6 (fun _ => 0) ∧ Hid (∀ m, m < 6 → f m = if m < j then sh d k m else d m)) (fun i _ => 6 - (intOf i).toNat)
    case atStart => exact ⟨0, d, by omega, rfl, hbl, hd1, hr, fun m hm => by rw [if_neg (by omega)]⟩
    case round =>
      clear hd1 hr
      obtain ⟨j, f, hj, rfl, hb, hf, hr, he⟩ := hrel
      by_cases hlt : j < 6
      · have cj := hf.cell j hlt
        have zj := hf.free j
        have ej := he.out j hlt
        rw [if_neg (by omega)] at ej
        rw [ej] at cj
        have bj := hu j hlt
        clear ej
        go_wp2_with fail
        go_roundw
        case rel =>
          have es : wrap64 (d j + k) = sh d k j := rfl
          refine ⟨j + 1, put f j (sh d k j), by omega, by go_num, ?_, ?_, ?_, ?_⟩
          · rw [es]; exact hb.setCell (p := ⟨w.heap.size, j, none⟩) (by show w.heap.size ≤ w.heap.size; omega) _
          · rw [es]; exact hf.set hlt _
          · rw [es]; exact hr.other (by omega) _ _
          intro m hm
          by_cases hmj : m = j
          · subst hmj
            rw [put_same, if_pos (by omega)]
          · rw [put_other _ hmj, he.out m hm]
            by_cases h1 : m < j
            · rw [if_pos h1, if_pos (by omega)]
            · rw [if_neg h1, if_neg (by omega)]
        case measure => simp [intOf]; omega
      · obtain rfl : j = 6 := by omega
        have hf' : At wr w.heap.size 6 (sh d k) := hf.congr fun m hm => by rw [he.out m hm, if_pos hm]
        obtain ⟨e0, e1, e2, e3, e4, e5⟩ := hf'.six
        go_wp2_with fail
        refine (Hc2.out _).mono ?_
        rintro e w2 ⟨rfl, hb2⟩
        have hbl2 := nx hb hb2
        have hr := hr.up hb2
        obtain ⟨r0, r1, r2, r3, r4, r5⟩ := hr.six
        obtain ⟨z0, z1, z2, z3, z4, z5⟩ := hr.free6
        go_wp2_with fail
        refine ret_cell_tmp (b := w.heap.size + 1) (n := 6) (f := fun _ => 0) Try.results46 rfl rfl Try.underlying22 (by kernel_rfl) (hr.stored (fun _ => 0)) rfl ⟨rfl, ?_⟩
        exact hbl2.trans (setCells_below (w := w2) (p := w.heap.size + 1) (B := w.heap.size) (by omega) (vals 6 (fun _ => 0)) 0)

  · rw [hg] at Hc2
    simp only [Bool.and_self, ↓reduceIte]
    clear hg
    go_enter Try.func46, Try.ntmps46
    go_wp2_with fail
    refine (Hc.out _).mono ?_
    rintro e w1 ⟨rfl, hb1⟩
    have hbl : Below w.heap.size w w1 := nx (na (na (n0 w) _) _) hb1
    have hr := (At.new6 (w.alloc (sixO d 22)) (fun _ => 0) 22 (b := w.heap.size + 1) (by rw [size_alloc])).up hb1
    have hd1 := ((At.new6 w d 22 rfl).past (sixO (fun _ => 0) 22)).up hb1
    clear hb1
    go_wp2_with fail
    go_loopw [11] (fun i wr => ∃ (j : Nat) (f : Nat → Int), j ≤ 6 ∧ i = .int .i64 j ∧ Below w.heap.size w wr ∧ At wr w.heap.size 6 f ∧ At wr (w.heap.size + 1) 6 (fun _ => 0) ∧ Hid (∀ m, m < 6 → f m = if m < j then sh d k m else d m)) (fun i _ => 6 - (intOf i).toNat)
    case atStart => exact ⟨0, d, by omega, rfl, hbl, hd1, hr, fun m hm => by rw [if_neg (by omega)]⟩
    case round =>
      clear hd1 hr
      obtain ⟨j, f, hj, rfl, hb, hf, hr, he⟩ := hrel
      by_cases hlt : j < 6
      · have cj := hf.cell j hlt
        have zj := hf.free j
        have ej := he.out j hlt
        rw [if_neg (by omega)] at ej
        rw [ej] at cj
        have bj := hu j hlt
        clear ej
        go_wp2_with fail
        go_roundw
        case rel =>
          have es : wrap64 (d j + k) = sh d k j := rfl
          refine ⟨j + 1, put f j (sh d k j), by omega, by go_num, ?_, ?_, ?_, ?_⟩
          · rw [es]; exact hb.setCell (p := ⟨w.heap.size, j, none⟩) (by show w.heap.size ≤ w.heap.size; omega) _
          · rw [es]; exact hf.set hlt _
          · rw [es]; exact hr.other (by omega) _ _
          intro m hm
          by_cases hmj : m = j
          · subst hmj
            rw [put_same, if_pos (by omega)]
          · rw [put_other _ hmj, he.out m hm]
            by_cases h1 : m < j
            · rw [if_pos h1, if_pos (by omega)]
            · rw [if_neg h1, if_neg (by omega)]
        case measure => simp [intOf]; omega
      · obtain rfl : j = 6 := by omega
        have hf' : At wr w.heap.size 6 (sh d k) := hf.congr fun m hm => by rw [he.out m hm, if_pos hm]
        obtain ⟨e0, e1, e2, e3, e4, e5⟩ := hf'.six
        go_wp2_with fail
        refine (Hc2.out _).mono ?_
        rintro e w2 ⟨rfl, hb2⟩
        have hbl2 := nx hb hb2
        have hr := hr.up hb2
        obtain ⟨r0, r1, r2, r3, r4, r5⟩ := hr.six
        obtain ⟨z0, z1, z2, z3, z4, z5⟩ := hr.free6
        obtain ⟨y0, y1, y2, y3, y4, y5⟩ := (hf'.up hb2).six
        go_wp2_with fail
        refine ret_cell_tmp (b := w.heap.size + 1) (n := 6) (f := sh d k) Try.results46 rfl rfl Try.underlying22 (by kernel_rfl) (hr.stored (sh d k)) rfl ⟨rfl, ?_⟩
        exact hbl2.trans (setCells_below (w := w2) (p := w.heap.size + 1) (B := w.heap.size) (by omega) (vals 6 (sh d k)) 0)

end ShiftI
end Go.Proofs.Ytjdijbidpcjjdaa
