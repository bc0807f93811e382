/-
  The base of a die, both sides.
-/
import Derived.Test.YtjdijbidpcjjdaaRows
import Derived.Test.YtjdijbidpcjjdaaShiftI
import Derived.Test.YtjdijbidpcjjdaaSortW
import Derived.Test.YtjdijbidpcjjdaaDieW
import Derived.Test.YtjdijbidpcjjdaaOpenD
import Derived.Test.YtjdijbidpcjjdaaArr
import Derived.WalkKit
import Derived.WalkLawsBesides
import Derived.WalkSpells
import Derived.ProofKit
import Derived.OpenShut
import Derived.Deep.RegionWith
import Derived.Deep.QuietTactic
import Derived.BigQuiet
namespace Go.Proofs.Ytjdijbidpcjjdaa
open Go.ChangeShapes Go.WideShapes Go.ChangeAt Go.RowKit
open Go.ChangeMaps (open_string shut_string)

namespace BaseW
open Dice Arr OpenD DieW SortW ShiftI

/-- The base of a die. -/
def bas (d : Nat → Int) (k : Nat) : Int := d k - d 0
theorem bas_die {d : Nat → Int} (h : isDie d = true) : isDie (bas d) = true := by
  have hu : upto d 6 := of_decide_eq_true h
  refine decide_eq_true fun k hk => ?_
  have h0 := hu 0 (by omega)
  have h1 := hu k hk
  have h2 := upto_le hu (i := 0) (j := k) (by omega) hk
  have h3 := upto_le hu (i := k - 1) (j := k) (by omega) hk
  unfold bas
  exact ⟨by omega, by omega, .inr (by omega)⟩
theorem bas_sh {d : Nat → Int} (h : isDie d = true) : ∀ k, k < 6 → sh d (-(d 0)) k = bas d k := by
  have hu : upto d 6 := of_decide_eq_true h
  intro k hk
  have h0 := hu 0 (by omega)
  have h1 := hu k hk
  unfold sh bas
  rw [wrap_id (by omega) (by omega)]
  omega
def pbas (d : Nat → Int) : Array Value := if isDie d then #[dv (bas d), .bool true] else #[dv fun _ => 0, .bool false]

set_option maxHeartbeats 2000000 in
theorem l5Base_any (d : Nat → Int) (hd : isDie d = true) (w : World) :
    Calls Try.prog 45 #[dv d] w fun e w' => e = .returned (dv (bas d)) ∧ Below w.heap.size w w' := by
  have hu : upto d 6 := of_decide_eq_true hd
  have hd0 := ((At.new6 w d 22 rfl).past (sixO (fun _ => 0) 22)).past (sixO (fun _ => 0) 22)
  have hr0 := (At.new6 (w.alloc (sixO d 22)) (fun _ => 0) 22 (b := w.heap.size + 1) (by rw [size_alloc])).past (sixO (fun _ => 0) 22)
  have hf0 := At.new6 ((w.alloc (sixO d 22)).alloc (sixO (fun _ => 0) 22)) (fun _ => 0) 22 (b := w.heap.size + 2) (by rw [size_alloc, size_alloc])
  have hB0 := na (na (na (n0 w) (sixO d 22)) (sixO (fun _ => 0) 22)) (sixO (fun _ => 0) 22)
  clear hd
  unfold dv
  go_enter Try.func45, Try.ntmps45
  go_wp2_with fail
  go_loopw [4] (fun i wr => ∃ (k : Nat) (f : Nat → Int), k ≤ 6 ∧ i = .int .i64 k ∧ Below w.heap.size w wr ∧ At wr w.heap.size 6 d ∧ At wr (w.heap.size + 1) 6 (fun _ => 0) ∧ At wr (w.heap.size + 2) 6 f ∧ Hid (∀ j, j < k → f j = bas d j)) (fun i _ => 6 - (intOf i).toNat)
  case atStart => exact ⟨0, fun _ => 0, by omega, rfl, hB0, hd0, hr0, hf0, fun j hj => by omega⟩
  case round =>
    clear hd0 hr0 hf0 hB0
    obtain ⟨k, f, hk, rfl, hb, hd, hr, hf, he⟩ := hrel
    by_cases hlt : k < 6
    · have c0 := hd.cell 0 (by omega)
      have ck := hd.cell k hlt
      have co := hf.cell k hlt
      have zo := hf.free k
      have b0 := hu 0 (by omega)
      have bk := hu k hlt
      go_wp2_with fail
      go_region
      all_goals
        go_wp2_with fail
        go_roundw
        case rel => exact ⟨k + 1, put f k (bas d k), by omega, by go_num, (hb.setCell (p := ⟨w.heap.size + 2, k, none⟩) (by show w.heap.size ≤ w.heap.size + 2; omega) _).drew, (hd.other (by omega) _ _).drew, (hr.other (by omega) _ _).drew, (hf.set hlt _).drew, put_fill he.out⟩
        case measure => simp [intOf]; omega
    · obtain rfl : k = 6 := by omega
      have hf' : At wr (w.heap.size + 2) 6 (bas d) := hf.congr fun k hk => he.out k hk
      obtain ⟨e0, e1, e2, e3, e4, e5⟩ := hf'.six
      obtain ⟨r0, r1, r2, r3, r4, r5⟩ := hr.six
      obtain ⟨z0, z1, z2, z3, z4, z5⟩ := hr.free6
      go_wp2_with fail
      refine ret_cell (b := w.heap.size + 1) (n := 6) (f := bas d) Try.results45 rfl Try.underlying22 (by kernel_rfl) (hr.stored (bas d)) rfl ⟨rfl, ?_⟩
      exact hb.trans (setCells_below (w := wr) (p := w.heap.size + 1) (B := w.heap.size) (by omega) (vals 6 (bas d)) 0)

set_option maxHeartbeats 2000000 in
theorem specBase_any (d : Nat → Int) (w : World) :
    Calls Try.prog 21 #[dv d] w fun e w' => e = .returned (.tuple (pbas d)) ∧ Below w.heap.size w w' := by
  have hc := l2Die_any d
  have hb0 := fun h w => l5Base_any d h w
  unfold dv at hc hb0
  unfold pbas
  have hd0 := (At.new6 w d 22 rfl).past (sixO (fun _ => 0) 22)
  have hr0 := At.new6 (w.alloc (sixO d 22)) (fun _ => 0) 22 (b := w.heap.size + 1) (by rw [size_alloc])
  have hB0 := na (na (n0 w) (sixO d 22)) (sixO (fun _ => 0) 22)
  cases hf : isDie d
  · rw [hf] at hc
    have Hc := Lib.hid hc; clear hc hf hb0 hd0
    simp only [Bool.false_eq_true, ↓reduceIte]
    unfold dv
    go_enter Try.func21, Try.ntmps21
    go_wp2_with fail
    refine (Hc.out _).mono ?_
    rintro e w1 ⟨rfl, hb1⟩
    have hr := hr0.up hb1
    have hB := nx hB0 hb1
    clear hr0 hB0 hb1
    obtain ⟨r0, r1, r2, r3, r4, r5⟩ := hr.six
    obtain ⟨z0, z1, z2, z3, z4, z5⟩ := hr.free6
    go_wp2_with fail
    refine ret_cell_tmp (b := w.heap.size + 1) (n := 6) (f := fun _ => 0) Try.results21 rfl rfl Try.underlying22 (by kernel_rfl) (hr.stored (fun _ => 0)) rfl ⟨rfl, ?_⟩
    exact hB.trans (setCells_below (p := w.heap.size + 1) (B := w.heap.size) (by omega) (vals 6 (fun _ => 0)) 0)
  · have hb0 := hb0 hf
    rw [hf] at hc
    have Hc := Lib.hid hc; clear hc hf
    have Hb := Lib.hid hb0; clear hb0
    simp only [↓reduceIte]
    unfold dv
    go_enter Try.func21, Try.ntmps21
    go_wp2_with fail
    refine (Hc.out _).mono ?_
    rintro e w1 ⟨rfl, hb1⟩
    have hr := hr0.up hb1
    have hd := hd0.up hb1
    have hB := nx hB0 hb1
    clear hr0 hB0 hb1 hd0
    obtain ⟨d0, d1, d2, d3, d4, d5⟩ := hd.six
    go_wp2_with fail
    refine (Hb.out _).mono ?_
    rintro e w2 ⟨rfl, hb2⟩
    have hr := hr.up hb2
    have hB := nx hB hb2
    clear hb2
    obtain ⟨r0, r1, r2, r3, r4, r5⟩ := hr.six
    obtain ⟨z0, z1, z2, z3, z4, z5⟩ := hr.free6
    go_wp2_with fail
    refine ret_cell_tmp (b := w.heap.size + 1) (n := 6) (f := bas d) Try.results21 rfl rfl Try.underlying22 (by kernel_rfl) (hr.stored (bas d)) rfl ⟨rfl, ?_⟩
    exact hB.trans (setCells_below (p := w.heap.size + 1) (B := w.heap.size) (by omega) (vals 6 (bas d)) 0)

set_option maxHeartbeats 2000000 in
theorem implBase_any (d : Nat → Int) (w : World) :
    Calls Try.prog 22 #[dv d] w fun e w' => e = .returned (.tuple (pbas d)) ∧ Below w.heap.size w w' := by
  have hs : ∀ k, (isDie d = true → k = -(d 0)) → ∀ w, Calls Try.prog 46 #[dv d, .int .i64 k] w fun e w' => e = .returned (.tuple (pbas d)) ∧ Below w.heap.size w w' := by
    intro k hk w
    have h := implShift_any d k w
    have e : (if isDie d && isDie (sh d k) then #[dv (sh d k), .bool true] else #[dv fun _ => 0, .bool false]) = pbas d := by
      unfold pbas
      cases hf : isDie d
      · rfl
      · obtain rfl := hk hf
        rw [show isDie (sh d (-(d 0))) = true by rw [isDie_congr (bas_sh hf)]; exact bas_die hf, dv_congr (bas_sh hf)]
        rfl
    rw [e] at h
    exact h
  obtain ⟨g, c, hg⟩ : ∃ g c, pbas d = #[dv g, .bool c] := by
    unfold pbas
    cases isDie d
    · exact ⟨_, _, rfl⟩
    · exact ⟨_, _, rfl⟩
  rw [hg] at hs ⊢
  have hr0 := At.new6 (w.alloc (sixO d 22)) (fun _ => 0) 22 (b := w.heap.size + 1) (by rw [size_alloc])
  have hB0 := na (na (n0 w) (sixO d 22)) (sixO (fun _ => 0) 22)
  unfold dv at hs
  clear hg
  by_cases hf : isDie d = true
  · have b0 := (of_decide_eq_true hf : upto d 6) 0 (by omega)
    have Hs := Lib.hid (hs (-(d 0)) fun _ => rfl); clear hs hf
    unfold dv
    go_enter Try.func22, Try.ntmps22
    go_wp2_with fail
    refine (Hs.out _).mono ?_
    rintro e w1 ⟨rfl, hb1⟩
    have hr := hr0.up hb1
    have hB := nx hB0 hb1
    clear hr0 hB0 hb1
    obtain ⟨r0, r1, r2, r3, r4, r5⟩ := hr.six
    obtain ⟨z0, z1, z2, z3, z4, z5⟩ := hr.free6
    go_wp2_with fail
    refine ret_cell_tmp (b := w.heap.size + 1) (n := 6) (f := g) Try.results22 rfl rfl Try.underlying22 (by kernel_rfl) (hr.stored g) rfl ⟨rfl, ?_⟩
    exact hB.trans (setCells_below (p := w.heap.size + 1) (B := w.heap.size) (by omega) (vals 6 g) 0)
  · have Hs := Lib.hid (fun k => hs k fun h => absurd h hf); clear hs hf
    unfold dv
    go_enter Try.func22, Try.ntmps22
    go_wp2_with fail
    refine (Hs.out _ _).mono ?_
    rintro e w1 ⟨rfl, hb1⟩
    have hr := hr0.up hb1
    have hB := nx hB0 hb1
    clear hr0 hB0 hb1
    obtain ⟨r0, r1, r2, r3, r4, r5⟩ := hr.six
    obtain ⟨z0, z1, z2, z3, z4, z5⟩ := hr.free6
    go_wp2_with fail
    refine ret_cell_tmp (b := w.heap.size + 1) (n := 6) (f := g) Try.results22 rfl rfl Try.underlying22 (by kernel_rfl) (hr.stored g) rfl ⟨rfl, ?_⟩
    exact hB.trans (setCells_below (p := w.heap.size + 1) (B := w.heap.size) (by omega) (vals 6 g) 0)

end BaseW
end Go.Proofs.Ytjdijbidpcjjdaa
