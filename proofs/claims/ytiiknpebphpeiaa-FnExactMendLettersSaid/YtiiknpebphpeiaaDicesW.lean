/-
  Contracts of the law's own helpers on lists of dice: their size against a bound, a copy, and whether two are the same.
-/
import Derived.Test.YtiiknpebphpeiaaRows
import Derived.Test.YtiiknpebphpeiaaDieW
import Derived.Test.YtiiknpebphpeiaaOpenD
import Derived.WalkKit
import Derived.WalkLawsBesides
import Derived.WalkSpells
import Derived.Lib.Hide
import Derived.Deep.RegionWith
import Derived.Deep.QuietTactic
import Derived.BigQuiet
namespace Go.Proofs.Ytiiknpebphpeiaa
open Go.RowKit

namespace DicesW
open Dice Arr OpenD DieW

/-- The faces of a list of dice, one behind the other. -/
def flat (P : Nat → Nat → Int) (j : Nat) : Int := P (j / 6) (j % 6)
theorem flat_at (P : Nat → Nat → Int) (i : Nat) {k : Nat} (hk : k < 6) : flat P (i * 6 + k) = P i k := by
  unfold flat
  rw [show (i * 6 + k) / 6 = i by omega, show (i * 6 + k) % 6 = k by omega]
theorem row_of_at {w : World} {g n : Nat} {P : Nat → Nat → Int} (h : At w g (n * 6) (flat P)) : Row w (some ⟨g, 0, none⟩) n P :=
  .inr ⟨g, 0, rfl, h.lt, fun i hi k hk => by rw [Nat.zero_add, h.cell (i * 6 + k) (by omega), flat_at P i hk]⟩

end DicesW
namespace Arr
theorem At.from6 {w : World} {b n : Nat} {f : Nat → Int} (h : At w b n f) (o : Nat) (ho : o + 6 ≤ n) : w.cell? ⟨b, o, none⟩ = some (.int .i64 (f o)) ∧ w.cell? ⟨b, o + 1, none⟩ = some (.int .i64 (f (o + 1))) ∧ w.cell? ⟨b, o + 2, none⟩ = some (.int .i64 (f (o + 2))) ∧
    w.cell? ⟨b, o + 3, none⟩ = some (.int .i64 (f (o + 3))) ∧ w.cell? ⟨b, o + 4, none⟩ = some (.int .i64 (f (o + 4))) ∧ w.cell? ⟨b, o + 5, none⟩ = some (.int .i64 (f (o + 5))) :=
  ⟨h.cell _ (by omega), h.cell _ (by omega), h.cell _ (by omega), h.cell _ (by omega), h.cell _ (by omega), h.cell _ (by omega)⟩
/-- Six cells written from o on. -/
def puts (f : Nat → Int) (o : Nat) (g : Nat → Int) : Nat → Int := put (put (put (put (put (put f o (g 0)) (o + 1) (g 1)) (o + 2) (g 2)) (o + 3) (g 3)) (o + 4) (g 4)) (o + 5) (g 5)
abbrev set6 (w : World) (b o : Nat) (g : Nat → Int) : World :=
  (((((w.setCell ⟨b, o, none⟩ (.int .i64 (g 0))).setCell ⟨b, o + 1, none⟩ (.int .i64 (g 1))).setCell ⟨b, o + 2, none⟩ (.int .i64 (g 2))).setCell ⟨b, o + 3, none⟩ (.int .i64 (g 3))).setCell ⟨b, o + 4, none⟩ (.int .i64 (g 4))).setCell ⟨b, o + 5, none⟩ (.int .i64 (g 5))
theorem At.put6 {w : World} {b n : Nat} {f : Nat → Int} (h : At w b n f) (o : Nat) (ho : o + 6 ≤ n) (g : Nat → Int) : At (set6 w b o g) b n (puts f o g) :=
  (((((h.set (i := o) (by omega) _).set (i := o + 1) (by omega) _).set (i := o + 2) (by omega) _).set (i := o + 3) (by omega) _).set (i := o + 4) (by omega) _).set (i := o + 5) (by omega) _
theorem below6 {a w : World} {B b : Nat} (h : Below B a w) (hB : B ≤ b) (o : Nat) (g : Nat → Int) : Below B a (set6 w b o g) :=
  (((((h.setCell (p := ⟨b, o, none⟩) hB _).setCell (p := ⟨b, o + 1, none⟩) hB _).setCell (p := ⟨b, o + 2, none⟩) hB _).setCell (p := ⟨b, o + 3, none⟩) hB _).setCell (p := ⟨b, o + 4, none⟩) hB _).setCell (p := ⟨b, o + 5, none⟩) hB _
theorem puts_in {f : Nat → Int} {o : Nat} (g : Nat → Int) {j : Nat} (h1 : o ≤ j) (h2 : j < o + 6) : puts f o g j = g (j - o) := by
  obtain ⟨m, rfl⟩ : ∃ m, j = o + m := ⟨j - o, by omega⟩
  rw [show o + m - o = m by omega]
  obtain rfl | rfl | rfl | rfl | rfl | rfl : m = 0 ∨ m = 1 ∨ m = 2 ∨ m = 3 ∨ m = 4 ∨ m = 5 := by omega
  all_goals simp [puts, put]
theorem puts_out {f : Nat → Int} {o : Nat} (g : Nat → Int) {j : Nat} (h : j < o ∨ o + 6 ≤ j) : puts f o g j = f j := by
  unfold puts
  rw [put_other _ (by omega), put_other _ (by omega), put_other _ (by omega), put_other _ (by omega), put_other _ (by omega), put_other _ (by omega)]

end Arr
namespace DicesW
open Dice Arr OpenD DieW

theorem sz_any (A : Option Addr) (n c : Nat) (w : World) (hn : n ≤ maxLen) :
    Calls Try.prog 18 #[.slice A n c, .int .i64 1048576] w fun e w' => e = .returned (.int .i64 (if n ≤ 1048576 then 1048576 - n else -1)) ∧ w' = w := by
  unfold maxLen at hn
  by_cases h : n ≤ 1048576
  · rw [if_pos h]
    go_enter Try.func18, Try.ntmps18
    go_wp2
    go_ret
    exact ⟨rfl, rfl⟩
  · rw [if_neg h]
    go_enter Try.func18, Try.ntmps18
    go_wp2
    go_ret
    exact ⟨rfl, rfl⟩

theorem info_die : (Try.prog.info? 61).map (fun i => (i.zero, i.size, i.bytes)) = some (some (.agg #[.int .i64 0, .int .i64 0, .int .i64 0, .int .i64 0, .int .i64 0, .int .i64 0]), 6, 48) := by kernel_rfl
theorem made_zero (n j : Nat) (h : j < n) : (madeCells (Value.agg #[.int .i64 0, .int .i64 0, .int .i64 0, .int .i64 0, .int .i64 0, .int .i64 0]).cells n).toList[j]? = some (.int .i64 0) := by
  have e : ∀ k : Nat, (#[Value.int .i64 0, .int .i64 0, .int .i64 0, .int .i64 0, .int .i64 0, .int .i64 0] : Array Value)[k % 6]! = .int .i64 0 := fun k => by
    have : k % 6 < 6 := Nat.mod_lt _ (by omega)
    generalize k % 6 = m at this
    obtain rfl | rfl | rfl | rfl | rfl | rfl : m = 0 ∨ m = 1 ∨ m = 2 ∨ m = 3 ∨ m = 4 ∨ m = 5 := by omega
    all_goals rfl
  have e2 : (madeCells (Value.agg #[.int .i64 0, .int .i64 0, .int .i64 0, .int .i64 0, .int .i64 0, .int .i64 0]).cells n) = (Array.range n).map fun _ => Value.int .i64 0 := by
    unfold madeCells
    congr 1
    funext k
    exact e k
  rw [e2]
  simp [h]

set_option maxHeartbeats 2000000 in
theorem toS_any (A : Option Addr) (n c : Nat) (P : Nat → Nat → Int) (w : World) (h : Row w A n P) (hn : n ≤ 1048576) :
    Calls Try.prog 20 #[.slice A n c] w fun e w' => ∃ g, e = .returned (.slice (some ⟨g, 0, none⟩) n n) ∧ w.heap.size ≤ g ∧ At w' g (n * 6) (flat P) ∧ Below w.heap.size w w' := by
  have H := Lib.hid h; clear h
  obtain ⟨i0, hi, hz0, hz1, hz2⟩ := info_parts info_die
  obtain ⟨w1, hr, hown1, hg1⟩ := run_make_full (P := Try.prog) w w.heap.size 22 61 i0 _ 6 Try.underlying22 hi hz0 hz1 .i64 .i64 n (by rw [hz2]; omega) (by unfold maxLen; omega) (Nat.le_refl _)
  have hb1 : Below w.heap.size w w1 := (Below.refl _ _).grown hg1 (Nat.le_refl _) (fun _ e => by cases e)
  have hA1 : At w1 w.heap.size (n * 6) (fun _ => 0) := ⟨(hown1.lt _ rfl).2, fun k hk => by rw [hown1.cellAt k hk]; exact made_zero _ _ hk, fun k => hown1.frozenAt k⟩
  have ht := toA6_any
  unfold dv at ht
  have Ht := Lib.hid ht; clear ht
  clear hi hz0 hz1 hz2 hg1 hown1
  go_enter Try.func20, Try.ntmps20
  go_wp2_with fail
  go_loopw [4] (fun i wr => ∃ (k : Nat) (f : Nat → Int), k ≤ n ∧ i = .int .i64 k ∧ Below w.heap.size w wr ∧ At wr w.heap.size (n * 6) f ∧ Hid (∀ j, j < k * 6 → f j = flat P j)) (fun i _ => n - (intOf i).toNat)
  case atStart => exact ⟨0, _, Nat.zero_le _, rfl, hb1, hA1, fun j hj => by omega⟩
  case round =>
    obtain ⟨k, f, hk, rfl, hb, hf, he⟩ := hrel
    by_cases hlt : k < n
    · obtain ⟨bk, o, rfl, hbk, hc⟩ := (H.out.below (Nat.le_refl _) hb).at_ hlt
      have c0 := hc 0 (by omega)
      have c1 := hc 1 (by omega)
      have c2 := hc 2 (by omega)
      have c3 := hc 3 (by omega)
      have c4 := hc 4 (by omega)
      have c5 := hc 5 (by omega)
      simp only [← Nat.add_assoc, Nat.add_zero] at c0 c1 c2 c3 c4 c5
      go_wp2_with fail
      refine (Ht.out (P k) _).mono ?_
      rintro e w2 ⟨rfl, hb2⟩
      have hf2 := hf.up hb2
      have hbl := nx hb hb2
      clear hb2 c0 c1 c2 c3 c4 c5
      obtain ⟨y0, y1, y2, y3, y4, y5⟩ := hf2.from6 (k * 6) (by omega)
      have z0 := hf2.free (k * 6)
      have z1 := hf2.free (k * 6 + 1)
      have z2 := hf2.free (k * 6 + 2)
      have z3 := hf2.free (k * 6 + 3)
      have z4 := hf2.free (k * 6 + 4)
      have z5 := hf2.free (k * 6 + 5)
      go_wp2_with fail
      go_roundw
      case rel =>
        refine ⟨k + 1, _, by omega, by go_num, ?_, hf2.put6 (k * 6) (by omega) (P k), fun j hj => ?_⟩
        · exact below6 hbl (Nat.le_refl _) _ _
        · by_cases hjk : k * 6 ≤ j
          · have e : flat P j = P k (j - k * 6) := by
              have := flat_at P k (k := j - k * 6) (by omega)
              rwa [show k * 6 + (j - k * 6) = j by omega] at this
            rw [e, puts_in _ hjk (by omega)]
          · rw [puts_out _ (by omega)]
            exact he.out j (by omega)
      case measure => simp [intOf]; omega
    · obtain rfl : k = n := by omega
      go_wp2_with fail
      go_ret
      exact ⟨_, rfl, Nat.le_refl _, hf.congr he.out, hb⟩

set_option maxHeartbeats 2000000 in
theorem eqS_any (A B : Option Addr) (n c c' : Nat) (P : Nat → Nat → Int) (w : World) (h : Row w A n P) (h' : Row w B n P) (hn : n ≤ maxLen) :
    Calls Try.prog 23 #[.slice A n c, .slice B n c'] w fun e w' => e = .returned (.bool true) ∧ Below w.heap.size w w' := by
  unfold maxLen at hn
  have H := Lib.hid h; clear h
  have H' := Lib.hid h'; clear h'
  have Hq := Lib.hid (fun d w => (eqA6_any d d w).mono fun e w' ⟨he, hb⟩ => (⟨by rw [he, decide_eq_true (show agree d d 6 from fun _ _ => rfl)], hb⟩ : e = Ending.returned (.bool true) ∧ Below w.heap.size w w'))
  go_enter Try.func23, Try.ntmps23
  go_wp2_with fail
  go_loopw [5] (fun i wr => ∃ k : Nat, k ≤ n ∧ i = .int .i64 k ∧ Below w.heap.size w wr) (fun i _ => n - (intOf i).toNat)
  case atStart => exact ⟨0, Nat.zero_le _, rfl, Below.refl _ _⟩
  case round =>
    obtain ⟨k, hk, rfl, hb⟩ := hrel
    by_cases hlt : k < n
    · obtain ⟨b1, o1, rfl, hl1, hc⟩ := (H.out.below (Nat.le_refl _) hb).at_ hlt
      obtain ⟨b2, o2, rfl, hl2, hc'⟩ := (H'.out.below (Nat.le_refl _) hb).at_ hlt
      have c0 := hc 0 (by omega)
      have c1 := hc 1 (by omega)
      have c2 := hc 2 (by omega)
      have c3 := hc 3 (by omega)
      have c4 := hc 4 (by omega)
      have c5 := hc 5 (by omega)
      have x0 := hc' 0 (by omega)
      have x1 := hc' 1 (by omega)
      have x2 := hc' 2 (by omega)
      have x3 := hc' 3 (by omega)
      have x4 := hc' 4 (by omega)
      have x5 := hc' 5 (by omega)
      simp only [← Nat.add_assoc, Nat.add_zero] at c0 c1 c2 c3 c4 c5 x0 x1 x2 x3 x4 x5
      have hqk := Hq.out (P k)
      unfold dv at hqk
      have Hqk := Lib.hid hqk; clear hqk
      go_wp2_with fail
      go_region_with (go_at_call 67; refine (Hqk.out _).mono ?_; rintro e w2 ⟨rfl, hb2⟩)
      all_goals
        go_wp2_with fail
        go_roundw
        case rel => exact ⟨k + 1, by omega, by go_num, nx hb.drew hb2⟩
        case measure => simp [intOf]; omega
    · obtain rfl : k = n := by omega
      go_wp2_with fail
      go_ret
      exact ⟨rfl, hb⟩

end DicesW
end Go.Proofs.Ytiiknpebphpeiaa
