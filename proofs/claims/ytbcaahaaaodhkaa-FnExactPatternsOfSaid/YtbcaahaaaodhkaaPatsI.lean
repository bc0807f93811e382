/-
  The patterns of all rolls, by the program.
-/
import Derived.Test.YtbcaahaaaodhkaaRows
import Derived.Test.YtbcaahaaaodhkaaPatI
import Derived.Test.YtbcaahaaaodhkaaPlI
import Derived.Test.YtbcaahaaaodhkaaFour
import Derived.Test.YtbcaahaaaodhkaaPatM
import Derived.Test.YtbcaahaaaodhkaaSortDn
import Derived.Test.YtbcaahaaaodhkaaPlaces
import Derived.Test.YtbcaahaaaodhkaaRollWM
import Derived.Test.YtbcaahaaaodhkaaIntsM
import Derived.Test.YtbcaahaaaodhkaaPoolW
import Derived.Test.YtbcaahaaaodhkaaAll6
import Derived.Test.YtbcaahaaaodhkaaDicesW
import Derived.Test.YtbcaahaaaodhkaaOpenD
import Derived.WalkKit
import Derived.WalkLawsBesides
import Derived.WalkSpells
import Derived.ProofKit
import Derived.OpenShut
import Derived.Deep.RegionWith
import Derived.Deep.QuietTactic
import Derived.BigQuiet
namespace Go.Proofs.Ytbcaahaaaodhkaa
open Go.ChangeShapes Go.WideShapes Go.ChangeAt Go.RowKit
open Go.ChangeMaps (open_string shut_string)

namespace PatsI
open Dice Arr OpenD DieW SortW DicesW PoolW All6 IntsW RollW Places PatM SortDn PlI Four PatI

/-- The patterns of the outcomes, one behind the other. -/
def patF (P : Nat → Nat → Int) (n x : Nat) : Int := pat (rollF P (x / 4) n) n (x % 4)
theorem patF_at (P : Nat → Nat → Int) (n i : Nat) {k : Nat} (hk : k < 4) : patF P n (i * 4 + k) = pat (rollF P i n) n k := by
  unfold patF
  rw [show (i * 4 + k) / 4 = i by omega, show (i * 4 + k) % 4 = k by omega]
theorem from4 {w : World} {b n : Nat} {f : Nat → Int} (h : At w b n f) (o : Nat) (ho : o + 4 ≤ n) : w.cell? ⟨b, o, none⟩ = some (.int .i64 (f o)) ∧ w.cell? ⟨b, o + 1, none⟩ = some (.int .i64 (f (o + 1))) ∧ w.cell? ⟨b, o + 2, none⟩ = some (.int .i64 (f (o + 2))) ∧ w.cell? ⟨b, o + 3, none⟩ = some (.int .i64 (f (o + 3))) :=
  ⟨h.cell _ (by omega), h.cell _ (by omega), h.cell _ (by omega), h.cell _ (by omega)⟩
/-- Four cells written from o on. -/
def puts4 (f : Nat → Int) (o : Nat) (g : Nat → Int) : Nat → Int := put (put (put (put f o (g 0)) (o + 1) (g 1)) (o + 2) (g 2)) (o + 3) (g 3)
abbrev set4 (w : World) (b o : Nat) (g : Nat → Int) : World :=
  (((w.setCell ⟨b, o, none⟩ (.int .i64 (g 0))).setCell ⟨b, o + 1, none⟩ (.int .i64 (g 1))).setCell ⟨b, o + 2, none⟩ (.int .i64 (g 2))).setCell ⟨b, o + 3, none⟩ (.int .i64 (g 3))
theorem put4 {w : World} {b n : Nat} {f : Nat → Int} (h : At w b n f) (o : Nat) (ho : o + 4 ≤ n) (g : Nat → Int) : At (set4 w b o g) b n (puts4 f o g) :=
  (((h.set (i := o) (by omega) _).set (i := o + 1) (by omega) _).set (i := o + 2) (by omega) _).set (i := o + 3) (by omega) _
theorem below4 {a w : World} {B b : Nat} (h : Below B a w) (hB : B ≤ b) (o : Nat) (g : Nat → Int) : Below B a (set4 w b o g) :=
  (((h.setCell (p := ⟨b, o, none⟩) hB _).setCell (p := ⟨b, o + 1, none⟩) hB _).setCell (p := ⟨b, o + 2, none⟩) hB _).setCell (p := ⟨b, o + 3, none⟩) hB _
theorem puts4_in {f : Nat → Int} {o : Nat} (g : Nat → Int) {j : Nat} (h1 : o ≤ j) (h2 : j < o + 4) : puts4 f o g j = g (j - o) := by
  obtain ⟨m, rfl⟩ : ∃ m, j = o + m := ⟨j - o, by omega⟩
  rw [show o + m - o = m by omega]
  obtain rfl | rfl | rfl | rfl : m = 0 ∨ m = 1 ∨ m = 2 ∨ m = 3 := by omega
  all_goals simp [puts4, put]
theorem puts4_out {f : Nat → Int} {o : Nat} (g : Nat → Int) {j : Nat} (h : j < o ∨ o + 4 ≤ j) : puts4 f o g j = f j := by
  unfold puts4
  rw [put_other _ (by omega), put_other _ (by omega), put_other _ (by omega), put_other _ (by omega)]
theorem info_four : (Try.prog.info? 23).map (fun i => (i.zero, i.size, i.bytes)) = some (some (.agg #[.int .i64 0, .int .i64 0, .int .i64 0, .int .i64 0]), 4, 32) := by kernel_rfl
theorem made_four (n j : Nat) (h : j < n) : (madeCells (Value.agg #[.int .i64 0, .int .i64 0, .int .i64 0, .int .i64 0]).cells n).toList[j]? = some (.int .i64 0) := by
  have e : ∀ k : Nat, (#[Value.int .i64 0, .int .i64 0, .int .i64 0, .int .i64 0] : Array Value)[k % 4]! = .int .i64 0 := fun k => by
    have : k % 4 < 4 := Nat.mod_lt _ (by omega)
    generalize k % 4 = m at this
    obtain rfl | rfl | rfl | rfl : m = 0 ∨ m = 1 ∨ m = 2 ∨ m = 3 := by omega
    all_goals rfl
  have e2 : (madeCells (Value.agg #[.int .i64 0, .int .i64 0, .int .i64 0, .int .i64 0]).cells n) = (Array.range n).map fun _ => Value.int .i64 0 := by
    unfold madeCells
    congr 1
    funext k
    exact e k
  rw [e2]
  simp [h]

set_option maxHeartbeats 2000000 in
theorem pats_no (A : Option Addr) (n c : Nat) (P : Nat → Nat → Int) (w : World) (h : Row w A n P) (hn : n ≤ maxLen) (hq : isPool n P = false) :
    Calls Try.prog 59 #[.slice A n c] w fun e w' => e = .returned (.tuple #[.slice none 0 0, .bool false]) ∧ Below w.heap.size w w' := by
  have Hp := Lib.hid (fun w h => places_no A n c P w h hn hq)
  clear hq
  go_enter Try.func59, Try.ntmps59
  go_wp2_with fail
  refine (Hp.out _ h).mono ?_
  rintro e w1 ⟨rfl, hb⟩
  go_wp2_with fail
  go_ret2
  exact ⟨rfl, hb⟩

set_option maxRecDepth 20000 in
set_option maxHeartbeats 2000000 in
theorem pats_yes (A : Option Addr) (n c : Nat) (P : Nat → Nat → Int) (w : World) (h : Row w A n P) (hn : n ≤ maxLen) (hq : isPool n P = true) :
    Calls Try.prog 59 #[.slice A n c] w fun e w' => ∃ g, e = .returned (.tuple #[.slice (some ⟨g, 0, none⟩) (all6 n) (all6 n), .bool true]) ∧ w.heap.size ≤ g ∧ At w' g (all6 n * 4) (patF P n) ∧ Below w.heap.size w w' := by
  have Hp := Lib.hid (fun w h => places_yes A n c P w h hn hq)
  obtain ⟨h1, h4, _⟩ := of_pool hq
  have h6 := all6_le h4
  clear hq hn
  generalize all6 n = N at *
  go_enter Try.func59, Try.ntmps59
  go_wp2_with fail
  refine (Hp.out _ h).mono ?_
  rintro e w1 ⟨R, b, rfl, hPl, hb⟩
  obtain ⟨i0, hi, hz0, hz1, hz2⟩ := info_parts info_four
  obtain ⟨w3, hr3, hown3, hg3⟩ := run_make_full (P := Try.prog) w1 w1.heap.size 35 23 i0 _ 4 Try.underlying35 hi hz0 hz1 .i64 .i64 N (by rw [hz2]; omega) (by unfold maxLen; omega) (Nat.le_refl _)
  have hb3 : Below w1.heap.size w1 w3 := (Below.refl _ _).grown hg3 (Nat.le_refl _) (fun _ e => by cases e)
  have hA3 : At w3 w1.heap.size (N * 4) (fun _ => 0) := ⟨(hown3.lt _ rfl).2, fun k hk => by rw [hown3.cellAt k hk]; exact made_four _ _ hk, fun k => hown3.frozenAt k⟩
  clear hi hz0 hz1 hz2 hg3 hown3
  have HPl := Lib.hid hPl; clear hPl
  obtain ⟨g, hg⟩ : ∃ g, g = w1.heap.size := ⟨_, rfl⟩
  have Hg : Hid (w.heap.size ≤ g ∧ g = w1.heap.size ∧ Below w.heap.size w w1) := ⟨by rw [hg]; exact hb.size, hg, hb⟩
  rw [← hg] at hr3 hA3
  clear hg hb
  go_wp2_with fail
  clear hr3
  go_loopw [21] (fun iv wr => ∃ (k : Nat) (f : Nat → Int), k ≤ N ∧ iv = .int .i64 k ∧ Below w1.heap.size w1 wr ∧ At wr g (N * 4) f ∧ Hid (∀ j, j < k * 4 → f j = patF P n j)) (fun iv _ => N - (intOf iv).toNat)
  case atStart => exact ⟨0, _, by omega, rfl, hb3, hA3, fun j hj => by omega⟩
  case round =>
    clear hb3 hA3
    obtain ⟨k, f, hk, rfl, hB, hf, he⟩ := hrel
    by_cases hlt : k < N
    · obtain ⟨hBR, hBb, hV, G, hG, hGd⟩ := HPl.out.below (Nat.le_refl _) hB
      have cR := hV.cell k hlt
      obtain ⟨a, ha⟩ : ∃ a, a = k * n := ⟨_, rfl⟩
      rw [← ha] at cR
      have ham : a + n ≤ N * n := by
        have : (k + 1) * n ≤ N * n := Nat.mul_le_mul_right _ hlt
        rw [Nat.add_mul, Nat.one_mul, ← ha] at this
        omega
      have hpt : ds (gt (fun j => G (a + j)) n) 4 = pat (rollF P k n) n := funext fun q => by
        unfold pat
        rw [gt_congr (q := ds (rollF P k n) n) (n := n) (fun j hj => by rw [ha]; exact hGd k hlt j hj) n (Nat.le_refl _)]
      have hpc := fun w h => patternOf_any b a n n (N * n) G w h ham h4
      rw [hpt] at hpc
      have Hpc := Lib.hid hpc; clear hpc hpt hGd ha hBR hBb hV ham
      have hfa := fun q (hq : q < 4) => patF_at P n k hq
      generalize pat (rollF P k n) n = r at *
      have Hfa := Lib.hid hfa; clear hfa
      go_wp2_with fail
      refine (Hpc.out _ hG).mono ?_
      rintro e w2 ⟨rfl, hb2⟩
      have hf2 := hf.up hb2
      have hbl := nx hB hb2
      clear hb2 hG
      obtain ⟨y0, y1, y2, y3⟩ := from4 hf2 (k * 4) (by omega)
      have z0 := hf2.free (k * 4)
      have z1 := hf2.free (k * 4 + 1)
      have z2 := hf2.free (k * 4 + 2)
      have z3 := hf2.free (k * 4 + 3)
      go_wp2_with fail
      go_roundw
      case rel =>
        refine ⟨k + 1, _, by omega, by go_num, ?_, put4 hf2 (k * 4) (by omega) r, fun j hj => ?_⟩
        · exact below4 hbl (Nat.le_of_eq Hg.out.2.1.symm) _ _
        · by_cases hjk : k * 4 ≤ j
          · have e := Hfa.out (j - k * 4) (by omega)
            rw [show k * 4 + (j - k * 4) = j by omega] at e
            rw [e, puts4_in _ hjk (by omega)]
          · rw [puts4_out _ (by omega)]
            exact he.out j (by omega)
      case measure => simp [intOf]; omega
    · obtain rfl : k = N := by omega
      go_wp2_with fail
      go_ret2
      exact ⟨g, rfl, Hg.out.1, hf.congr he.out, Hg.out.2.2.trans (hB.mono Hg.out.2.2.size)⟩


end PatsI
end Go.Proofs.Ytbcaahaaaodhkaa
