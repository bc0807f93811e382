/-
  What the law of hits wants.
-/
import Derived.Test.YtbcaahaaaodhkaaRows
import Derived.Test.YtbcaahaaaodhkaaHitsM
import Derived.Test.YtbcaahaaaodhkaaBndI
import Derived.Test.YtbcaahaaaodhkaaBndS
import Derived.Test.YtbcaahaaaodhkaaHitC
import Derived.Test.YtbcaahaaaodhkaaHitI
import Derived.Test.YtbcaahaaaodhkaaHitS
import Derived.Test.YtbcaahaaaodhkaaHits
import Derived.Test.YtbcaahaaaodhkaaFive
import Derived.Test.YtbcaahaaaodhkaaFracW
import Derived.Test.YtbcaahaaaodhkaaCutW
import Derived.Test.YtbcaahaaaodhkaaAll6
import Derived.Test.YtbcaahaaaodhkaaPoolW
import Derived.Test.YtbcaahaaaodhkaaDicesW
import Derived.Test.YtbcaahaaaodhkaaSortW
import Derived.Test.YtbcaahaaaodhkaaDieW
import Derived.Test.YtbcaahaaaodhkaaOpenD
import Derived.WalkKit
import Derived.WalkLawsBesides
import Derived.WalkSpells
import Derived.ProofKit
import Derived.OpenShut
import Derived.Deep.RegionWith
import Derived.Deep.QuietTactic
import Derived.BigQuiet
namespace Go.Proofs.Ytbcaahaaaodhkaa
open Go.ChangeShapes Go.WideShapes Go.ChangeAt Go.RowKit
open Go.ChangeMaps (open_string shut_string)

namespace HitsF
open Dice Arr OpenD DieW SortW DicesW PoolW All6 FracW CutW Hits Five HitI HitS HitC BndI BndS HitsM

theorem all6_pow : ∀ n, all6 n = 6 ^ n
  | 0 => rfl
  | n + 1 => by
    have := all6_pow n
    show all6 n * 6 = _
    rw [this, Nat.pow_succ]
theorem tab_all (P : Nat → Nat → Int) (b : Int) {n : Nat} (h : n ≤ 4) : Hits.upto (HT P b n) 0 5 = (all6 n : Nat) := by
  have := HT_all P b n (4 - n)
  rw [show n + 1 + (4 - n) = 5 by omega] at this
  rw [this, all6_pow]
/-- The numbers of a table from k on, below i. -/
def mm (f : Nat → Int) (k : Int) : Nat → Int
  | 0 => 0
  | i + 1 => mm f k i + (if k ≤ (i : Int) then f i else 0)
theorem mm_yes {f : Nat → Int} {k : Int} {i : Nat} (h : k ≤ (i : Int)) : mm f k (i + 1) = mm f k i + f i := by show mm f k i + (if _ then _ else _) = _; rw [if_pos h]
theorem mm_no {f : Nat → Int} {k : Int} {i : Nat} (h : ¬ k ≤ (i : Int)) : mm f k (i + 1) = mm f k i := by show mm f k i + (if _ then _ else _) = _; rw [if_neg h, Int.add_zero]
theorem mm_bound {f : Nat → Int} (k : Int) {m : Int} (h : ∀ j, 0 ≤ f j ∧ f j ≤ m) (i : Nat) : 0 ≤ mm f k i ∧ mm f k i ≤ Hits.upto f 0 i := by
  induction i with
  | zero => exact ⟨Int.le_refl _, Int.le_refl _⟩
  | succ i ih =>
    have e : Hits.upto f 0 (i + 1) = Hits.upto f 0 i + f (0 + i) := rfl
    rw [e, Nat.zero_add]
    have := h i
    by_cases hk : k ≤ (i : Int)
    · rw [mm_yes hk]; omega
    · rw [mm_no hk]; omega
theorem upto_snoc (f : Nat → Int) (i : Nat) : Hits.upto f 0 (i + 1) = Hits.upto f 0 i + f i := by
  show Hits.upto f 0 i + f (0 + i) = _
  rw [Nat.zero_add]
theorem mm_upto (f : Nat → Int) {k : Nat} (hk : k ≤ 4) : mm f k 5 = Hits.upto f k (5 - k) ∧ Hits.upto f 0 5 = Hits.upto f 0 k + Hits.upto f k (5 - k) := by
  obtain rfl | rfl | rfl | rfl | rfl : k = 0 ∨ k = 1 ∨ k = 2 ∨ k = 3 ∨ k = 4 := by omega
  all_goals simp [mm, Hits.upto]
  all_goals omega
theorem up_val (P : Nat → Nat → Int) (b : Int) {n : Nat} (h : n ≤ 4) {k : Int} (h0 : 0 ≤ k) (hk : k ≤ 4) : mm (HT P b n) k 5 = (up P b n k : Nat) := by
  have h1 := (mm_upto (HT P b n) (k := k.toNat) (by omega)).1
  rw [show ((k.toNat : Nat) : Int) = k by omega] at h1
  rw [h1]
  unfold up
  have := (upto_bound (HT_small P b h).nn k.toNat (5 - k.toNat)).1
  omega
theorem up_mono (P : Nat → Nat → Int) (b : Int) {n : Nat} (h : n ≤ 4) {k : Int} (h0 : 0 ≤ k) (hk : k ≤ 4) : up P (b + 1) n k ≤ up P b n k := by
  have a1 := (mm_upto (HT P b n) (k := k.toNat) (by omega)).2
  have a2 := (mm_upto (HT P (b + 1) n) (k := k.toNat) (by omega)).2
  rw [tab_all P b h] at a1
  rw [tab_all P (b + 1) h] at a2
  have a3 := HT_mono P b n k.toNat
  unfold up
  omega
theorem cross {u v N : Nat} (hN : 1 ≤ N) (h : v ≤ u) : (v / Nat.gcd v N) * (N / Nat.gcd u N) ≤ (u / Nat.gcd u N) * (N / Nat.gcd v N) := by
  have g1 : 0 < Nat.gcd u N := Nat.gcd_pos_of_pos_right _ hN
  have g2 : 0 < Nat.gcd v N := Nat.gcd_pos_of_pos_right _ hN
  obtain ⟨x, hx⟩ := Nat.gcd_dvd_left u N
  obtain ⟨y, hy⟩ := Nat.gcd_dvd_right u N
  obtain ⟨x', hx'⟩ := Nat.gcd_dvd_left v N
  obtain ⟨y', hy'⟩ := Nat.gcd_dvd_right v N
  have e1 : u / Nat.gcd u N = x := by rw [show u / Nat.gcd u N = (Nat.gcd u N * x) / Nat.gcd u N by rw [← hx], Nat.mul_div_cancel_left _ g1]
  have e2 : N / Nat.gcd u N = y := by rw [show N / Nat.gcd u N = (Nat.gcd u N * y) / Nat.gcd u N by rw [← hy], Nat.mul_div_cancel_left _ g1]
  have e3 : v / Nat.gcd v N = x' := by rw [show v / Nat.gcd v N = (Nat.gcd v N * x') / Nat.gcd v N by rw [← hx'], Nat.mul_div_cancel_left _ g2]
  have e4 : N / Nat.gcd v N = y' := by rw [show N / Nat.gcd v N = (Nat.gcd v N * y') / Nat.gcd v N by rw [← hy'], Nat.mul_div_cancel_left _ g2]
  rw [e1, e2, e3, e4]
  generalize Nat.gcd u N = g at *
  generalize Nat.gcd v N = g' at *
  refine Nat.le_of_mul_le_mul_left (c := g * g') ?_ (Nat.mul_pos g1 g2)
  have l1 : g * g' * (x' * y) = v * N := by
    rw [hx', show (g' * x') * N = (g' * x') * (g * y) by rw [← hy]]
    simp only [Nat.mul_comm, Nat.mul_left_comm]
  have l2 : g * g' * (x * y') = u * N := by
    rw [show u * N = (g * x) * N by rw [← hx], show (g * x) * N = (g * x) * (g' * y') by rw [← hy']]
    simp only [Nat.mul_comm, Nat.mul_left_comm]
  rw [l1, l2]
  exact Nat.mul_le_mul_right _ h
theorem cut_mul (u N : Nat) (hN : 1 ≤ N) : u * (N / Nat.gcd u N) = (u / Nat.gcd u N) * N := by
  have g1 : 0 < Nat.gcd u N := Nat.gcd_pos_of_pos_right _ hN
  obtain ⟨x, hx⟩ := Nat.gcd_dvd_left u N
  obtain ⟨y, hy⟩ := Nat.gcd_dvd_right u N
  have e1 : u / Nat.gcd u N = x := by rw [show u / Nat.gcd u N = (Nat.gcd u N * x) / Nat.gcd u N by rw [← hx], Nat.mul_div_cancel_left _ g1]
  have e2 : N / Nat.gcd u N = y := by rw [show N / Nat.gcd u N = (Nat.gcd u N * y) / Nat.gcd u N by rw [← hy], Nat.mul_div_cancel_left _ g1]
  rw [e1, e2]
  generalize Nat.gcd u N = g at *
  rw [show u * y = (g * x) * y by rw [← hx], show x * N = x * (g * y) by rw [← hy]]
  simp only [Nat.mul_comm, Nat.mul_left_comm]
theorem bf_spec {ok : Nat → Bool} : ∀ {N : Nat} {z : Int}, bf ok N = (z, true) → ∃ b : Nat, b < N ∧ z = b ∧ ok b = true ∧ ∀ j, b < j → j < N → ok j = false
  | 0, z, h => by rw [bf_none] at h; cases h
  | N + 1, z, h => by
    cases hk : ok N
    · rw [bf_no hk] at h
      obtain ⟨b, hb, e, h1, h2⟩ := bf_spec h
      refine ⟨b, by omega, e, h1, fun j hj hj2 => ?_⟩
      by_cases hjN : j = N
      · subst hjN; exact hk
      · exact h2 j hj (by omega)
    · rw [bf_yes hk] at h
      refine ⟨N, by omega, by cases h; rfl, hk, fun j hj hj2 => by omega⟩

set_option maxHeartbeats 1000000 in
theorem vSix_any (n : Nat) (w : World) (hn : n ≤ 5) :
    Calls Try.prog 35 #[.int .i64 n] w fun e w' => e = .returned (.int .i64 (all6 n : Nat)) ∧ w' = w := by
  go_enter Try.func35, Try.ntmps35
  go_wp2_with fail
  go_loopw [3, 4] (fun ov iv wr => ∃ i : Nat, i ≤ n ∧ iv = .int .i64 i ∧ ov = .int .i64 (all6 i : Nat) ∧ wr = w) (fun _ iv _ => n - (intOf iv).toNat)
  case atStart => exact ⟨0, Nat.zero_le _, rfl, rfl, rfl⟩
  case round =>
    obtain ⟨i, hi, rfl, rfl, rfl⟩ := hrel
    by_cases hlt : i < n
    · have hit : decide ((i : Int) < (n : Int)) = true := decide_eq_true (by omega)
      have h6 := (all6_le (show i ≤ 4 by omega)).1
      have hs := Lib.hid (show all6 (i + 1) = all6 i * 6 from rfl)
      go_wp2_with fail
      go_roundw
      case rel => exact ⟨i + 1, by omega, by go_num, by rw [hs.out]; go_num, by first | rfl | trivial⟩
      case measure => simp [intOf]; omega
    · obtain rfl : i = n := by omega
      have hit : decide ((i : Int) < (i : Int)) = false := decide_eq_false (by omega)
      go_wp2_with fail
      go_ret
      exact ⟨rfl, rfl⟩
theorem vBig_any (A : Option Addr) (n c : Nat) (w : World) :
    Calls Try.prog 25 #[.slice A n c] w fun e w' => e = .returned (.bool (decide (65536 < n))) ∧ w' = w := by
  go_enter Try.func25, Try.ntmps25
  go_wp2_with fail
  go_ret
  refine ⟨?_, rfl⟩
  by_cases h : 65536 < n
  · simp [h]; omega
  · simp [h]; omega
theorem vLess_any (x y t m : Int) (w : World) (hx : 0 ≤ x * m ∧ x * m ≤ 9000000000) (hy : 0 ≤ t * y ∧ t * y ≤ 9000000000) :
    Calls Try.prog 36 #[v2 x y, v2 t m] w fun e w' => e = .returned (.bool (decide (x * m < t * y))) ∧ Below w.heap.size w w' := by
  have h1 := (At.pr x y w).past (.cells #[.int .i64 t, .int .i64 m] 31)
  have h2 := At.pr t m (w.alloc (.cells #[.int .i64 x, .int .i64 y] 31))
  rw [size_alloc] at h2
  have hB := na (na (n0 w) (.cells #[.int .i64 x, .int .i64 y] 31)) (.cells #[.int .i64 t, .int .i64 m] 31)
  have a0 := h1.cell 0 (by omega)
  have a1 := h1.cell 1 (by omega)
  have b0 := h2.cell 0 (by omega)
  have b1 := h2.cell 1 (by omega)
  go_enter Try.func36, Try.ntmps36
  go_wp2_with fail
  go_ret
  refine ⟨?_, hB⟩
  show Ending.returned (.bool (decide (wrap64 (x * m) < wrap64 (t * y)))) = _
  rw [show wrap64 (x * m) = x * m by unfold wrap64; omega, show wrap64 (t * y) = t * y by unfold wrap64; omega]


end HitsF
end Go.Proofs.Ytbcaahaaaodhkaa
