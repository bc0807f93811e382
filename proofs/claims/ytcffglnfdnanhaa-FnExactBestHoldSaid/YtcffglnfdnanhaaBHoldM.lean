/-
  The best hold: gains compared.
-/
import Derived.Test.YtcffglnfdnanhaaRows
import Derived.Test.YtcffglnfdnanhaaArr
import Derived.Test.YtcffglnfdnanhaaAnyR
import Derived.Test.YtcffglnfdnanhaaDieW
import Derived.Test.YtcffglnfdnanhaaSortW
import Derived.Test.YtcffglnfdnanhaaFracW
import Derived.Test.YtcffglnfdnanhaaFracL
import Derived.Test.YtcffglnfdnanhaaCutW
import Derived.Test.YtcffglnfdnanhaaAll6
import Derived.Test.YtcffglnfdnanhaaAllL
import Derived.Test.YtcffglnfdnanhaaOwnL
import Derived.Test.YtcffglnfdnanhaaFracM
import Derived.Test.YtcffglnfdnanhaaStopM
import Derived.Test.YtcffglnfdnanhaaRunM
import Derived.Test.YtcffglnfdnanhaaRunI
import Derived.Test.YtcffglnfdnanhaaRunS
import Derived.Test.YtcffglnfdnanhaaRunW
import Derived.Test.YtcffglnfdnanhaaHoldM
import Derived.Test.YtcffglnfdnanhaaBig40
import Derived.Test.YtcffglnfdnanhaaBig41
import Derived.Test.YtcffglnfdnanhaaHoldI
import Derived.Test.YtcffglnfdnanhaaHoldS
import Derived.Test.YtcffglnfdnanhaaHoldW
import Derived.Test.YtcffglnfdnanhaaRunW
import Derived.Test.YtcffglnfdnanhaaRunS
import Derived.Test.YtcffglnfdnanhaaTopW
import Derived.Test.YtcffglnfdnanhaaOpenD
import Derived.WalkKit
import Derived.WalkLawsBesides
import Derived.WalkSpells
import Derived.ProofKit
import Derived.OpenShut
import Derived.Deep.RegionWith
import Derived.Deep.QuietTactic
import Derived.BigQuiet
namespace Go.Proofs.Ytcffglnfdnanhaa
open Go.ChangeShapes Go.WideShapes Go.ChangeAt Go.RowKit
open Go.ChangeMaps (open_string shut_string)

namespace BHoldM
open Dice Arr DieW SortW FracW CutW All6 AllL OwnL FracM StopM RunM RunI RunS RunW HoldM HoldI HoldS HoldW TopW

theorem nsum_zap (S : Nat → Nat) {n : Nat} : ∀ T, n < T → nsum (fun t => if t = n then 0 else S t) T + S n = nsum S T
  | 0, h => by omega
  | T + 1, h => by
    show nsum (fun t => if t = n then 0 else S t) T + (if T = n then 0 else S T) + S n = nsum S T + S T
    by_cases hn : n = T
    · subst hn
      rw [if_pos rfl, nsum_congr (b := S) n (fun t ht => if_neg (by omega))]
      omega
    · have ih := nsum_zap S (n := n) T (by omega)
      rw [if_neg (fun x => hn x.symm)]
      omega
theorem inn_sum (d : Nat → Nat) (bad : Nat) (S : Nat → Nat) {n : Nat} (hn : n < 40) : ∀ i, nsum (inn d bad S n i) 40 + S n ≤ nsum S 40 + i * (S n / 6)
  | 0 => by
    have h := nsum_zap S (n := n) 40 hn
    show nsum (fun t => if t = n then 0 else S t) 40 + S n ≤ _
    omega
  | i + 1 => by
    have ih := inn_sum d bad S hn i
    have e : (i + 1) * (S n / 6) = i * (S n / 6) + S n / 6 := by rw [Nat.add_mul, Nat.one_mul]
    have h := nsum_hit (if d i = bad then 0 else n + d i) (S n / 6) (inn d bad S n i) 40
    have h2 : nsum (inn d bad S n (i + 1)) 40 = nsum (fun t => inn d bad S n i t + if (if d i = bad then 0 else n + d i) = t then S n / 6 else 0) 40 := nsum_congr 40 fun t _ => by
      show inn d bad S n i t + (if t = (if d i = bad then 0 else n + d i) then S n / 6 else 0) = _
      by_cases ht : t = (if d i = bad then 0 else n + d i)
      · rw [if_pos ht, if_pos ht.symm]
      · rw [if_neg ht, if_neg (fun x => ht x.symm)]
    rw [h2, h, e]
    generalize S n / 6 = x at *
    generalize i * x = z at *
    clear h2 h e
    generalize (if d i = bad then 0 else n + d i) = y
    split <;> omega
theorem st_sum (d : Nat → Nat) (bad : Nat) : ∀ n, n ≤ 10 → nsum (st d bad n) 40 ≤ 60466176
  | 0, _ => by
    show nsum (fun t => if t = 0 then 60466176 else 0) 40 ≤ _
    decide
  | n + 1, h => by
    have ih := st_sum d bad n (by omega)
    have h1 := inn_sum d bad (st d bad n) (n := n) (by omega) 6
    have h2 : 6 * (st d bad n n / 6) ≤ st d bad n n := Nat.mul_div_le _ _
    show nsum (inn d bad (st d bad n) n 6) 40 ≤ _
    omega
theorem gain_sum (f : Nat → Nat) : ∀ n, n ≤ 40 → gain f n ≤ 39 * nsum f n
  | 0, _ => Nat.zero_le _
  | n + 1, h => by
    have ih := gain_sum f n (by omega)
    have h1 : n * f n ≤ 39 * f n := Nat.mul_le_mul_right _ (by omega)
    show gain f n + n * f n ≤ 39 * (nsum f n + f n)
    rw [Nat.mul_add]
    omega
/-- What the holds gain. -/
def gn (f : Nat → Nat) (bad k : Nat) : Nat := gain (st f bad (k + 1)) 40
theorem gn_le (f : Nat → Nat) (bad : Nat) {k : Nat} (hk : k < 10) : gn f bad k ≤ 2358180864 := by
  have h1 := gain_sum (st f bad (k + 1)) 40 (Nat.le_refl _)
  have h2 := st_sum f bad (k + 1) (by omega)
  unfold gn
  omega
def FG (f : Nat → Nat) (bad k : Nat) : Int := (gn f bad k : Int)
theorem FG_pos (f : Nat → Nat) (bad k : Nat) : 0 ≤ FG f bad k := by unfold FG; omega
/-- The best of the first holds. -/
def bm (f : Nat → Nat) (bad k : Nat) : Nat := (top (FG f bad) k).2.toNat
theorem bm_eq (f : Nat → Nat) (bad k : Nat) : (top (FG f bad) (k + 1)).2 = (bm f bad (k + 1) : Int) := by
  have h := top_spec (FG_pos f bad) k
  have h2 := FG_pos f bad (top (FG f bad) (k + 1)).1
  unfold bm
  omega
theorem top_lt (f : Nat → Nat) (bad k : Nat) : (top (FG f bad) (k + 1)).1 < k + 1 := (top_spec (FG_pos f bad) k).1
theorem bm_le (f : Nat → Nat) (bad : Nat) {k : Nat} (hk : k < 10) : bm f bad (k + 1) ≤ 2358180864 := by
  have h := top_spec (FG_pos f bad) k
  have h1 := bm_eq f bad k
  have h2 : FG f bad (top (FG f bad) (k + 1)).1 = (gn f bad (top (FG f bad) (k + 1)).1 : Int) := rfl
  have h3 := gn_le f bad (k := (top (FG f bad) (k + 1)).1) (by omega)
  have h4 := h.2.1
  omega
theorem top_step (f : Nat → Nat) (bad k : Nat) : (bm f bad (k + 1) < gn f bad (k + 1) → (top (FG f bad) (k + 2)).1 = k + 1 ∧ bm f bad (k + 2) = gn f bad (k + 1)) ∧ (¬ bm f bad (k + 1) < gn f bad (k + 1) → (top (FG f bad) (k + 2)).1 = (top (FG f bad) (k + 1)).1 ∧ bm f bad (k + 2) = bm f bad (k + 1)) := by
  have e : top (FG f bad) (k + 2) = if (top (FG f bad) (k + 1)).2 < FG f bad (k + 1) then (k + 1, FG f bad (k + 1)) else top (FG f bad) (k + 1) := rfl
  have h1 := bm_eq f bad k
  have h2 : FG f bad (k + 1) = (gn f bad (k + 1) : Int) := rfl
  constructor
  · intro h
    have hl : (top (FG f bad) (k + 1)).2 < FG f bad (k + 1) := by omega
    unfold bm
    rw [e, if_pos hl]
    exact ⟨rfl, by show (FG f bad (k + 1)).toNat = _; omega⟩
  · intro h
    have hl : ¬ (top (FG f bad) (k + 1)).2 < FG f bad (k + 1) := by omega
    unfold bm
    rw [e, if_neg hl]
    exact ⟨rfl, rfl⟩
theorem top_zero (f : Nat → Nat) (bad : Nat) : (top (FG f bad) 1).1 = 0 ∧ bm f bad 1 = gn f bad 0 := by
  have h := FG_pos f bad 0
  have e : top (FG f bad) 1 = (0, FG f bad 0) := by
    show (if (-1 : Int) < FG f bad 0 then (0, FG f bad 0) else (0, -1)) = _
    rw [if_pos (by omega)]
  unfold bm
  rw [e]
  exact ⟨rfl, by show (FG f bad 0).toNat = _; unfold FG; omega⟩
def cn (a : Nat) : Nat := num a 60466176
def cd (a : Nat) : Nat := den a 60466176
theorem At.newv (x y : Int) (w : World) : At (w.alloc (.cells #[.int .i64 x, .int .i64 y] 30)) w.heap.size 2 (fr x y) :=
  At.new w _ _ 2 _ fun k hk => by
    obtain rfl | rfl : k = 0 ∨ k = 1 := by omega
    all_goals rfl

set_option maxHeartbeats 2000000 in
theorem less_big (a b c d : Nat) (w : World) (h1 : a * d ≤ 1000000000000000000) (h2 : c * b ≤ 1000000000000000000) :
    Calls Try.prog 68 #[v2 (a : Int) (b : Int), v2 (c : Int) (d : Int)] w fun e w' => e = .returned (.bool (decide (a * d < c * b))) ∧ Below w.heap.size w w' := by
  have e1 : (a : Int) * (d : Int) = ((a * d : Nat) : Int) := by push_cast; rfl
  have e2 : (c : Int) * (b : Int) = ((c * b : Nat) : Int) := by push_cast; rfl
  generalize a * d = x at *
  generalize c * b = y at *
  have hA := (At.newv (a : Int) (b : Int) w).past (.cells #[.int .i64 (c : Int), .int .i64 (d : Int)] 30)
  have hC := At.newv (c : Int) (d : Int) (w.alloc (.cells #[.int .i64 (a : Int), .int .i64 (b : Int)] 30))
  rw [size_alloc] at hC
  have hB := na (na (n0 w) (.cells #[.int .i64 (a : Int), .int .i64 (b : Int)] 30)) (.cells #[.int .i64 (c : Int), .int .i64 (d : Int)] 30)
  go_enter Try.func68, Try.ntmps68
  go_wp2_with fail
  generalize (w.alloc (.cells #[.int .i64 (a : Int), .int .i64 (b : Int)] 30)).alloc (.cells #[.int .i64 (c : Int), .int .i64 (d : Int)] 30) = W at *
  have q0 := hA.cell 0 (by omega)
  have q1 := hA.cell 1 (by omega)
  have q2 := hC.cell 0 (by omega)
  have q3 := hC.cell 1 (by omega)
  rw [show fr (a : Int) (b : Int) 0 = a from rfl] at q0
  rw [show fr (a : Int) (b : Int) 1 = b from rfl] at q1
  rw [show fr (c : Int) (d : Int) 0 = c from rfl] at q2
  rw [show fr (c : Int) (d : Int) 1 = d from rfl] at q3
  go_wp2_with fail
  go_ret
  exact ⟨rfl, hB⟩
theorem less_mean (a b : Nat) (w : World) (ha : a ≤ 2358180864) (hb : b ≤ 2358180864) :
    Calls Try.prog 68 #[v2 (cn a : Nat) (cd a : Nat), v2 (cn b : Nat) (cd b : Nat)] w fun e w' => e = .returned (.bool (decide (a < b))) ∧ Below w.heap.size w w' := by
  have hh := less_cut (a := a) (b := 60466176) (c := b) (d := 60466176) (by decide) (by decide)
  have n1 := num_le a 60466176
  have n2 := den_le a 60466176
  have n3 := num_le b 60466176
  have n4 := den_le b 60466176
  have h1 : num a 60466176 * den b 60466176 ≤ 2358180864 * 60466176 := Nat.mul_le_mul (by omega) n4
  have h2 : num b 60466176 * den a 60466176 ≤ 2358180864 * 60466176 := Nat.mul_le_mul (by omega) n2
  have h := less_big (num a 60466176) (den a 60466176) (num b 60466176) (den b 60466176) w (Nat.le_trans h1 (by decide)) (Nat.le_trans h2 (by decide))
  have e : decide (num a 60466176 * den b 60466176 < num b 60466176 * den a 60466176) = decide (a < b) := decide_eq_decide.2 (hh.trans ⟨fun x => Nat.lt_of_mul_lt_mul_right x, fun x => Nat.mul_lt_mul_of_pos_right x (by decide)⟩)
  rw [e] at h
  exact h


end BHoldM
end Go.Proofs.Ytcffglnfdnanhaa
