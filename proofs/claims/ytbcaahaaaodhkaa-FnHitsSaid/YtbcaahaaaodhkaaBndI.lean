/-
  BoundFor, by the program.
-/
import Derived.Test.YtbcaahaaaodhkaaRows
import Derived.Test.YtbcaahaaaodhkaaHitC
import Derived.Test.YtbcaahaaaodhkaaHitW
import Derived.Test.YtbcaahaaaodhkaaHits
import Derived.Test.YtbcaahaaaodhkaaFive
import Derived.Test.YtbcaahaaaodhkaaFracW
import Derived.Test.YtbcaahaaaodhkaaCutW
import Derived.Test.YtbcaahaaaodhkaaPoolW
import Derived.Test.YtbcaahaaaodhkaaAll6
import Derived.Test.YtbcaahaaaodhkaaDicesW
import Derived.Test.YtbcaahaaaodhkaaOpenD
import Derived.WalkKit
import Derived.WalkLawsBesides
import Derived.WalkSpells
import Derived.ProofKit
import Derived.OpenShut
import Derived.Deep.RegionWith
import Derived.Deep.QuietTactic
import Derived.BigQuiet
namespace Go.Proofs.Ytbcaahaaaodhkaa
open Go.ChangeShapes Go.WideShapes Go.ChangeAt Go.RowKit
open Go.ChangeMaps (open_string shut_string)

namespace BndI
open Dice Arr OpenD DieW SortW DicesW PoolW All6 FracW CutW Hits Five HitC

/-- The first and the second number of the chance that at least k dice hit the bound b. -/
def cx (P : Nat → Nat → Int) (n : Nat) (k : Int) (b : Nat) : Nat := up P (b : Int) n k / Nat.gcd (up P (b : Int) n k) (all6 n)
def cy (P : Nat → Nat → Int) (n : Nat) (k : Int) (b : Nat) : Nat := all6 n / Nat.gcd (up P (b : Int) n k) (all6 n)
/-- Whether the chance at a bound is at least t / m. -/
def hit (P : Nat → Nat → Int) (n : Nat) (k t m : Int) (b : Nat) : Bool := decide (t * (cy P n k b : Nat) ≤ (cx P n k b : Nat) * m)
/-- The greatest bound below b that does, and whether there is one. -/
def bf (ok : Nat → Bool) : Nat → Int × Bool
  | 0 => (0, false)
  | b + 1 => if ok b then ((b : Int), true) else bf ok b
theorem bf_yes {ok : Nat → Bool} {b : Nat} (h : ok b = true) : bf ok (b + 1) = ((b : Int), true) := by
  show (if ok b then _ else _) = _
  rw [if_pos h]
theorem bf_no {ok : Nat → Bool} {b : Nat} (h : ok b = false) : bf ok (b + 1) = bf ok b := by
  show (if ok b then _ else _) = _
  rw [if_neg (by rw [h]; simp)]
theorem bf_none (ok : Nat → Bool) : bf ok 0 = (0, false) := rfl
theorem cut_cxy (P : Nat → Nat → Int) (n : Nat) (k : Int) (b : Nat) : cutV (up P (b : Int) n k) (all6 n) = v2 (cx P n k b : Nat) (cy P n k b : Nat) := by
  unfold cutV cx cy
  rfl
theorem up_le (P : Nat → Nat → Int) (b : Int) (n : Nat) (k : Int) (h4 : n ≤ 4) : up P b n k ≤ 6480 := by
  unfold up
  have := upto_bound (HT_small P b h4).nn k.toNat (5 - k.toNat)
  have e : ((5 - k.toNat : Nat) : Int) * 1296 ≤ 5 * 1296 := by omega
  omega
theorem cxy_le (P : Nat → Nat → Int) (n : Nat) (k : Int) (b : Nat) (h4 : n ≤ 4) : cx P n k b ≤ 6480 ∧ cy P n k b ≤ 1296 :=
  ⟨Nat.le_trans (Nat.div_le_self _ _) (up_le P b n k h4), Nat.le_trans (Nat.div_le_self _ _) (all6_le h4).1⟩
theorem prod_le {x m : Int} {a : Nat} {M : Nat} (ha : a ≤ M) (h0 : 0 ≤ m) (h1 : m ≤ 1000) (hx : x = (a : Int) * m) : 0 ≤ x ∧ x ≤ (M : Int) * 1000 := by
  subst hx
  exact ⟨Int.mul_nonneg (by omega) h0, Int.mul_le_mul (by omega) h1 h0 (by omega)⟩
theorem At.pr (x y : Int) (w : World) : At (w.alloc (.cells #[.int .i64 x, .int .i64 y] 31)) w.heap.size 2 (fr x y) :=
  At.new w _ _ 2 _ fun k hk => by
    obtain rfl | rfl : k = 0 ∨ k = 1 := by omega
    all_goals rfl

set_option maxHeartbeats 2000000 in
theorem l2Less_any (x y t m : Int) (w : World) (hx : 0 ≤ x * m ∧ x * m ≤ 9000000) (hy : 0 ≤ t * y ∧ t * y ≤ 9000000) :
    Calls Try.prog 81 #[v2 x y, v2 t m] w fun e w' => e = .returned (.bool (decide (x * m < t * y))) ∧ Below w.heap.size w w' := by
  have h1 := (At.pr x y w).past (.cells #[.int .i64 t, .int .i64 m] 31)
  have h2 := At.pr t m (w.alloc (.cells #[.int .i64 x, .int .i64 y] 31))
  rw [size_alloc] at h2
  have hB := na (na (n0 w) (.cells #[.int .i64 x, .int .i64 y] 31)) (.cells #[.int .i64 t, .int .i64 m] 31)
  have a0 := h1.cell 0 (by omega)
  have a1 := h1.cell 1 (by omega)
  have b0 := h2.cell 0 (by omega)
  have b1 := h2.cell 1 (by omega)
  simp only [fr, ↓reduceIte, Nat.one_ne_zero] at a0 a1 b0 b1
  clear h1 h2
  go_enter Try.func81, Try.ntmps81
  go_wp2_with fail
  go_ret
  exact ⟨rfl, hB⟩

set_option maxHeartbeats 4000000 in
theorem implBnd_any (A : Option Addr) (n c : Nat) (P : Nat → Nat → Int) (k t m : Int) (w : World) (h : Row w A n P) (hn : n ≤ maxLen) :
    Calls Try.prog 33 #[.slice A n c, .int .i64 k, .int .i64 t, .int .i64 m] w fun e w' => e = .returned (.tuple (if isPool n P && (decide (1 ≤ k ∧ k ≤ 4) && (decide (1 ≤ m ∧ m ≤ 1000) && decide (0 ≤ t ∧ t ≤ m))) then #[.int .i64 (bf (hit P n k t m) 32).1, .bool (bf (hit P n k t m) 32).2] else #[.int .i64 0, .bool false])) ∧ Below w.heap.size w w' := by
  have ht := fun (b : Int) w h => implChHits_any A n c P b k w h hn
  have H := Lib.hid h; clear h
  cases hg : (decide (1 ≤ k) && (decide (0 ≤ t) && (decide (t ≤ m) && (decide (1 ≤ m) && decide (m ≤ 1000)))))
  · have hno : (isPool n P && (decide (1 ≤ k ∧ k ≤ 4) && (decide (1 ≤ m ∧ m ≤ 1000) && decide (0 ≤ t ∧ t ≤ m)))) = false := by
      simp only [Bool.and_eq_false_iff, decide_eq_false_iff_not] at hg ⊢
      omega
    rw [hno]
    simp only [Bool.false_eq_true, ↓reduceIte]
    clear hno
    by_cases g1 : k < 1
    · have d1 : decide (k < 1) = true := decide_eq_true g1
      clear hg g1 ht
      go_enter Try.func33, Try.ntmps33
      go_wp2_with fail
      go_ret2
      exact ⟨rfl, n0 _⟩
    have d1 : decide (k < 1) = false := decide_eq_false g1
    by_cases g2 : t < 0
    · have d2 : decide (t < 0) = true := decide_eq_true g2
      clear hg g1 g2 ht
      go_enter Try.func33, Try.ntmps33
      go_wp2_with fail
      go_ret2
      exact ⟨rfl, n0 _⟩
    have d2 : decide (t < 0) = false := decide_eq_false g2
    by_cases g3 : m < t
    · have d3 : decide (m < t) = true := decide_eq_true g3
      clear hg g1 g2 g3 ht
      go_enter Try.func33, Try.ntmps33
      go_wp2_with fail
      go_ret2
      exact ⟨rfl, n0 _⟩
    have d3 : decide (m < t) = false := decide_eq_false g3
    by_cases g4 : m < 1
    · have d4 : decide (m < 1) = true := decide_eq_true g4
      clear hg g1 g2 g3 g4 ht
      go_enter Try.func33, Try.ntmps33
      go_wp2_with fail
      go_ret2
      exact ⟨rfl, n0 _⟩
    have d4 : decide (m < 1) = false := decide_eq_false g4
    by_cases g5 : 1000 < m
    · have d5 : decide (1000 < m) = true := decide_eq_true g5
      clear hg g1 g2 g3 g4 g5 ht
      go_enter Try.func33, Try.ntmps33
      go_wp2_with fail
      go_ret2
      exact ⟨rfl, n0 _⟩
    · exfalso
      simp only [Bool.and_eq_false_iff, decide_eq_false_iff_not] at hg
      omega
  have hg' : 1 ≤ k ∧ 0 ≤ t ∧ t ≤ m ∧ 1 ≤ m ∧ m ≤ 1000 := by
    simp only [Bool.and_eq_true, decide_eq_true_eq] at hg
    exact hg
  clear hg
  have d1 : decide (k < 1) = false := decide_eq_false (by omega)
  have d2 : decide (t < 0) = false := decide_eq_false (by omega)
  have d3 : decide (m < t) = false := decide_eq_false (by omega)
  have d4 : decide (m < 1) = false := decide_eq_false (by omega)
  have d5 : decide (1000 < m) = false := decide_eq_false (by omega)
  cases hq : isPool n P && decide (1 ≤ k ∧ k ≤ 4)
  · have hno : (isPool n P && (decide (1 ≤ k ∧ k ≤ 4) && (decide (1 ≤ m ∧ m ≤ 1000) && decide (0 ≤ t ∧ t ≤ m)))) = false := by
      rw [← Bool.and_assoc, hq, Bool.false_and]
    rw [hno]
    simp only [Bool.false_eq_true, ↓reduceIte]
    have hz : (isPool n P && decide ((0 : Int) ≤ 31 ∧ (31 : Int) ≤ 31) && decide (0 ≤ k ∧ k ≤ 4)) = false := by
      cases hi : isPool n P
      · rfl
      · rw [hi, Bool.true_and, decide_eq_false_iff_not] at hq
        rw [decide_eq_false (p := 0 ≤ k ∧ k ≤ 4) (by omega), Bool.and_false]
    have ht31 := ht 31
    rw [hz] at ht31
    simp only [Bool.false_eq_true, ↓reduceIte] at ht31
    have Ht := Lib.hid ht31; clear ht ht31 hz hno hq
    go_enter Try.func33, Try.ntmps33
    go_wp2_with fail
    go_loopw [10] (fun bv wr => bv = .int .i64 31 ∧ wr = w) (fun _ _ => 0)
    case atStart => exact ⟨rfl, rfl⟩
    case round =>
      obtain ⟨rfl, rfl⟩ := hrel
      go_wp2_with fail
      refine (Ht.out _ H.out).mono ?_
      rintro e w1 ⟨rfl, hb⟩
      have hbl := na hb (.cells #[.int .i64 0, .int .i64 0] 31)
      clear hb
      go_wp2_with fail
      go_ret2
      exact ⟨rfl, hbl⟩
  have hyes : (isPool n P && (decide (1 ≤ k ∧ k ≤ 4) && (decide (1 ≤ m ∧ m ≤ 1000) && decide (0 ≤ t ∧ t ≤ m)))) = true := by
    rw [← Bool.and_assoc, hq, Bool.true_and, decide_eq_true (by omega : 1 ≤ m ∧ m ≤ 1000), decide_eq_true (by omega : 0 ≤ t ∧ t ≤ m)]
    rfl
  rw [hyes]
  simp only [↓reduceIte]
  have hpk : isPool n P = true ∧ (1 ≤ k ∧ k ≤ 4) := by
    simp only [Bool.and_eq_true, decide_eq_true_eq] at hq
    exact hq
  have h4 := (of_pool hpk.1).2.1
  have ht' : ∀ (b : Nat), b ≤ 31 → ∀ w, Row w A n P → Calls Try.prog 29 #[.slice A n c, .int .i64 b, .int .i64 k] w fun e w' => e = .returned (.tuple #[v2 (cx P n k b : Nat) (cy P n k b : Nat), .bool true]) ∧ Below w.heap.size w w' := fun b hb w h => by
    have := ht b w h
    rw [hpk.1, decide_eq_true (by omega : 0 ≤ (b : Int) ∧ (b : Int) ≤ 31), decide_eq_true (by omega : 0 ≤ k ∧ k ≤ 4), cut_cxy] at this
    exact this
  have Ht := Lib.hid ht'; clear ht ht' hyes hq hpk
  have hc := fun b => cxy_le P n k b h4
  obtain ⟨tt, rfl⟩ : ∃ j : Nat, t = j := ⟨t.toNat, by omega⟩
  obtain ⟨mm, rfl⟩ : ∃ j : Nat, m = j := ⟨m.toNat, by omega⟩
  have hh0 : ∀ b, hit P n k tt mm b = decide ((tt : Int) * (cy P n k b : Nat) ≤ (cx P n k b : Nat) * (mm : Int)) := fun b => rfl
  have Hh := Lib.hid hh0; clear hh0
  have d6 : decide (mm < tt) = false := decide_eq_false (by omega)
  have d7 : decide (1000 < mm) = false := decide_eq_false (by omega)
  have d8 : decide (mm < 1) = false := decide_eq_false (by omega)
  generalize hit P n k tt mm = ok at *
  generalize cx P n k = gx at *
  generalize cy P n k = gy at *
  go_enter Try.func33, Try.ntmps33
  go_wp2_with fail
  go_loopw [10] (fun bv wr => ∃ b : Nat, b ≤ 32 ∧ bv = .int .i64 ((b : Int) - 1) ∧ Below w.heap.size w wr ∧ Hid (bf ok 32 = bf ok b)) (fun bv _ => (intOf bv + 1).toNat)
  case atStart => exact ⟨32, by omega, rfl, n0 w, rfl⟩
  case round =>
    obtain ⟨b, hb31, rfl, hbl, hE⟩ := hrel
    rcases b with _ | b
    · go_wp2_with fail
      go_ret2
      exact ⟨by rw [hE.out] <;> rfl, hbl⟩
    have hki : (((b + 1 : Nat) : Int) - 1) = (b : Int) := by omega
    rw [hki]
    clear hki
    have Htb := Lib.hid (Ht.out b (by omega))
    have hcb := hc b
    have hok := Hh.out b
    have hp1 : 0 ≤ (gx b : Int) * (mm : Int) ∧ (gx b : Int) * (mm : Int) ≤ ((6480 : Nat) : Int) * 1000 := prod_le hcb.1 (by omega) (by omega) rfl
    have hp2 : 0 ≤ (tt : Int) * (gy b : Int) ∧ (tt : Int) * (gy b : Int) ≤ ((1296 : Nat) : Int) * 1000 := by rw [Int.mul_comm]; exact prod_le hcb.2 (by omega) (by omega) rfl
    generalize gx b = x at *
    generalize gy b = y at *
    clear hc Hh
    go_wp2_with fail
    refine (Htb.out _ (H.out.below (Nat.le_refl _) hbl)).mono ?_
    rintro e w1 ⟨rfl, hb⟩
    have hbl := na (nx hbl hb) (.cells #[.int .i64 x, .int .i64 y] 31)
    have hA := At.pr x y w1
    have a0 := hA.cell 0 (by omega)
    have a1 := hA.cell 1 (by omega)
    simp only [fr, ↓reduceIte, Nat.one_ne_zero] at a0 a1
    clear hA hb
    by_cases hh : (tt : Int) * (y : Int) ≤ (x : Int) * (mm : Int)
    · have hd : decide ((tt : Int) * (y : Int) ≤ (x : Int) * (mm : Int)) = true := decide_eq_true hh
      have HE : Hid (bf ok 32 = ((b : Int), true)) := hE.out.trans (bf_yes (hok.trans hd))
      clear hE hok
      go_wp2_with fail
      go_ret2
      exact ⟨by rw [HE.out] <;> rfl, hbl⟩
    · have hd : decide ((tt : Int) * (y : Int) ≤ (x : Int) * (mm : Int)) = false := decide_eq_false hh
      have hokf := hok.trans hd
      clear hok
      have HE : Hid (bf ok 32 = bf ok b) := hE.out.trans (bf_no hokf)
      clear hE hokf
      go_wp2_with fail
      go_roundw
      case rel => exact ⟨b, by omega, by first | rfl | go_num, hbl, HE⟩
      case measure => simp [intOf] <;> omega



end BndI
end Go.Proofs.Ytbcaahaaaodhkaa
