/-
  What FnMade turns on: numbers that are made, the best number of throws, and lists.
-/
import Derived.Test.YtlpjmfmalejlpaaRows
import Derived.Test.YtlpjmfmalejlpaaArr
import Derived.Test.YtlpjmfmalejlpaaDieW
import Derived.Test.YtlpjmfmalejlpaaFracW
import Derived.Test.YtlpjmfmalejlpaaFracL
import Derived.Test.YtlpjmfmalejlpaaAll6
import Derived.Test.YtlpjmfmalejlpaaAllL
import Derived.Test.YtlpjmfmalejlpaaOpenI
import Derived.Test.YtlpjmfmalejlpaaFracM
import Derived.Test.YtlpjmfmalejlpaaCutW
import Derived.Test.YtlpjmfmalejlpaaMadW
import Derived.Test.YtlpjmfmalejlpaaMadLq
import Derived.Test.YtlpjmfmalejlpaaMadCq
import Derived.Test.YtlpjmfmalejlpaaMadNq
import Derived.Test.YtlpjmfmalejlpaaMThW
import Derived.Test.YtlpjmfmalejlpaaBThS
import Derived.Test.YtlpjmfmalejlpaaBThI
import Derived.Test.YtlpjmfmalejlpaaOwnL
import Derived.Test.YtlpjmfmalejlpaaListQ
import Derived.Test.YtlpjmfmalejlpaaMakSq
import Derived.Test.YtlpjmfmalejlpaaMakIq
import Derived.Test.YtlpjmfmalejlpaaOpenD
import Derived.WalkKit
import Derived.WalkLawsBesides
import Derived.WalkSpells
import Derived.ProofKit
import Derived.OpenShut
import Derived.Deep.RegionWith
import Derived.Deep.QuietTactic
import Derived.BigQuiet
namespace Go.Proofs.Ytlpjmfmalejlpaa
open Go.ChangeShapes Go.WideShapes Go.ChangeAt Go.RowKit
open Go.ChangeMaps (open_string shut_string)

namespace MadX
open Dice Arr DieW FracW FracL All6 AllL OpenG FracM CutW MadW MadLq MadCq MadNq MThW BThS OwnL ListQ MakSq

/-- What was made of valid throws. -/
theorem of_okV {m : Int} {n : Nat} {f : Nat → Int} (h : okV m n f = true) : okN n f = true ∧ okT m (n : Nat) = true ∧ ∃ a x : Nat, m = a ∧ 1 ≤ a ∧ nb 6 f n = x ∧ x ≤ 46655 ∧ tk a n ≤ 46656 ∧ tT m (n : Nat) = (tk a n : Nat) ∧ nv n f = (x : Nat) ∧ tkn m n f = decide (x < tk a n) ∧ (x < tk a n → mv m n f = ((x % a : Nat) : Int)) ∧ (¬ x < tk a n → mv m n f = 0) := by
  have h0 := h
  simp only [okV, Bool.and_eq_true] at h
  obtain ⟨hM, hT⟩ := h
  obtain ⟨h6, hf⟩ := of_okM hM
  obtain ⟨a, b, rfl, hb, h1, h2, h3, h4, h5⟩ := of_okT hT
  obtain rfl : n = b := by omega
  have hN := okN_yes h3 hM
  have hnb := nb_le (b := 6) (f := f) (by omega) h6 hf
  obtain ⟨x, hx⟩ : ∃ x : Nat, nb 6 f n = x := ⟨(nb 6 f n).toNat, by omega⟩
  refine ⟨hN, hT, a, x, rfl, h1, hx, by omega, Nat.le_trans (tk_le a n) (all6_six h4), tT_yes hT, by rw [nv_yes hN, hx], ?_, ?_, ?_⟩
  · by_cases hl : x < tk a n
    · rw [(v_yes h0 (by rw [hx]; omega)).1, decide_eq_true hl]
    · rw [(v_over h0 (by rw [hx]; omega)).1, decide_eq_false hl]
  · intro hl
    rw [(v_yes h0 (by rw [hx]; omega)).2, hx, Int.toNat_natCast]
  · intro hl
    rw [(v_over h0 (by rw [hx]; omega)).2]
/-- What the numbers of throws that are taken are. -/
theorem tk_mod (a b : Nat) : tk a b % a = 0 := Nat.mul_mod_left _ _
theorem tk_next {a b : Nat} (h : 1 ≤ a) : all6 b < tk a b + a := by
  unfold tk
  have := Nat.div_add_mod (all6 b) a
  have h2 := Nat.mod_lt (all6 b) (show 0 < a by omega)
  rw [Nat.mul_comm] at this
  omega
theorem mean_cross (N t : Nat) : num N t * t = N * den N t := by
  have h1 := num_mul N t
  have h2 := den_mul N t
  calc num N t * t = num N t * (Nat.gcd N t * den N t) := by rw [h2]
    _ = (Nat.gcd N t * num N t) * den N t := by rw [← Nat.mul_assoc, Nat.mul_comm (num N t)]
    _ = N * den N t := by rw [h1]
theorem mean_whole {b s t : Nat} (hb : 1 ≤ b) (ht : 1 ≤ t) (hs : 1 ≤ s) (hts : t ≤ s) : (num (b * s) t = b ∧ den (b * s) t = 1) ↔ t = s := by
  have hc := mean_cross (b * s) t
  constructor
  · rintro ⟨h1, h2⟩
    rw [h1, h2, Nat.mul_one] at hc
    exact Nat.eq_of_mul_eq_mul_left (by omega) hc
  · rintro rfl
    have hg : Nat.gcd (b * t) t = t := Nat.gcd_mul_left_left b t
    have h1 := num_mul (b * t) t
    have h2 := den_mul (b * t) t
    rw [hg] at h1 h2
    rw [Nat.mul_comm b t] at h1
    refine ⟨?_, ?_⟩
    · have e := Nat.eq_of_mul_eq_mul_left (show 0 < t by omega) h1
      rw [Nat.mul_comm b t]
      exact e
    · exact Nat.eq_of_mul_eq_mul_left (show 0 < t by omega) (h2.trans (Nat.mul_one t).symm)
/-- The best number of throws has the least mean. -/
def Best (m : Int) (j : Nat) (p : Nat × Nat × Nat) : Prop := (p.1 = 0 → ∀ i, 1 ≤ i → i < j → okT m (i : Nat) = false) ∧ (p.1 ≠ 0 → 1 ≤ p.2.2 ∧ ∀ i, 1 ≤ i → i < j → okT m (i : Nat) = true → p.2.1 * my m (i : Nat) ≤ mx m (i : Nat) * p.2.2 ∧ (i < p.1 → p.2.1 * my m (i : Nat) < mx m (i : Nat) * p.2.2))
theorem my_pos {m : Int} {i : Nat} (h : okT m (i : Nat) = true) : 1 ≤ my m (i : Nat) := by
  obtain ⟨a, b, ha, hb, h1, h2, h3, h4, h5⟩ := of_okT h
  have hm := (m_yes (m := a) (n := b) (by rw [← ha, ← hb]; exact h)).2
  rw [ha, hb, hm]
  exact den_pos (tk_pos h1 h5)
theorem frac_trans {a b c d e f : Nat} (hd : 1 ≤ d) (h1 : a * f < e * b) (h2 : e * d ≤ c * f) : a * d < c * b := by
  have h3 : (a * d) * f < (c * b) * f := by
    have e1 : (a * d) * f = (a * f) * d := by rw [Nat.mul_assoc, Nat.mul_comm d f, ← Nat.mul_assoc]
    have e2 : (e * b) * d = (e * d) * b := by rw [Nat.mul_assoc, Nat.mul_comm b d, ← Nat.mul_assoc]
    have e3 : (c * f) * b = (c * b) * f := by rw [Nat.mul_assoc, Nat.mul_comm f b, ← Nat.mul_assoc]
    have h4 : (a * f) * d < (e * b) * d := Nat.mul_lt_mul_of_pos_right h1 (by omega)
    have h5 : (e * d) * b ≤ (c * f) * b := Nat.mul_le_mul_right b h2
    omega
  exact Nat.lt_of_mul_lt_mul_right h3
theorem bs_lt (m : Int) : ∀ j, 1 ≤ j → (bs m j).1 < j := by
  intro j
  induction j with
  | zero => intro h; omega
  | succ j ih =>
    intro _
    by_cases hj : 1 ≤ j
    · rw [bs_step m hj]
      split
      · exact Nat.lt_succ_self j
      · have := ih hj; omega
    · obtain rfl : j = 0 := by omega
      rw [bs_one]
      exact Nat.zero_lt_one
theorem best_all (m : Int) : ∀ j, 1 ≤ j → Best m j (bs m j) := by
  intro j
  induction j with
  | zero => intro h; omega
  | succ j ih =>
    intro _
    by_cases hj : 1 ≤ j
    case neg =>
      obtain rfl : j = 0 := by omega
      rw [bs_one]
      exact ⟨fun _ i h1 h2 => by omega, fun h => absurd rfl h⟩
    obtain ⟨ih1, ih2⟩ := ih hj
    rw [bs_step m hj]
    split
    case isTrue h =>
      obtain ⟨hok, hor⟩ := h
      refine ⟨fun h0 => by simp only at h0; omega, fun _ => ⟨my_pos hok, fun i hi1 hi2 hio => ?_⟩⟩
      simp only
      by_cases hij : i = j
      · subst hij
        exact ⟨Nat.le_refl _, fun h => by omega⟩
      · by_cases hb0 : (bs m j).1 = 0
        · have := ih1 hb0 i hi1 (by omega)
          rw [hio] at this
          cases this
        · obtain ⟨_, hall⟩ := ih2 hb0
          obtain ⟨g1, _⟩ := hall i hi1 (by omega) hio
          have hl : mx m (j : Nat) * (bs m j).2.2 < (bs m j).2.1 * my m (j : Nat) := by
            rcases hor with h | h
            · exact absurd h hb0
            · exact h
          have := frac_trans (a := mx m (j : Nat)) (b := my m (j : Nat)) (c := mx m (i : Nat)) (d := my m (i : Nat)) (my_pos hio) hl g1
          exact ⟨Nat.le_of_lt this, fun _ => this⟩
    case isFalse h =>
      refine ⟨fun h0 i hi1 hi2 => ?_, fun h0 => ?_⟩
      · by_cases hij : i = j
        · subst hij
          cases hz : okT m (i : Nat)
          · rfl
          · exact absurd ⟨hz, .inl h0⟩ h
        · exact ih1 h0 i hi1 (by omega)
      · obtain ⟨hp, hall⟩ := ih2 h0
        refine ⟨hp, fun i hi1 hi2 hio => ?_⟩
        by_cases hij : i = j
        · subst hij
          have hl : ¬ mx m (i : Nat) * (bs m i).2.2 < (bs m i).2.1 * my m (i : Nat) := fun x => h ⟨hio, .inr x⟩
          have hbl := (bs_le m i).1
          have hlt : (bs m i).1 < i ∨ (bs m i).1 = i := by omega
          refine ⟨by omega, fun hi => ?_⟩
          have := bs_lt m i hi1
          omega
        · exact hall i hi1 (by omega) hio
/-- What is made of a list. -/
theorem ml_sum (m d : Nat) (f : Nat → Int) : ∀ k, (ml m d f k).length + rf m d f k = k
  | 0 => rfl
  | k + 1 => by
    have ih := ml_sum m d f k
    show (if yM d f k < ((tk m d : Nat) : Int) then ml m d f k ++ [(((yM d f k).toNat % m : Nat) : Int)] else ml m d f k).length + (if yM d f k < ((tk m d : Nat) : Int) then rf m d f k else rf m d f k + 1) = _
    split
    · simp; omega
    · omega
theorem ml_in {m d : Nat} {f : Nat → Int} (hm : 1 ≤ m) : ∀ k i, i < (ml m d f k).length → 0 ≤ (ml m d f k).getD i 0 ∧ (ml m d f k).getD i 0 < (m : Int) := by
  intro k
  induction k with
  | zero => intro i hi; exact absurd hi (Nat.not_lt_zero _)
  | succ k ih =>
    have e : ml m d f (k + 1) = if yM d f k < ((tk m d : Nat) : Int) then ml m d f k ++ [(((yM d f k).toNat % m : Nat) : Int)] else ml m d f k := rfl
    rw [e]
    split
    · intro i hi
      rw [List.length_append] at hi
      by_cases hik : i < (ml m d f k).length
      · rw [List.getD_eq_getElem?_getD, List.getElem?_append_left hik, ← List.getD_eq_getElem?_getD]
        exact ih i hik
      · have : i = (ml m d f k).length := by simp at hi; omega
        subst this
        rw [List.getD_eq_getElem?_getD, List.getElem?_append_right (Nat.le_refl _), Nat.sub_self]
        show 0 ≤ (((yM d f k).toNat % m : Nat) : Int) ∧ (((yM d f k).toNat % m : Nat) : Int) < (m : Int)
        have := Nat.mod_lt (yM d f k).toNat (show 0 < m by omega)
        generalize (yM d f k).toNat % m = z at *
        omega
    · exact ih
/-- What was told of a size and a number of throws. -/
theorem of_two {m q : Int} (h : okT m q = true) : ∃ a b : Nat, m = a ∧ q = b ∧ (1 ≤ a ∧ a ≤ 1000) ∧ (1 ≤ b ∧ b ≤ 6) ∧ tT m q = (tk a b : Nat) ∧ tk a b % a = 0 ∧ tk a b ≤ all6 b ∧ all6 b < tk a b + a ∧ all6 b ≤ 46656 ∧ mx m q * tk a b = b * all6 b * my m q ∧ ((mx m q = b ∧ my m q = 1) ↔ tk a b = all6 b) ∧ mx m q ≤ 279936 ∧ my m q ≤ 46656 := by
  have h0 := h
  obtain ⟨a, b, rfl, rfl, h1, h2, h3, h4, h5⟩ := of_okT h
  obtain ⟨e1, e2⟩ := m_yes h0
  have hle := m_le (a : Nat) (b : Nat)
  have h6 : 1 ≤ all6 b := (all6_leL (by omega)).2
  refine ⟨a, b, rfl, rfl, ⟨h1, h2⟩, ⟨h3, h4⟩, tT_yes h0, tk_mod a b, tk_le a b, tk_next h1, all6_six h4, ?_, ?_, hle.1, hle.2⟩
  · rw [e1, e2]; exact mean_cross _ _
  · rw [e1, e2]; exact mean_whole h3 (tk_pos h1 h5) h6 (tk_le a b)
/-- What was made of a list that is valid. -/
theorem of_okL {m q : Int} {n : Nat} {f : Nat → Int} (h : okL m q n f = true) : ∃ a d R : Nat, m = a ∧ q = d ∧ (1 ≤ d ∧ d ≤ 6) ∧ nM m q n f = (R : Nat) ∧ (oM m q n f).length + R ≤ 40 ∧ d * ((oM m q n f).length + R) ≤ n ∧ n < d * ((oM m q n f).length + R + 1) ∧ ∀ i, i < (oM m q n f).length → 0 ≤ (oM m q n f).getD i 0 ∧ (oM m q n f).getD i 0 < (a : Int) := by
  have h0 := h
  simp only [okL, Bool.and_eq_true] at h
  obtain ⟨hT, hM⟩ := h
  obtain ⟨h40, _⟩ := of_okM hM
  obtain ⟨a, d, rfl, rfl, h1, h2, h3, h4, h5⟩ := of_okT hT
  have e : oM a d n f = ml a d f (n / d) := by simp [oM, h0]
  have e2 : nM a d n f = ((rf a d f (n / d) : Nat) : Int) := by simp [nM, h0]
  have hs := ml_sum a d f (n / d)
  refine ⟨a, d, rf a d f (n / d), rfl, rfl, ⟨h3, h4⟩, e2, ?_, ?_, ?_, ?_⟩
  · rw [e, hs]; exact Nat.le_trans (Nat.div_le_self _ _) h40
  · rw [e, hs]; exact Nat.mul_div_le _ _
  · rw [e, hs]; exact Nat.lt_mul_div_succ n (by omega)
  · rw [e]; exact ml_in h1 (n / d)

set_option maxHeartbeats 1000000 in
theorem rInts_any (B B' : Nat) (A A' : Option Addr) (n c c' : Nat) (f : Nat → Int) (w : World) (h : Ints B w A n f) (h' : Ints B' w A' n f) (hn : n ≤ maxLen) :
    Calls Try.prog 22 #[.slice A n c, .slice A' n c'] w fun e w' => e = .returned (.bool true) ∧ Below w.heap.size w w' := by
  unfold maxLen at hn
  have H := Lib.hid h; clear h
  have H' := Lib.hid h'; clear h'
  go_enter Try.func22, Try.ntmps22
  go_wp2_with fail
  go_loopw [5] (fun i wr => ∃ k : Nat, k ≤ n ∧ i = .int .i64 k ∧ Below w.heap.size w wr) (fun i _ => n - (intOf i).toNat)
  case atStart => exact ⟨0, Nat.zero_le _, rfl, n0 w⟩
  case round =>
    obtain ⟨k, hk, rfl, hb⟩ := hrel
    by_cases hlt : k < n
    · obtain ⟨b1, rfl, _, h1⟩ := (H.out.up hb).at_ hlt
      obtain ⟨b2, rfl, _, h2⟩ := (H'.out.up hb).at_ hlt
      have c1 := h1.cell k hlt
      have c2 := h2.cell k hlt
      go_wp2_with fail
      go_region
      all_goals
        go_wp2_with fail
        go_roundw
        case rel => exact ⟨k + 1, by omega, by go_num, hb.drew⟩
        case measure => simp [intOf]; omega
    · obtain rfl : k = n := by omega
      go_wp2_with fail
      go_ret
      exact ⟨rfl, hb⟩

theorem rBig_any (A : Option Addr) (n c : Nat) (w : World) :
    Calls Try.prog 4 #[.slice A n c] w fun e w' => e = .returned (.bool (decide (65536 < (n : Int)))) ∧ w' = w := by
  go_enter Try.func4, Try.ntmps4
  go_wp2_with fail
  go_ret
  exact ⟨by first | rfl | simp, rfl⟩


end MadX
end Go.Proofs.Ytlpjmfmalejlpaa
