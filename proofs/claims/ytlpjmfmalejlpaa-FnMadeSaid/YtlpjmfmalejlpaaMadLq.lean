/-
  Lists of throws and of bits, and their numbers: both sides.
-/
import Derived.Test.YtlpjmfmalejlpaaRows
import Derived.Test.YtlpjmfmalejlpaaArr
import Derived.Test.YtlpjmfmalejlpaaDieW
import Derived.Test.YtlpjmfmalejlpaaAll6
import Derived.Test.YtlpjmfmalejlpaaOpenI
import Derived.Test.YtlpjmfmalejlpaaOpenD
import Derived.WalkKit
import Derived.WalkLawsBesides
import Derived.WalkSpells
import Derived.ProofKit
import Derived.OpenShut
import Derived.Deep.RegionWith
import Derived.Deep.QuietTactic
import Derived.BigQuiet
namespace Go.Proofs.Ytlpjmfmalejlpaa
open Go.ChangeShapes Go.WideShapes Go.ChangeAt Go.RowKit
open Go.ChangeMaps (open_string shut_string)

namespace MadLq
open Dice Arr DieW All6 OpenG

/-- A list of at most so many numbers, all of them from 0 on and below a bound. -/
def okM (most : Nat) (b : Int) (n : Nat) (f : Nat → Int) : Bool := decide (n ≤ most) && decide (∀ j, j < n → 0 ≤ f j ∧ f j < b)
theorem okM_long {most n : Nat} {b : Int} {f : Nat → Int} (h : ¬ n ≤ most) : okM most b n f = false := by simp only [okM, decide_eq_false h, Bool.false_and]
theorem okM_bad {most n j : Nat} {b : Int} {f : Nat → Int} (hj : j < n) (h : ¬ (0 ≤ f j ∧ f j < b)) : okM most b n f = false := by
  have : ¬ ∀ j, j < n → 0 ≤ f j ∧ f j < b := fun x => h (x j hj)
  simp only [okM, decide_eq_false this, Bool.and_false]
theorem okM_yes {most n : Nat} {b : Int} {f : Nat → Int} (hn : n ≤ most) (h : ∀ j, j < n → 0 ≤ f j ∧ f j < b) : okM most b n f = true := by
  simp only [okM, decide_eq_true hn, decide_eq_true h, Bool.and_true]
theorem okM_end {most n : Nat} {b : Int} {f : Nat → Int} (h : ∀ j, j < n → 0 ≤ f j ∧ f j < b) : okM most b n f = decide (n ≤ most) := by
  simp only [okM, decide_eq_true h, Bool.and_true]
theorem of_okM {most n : Nat} {b : Int} {f : Nat → Int} (h : okM most b n f = true) : n ≤ most ∧ ∀ j, j < n → 0 ≤ f j ∧ f j < b := by
  simp only [okM, Bool.and_eq_true, decide_eq_true_eq] at h
  exact h
/-- The number of the first digits by a base. -/
def nb (b : Int) (f : Nat → Int) : Nat → Int
  | 0 => 0
  | k + 1 => nb b f k * b + f k
theorem nb_six {f : Nat → Int} : ∀ {k : Nat}, k ≤ 6 → (∀ j, j < k → 0 ≤ f j ∧ f j < 6) → 0 ≤ nb 6 f k ∧ nb 6 f k + 1 ≤ ((6 ^ k : Nat) : Int)
  | 0, _, _ => ⟨Int.le_refl _, Int.le_refl _⟩
  | k + 1, hk, h => by
    have ih := nb_six (f := f) (k := k) (by omega) (fun j hj => h j (by omega))
    have hf := h k (by omega)
    show 0 ≤ nb 6 f k * 6 + f k ∧ nb 6 f k * 6 + f k + 1 ≤ _
    rw [Nat.pow_succ]
    omega
theorem six_le6 {k : Nat} (h : k ≤ 6) : 6 ^ k ≤ 46656 := Nat.le_trans (Nat.pow_le_pow_right (by omega) h) (by decide)
theorem nb_le {b : Int} {f : Nat → Int} (hb : 1 ≤ b ∧ b ≤ 6) : ∀ {k : Nat}, k ≤ 6 → (∀ j, j < k → 0 ≤ f j ∧ f j < b) → 0 ≤ nb b f k ∧ nb b f k ≤ 46655 ∧ (k ≤ 5 → nb b f k ≤ 7775) := by
  intro k hk h
  have key : ∀ k, k ≤ 6 → (∀ j, j < k → 0 ≤ f j ∧ f j < b) → 0 ≤ nb b f k ∧ nb b f k + 1 ≤ ((6 ^ k : Nat) : Int) := by
    intro k
    induction k with
    | zero => intro _ _; exact ⟨Int.le_refl _, Int.le_refl _⟩
    | succ k ih =>
      intro hk h
      have i := ih (by omega) (fun j hj => h j (by omega))
      have hf := h k (by omega)
      have hm : nb b f k * b ≤ nb b f k * 6 := Int.mul_le_mul_of_nonneg_left hb.2 i.1
      have hm0 : 0 ≤ nb b f k * b := Int.mul_nonneg i.1 (by omega)
      show 0 ≤ nb b f k * b + f k ∧ nb b f k * b + f k + 1 ≤ _
      rw [Nat.pow_succ]
      omega
  have := key k hk h
  have h6 := six_le6 hk
  refine ⟨this.1, by omega, fun h5 => ?_⟩
  have : 6 ^ k ≤ 7776 := Nat.le_trans (Nat.pow_le_pow_right (by omega) h5) (by decide)
  omega
theorem nb_congr {b : Int} {f g : Nat → Int} : ∀ {k : Nat}, (∀ j, j < k → f j = g j) → nb b f k = nb b g k
  | 0, _ => rfl
  | k + 1, h => by
    show nb b f k * b + f k = nb b g k * b + g k
    rw [nb_congr (k := k) (fun j hj => h j (by omega)), h k (by omega)]
theorem keptA {w w' : World} {b n : Nat} {row : Option Nat} {f : Nat → Int} (h : At w b n f) (hg : w.grownBy w' row) (hb : some b ≠ row) : At w' b n f :=
  ⟨Nat.lt_of_lt_of_le h.lt hg.size, fun k hk => (World.cell?_of_block (w := w) (hg.block b h.lt hb)).trans (h.cell k hk), fun k => (World.frozen?_of_block (w := w) (hg.block b h.lt hb)).trans (h.free k)⟩
theorem grown_self (w : World) (row : Option Nat) : w.grownBy w row := ⟨rfl, rfl, rfl, Nat.le_refl _, fun _ _ _ => rfl⟩
theorem grown_set {w w' : World} {g j : Nat} {v : Value} (h : w.grownBy w' (some g)) : w.grownBy (w'.setCell ⟨g, j, none⟩ v) (some g) :=
  ⟨h.os, h.tape, h.output, by rw [World.size_setCell]; exact h.size, fun k hk hne => (heap_setCell_other _ _ _ _ (fun e => hne (by rw [e]))).trans (h.block k hk hne)⟩
theorem grown_trans {w w' w'' : World} {row : Option Nat} (h : w.grownBy w' row) (h' : w'.grownBy w'' row) : w.grownBy w'' row :=
  ⟨h'.os.trans h.os, h'.tape.trans h.tape, h'.output.trans h.output, Nat.le_trans h.size h'.size, fun k hk hne => (h'.block k (Nat.lt_of_lt_of_le hk h.size) hne).trans (h.block k hk hne)⟩
theorem grown_of {w w' : World} {B : Nat} (h : Below B w w') (hB : w.heap.size ≤ B) (row : Option Nat) : w.grownBy w' row := ⟨h.os, h.tape, h.output, h.size, fun k hk _ => h.block k (by omega)⟩
theorem below_grown {B : Nat} {w w' w'' : World} {r : Nat} (h : Below B w w') (hg : w'.grownBy w'' (some r)) (hB : B ≤ w'.heap.size) (hr : B ≤ r) : Below B w w'' := h.grown hg hB (fun k e => by injection e with e; omega)
theorem row_of {w : World} {g n : Nat} {f : Nat → Int} (h : At w g n f) {o m : Nat} (hm : o + m ≤ n) : RowI w (some ⟨g, o, none⟩) m (fun i => f (o + i)) :=
  .inr ⟨g, o, rfl, h.lt, fun i hi => by have := h.cell (o + i) (by omega); exact this⟩

set_option maxRecDepth 100000 in
set_option maxHeartbeats 4000000 in
theorem specThrows_any (g n cp most : Nat) (f : Nat → Int) (w : World) (hA : At w g n f) (hn : n ≤ 1048576) (hm40 : most ≤ 40) :
    Calls Try.prog 28 #[.slice (some ⟨g, 0, none⟩) n cp, .int .i64 most] w fun e w' => e = .returned (.bool (okM most 6 n f)) ∧ w' = w := by
  have Hin := Lib.hid (fun (x : Int) (w : World) => l1In_any x 0 5 w)
  have H := Lib.hid hA
  go_enter Try.func28, Try.ntmps28
  go_wp2_with fail
  go_loop [5] (fun kv => ∃ k : Nat, k ≤ n ∧ k ≤ most + 1 ∧ kv = .int .i64 k ∧ Hid (∀ j, j < k → 0 ≤ f j ∧ f j < 6)) (fun kv => n - (intOf kv).toNat)
  case atStart => exact ⟨0, by omega, by omega, rfl, fun j hj => by omega⟩
  case round =>
    obtain ⟨k, hk, hk2, rfl, hd⟩ := hrel
    by_cases hlt : k < n
    · have hit : decide ((k : Int) < (n : Int)) = true := decide_eq_true (by omega)
      have hitN : decide (k < n) = true := decide_eq_true hlt
      by_cases hm : k ≤ most
      · have hmt : decide ((k : Int) ≤ (most : Int)) = true := decide_eq_true (by omega)
        have hmtN : decide (k ≤ most) = true := decide_eq_true hm
        have c1 := H.out.cell k hlt
        have hin := fun w => Hin.out (f k) w
        by_cases hr : 0 ≤ f k ∧ f k ≤ 5
        · rw [decide_eq_true hr] at hin
          have Hin1 := Lib.hid hin; clear hin
          have hd2 : Hid (∀ j, j < k + 1 → 0 ≤ f j ∧ f j < 6) := fun j hj => by
            by_cases e : j = k
            · subst e; omega
            · exact hd.out j (by omega)
          clear hd hr
          go_wp2_with fail
          refine (Hin1.out _).mono ?_
          rintro e w1 ⟨rfl, hw⟩
          have hw := hw.symm
          subst hw
          go_wp2_with fail
          go_round
          case rel => exact ⟨k + 1, by omega, by omega, by go_num, hd2⟩
          case measure => simp [intOf]; omega
        · rw [decide_eq_false hr] at hin
          have Hin1 := Lib.hid hin; clear hin
          have HE := Lib.hid (okM_bad (most := most) (b := 6) (f := f) hlt (by omega))
          clear hr hd
          go_wp2_with fail
          refine (Hin1.out _).mono ?_
          rintro e w1 ⟨rfl, hw⟩
          have hw := hw.symm
          subst hw
          go_wp2_with fail
          go_ret
          exact ⟨by rw [HE.out]; rfl, rfl⟩
      · have hmt : decide ((k : Int) ≤ (most : Int)) = false := decide_eq_false (by omega)
        have hmtN : decide (k ≤ most) = false := decide_eq_false hm
        have hne : decide ((n : Int) ≤ (most : Int)) = false := decide_eq_false (by omega)
        have hneN : decide (n ≤ most) = false := decide_eq_false (by omega)
        have HE := Lib.hid (okM_long (most := most) (n := n) (b := 6) (f := f) (by omega))
        clear hd
        go_wp2_with fail
        go_ret
        exact ⟨by rw [HE.out]; first | rfl | simp [hne, hneN], rfl⟩
    · obtain rfl : k = n := by omega
      have hit : decide ((k : Int) < (k : Int)) = false := decide_eq_false (by omega)
      have HE := Lib.hid (okM_end (most := most) hd.out)
      have hne : decide ((k : Int) ≤ (most : Int)) = decide (k ≤ most) := by simp; try omega
      go_wp2_with fail
      go_ret
      exact ⟨by rw [HE.out]; first | rfl | (rw [hne]) | simp, rfl⟩

set_option maxRecDepth 100000 in
set_option maxHeartbeats 4000000 in
theorem below_any (g n cp : Nat) (b : Int) (f : Nat → Int) (w : World) (hA : At w g n f) (hn : n ≤ 1048576) :
    Calls Try.prog 45 #[.slice (some ⟨g, 0, none⟩) n cp, .int .i64 b] w fun e w' => e = .returned (.bool (okM 40 b n f)) ∧ w' = w := by
  have H := Lib.hid hA
  by_cases h40 : n ≤ 40
  case neg =>
    rw [okM_long h40]
    have hd : decide ((40 : Int) < (n : Int)) = true := decide_eq_true (by omega)
    have hdN : decide (40 < n) = true := decide_eq_true (by omega)
    go_enter Try.func45, Try.ntmps45
    go_wp2_with fail
    go_ret
    exact ⟨rfl, rfl⟩
  have hd40 : decide ((40 : Int) < (n : Int)) = false := decide_eq_false (by omega)
  have hd40N : decide (40 < n) = false := decide_eq_false (by omega)
  go_enter Try.func45, Try.ntmps45
  go_wp2_with fail
  go_loop [12] (fun kv => ∃ k : Nat, k ≤ n ∧ kv = .int .i64 k ∧ Hid (∀ j, j < k → 0 ≤ f j ∧ f j < b)) (fun kv => n - (intOf kv).toNat)
  case atStart => exact ⟨0, by omega, rfl, fun j hj => by omega⟩
  case round =>
    obtain ⟨k, hk, rfl, hd⟩ := hrel
    by_cases hlt : k < n
    · have hit : decide ((k : Int) < (n : Int)) = true := decide_eq_true (by omega)
      have hitN : decide (k < n) = true := decide_eq_true hlt
      have c1 := H.out.cell k hlt
      by_cases h1 : f k < 0
      · have HE := Lib.hid (okM_bad (most := 40) (b := b) (f := f) hlt (by omega))
        have g1 : decide (f k < 0) = true := decide_eq_true h1
        clear hd
        go_wp2_with fail
        go_ret
        exact ⟨by rw [HE.out]; rfl, rfl⟩
      · have g1 : decide (f k < 0) = false := decide_eq_false h1
        by_cases h2 : b ≤ f k
        · have HE := Lib.hid (okM_bad (most := 40) (b := b) (f := f) hlt (by omega))
          have g2 : decide (b ≤ f k) = true := decide_eq_true h2
          clear hd
          go_wp2_with fail
          go_ret
          exact ⟨by rw [HE.out]; rfl, rfl⟩
        · have g2 : decide (b ≤ f k) = false := decide_eq_false h2
          have hd2 : Hid (∀ j, j < k + 1 → 0 ≤ f j ∧ f j < b) := fun j hj => by
            by_cases e : j = k
            · subst e; omega
            · exact hd.out j (by omega)
          clear hd
          go_wp2_with fail
          go_round
          case rel => exact ⟨k + 1, by omega, by go_num, hd2⟩
          case measure => simp [intOf]; omega
    · obtain rfl : k = n := by omega
      have hit : decide ((k : Int) < (k : Int)) = false := decide_eq_false (by omega)
      have HE := Lib.hid (okM_yes h40 hd.out)
      go_wp2_with fail
      go_ret
      exact ⟨by rw [HE.out]; rfl, rfl⟩

set_option maxRecDepth 100000 in
set_option maxHeartbeats 4000000 in
theorem throws_any (g n cp : Nat) (f : Nat → Int) (w : World) (hA : At w g n f) (hn : n ≤ 1048576) :
    Calls Try.prog 32 #[.slice (some ⟨g, 0, none⟩) n cp] w fun e w' => e = .returned (.bool (okM 40 6 n f)) ∧ w' = w := by
  have Hb := Lib.hid (fun w hA => below_any g n cp 6 f w hA hn)
  have H := Lib.hid hA
  go_enter Try.func32, Try.ntmps32
  go_wp2_with fail
  refine (Hb.out _ H.out).mono ?_
  rintro e w1 ⟨rfl, hw⟩
  have hw := hw.symm
  subst hw
  go_wp2_with fail
  go_ret
  exact ⟨rfl, rfl⟩

set_option maxRecDepth 100000 in
set_option maxHeartbeats 4000000 in
theorem number_any (A : Option Addr) (n c : Nat) (f : Nat → Int) (w : World) (hA : RowI w A n f) (hn : n ≤ 6) (hf : ∀ j, j < n → 0 ≤ f j ∧ f j < 6) :
    Calls Try.prog 30 #[.slice A n c] w fun e w' => e = .returned (.int .i64 (nb 6 f n)) ∧ w' = w := by
  have H := Lib.hid hA
  have Hf := Lib.hid hf
  have Hnb : Hid (∀ k, k ≤ n → 0 ≤ nb 6 f k ∧ nb 6 f k ≤ 46655 ∧ (k ≤ 5 → nb 6 f k ≤ 7775)) := fun k hk => nb_le (by omega) (by omega) (fun j hj => hf j (by omega))
  go_enter Try.func30, Try.ntmps30
  go_wp2_with fail
  go_loop [3, 4] (fun sv kv => ∃ k : Nat, k ≤ n ∧ kv = .int .i64 k ∧ sv = .int .i64 (nb 6 f k)) (fun _ kv => n - (intOf kv).toNat)
  case atStart => exact ⟨0, by omega, rfl, rfl⟩
  case round =>
    obtain ⟨k, hk, rfl, rfl⟩ := hrel
    by_cases hlt : k < n
    · have hit : decide ((k : Int) < (n : Int)) = true := decide_eq_true (by omega)
      have hitN : decide (k < n) = true := decide_eq_true hlt
      obtain ⟨b, o, rfl, hbl, ci⟩ := H.out.at_ hlt
      have hfk := Hf.out k hlt
      obtain ⟨q0, q1, q2⟩ := Hnb.out k hk
      have q2 := q2 (by omega)
      have hs : Hid (nb 6 f (k + 1) = nb 6 f k * 6 + f k) := rfl
      generalize nb 6 f k = x at *
      go_wp2_with fail
      go_round
      case rel => exact ⟨k + 1, by omega, by go_num, by rw [hs.out]; congr 1; omega⟩
      case measure => simp [intOf]; omega
    · obtain rfl : k = n := by omega
      have hit : decide ((k : Int) < (k : Int)) = false := decide_eq_false (by omega)
      go_wp2_with fail
      go_ret
      exact ⟨rfl, rfl⟩


end MadLq
end Go.Proofs.Ytlpjmfmalejlpaa
