/-
  A symmetric pool, both sides.
-/
import Derived.Test.YtjdijbidpcjjdaaRows
import Derived.Test.YtjdijbidpcjjdaaBndsX
import Derived.Test.YtjdijbidpcjjdaaSumsB
import Derived.Test.YtjdijbidpcjjdaaTableSM
import Derived.Test.YtjdijbidpcjjdaaTableIM
import Derived.Test.YtjdijbidpcjjdaaTableWM
import Derived.Test.YtjdijbidpcjjdaaTableM
import Derived.Test.YtjdijbidpcjjdaaSumsM
import Derived.Test.YtjdijbidpcjjdaaFracW
import Derived.Test.YtjdijbidpcjjdaaCutW
import Derived.Test.YtjdijbidpcjjdaaAll6
import Derived.Test.YtjdijbidpcjjdaaPoolW
import Derived.Test.YtjdijbidpcjjdaaDicesW
import Derived.Test.YtjdijbidpcjjdaaSortW
import Derived.Test.YtjdijbidpcjjdaaDieW
import Derived.Test.YtjdijbidpcjjdaaOpenD
import Derived.Test.YtjdijbidpcjjdaaArr
import Derived.WalkKit
import Derived.WalkLawsBesides
import Derived.WalkSpells
import Derived.ProofKit
import Derived.OpenShut
import Derived.Deep.RegionWith
import Derived.Deep.WholeRow
import Derived.Deep.QuietTactic
import Derived.BigQuiet
namespace Go.Proofs.Ytjdijbidpcjjdaa
open Go.ChangeShapes Go.WideShapes Go.ChangeAt Go.RowKit
open Go.ChangeMaps (open_string shut_string)

namespace SymW
open Dice Arr OpenD DieW SortW DicesW PoolW FracW CutW SumsW Table TableW TableI TableS All6 BndsX

/-- A table read from both ends. -/
def symB (f : Nat → Int) (l h : Nat) : Bool := decide (∀ s, s < h + 1 → l ≤ s → f s = f (l + h - s))
theorem sym_no {f : Nat → Int} {l h s : Nat} (h1 : l ≤ s) (h2 : s ≤ h) (h3 : f s ≠ f (l + h - s)) : symB f l h = false :=
  decide_eq_false fun g => h3 (g s (by omega) h1)
theorem tot_hi {P : Nat → Nat → Int} {n : Nat} (h : pooled P n) : ∀ k, k ≤ n → tot hiF P k ≤ 30 * k := by
  intro k
  induction k with
  | zero => intro _; exact Int.le_refl _
  | succ k ih =>
    intro hk
    have h1 := ih (by omega)
    have h2 := (of_decide_eq_true (h k hk) : upto (P k) 6) 5 (by omega)
    have e : tot hiF P (k + 1) = tot hiF P k + P k 5 := rfl
    rw [e]
    omega
def symO (n : Nat) (P : Nat → Nat → Int) : Bool := isPool n P && symB (T P n) (tot lo P n).toNat (tot hiF P n).toNat
set_option maxRecDepth 100000 in
set_option maxHeartbeats 4000000 in
theorem specSym_any (A : Option Addr) (n c : Nat) (P : Nat → Nat → Int) (w : World) (h : Row w A n P) (hn : n ≤ maxLen) :
    Calls Try.prog 31 #[.slice A n c] w fun e w' => e = .returned (.tuple #[.bool (symO n P), .bool (isPool n P)]) ∧ Below w.heap.size w w' := by
  have hp := fun w h => BndsX.spec_any A n c P w h hn
  unfold symO
  cases hq : isPool n P
  · rw [hq] at hp
    clear hq
    simp only [Bool.false_eq_true, ↓reduceIte] at hp
    simp only [Bool.false_and]
    have Hp := Lib.hid hp; clear hp
    go_enter Try.func31, Try.ntmps31
    go_wp2_with fail
    refine (Hp.out _ h).mono ?_
    rintro e w1 ⟨rfl, hb⟩
    go_wp2_with fail
    go_ret2
    exact ⟨rfl, hb⟩
  · obtain ⟨h1, h4, hd⟩ := of_pool hq
    have hbb := fun w h => BndsX.impl_any A n c P w h hn
    rw [hq] at hp hbb
    clear hq
    simp only [↓reduceIte] at hp hbb
    simp only [Bool.true_and]
    have Ht := Lib.hid (fun w h => l2Table_any A n c P w h h4 hd)
    have hth := tot_hi hd n (Nat.le_refl _)
    have hl0 := (tot_bound (F := lo) (P := P) (n := n) fun i hi => lo_bound (hd i hi)) n (Nat.le_refl _)
    have hh0 := (tot_bound (F := hiF) (P := P) (n := n) fun i hi => hi_bound (hd i hi)) n (Nat.le_refl _)
    generalize T P n = t at *
    generalize tot lo P n = l at *
    generalize tot hiF P n = h2 at *
    obtain ⟨l, rfl⟩ : ∃ l' : Nat, l = l' := ⟨l.toNat, by omega⟩
    obtain ⟨h2, rfl⟩ : ∃ l' : Nat, h2 = l' := ⟨h2.toNat, by omega⟩
    simp only [Int.toNat_natCast]
    have hh : h2 ≤ 120 := by omega
    have hll : l ≤ 400000 := by omega
    have Hp := Lib.hid hp; clear hp
    have Hb := Lib.hid hbb; clear hbb
    have H := Lib.hid h; clear h hd hn hl0 hh0 hth
    go_enter Try.func31, Try.ntmps31
    go_wp2_with fail
    refine (Hp.out _ H.out).mono ?_
    rintro e w0 ⟨rfl, hb0⟩
    go_wp2_with fail
    refine (Ht.out _ (H.out.up hb0)).mono ?_
    rintro e w1 ⟨rfl, hb⟩
    have hbl := nx hb0 hb
    obtain ⟨w2, hst, hA2, hB2, hK2⟩ := store_ex (fresh w1 (b := w1.heap.size) rfl) t
    have hbl2 := (na hbl _).trans (hB2 _ hbl.size)
    clear hb hb0 hbl hB2 hK2
    go_wp2_with fail
    clear hst
    obtain ⟨B0, hB0⟩ : ∃ B0, B0 = w1.heap.size := ⟨_, rfl⟩
    rw [← hB0] at hA2 ⊢
    clear hB0
    go_loopw [8] (fun sv wr => ∃ s : Nat, l ≤ s ∧ (s ≤ h2 + 1 ∨ s = l) ∧ sv = .int .i64 s ∧ Hid (∀ j, l ≤ j → j < s → t j = t (l + h2 - j)) ∧ Below w.heap.size w wr ∧ At wr B0 121 t) (fun sv _ => h2 + 2 - (intOf sv).toNat)
    case atStart => exact ⟨l, Nat.le_refl _, .inr rfl, rfl, fun j h1 h2 => by omega, hbl2, hA2⟩
    case round =>
      clear hbl2 hA2
      obtain ⟨s, hs1, hs2, rfl, he, hB, hA⟩ := hrel
      by_cases hlt : s ≤ h2
      · have hit : decide ((s : Int) ≤ (h2 : Int)) = true := decide_eq_true (by omega)
        have c1 := hA.cell s (by omega)
        have c2 := hA.cell (l + h2 - s) (by omega)
        have hx : ((l : Int) + (h2 : Int) - (s : Int)).toNat = l + h2 - s := by omega
        by_cases hq : t s = t (l + h2 - s)
        · go_wp2_with fail
          go_region
          all_goals
            go_wp2_with fail
            go_roundw
            case rel =>
              refine ⟨s + 1, by omega, .inl (by omega), by go_num, fun j h1 h2 => ?_, hB.drew, hA.drew⟩
              by_cases hj : j = s
              · subst hj; exact hq
              · exact he.out j h1 (by omega)
            case measure => simp [intOf]; omega
        · have hno := Lib.hid (sym_no hs1 hlt hq)
          go_wp2_with fail
          go_region
          all_goals
            go_wp2_with fail
            go_ret2
            exact ⟨by rw [hno.out]; rfl, hB.drew⟩
      · have hit : decide ((s : Int) ≤ (h2 : Int)) = false := decide_eq_false (by omega)
        have hyes : Hid (symB t l h2 = true) := decide_eq_true fun j h2 h1 => he.out j h1 (by omega)
        clear he
        go_wp2_with fail
        go_ret2
        exact ⟨by rw [hyes.out]; rfl, hB⟩

set_option maxRecDepth 100000 in
set_option maxHeartbeats 4000000 in
theorem implSym_any (A : Option Addr) (n c : Nat) (P : Nat → Nat → Int) (w : World) (h : Row w A n P) (hn : n ≤ maxLen) :
    Calls Try.prog 32 #[.slice A n c] w fun e w' => e = .returned (.tuple #[.bool (symO n P), .bool (isPool n P)]) ∧ Below w.heap.size w w' := by
  have hp := fun w h => implTable_any A n c P w h hn
  unfold symO
  cases hq : isPool n P
  · rw [hq] at hp
    clear hq
    simp only [Bool.false_eq_true, ↓reduceIte] at hp
    simp only [Bool.false_and]
    have Hp := Lib.hid hp; clear hp
    go_enter Try.func32, Try.ntmps32
    go_wp2_with fail
    refine (Hp.out _ h).mono ?_
    rintro e w1 ⟨rfl, hb⟩
    obtain ⟨w2, hst, hA2, hB2, hK2⟩ := store_ex (fresh w1 (b := w1.heap.size) rfl) (fun _ => 0)
    have hbl2 := (na hb _).trans (hB2 _ hb.size)
    clear hb hB2 hK2
    go_wp2_with fail
    go_ret2
    exact ⟨rfl, hbl2⟩
  · obtain ⟨h1, h4, hd⟩ := of_pool hq
    have hbb := fun w h => BndsX.impl_any A n c P w h hn
    rw [hq] at hp hbb
    clear hq
    simp only [↓reduceIte] at hp hbb
    simp only [Bool.true_and]
    have Ht := Lib.hid (fun w h => l2Table_any A n c P w h h4 hd)
    have hth := tot_hi hd n (Nat.le_refl _)
    have hl0 := (tot_bound (F := lo) (P := P) (n := n) fun i hi => lo_bound (hd i hi)) n (Nat.le_refl _)
    have hh0 := (tot_bound (F := hiF) (P := P) (n := n) fun i hi => hi_bound (hd i hi)) n (Nat.le_refl _)
    generalize T P n = t at *
    generalize tot lo P n = l at *
    generalize tot hiF P n = h2 at *
    obtain ⟨l, rfl⟩ : ∃ l' : Nat, l = l' := ⟨l.toNat, by omega⟩
    obtain ⟨h2, rfl⟩ : ∃ l' : Nat, h2 = l' := ⟨h2.toNat, by omega⟩
    simp only [Int.toNat_natCast]
    have hh : h2 ≤ 120 := by omega
    have hll : l ≤ 400000 := by omega
    have Hp := Lib.hid hp; clear hp
    have Hb := Lib.hid hbb; clear hbb
    have H := Lib.hid h; clear h hd hn hl0 hh0 hth
    go_enter Try.func32, Try.ntmps32
    go_wp2_with fail
    refine (Hp.out _ H.out).mono ?_
    rintro e w1 ⟨rfl, hb⟩
    obtain ⟨w3, hst, hA3, hB3, hK3⟩ := store_ex (fresh w1 (b := w1.heap.size) rfl) t
    have hbl3 := (na hb _).trans (hB3 _ hb.size)
    obtain ⟨B0, hB0⟩ : ∃ B0, B0 = w1.heap.size := ⟨_, rfl⟩
    rw [← hB0] at hA3
    clear hb hB3 hK3
    go_wp2_with fail
    clear hst
    refine (Hb.out _ (H.out.up hbl3)).mono ?_
    rintro e w2 ⟨rfl, hb2⟩
    have hbl2 := nx hbl3 hb2
    have hA2 := hA3.up hb2
    rw [← hB0]
    clear hB0 hb2 hbl3 hA3
    go_wp2_with fail
    go_loopw [9] (fun sv wr => ∃ s : Nat, l ≤ s ∧ (s ≤ h2 + 1 ∨ s = l) ∧ sv = .int .i64 s ∧ Hid (∀ j, l ≤ j → j < s → t j = t (l + h2 - j)) ∧ Below w.heap.size w wr ∧ At wr B0 121 t) (fun sv _ => h2 + 2 - (intOf sv).toNat)
    case atStart => exact ⟨l, Nat.le_refl _, .inr rfl, rfl, fun j h1 h2 => by omega, hbl2, hA2⟩
    case round =>
      clear hbl2 hA2
      obtain ⟨s, hs1, hs2, rfl, he, hB, hA⟩ := hrel
      by_cases hlt : s ≤ h2
      · have hit : decide ((s : Int) ≤ (h2 : Int)) = true := decide_eq_true (by omega)
        have c1 := hA.cell s (by omega)
        have c2 := hA.cell (l + h2 - s) (by omega)
        have hx : ((l : Int) + (h2 : Int) - (s : Int)).toNat = l + h2 - s := by omega
        by_cases hq : t s = t (l + h2 - s)
        · go_wp2_with fail
          go_region
          all_goals
            go_wp2_with fail
            go_roundw
            case rel =>
              refine ⟨s + 1, by omega, .inl (by omega), by go_num, fun j h1 h2 => ?_, hB.drew, hA.drew⟩
              by_cases hj : j = s
              · subst hj; exact hq
              · exact he.out j h1 (by omega)
            case measure => simp [intOf]; omega
        · have hno := Lib.hid (sym_no hs1 hlt hq)
          go_wp2_with fail
          go_region
          all_goals
            go_wp2_with fail
            go_ret2
            exact ⟨by rw [hno.out]; rfl, hB.drew⟩
      · have hit : decide ((s : Int) ≤ (h2 : Int)) = false := decide_eq_false (by omega)
        have hyes : Hid (symB t l h2 = true) := decide_eq_true fun j h2 h1 => he.out j h1 (by omega)
        clear he
        go_wp2_with fail
        go_ret2
        exact ⟨by rw [hyes.out]; rfl, hB⟩


end SymW
end Go.Proofs.Ytjdijbidpcjjdaa
