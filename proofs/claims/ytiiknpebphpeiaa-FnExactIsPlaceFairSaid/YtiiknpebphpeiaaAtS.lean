/-
  Ways at places in the model.
-/
import Derived.Test.YtiiknpebphpeiaaRows
import Derived.Test.YtiiknpebphpeiaaArr
import Derived.Test.YtiiknpebphpeiaaDieW
import Derived.Test.YtiiknpebphpeiaaSortW
import Derived.Test.YtiiknpebphpeiaaDicesW
import Derived.Test.YtiiknpebphpeiaaPoolW
import Derived.Test.YtiiknpebphpeiaaAll6
import Derived.Test.YtiiknpebphpeiaaIntsW
import Derived.Test.YtiiknpebphpeiaaRollN
import Derived.Test.YtiiknpebphpeiaaRollS
import Derived.Test.YtiiknpebphpeiaaFour
import Derived.Test.YtiiknpebphpeiaaOrdM
import Derived.Test.YtiiknpebphpeiaaOrdT
import Derived.Test.YtiiknpebphpeiaaOrdW
import Derived.Test.YtiiknpebphpeiaaOrdO
import Derived.Test.YtiiknpebphpeiaaOrdI
import Derived.Test.YtiiknpebphpeiaaOrdK
import Derived.Test.YtiiknpebphpeiaaOrdS
import Derived.Test.YtiiknpebphpeiaaOwnL
import Derived.Test.YtiiknpebphpeiaaAnyR
import Derived.Test.YtiiknpebphpeiaaMapO
import Derived.Test.YtiiknpebphpeiaaShelfMax
import Derived.Test.YtiiknpebphpeiaaOrdN
import Derived.Test.YtiiknpebphpeiaaOrdL
import Derived.Test.YtiiknpebphpeiaaCntI
import Derived.Test.YtiiknpebphpeiaaWayI
import Derived.Test.YtiiknpebphpeiaaWayJ
import Derived.Test.YtiiknpebphpeiaaWayS
import Derived.Test.YtiiknpebphpeiaaWayT
import Derived.Test.YtiiknpebphpeiaaLevW
import Derived.Test.YtiiknpebphpeiaaAtM
import Derived.Test.YtiiknpebphpeiaaAtI
import Derived.Test.YtiiknpebphpeiaaOpenD
import Derived.WalkKit
import Derived.WalkLawsBesides
import Derived.WalkSpells
import Derived.ProofKit
import Derived.OpenShut
import Derived.Deep.RegionWith
import Derived.Deep.QuietTactic
import Derived.BigQuiet
namespace Go.Proofs.Ytiiknpebphpeiaa
open Go.ChangeShapes Go.WideShapes Go.ChangeAt Go.RowKit
open Go.ChangeMaps (open_string shut_string)

namespace AtS
open Dice Arr OpenD DieW SortW DicesW PoolW All6 IntsW RollW Four OwnL OrdM OrdT OrdW OrdO OrdI OrdK OrdS AnyR MapO OrdN OrdL CntI WayI WayJ WayS WayT LevW AtM AtI


def pAt (F : Q4 → Nat) (L : List Q4) (p : Int) (j : Nat) : Nat → Nat
  | 0 => 0
  | i + 1 => if qa (L.getD i (0, 0, 0, 0)) j = p then pAt F L p j i + F (L.getD i (0, 0, 0, 0)) else pAt F L p j i
theorem pAt_cons (F : Q4 → Nat) (q : Q4) (L : List Q4) (p : Int) (j : Nat) : ∀ i, pAt F (q :: L) p j (i + 1) = (if qa q j = p then F q else 0) + pAt F L p j i
  | 0 => by
    show (if qa q j = p then 0 + F q else 0) = _ + 0
    by_cases e : qa q j = p
    · rw [if_pos e, if_pos e]; omega
    · rw [if_neg e, if_neg e]
  | i + 1 => by
    have ih := pAt_cons F q L p j i
    show (if qa ((q :: L).getD (i + 1) (0, 0, 0, 0)) j = p then pAt F (q :: L) p j (i + 1) + F ((q :: L).getD (i + 1) (0, 0, 0, 0)) else pAt F (q :: L) p j (i + 1)) = _ + (if qa (L.getD i (0, 0, 0, 0)) j = p then pAt F L p j i + F (L.getD i (0, 0, 0, 0)) else pAt F L p j i)
    rw [List.getD_cons_succ, ih]
    by_cases e : qa (L.getD i (0, 0, 0, 0)) j = p
    · rw [if_pos e, if_pos e]; omega
    · rw [if_neg e, if_neg e]
theorem pAt_all (F : Q4 → Nat) (p : Int) (j : Nat) : ∀ L : List Q4, pAt F L p j L.length = sumL (fun q => if qa q j = p then F q else 0) L
  | [] => rfl
  | q :: L => by
    rw [List.length_cons, pAt_cons, pAt_all F p j L]
    rfl
theorem pAt_le {F : Q4 → Nat} {B : Nat} (h : ∀ q, F q ≤ B) (L : List Q4) (p : Int) (j : Nat) : ∀ i, pAt F L p j i ≤ i * B
  | 0 => by simp [pAt]
  | i + 1 => by
    have h1 := pAt_le h L p j i
    have h2 := h (L.getD i (0, 0, 0, 0))
    show (if _ then _ else _) ≤ (i + 1) * B
    rw [Nat.succ_mul]
    by_cases e : qa (L.getD i (0, 0, 0, 0)) j = p
    · rw [if_pos e]; omega
    · rw [if_neg e]; omega
theorem pAt_hit {F : Q4 → Nat} {L : List Q4} {p : Int} {j i : Nat} (h : qa (L.getD i (0, 0, 0, 0)) j = p) : pAt F L p j (i + 1) = pAt F L p j i + F (L.getD i (0, 0, 0, 0)) := if_pos h
theorem pAt_miss {F : Q4 → Nat} {L : List Q4} {p : Int} {j i : Nat} (h : ¬ qa (L.getD i (0, 0, 0, 0)) j = p) : pAt F L p j (i + 1) = pAt F L p j i := if_neg h

set_option maxRecDepth 20000 in
set_option maxHeartbeats 4000000 in
theorem l10At_any (n b j : Nat) (p : Int) (F : Q4 → Nat) (w : World) (h1 : 1 ≤ n) (h4 : n ≤ 4) (hj : j < 4) (hF : ∀ q, F q ≤ 1296) (hA : At w b (ordL n).length (wf F (ordL n))) :
    Calls Try.prog 77 #[.int .i64 n, .slice (some ⟨b, 0, none⟩) (ordL n).length (ordL n).length, .int .i64 p, .int .i64 j] w fun e w' => e = .returned (.int .i64 (sumL (fun q => if qa q j = p then F q else 0) (ordL n) : Nat)) ∧ Below w.heap.size w w' := by
  have Hs := Lib.hid (fun w => specOrders_any n w h1 h4)
  have Hall := Lib.hid (pAt_all F p j (ordL n))
  have hl24 : (ordL n).length ≤ 24 := (ordI_len h1 h4 n (Nat.le_refl _)).1
  have hl1 : 1 ≤ (ordL n).length := (ordI_len h1 h4 n (Nat.le_refl _)).2
  have Hle := Lib.hid (pAt_le hF (ordL n) p j)
  have HF := Lib.hid hF; clear hF
  generalize ordL n = L at *
  obtain ⟨m, hm⟩ : ∃ m, m = L.length := ⟨_, rfl⟩
  rw [← hm] at Hs hl24 hl1 Hall hA ⊢
  clear hm
  have HA := Lib.hid hA; clear hA
  go_enter Try.func77, Try.ntmps77
  go_wp2_with fail
  refine (Hs.out _).mono ?_
  rintro e w2 ⟨A2, c2, rfl, hO, hb⟩
  obtain ⟨bL, rfl, hbL, hL0⟩ := hO.at_ (by omega)
  have hA0 := HA.out.up hb
  clear hO
  go_wp2_with fail
  go_loopw [9, 11] (fun mv iv wr => ∃ (i S : Nat), i ≤ m ∧ iv = .int .i64 i ∧ mv = .int .i64 S ∧ Hid (S = pAt F L p j i) ∧ wr = w2) (fun _ iv _ => m - (intOf iv).toNat)
  case atStart => exact ⟨0, 0, Nat.zero_le _, rfl, rfl, rfl, rfl⟩
  case round =>
    obtain ⟨i, S, hi, rfl, rfl, hS, rfl⟩ := hrel
    by_cases hlt : i < m
    · have hit : decide ((i : Int) < (m : Int)) = true := decide_eq_true (by omega)
      have hitN : decide (i < m) = true := decide_eq_true hlt
      have ci := hA0.cell i hlt
      have hv : wf F L i = (F (L.getD i (0, 0, 0, 0)) : Nat) := rfl
      have hvb := HF.out (L.getD i (0, 0, 0, 0))
      have cq := hL0.cell (i * 4 + j) (by omega)
      rw [ofL_at L i hj] at cq
      rw [hv] at ci
      have hhit := @pAt_hit F L p j i
      have hmis := @pAt_miss F L p j i
      have hb3 : S ≤ 40000 := by have h1 := Hle.out i; have : i * 1296 ≤ 24 * 1296 := Nat.mul_le_mul_right _ (by omega); have := hS.out; omega
      have Hhit := Lib.hid hhit; clear hhit
      have Hmis := Lib.hid hmis; clear hmis hv
      generalize L.getD i (0, 0, 0, 0) = q at *
      by_cases hqp : qa q j = p
      · have hd : (qa q j == p) = true := by simp [hqp]
        have Hn := Lib.hid (Hhit.out hqp); clear hqp Hhit Hmis
        rw [← hS.out] at Hn
        have Hn := Lib.hid Hn
        generalize F q = v at *
        go_wp2_with fail
        go_roundw
        case rel => exact ⟨i + 1, S + v, by omega, by go_num, by go_num, Hn.out.out.symm, by first | rfl | trivial⟩
        case measure => simp [intOf]; omega
      · have hd : (qa q j == p) = false := by simp [hqp]
        have Hn := Lib.hid (Hmis.out hqp); clear hqp Hhit Hmis
        rw [← hS.out] at Hn
        have Hn := Lib.hid Hn
        go_wp2_with fail
        go_roundw
        case rel => exact ⟨i + 1, S, by omega, by go_num, rfl, Hn.out.out.symm, by first | rfl | trivial⟩
        case measure => simp [intOf]; omega
    · obtain rfl : i = m := by omega
      have hit : decide ((i : Int) < (i : Int)) = false := decide_eq_false (by omega)
      have hitN : decide (i < i) = false := decide_eq_false (by omega)
      go_wp2_with fail
      go_ret
      exact ⟨by rw [← Hall.out, ← hS.out]; rfl, hb⟩

/-- What WaysAt answers. -/
def okX (n : Nat) (P : Nat → Nat → Int) (p k : Int) : Bool := isPool n P && (decide (0 ≤ p ∧ p ≤ (n : Int) - 1) && decide (0 ≤ k ∧ k ≤ (n : Int) - 1))
def vX (n : Nat) (P : Nat → Nat → Int) (p k : Int) : Int := if okX n P p k then (wA n P p k.toNat : Nat) else 0
theorem vX_no {n : Nat} {P : Nat → Nat → Int} {p k : Int} (h : okX n P p k = false) : vX n P p k = 0 := by unfold vX; rw [h]; rfl
theorem vX_yes {n : Nat} {P : Nat → Nat → Int} {p : Int} {k : Nat} (h : okX n P p k = true) : vX n P p k = (sumL (fun q => if qa q k = p then cnt (gO P n) (all6 n) q else 0) (ordL n) : Nat) := by unfold vX; rw [h, Int.toNat_natCast]; rfl
set_option maxRecDepth 20000 in
set_option maxHeartbeats 4000000 in
theorem specX_any (A : Option Addr) (n c : Nat) (p k : Int) (P : Nat → Nat → Int) (w : World) (h : Row w A n P) (hn : n ≤ maxLen) :
    Calls Try.prog 37 #[.slice A n c, .int .i64 p, .int .i64 k] w fun e w' => e = .returned (.tuple #[.int .i64 (vX n P p k), .bool (okX n P p k)]) ∧ Below w.heap.size w w' := by
  have Hp := Lib.hid (fun w h => l2Pool_any A n c P w h hn)
  have H := Lib.hid h; clear h
  cases hq : isPool n P
  · have e1 : okX n P p k = false := by unfold okX; rw [hq]; rfl
    rw [vX_no e1, e1]
    rw [hq] at Hp
    have Hp := Lib.hid Hp
    clear hq e1
    go_enter Try.func37, Try.ntmps37
    go_wp2_with fail
    refine (Hp.out _ H.out).mono ?_
    rintro e w1 ⟨rfl, hb⟩
    go_wp2_with fail
    go_ret2
    exact ⟨rfl, hb⟩
  rw [hq] at Hp
  have Hp := Lib.hid Hp
  obtain ⟨h1, h4, _⟩ := of_pool hq
  have Hi1 := Lib.hid (fun w => l1In_any p 0 ((n : Int) - 1) w)
  have Hi2 := Lib.hid (fun w => l1In_any k 0 ((n : Int) - 1) w)
  by_cases hp : 0 ≤ p ∧ p ≤ (n : Int) - 1
  case neg =>
    have hd : decide (0 ≤ p ∧ p ≤ (n : Int) - 1) = false := decide_eq_false hp
    have e1 : okX n P p k = false := by unfold okX; rw [hq, hd]; rfl
    rw [vX_no e1, e1]
    rw [hd] at Hi1
    have Hi1 := Lib.hid Hi1
    clear hq e1 hd hp
    go_enter Try.func37, Try.ntmps37
    go_wp2_with fail
    refine (Hp.out _ H.out).mono ?_
    rintro e w1 ⟨rfl, hb⟩
    go_wp2_with fail
    refine (Hi1.out _).mono ?_
    rintro e w2 ⟨rfl, hw⟩
    have hw := hw.symm
    subst hw
    go_wp2_with fail
    go_ret2
    exact ⟨rfl, hb⟩
  have hd : decide (0 ≤ p ∧ p ≤ (n : Int) - 1) = true := decide_eq_true hp
  rw [hd] at Hi1
  have Hi1 := Lib.hid Hi1
  by_cases hk : 0 ≤ k ∧ k ≤ (n : Int) - 1
  case neg =>
    have hd2 : decide (0 ≤ k ∧ k ≤ (n : Int) - 1) = false := decide_eq_false hk
    have e1 : okX n P p k = false := by unfold okX; rw [hq, hd, hd2]; rfl
    rw [vX_no e1, e1]
    rw [hd2] at Hi2
    have Hi2 := Lib.hid Hi2
    clear hq e1 hd hp hd2 hk
    go_enter Try.func37, Try.ntmps37
    go_wp2_with fail
    refine (Hp.out _ H.out).mono ?_
    rintro e w1 ⟨rfl, hb⟩
    go_wp2_with fail
    refine (Hi1.out _).mono ?_
    rintro e w2 ⟨rfl, hw⟩
    have hw := hw.symm
    subst hw
    go_wp2_with fail
    refine (Hi2.out _).mono ?_
    rintro e w2 ⟨rfl, hw⟩
    have hw := hw.symm
    subst hw
    go_wp2_with fail
    go_ret2
    exact ⟨rfl, hb⟩
  have hd2 : decide (0 ≤ k ∧ k ≤ (n : Int) - 1) = true := decide_eq_true hk
  rw [hd2] at Hi2
  have Hi2 := Lib.hid Hi2
  obtain ⟨j, rfl⟩ : ∃ j : Nat, k = j := ⟨k.toNat, by omega⟩
  have e1 : okX n P p (j : Int) = true := by unfold okX; rw [hq, hd, hd2]; rfl
  rw [vX_yes e1, e1]
  have Hw := Lib.hid (fun w h => specW_any A n c P w h h1 h4)
  have Ht := Lib.hid (fun b w hA => l10At_any n b j p (cnt (gO P n) (all6 n)) w h1 h4 (by omega) (cnt_small P h4) hA)
  generalize (sumL (fun q => if qa q j = p then cnt (gO P n) (all6 n) q else 0) (ordL n) : Nat) = R at *
  clear hq e1 hd hp hd2 hk
  go_enter Try.func37, Try.ntmps37
  go_wp2_with fail
  refine (Hp.out _ H.out).mono ?_
  rintro e w1 ⟨rfl, hb⟩
  go_wp2_with fail
  refine (Hi1.out _).mono ?_
  rintro e w2 ⟨rfl, hw⟩
  have hw := hw.symm
  subst hw
  go_wp2_with fail
  refine (Hi2.out _).mono ?_
  rintro e w2 ⟨rfl, hw⟩
  have hw := hw.symm
  subst hw
  go_wp2_with fail
  refine (Hw.out _ (H.out.up hb)).mono ?_
  rintro e w2 ⟨b, rfl, hbb, hA, hb2⟩
  have hB2 := nx hb hb2
  go_wp2_with fail
  refine (Ht.out _ _ hA).mono ?_
  rintro e w3 ⟨rfl, hb3⟩
  have hB3 := nx hB2 hb3
  go_wp2_with fail
  go_ret2
  exact ⟨rfl, hB3⟩


end AtS
end Go.Proofs.Ytiiknpebphpeiaa
