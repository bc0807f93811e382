/-
  OrderWays and TieWays of the model.
-/
import Derived.Test.YtiiknpebphpeiaaRows
import Derived.Test.YtiiknpebphpeiaaArr
import Derived.Test.YtiiknpebphpeiaaDieW
import Derived.Test.YtiiknpebphpeiaaSortW
import Derived.Test.YtiiknpebphpeiaaDicesW
import Derived.Test.YtiiknpebphpeiaaPoolW
import Derived.Test.YtiiknpebphpeiaaAll6
import Derived.Test.YtiiknpebphpeiaaIntsW
import Derived.Test.YtiiknpebphpeiaaRollN
import Derived.Test.YtiiknpebphpeiaaRollS
import Derived.Test.YtiiknpebphpeiaaFour
import Derived.Test.YtiiknpebphpeiaaOrdM
import Derived.Test.YtiiknpebphpeiaaOrdT
import Derived.Test.YtiiknpebphpeiaaOrdW
import Derived.Test.YtiiknpebphpeiaaOrdO
import Derived.Test.YtiiknpebphpeiaaOrdI
import Derived.Test.YtiiknpebphpeiaaOrdK
import Derived.Test.YtiiknpebphpeiaaOrdS
import Derived.Test.YtiiknpebphpeiaaOwnL
import Derived.Test.YtiiknpebphpeiaaAnyR
import Derived.Test.YtiiknpebphpeiaaMapO
import Derived.Test.YtiiknpebphpeiaaShelfMax
import Derived.Test.YtiiknpebphpeiaaOrdN
import Derived.Test.YtiiknpebphpeiaaOrdL
import Derived.Test.YtiiknpebphpeiaaCntI
import Derived.Test.YtiiknpebphpeiaaWayI
import Derived.Test.YtiiknpebphpeiaaWayJ
import Derived.Test.YtiiknpebphpeiaaWayS
import Derived.Test.YtiiknpebphpeiaaOpenD
import Derived.WalkKit
import Derived.WalkLawsBesides
import Derived.WalkSpells
import Derived.ProofKit
import Derived.OpenShut
import Derived.Deep.RegionWith
import Derived.Deep.QuietTactic
import Derived.BigQuiet
namespace Go.Proofs.Ytiiknpebphpeiaa
open Go.ChangeShapes Go.WideShapes Go.ChangeAt Go.RowKit
open Go.ChangeMaps (open_string shut_string)

namespace WayT
open Dice Arr OpenD DieW SortW DicesW PoolW All6 IntsW RollW Four OwnL OrdM OrdT OrdW OrdO OrdI OrdK OrdS AnyR MapO OrdN OrdL CntI WayI WayJ WayS


def psum (F : Q4 → Nat) (L : List Q4) : Nat → Nat
  | 0 => 0
  | j + 1 => psum F L j + F (L.getD j (0, 0, 0, 0))
theorem psum_cons (F : Q4 → Nat) (q : Q4) (L : List Q4) : ∀ j, psum F (q :: L) (j + 1) = F q + psum F L j
  | 0 => by show 0 + F q = F q + 0; omega
  | j + 1 => by
    show psum F (q :: L) (j + 1) + F ((q :: L).getD (j + 1) (0, 0, 0, 0)) = F q + (psum F L j + F (L.getD j (0, 0, 0, 0)))
    rw [psum_cons F q L j, List.getD_cons_succ]; omega
theorem psum_all (F : Q4 → Nat) : ∀ L : List Q4, psum F L L.length = sumL F L
  | [] => rfl
  | q :: L => by rw [List.length_cons, psum_cons, psum_all F L]; rfl
theorem psum_le {F : Q4 → Nat} {B : Nat} (h : ∀ q, F q ≤ B) (L : List Q4) : ∀ j, psum F L j ≤ j * B
  | 0 => by simp [psum]
  | j + 1 => by
    have := psum_le h L j
    have := h (L.getD j (0, 0, 0, 0))
    show psum F L j + F _ ≤ (j + 1) * B
    rw [Nat.succ_mul]
    omega
theorem ties_eq {n : Nat} {P : Nat → Nat → Int} (h1 : 1 ≤ n) (h4 : n ≤ 4) (N : Nat) : psum (cnt (gO P n) N) (ordL n) (ordL n).length + nos (gO P n) N = N := by
  rw [psum_all]
  exact sumL_cnt (ordL_nodup h4) N fun M _ q hq => gO_mem h1 h4 M q hq

set_option maxRecDepth 20000 in
set_option maxHeartbeats 4000000 in
theorem ties_any (A : Option Addr) (n c b : Nat) (F : Q4 → Nat) (L : List Q4) (w : World) (h4 : n ≤ 4) (hF : ∀ q, F q ≤ 1296) (hl : L.length ≤ 24) (hA : At w b L.length (wf F L)) :
    Calls Try.prog 76 #[.slice A n c, .slice (some ⟨b, 0, none⟩) L.length L.length] w fun e w' => e = .returned (.int .i64 ((all6 n : Nat) - (psum F L L.length : Nat) : Int)) ∧ w' = w := by
  have Ha := Lib.hid (fun w => l2All_any n w h4)
  have h6 := all6_le h4
  have Hps := Lib.hid (psum_le hF L)
  have HF := Lib.hid hF; clear hF
  generalize all6 n = T6 at *
  go_enter Try.func76, Try.ntmps76
  go_wp2_with fail
  refine (Ha.out _).mono ?_
  rintro e w1 ⟨rfl, rfl⟩
  go_wp2_with fail
  go_loopw [5, 6] (fun mv iv wr => ∃ (i : Nat) (S : Nat), i ≤ L.length ∧ iv = .int .i64 i ∧ mv = .int .i64 ((T6 : Int) - (S : Int)) ∧ Hid (S = psum F L i) ∧ S ≤ 40000 ∧ wr = w1) (fun _ iv _ => L.length - (intOf iv).toNat)
  case atStart => exact ⟨0, 0, Nat.zero_le _, rfl, by simp, rfl, by omega, rfl⟩
  case round =>
    obtain ⟨i, S, hi, rfl, rfl, hS, hS4, rfl⟩ := hrel
    by_cases hlt : i < L.length
    · have hit : decide ((i : Int) < (L.length : Int)) = true := decide_eq_true (by omega)
      have hitN : decide (i < L.length) = true := decide_eq_true hlt
      have ci := hA.cell i hlt
      have hv : wf F L i = (F (L.getD i (0, 0, 0, 0)) : Nat) := rfl
      have hvb := HF.out (L.getD i (0, 0, 0, 0))
      have hpn : psum F L (i + 1) = psum F L i + F (L.getD i (0, 0, 0, 0)) := rfl
      have hb2 := Hps.out (i + 1)
      have hb3 : (i + 1) * 1296 ≤ 24 * 1296 := Nat.mul_le_mul_right _ (by omega)
      rw [hpn] at hb2
      rw [← hS.out] at hpn hb2
      rw [hv] at ci
      have Hpn := Lib.hid hpn; clear hpn hv
      generalize F (L.getD i (0, 0, 0, 0)) = v at *
      have hsv : S + v ≤ 40000 := by omega
      clear hb2 hb3
      go_wp2_with fail
      go_roundw
      case rel => exact ⟨i + 1, S + v, by omega, by go_num, by first | (congr 1; omega) | (go_num), Hpn.out.symm, hsv, by first | rfl | trivial⟩
      case measure => simp [intOf]; omega
    · obtain rfl : i = L.length := by omega
      have hit : decide ((L.length : Int) < (L.length : Int)) = false := decide_eq_false (by omega)
      go_wp2_with fail
      go_ret
      exact ⟨by rw [hS.out]; rfl, rfl⟩

set_option maxRecDepth 20000 in
set_option maxHeartbeats 4000000 in
theorem specWays_any (A : Option Addr) (n c : Nat) (P : Nat → Nat → Int) (w : World) (h : Row w A n P) (hn : n ≤ maxLen) :
    Calls Try.prog 29 #[.slice A n c] w fun e w' => ∃ A' c', e = .returned (.tuple #[.slice A' (mW n P) c', .bool (isPool n P)]) ∧ Ints w.heap.size w' A' (mW n P) (fW n P) ∧ Below w.heap.size w w' := by
  have Hp := Lib.hid (fun w h => l2Pool_any A n c P w h hn)
  cases hq : isPool n P
  · have e1 : mW n P = 0 := by unfold mW; rw [hq]; rfl
    rw [e1]
    rw [hq] at Hp
    have Hp := Lib.hid Hp
    clear hq e1
    go_enter Try.func29, Try.ntmps29
    go_wp2_with fail
    refine (Hp.out _ h).mono ?_
    rintro e w1 ⟨rfl, hb⟩
    go_wp2_with fail
    go_ret2
    exact ⟨_, _, rfl, .inl rfl, na hb _⟩
  · have e1 : mW n P = (ordL n).length := by unfold mW; rw [hq]; rfl
    rw [e1]
    rw [hq] at Hp
    have Hp := Lib.hid Hp
    obtain ⟨h1, h4, _⟩ := of_pool hq
    have Hw := Lib.hid (fun w h => specW_any A n c P w h h1 h4)
    have HE : Hid (fW n P = wf (cnt (gO P n) (all6 n)) (ordL n)) := rfl
    clear hq e1
    have H := Lib.hid h; clear h
    go_enter Try.func29, Try.ntmps29
    go_wp2_with fail
    refine (Hp.out _ H.out).mono ?_
    rintro e w1 ⟨rfl, hb⟩
    go_wp2_with fail
    refine (Hw.out _ (H.out.up hb)).mono ?_
    rintro e w2 ⟨b, rfl, hbb, hA, hb2⟩
    have hB2 := nx hb hb2
    have hbs := hb.size
    go_wp2_with fail
    go_ret2
    exact ⟨_, _, rfl, .inr ⟨b, rfl, by omega, by rw [HE.out]; exact hA⟩, hB2⟩

set_option maxRecDepth 20000 in
set_option maxHeartbeats 4000000 in
theorem specTies_any (A : Option Addr) (n c : Nat) (P : Nat → Nat → Int) (w : World) (h : Row w A n P) (hn : n ≤ maxLen) :
    Calls Try.prog 35 #[.slice A n c] w fun e w' => e = .returned (.tuple #[.int .i64 (tW n P), .bool (isPool n P)]) ∧ Below w.heap.size w w' := by
  have Hp := Lib.hid (fun w h => l2Pool_any A n c P w h hn)
  cases hq : isPool n P
  · have e1 : tW n P = 0 := by unfold tW; rw [hq]; rfl
    rw [e1]
    rw [hq] at Hp
    have Hp := Lib.hid Hp
    clear hq e1
    go_enter Try.func35, Try.ntmps35
    go_wp2_with fail
    refine (Hp.out _ h).mono ?_
    rintro e w1 ⟨rfl, hb⟩
    go_wp2_with fail
    go_ret2
    exact ⟨rfl, hb⟩
  · obtain ⟨h1, h4, _⟩ := of_pool hq
    have hte := ties_eq (P := P) h1 h4 (all6 n)
    have e1 : tW n P = ((all6 n : Nat) - (psum (cnt (gO P n) (all6 n)) (ordL n) (ordL n).length : Nat) : Int) := by unfold tW; rw [hq]; simp only [↓reduceIte]; omega
    rw [e1]
    rw [hq] at Hp
    have Hp := Lib.hid Hp
    have Hw := Lib.hid (fun w h => specW_any A n c P w h h1 h4)
    have hl24 : (ordL n).length ≤ 24 := (ordI_len h1 h4 n (Nat.le_refl _)).1
    have Ht := Lib.hid (fun b w hA => ties_any A n c b (cnt (gO P n) (all6 n)) (ordL n) w h4 (cnt_small P h4) hl24 hA)
    clear hq e1 hte
    generalize all6 n = T6 at *
    generalize ordL n = L at *
    have H := Lib.hid h; clear h
    go_enter Try.func35, Try.ntmps35
    go_wp2_with fail
    refine (Hp.out _ H.out).mono ?_
    rintro e w1 ⟨rfl, hb⟩
    go_wp2_with fail
    refine (Hw.out _ (H.out.up hb)).mono ?_
    rintro e w2 ⟨b, rfl, hbb, hA, hb2⟩
    have hB2 := nx hb hb2
    go_wp2_with fail
    refine (Ht.out _ _ hA).mono ?_
    rintro e w3 ⟨rfl, rfl⟩
    go_wp2_with fail
    go_ret2
    exact ⟨rfl, hB2⟩


end WayT
end Go.Proofs.Ytiiknpebphpeiaa
