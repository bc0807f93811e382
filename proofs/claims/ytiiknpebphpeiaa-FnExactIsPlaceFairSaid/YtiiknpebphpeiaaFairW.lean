/-
  First places that are fair, on both sides.
-/
import Derived.Test.YtiiknpebphpeiaaRows
import Derived.Test.YtiiknpebphpeiaaArr
import Derived.Test.YtiiknpebphpeiaaDieW
import Derived.Test.YtiiknpebphpeiaaSortW
import Derived.Test.YtiiknpebphpeiaaDicesW
import Derived.Test.YtiiknpebphpeiaaPoolW
import Derived.Test.YtiiknpebphpeiaaAll6
import Derived.Test.YtiiknpebphpeiaaIntsW
import Derived.Test.YtiiknpebphpeiaaRollN
import Derived.Test.YtiiknpebphpeiaaRollS
import Derived.Test.YtiiknpebphpeiaaFour
import Derived.Test.YtiiknpebphpeiaaOrdM
import Derived.Test.YtiiknpebphpeiaaOrdT
import Derived.Test.YtiiknpebphpeiaaOrdW
import Derived.Test.YtiiknpebphpeiaaOrdO
import Derived.Test.YtiiknpebphpeiaaOrdI
import Derived.Test.YtiiknpebphpeiaaOrdK
import Derived.Test.YtiiknpebphpeiaaOrdS
import Derived.Test.YtiiknpebphpeiaaOwnL
import Derived.Test.YtiiknpebphpeiaaAnyR
import Derived.Test.YtiiknpebphpeiaaMapO
import Derived.Test.YtiiknpebphpeiaaShelfMax
import Derived.Test.YtiiknpebphpeiaaOrdN
import Derived.Test.YtiiknpebphpeiaaOrdL
import Derived.Test.YtiiknpebphpeiaaCntI
import Derived.Test.YtiiknpebphpeiaaWayI
import Derived.Test.YtiiknpebphpeiaaWayJ
import Derived.Test.YtiiknpebphpeiaaWayS
import Derived.Test.YtiiknpebphpeiaaWayT
import Derived.Test.YtiiknpebphpeiaaLevW
import Derived.Test.YtiiknpebphpeiaaAtM
import Derived.Test.YtiiknpebphpeiaaAtI
import Derived.Test.YtiiknpebphpeiaaAtS
import Derived.Test.YtiiknpebphpeiaaAtJ
import Derived.Test.YtiiknpebphpeiaaOpenD
import Derived.WalkKit
import Derived.WalkLawsBesides
import Derived.WalkSpells
import Derived.ProofKit
import Derived.OpenShut
import Derived.Deep.RegionWith
import Derived.Deep.QuietTactic
import Derived.BigQuiet
namespace Go.Proofs.Ytiiknpebphpeiaa
open Go.ChangeShapes Go.WideShapes Go.ChangeAt Go.RowKit
open Go.ChangeMaps (open_string shut_string)

namespace FairW
open Dice Arr OpenD DieW SortW DicesW PoolW All6 IntsW RollW Four OwnL OrdM OrdT OrdW OrdO OrdI OrdK OrdS AnyR MapO OrdN OrdL CntI WayI WayJ WayS WayT LevW AtM AtI AtS AtJ


theorem sumN_congr {f g : Nat → Nat} : ∀ {n : Nat}, (∀ p, p < n → f p = g p) → sumN f n = sumN g n
  | 0, _ => rfl
  | n + 1, h => by
    show sumN f n + f n = sumN g n + g n
    rw [sumN_congr fun p hp => h p (by omega), h n (by omega)]
theorem sumN_const (c : Nat) : ∀ n, sumN (fun _ => c) n = n * c
  | 0 => by simp [sumN]
  | n + 1 => by show sumN (fun _ => c) n + c = (n + 1) * c; rw [sumN_const c n, Nat.succ_mul]
theorem wA_sum {n : Nat} {P : Nat → Nat → Int} (h1 : 1 ≤ n) (h4 : n ≤ 4) {j : Nat} (hj : j < n) : sumN (fun p => wA n P (p : Int) j) n + nos (gO P n) (all6 n) = all6 n := by
  have h2 := at_sum (gO P n) (all6 n) n j (ordL n) fun q hq => ordL_in h4 q hq j hj
  have h3 := sumL_cnt (g := gO P n) (ordL_nodup h4) (all6 n) fun M _ q hq => gO_mem h1 h4 M q hq
  unfold wA
  rw [h2, h3]
theorem wA_le {n : Nat} {P : Nat → Nat → Int} (h1 : 1 ≤ n) (h4 : n ≤ 4) (p : Int) (j : Nat) : wA n P p j ≤ 1296 := by
  have h3 := sumL_cnt (g := gO P n) (ordL_nodup h4) (all6 n) fun M _ q hq => gO_mem h1 h4 M q hq
  have h5 : wA n P p j ≤ sumL (cnt (gO P n) (all6 n)) (ordL n) := sumL_le (fun q => by
    show (if qa q j = p then _ else _) ≤ _
    by_cases e : qa q j = p
    · rw [if_pos e]; exact Nat.le_refl _
    · rw [if_neg e]; exact Nat.zero_le _) _
  have := (all6_le h4).1
  omega
/-- Whether each player is at each place in as many ways. -/
def allP (n : Nat) (P : Nat → Nat → Int) : Nat → Bool
  | 0 => true
  | j + 1 => allP n P j && lev (fA n P (j : Int)) n
theorem allP_iff {n : Nat} {P : Nat → Nat → Int} : ∀ {k : Nat}, allP n P k = true ↔ ∀ j, j < k → lev (fA n P (j : Int)) n = true
  | 0 => ⟨fun _ j h => by omega, fun _ => rfl⟩
  | k + 1 => by
    show (allP n P k && _) = true ↔ _
    rw [Bool.and_eq_true, allP_iff]
    constructor
    · rintro ⟨h1, h2⟩ j hj
      by_cases e : j = k
      · subst e; exact h2
      · exact h1 j (by omega)
    · intro h
      exact ⟨fun j hj => h j (by omega), h k (by omega)⟩
def pfO (n : Nat) (P : Nat → Nat → Int) : Bool := isPool n P && (decide (nos (gO P n) (all6 n) = 0) && allP n P n)
def ffO (n : Nat) (P : Nat → Nat → Int) : Bool := isPool n P && lev (fA n P 0) n
theorem fair_iff {n : Nat} {P : Nat → Nat → Int} (h1 : 1 ≤ n) (h4 : n ≤ 4) : (decide (nos (gO P n) (all6 n) = 0) && allP n P n) = true ↔ ∀ p, p < n → ∀ j, j < n → wA n P (p : Int) j * n = all6 n := by
  rw [Bool.and_eq_true, decide_eq_true_eq, allP_iff]
  have hf : ∀ (j i : Nat), fA n P (j : Int) i = (wA n P (i : Int) j : Nat) := fun j i => by unfold fA; rw [Int.toNat_natCast]
  constructor
  · rintro ⟨hn, hl⟩ p hp j hj
    have hs := wA_sum (P := P) h1 h4 hj
    have hlj := of_decide_eq_true (hl j hj)
    have hsame : ∀ i, i < n → wA n P (i : Int) j = wA n P (0 : Nat) j := fun i hi => by
      have := hlj i hi
      rw [hf, hf] at this
      exact Int.ofNat_inj.1 this
    rw [sumN_congr hsame, sumN_const, hn] at hs
    rw [hsame p hp, Nat.mul_comm]
    exact hs
  · intro h
    refine ⟨?_, fun j hj => decide_eq_true fun i hi => ?_⟩
    · have hs := wA_sum (P := P) h1 h4 (show 0 < n by omega)
      have h0 : ∀ p, p < n → wA n P (p : Int) 0 = wA n P (0 : Nat) 0 := fun p hp => by
        have a := h p hp 0 (by omega)
        have b := h 0 (by omega) 0 (by omega)
        exact Nat.eq_of_mul_eq_mul_right (by omega) (a.trans b.symm)
      rw [sumN_congr h0, sumN_const] at hs
      have b := h 0 (by omega) 0 (by omega)
      rw [Nat.mul_comm] at b
      omega
    · rw [hf, hf]
      have a := h i hi j hj
      have b := h 0 (by omega) j hj
      rw [Nat.eq_of_mul_eq_mul_right (show 0 < n by omega) (a.trans b.symm)]

set_option maxRecDepth 20000 in
set_option maxHeartbeats 4000000 in
theorem implFF_any (A : Option Addr) (n c : Nat) (P : Nat → Nat → Int) (w : World) (h : Row w A n P) (hn : n ≤ maxLen) :
    Calls Try.prog 44 #[.slice A n c] w fun e w' => e = .returned (.tuple #[.bool (ffO n P), .bool (isPool n P)]) ∧ Below w.heap.size w w' := by
  have Ha := Lib.hid (fun w h => implAt_any A n c 0 P w h hn)
  have H := Lib.hid h; clear h
  cases hq : isPool n P
  · have e1 : okP n P 0 = false := by unfold okP; rw [hq]; rfl
    have e2 : mA n P 0 = 0 := by unfold mA; rw [e1]; rfl
    have e3 : ffO n P = false := by unfold ffO; rw [hq]; rfl
    rw [e3]
    rw [e1, e2] at Ha
    have Ha := Lib.hid Ha
    clear hq e1 e2 e3
    go_enter Try.func44, Try.ntmps44
    go_wp2_with fail
    refine (Ha.out _ H.out).mono ?_
    rintro e w1 ⟨A', c', rfl, _, hb⟩
    go_wp2_with fail
    go_ret2
    exact ⟨rfl, hb⟩
  obtain ⟨h1, h4, _⟩ := of_pool hq
  have e1 : okP n P 0 = true := by unfold okP; rw [hq, decide_eq_true (show (0 : Int) ≤ 0 ∧ (0 : Int) < n by omega)]; rfl
  have e2 : mA n P 0 = n := by unfold mA; rw [e1]; rfl
  have e3 : ffO n P = lev (fA n P 0) n := by unfold ffO; rw [hq]; rfl
  rw [e3]
  rw [e1, e2] at Ha
  have Ha := Lib.hid Ha
  have Hv := Lib.hid (fun b c w hA => level_any b n c (fA n P 0) w hA h1 (by omega))
  generalize lev (fA n P 0) n = lv at *
  clear hq e1 e2 e3
  go_enter Try.func44, Try.ntmps44
  go_wp2_with fail
  refine (Ha.out _ H.out).mono ?_
  rintro e w1 ⟨A', c', rfl, hI, hb⟩
  obtain ⟨b, rfl, _, hA⟩ := hI.at_ (show 0 < n by omega)
  go_wp2_with fail
  refine (Hv.out _ _ _ hA).mono ?_
  rintro e w2 ⟨rfl, rfl⟩
  go_wp2_with fail
  go_ret2
  exact ⟨rfl, hb⟩

set_option maxRecDepth 20000 in
set_option maxHeartbeats 4000000 in
theorem specFF_any (A : Option Addr) (n c : Nat) (P : Nat → Nat → Int) (w : World) (h : Row w A n P) (hn : n ≤ maxLen) :
    Calls Try.prog 43 #[.slice A n c] w fun e w' => e = .returned (.tuple #[.bool (ffO n P), .bool (isPool n P)]) ∧ Below w.heap.size w w' := by
  have Hp := Lib.hid (fun w h => l2Pool_any A n c P w h hn)
  have H := Lib.hid h; clear h
  cases hq : isPool n P
  · have e3 : ffO n P = false := by unfold ffO; rw [hq]; rfl
    rw [e3]
    rw [hq] at Hp
    have Hp := Lib.hid Hp
    clear hq e3
    go_enter Try.func43, Try.ntmps43
    go_wp2_with fail
    refine (Hp.out _ H.out).mono ?_
    rintro e w1 ⟨rfl, hb⟩
    go_wp2_with fail
    go_ret2
    exact ⟨rfl, hb⟩
  obtain ⟨h1, h4, _⟩ := of_pool hq
  have e3 : ffO n P = lev (fA n P 0) n := by unfold ffO; rw [hq]; rfl
  rw [e3]
  rw [hq] at Hp
  have Hp := Lib.hid Hp
  have Hw := Lib.hid (fun w h => specW_any A n c P w h h1 h4)
  have Ht := Lib.hid (fun b p w hA => l10At_any n b 0 p (cnt (gO P n) (all6 n)) w h1 h4 (by omega) (cnt_small P h4) hA)
  have HE : Hid (∀ i : Nat, fA n P 0 i = (sumL (fun q => if qa q 0 = (i : Int) then cnt (gO P n) (all6 n) q else 0) (ordL n) : Nat)) := fun i => rfl
  generalize hf : fA n P 0 = f at *
  have hR : ∃ R : Int → Nat, (∀ i : Nat, f i = (R i : Nat)) ∧ R = fun p => sumL (fun q => if qa q 0 = p then cnt (gO P n) (all6 n) q else 0) (ordL n) := ⟨_, fun i => HE.out i, rfl⟩
  obtain ⟨R, hfR, hRe⟩ := hR
  have Ht2 : Hid (∀ b (p : Int) w, At w b (ordL n).length (wf (cnt (gO P n) (all6 n)) (ordL n)) → Calls Try.prog 77 #[.int .i64 n, .slice (some ⟨b, 0, none⟩) (ordL n).length (ordL n).length, .int .i64 p, .int .i64 (0 : Nat)] w fun e w' => e = .returned (.int .i64 (R p : Nat)) ∧ Below w.heap.size w w') := fun b p w hA => by rw [hRe]; exact Ht.out b p w hA
  have HfR := Lib.hid hfR
  clear hq e3 Ht HE hf hRe hfR
  generalize wf (cnt (gO P n) (all6 n)) (ordL n) = W at *
  generalize (ordL n).length = m at *
  go_enter Try.func43, Try.ntmps43
  go_wp2_with fail
  refine (Hp.out _ H.out).mono ?_
  rintro e w1 ⟨rfl, hb⟩
  go_wp2_with fail
  refine (Hw.out _ (H.out.up hb)).mono ?_
  rintro e w2 ⟨b, rfl, hbb, hA0, hb2⟩
  have hB2 := nx hb hb2
  clear hb hb2
  go_wp2_with fail
  go_loopw [5] (fun iv wr => ∃ i : Nat, 1 ≤ i ∧ i ≤ n ∧ iv = .int .i64 i ∧ Hid (∀ j, j < i → f j = f 0) ∧ At wr b m W ∧ Below w.heap.size w wr) (fun iv _ => n - (intOf iv).toNat)
  case atStart => exact ⟨1, by omega, h1, rfl, (fun j hj => by rw [show j = 0 from (by omega)]), hA0, hB2⟩
  case round =>
    clear hA0 hB2
    obtain ⟨i, hi1, hi, rfl, he, hA, hB⟩ := hrel
    by_cases hlt : i < n
    · have hit : decide ((i : Int) < (n : Int)) = true := decide_eq_true (by omega)
      have hitN : decide (i < n) = true := decide_eq_true hlt
      go_wp2_with fail
      refine (Ht2.out _ _ _ hA).mono ?_
      rintro e w3 ⟨rfl, hb⟩
      have hA := hA.up hb
      have hB := nx hB hb
      clear hb
      go_wp2_with fail
      refine (Ht2.out _ 0 _ hA).mono ?_
      rintro e w4 ⟨rfl, hb⟩
      have hA := hA.up hb
      have hB := nx hB hb
      clear hb
      have e1 := HfR.out i
      have e0 := HfR.out 0
      by_cases hfi : R (i : Int) = R 0
      · have hd : (((R (i : Int) : Nat) : Int) != ((R 0 : Nat) : Int)) = false := by simp [hfi]
        have hn2 : Hid (∀ j, j < i + 1 → f j = f 0) := fun j hj => by
          by_cases e : j = i
          · subst e; rw [e1, e0]; show ((R (j : Int) : Nat) : Int) = ((R ((0 : Nat) : Int) : Nat) : Int); rw [hfi]; rfl
          · exact he.out j (by omega)
        clear hfi he e1 e0
        go_wp2_with fail
        go_roundw
        case rel => exact ⟨i + 1, by omega, by omega, by go_num, hn2, hA, hB⟩
        case measure => simp [intOf]; omega
      · have hd : (((R (i : Int) : Nat) : Int) != ((R 0 : Nat) : Int)) = true := by simp; omega
        have hlv : lev f n = false := decide_eq_false (fun e => hfi (by have h9 := e i hlt; rw [e1, e0] at h9; exact Int.ofNat_inj.1 h9))
        have Hlv := Lib.hid hlv
        clear hfi he e1 e0 hlv
        go_wp2_with fail
        go_ret2
        exact ⟨by rw [Hlv.out]; rfl, hB⟩
    · have him : i = n := by omega
      have hit : decide ((i : Int) < (n : Int)) = false := decide_eq_false (by omega)
      have hitN : decide (i < n) = false := decide_eq_false (by omega)
      have hlv : lev f n = true := decide_eq_true (by rw [← him]; exact he.out)
      have Hlv := Lib.hid hlv
      clear he hlv him
      go_wp2_with fail
      go_ret2
      exact ⟨by rw [Hlv.out]; rfl, hB⟩


end FairW
end Go.Proofs.Ytiiknpebphpeiaa
