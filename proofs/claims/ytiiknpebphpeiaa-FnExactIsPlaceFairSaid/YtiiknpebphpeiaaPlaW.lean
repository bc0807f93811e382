/-
  Places that are fair, on both sides.
-/
import Derived.Test.YtiiknpebphpeiaaRows
import Derived.Test.YtiiknpebphpeiaaArr
import Derived.Test.YtiiknpebphpeiaaDieW
import Derived.Test.YtiiknpebphpeiaaSortW
import Derived.Test.YtiiknpebphpeiaaDicesW
import Derived.Test.YtiiknpebphpeiaaPoolW
import Derived.Test.YtiiknpebphpeiaaAll6
import Derived.Test.YtiiknpebphpeiaaIntsW
import Derived.Test.YtiiknpebphpeiaaRollN
import Derived.Test.YtiiknpebphpeiaaRollS
import Derived.Test.YtiiknpebphpeiaaFour
import Derived.Test.YtiiknpebphpeiaaOrdM
import Derived.Test.YtiiknpebphpeiaaOrdT
import Derived.Test.YtiiknpebphpeiaaOrdW
import Derived.Test.YtiiknpebphpeiaaOrdO
import Derived.Test.YtiiknpebphpeiaaOrdI
import Derived.Test.YtiiknpebphpeiaaOrdK
import Derived.Test.YtiiknpebphpeiaaOrdS
import Derived.Test.YtiiknpebphpeiaaOwnL
import Derived.Test.YtiiknpebphpeiaaAnyR
import Derived.Test.YtiiknpebphpeiaaMapO
import Derived.Test.YtiiknpebphpeiaaShelfMax
import Derived.Test.YtiiknpebphpeiaaOrdN
import Derived.Test.YtiiknpebphpeiaaOrdL
import Derived.Test.YtiiknpebphpeiaaCntI
import Derived.Test.YtiiknpebphpeiaaWayI
import Derived.Test.YtiiknpebphpeiaaWayJ
import Derived.Test.YtiiknpebphpeiaaWayS
import Derived.Test.YtiiknpebphpeiaaWayT
import Derived.Test.YtiiknpebphpeiaaLevW
import Derived.Test.YtiiknpebphpeiaaAtM
import Derived.Test.YtiiknpebphpeiaaAtI
import Derived.Test.YtiiknpebphpeiaaAtS
import Derived.Test.YtiiknpebphpeiaaAtJ
import Derived.Test.YtiiknpebphpeiaaFairW
import Derived.Test.YtiiknpebphpeiaaOpenD
import Derived.WalkKit
import Derived.WalkLawsBesides
import Derived.WalkSpells
import Derived.ProofKit
import Derived.OpenShut
import Derived.Deep.RegionWith
import Derived.Deep.QuietTactic
import Derived.BigQuiet
namespace Go.Proofs.Ytiiknpebphpeiaa
open Go.ChangeShapes Go.WideShapes Go.ChangeAt Go.RowKit
open Go.ChangeMaps (open_string shut_string)

namespace PlaW
open Dice Arr OpenD DieW SortW DicesW PoolW All6 IntsW RollW Four OwnL OrdM OrdT OrdW OrdO OrdI OrdK OrdS AnyR MapO OrdN OrdL CntI WayI WayJ WayS WayT LevW AtM AtI AtS AtJ FairW


set_option maxRecDepth 20000 in
set_option maxHeartbeats 4000000 in
theorem implPF_any (A : Option Addr) (n c : Nat) (P : Nat → Nat → Int) (w : World) (h : Row w A n P) (hn : n ≤ maxLen) :
    Calls Try.prog 42 #[.slice A n c] w fun e w' => e = .returned (.tuple #[.bool (pfO n P), .bool (isPool n P)]) ∧ Below w.heap.size w w' := by
  have Hp := Lib.hid (fun w h => implTies_any A n c P w h hn)
  have H := Lib.hid h; clear h
  cases hq : isPool n P
  · have e3 : pfO n P = false := by unfold pfO; rw [hq]; rfl
    rw [e3]
    rw [hq] at Hp
    have Hp := Lib.hid Hp
    clear hq e3
    go_enter Try.func42, Try.ntmps42
    go_wp2_with fail
    refine (Hp.out _ H.out).mono ?_
    rintro e w1 ⟨rfl, hb⟩
    go_wp2_with fail
    go_ret2
    exact ⟨rfl, hb⟩
  obtain ⟨h1, h4, _⟩ := of_pool hq
  have e3 : pfO n P = (decide (nos (gO P n) (all6 n) = 0) && allP n P n) := by unfold pfO; rw [hq]; rfl
  have e4 : tW n P = (nos (gO P n) (all6 n) : Nat) := by unfold tW; rw [hq]; rfl
  rw [e3]
  rw [hq, e4] at Hp
  have Hp := Lib.hid Hp
  have Ha : Hid (∀ j : Nat, j < n → ∀ w, Row w A n P → Calls Try.prog 78 #[.slice A n c, .int .i64 j] w fun e w' => ∃ A' c', e = .returned (.tuple #[.slice A' n c', .bool true]) ∧ Ints w.heap.size w' A' n (fA n P j) ∧ Below w.heap.size w w') := fun j hj w h => by
    have e1 : okP n P (j : Int) = true := by unfold okP; rw [hq, decide_eq_true (show (0 : Int) ≤ (j : Int) ∧ (j : Int) < n by omega)]; rfl
    have e2 : mA n P (j : Int) = n := by unfold mA; rw [e1]; rfl
    have := implAt_any A n c j P w h hn
    rw [e1, e2] at this
    exact this
  have Hv := Lib.hid (fun b c f w hA => level_any b n c f w hA h1 (by omega))
  have Hst : Hid (∀ j : Nat, allP n P (j + 1) = (allP n P j && lev (fA n P (j : Int)) n)) := fun j => rfl
  have HT : Hid (∀ N : Nat, ((N : Int) == 0) = decide (N = 0)) := fun N => by by_cases h : N = 0 <;> simp [h]
  generalize nos (gO P n) (all6 n) = N at *
  obtain ⟨t, ht⟩ : ∃ t, t = decide (N = 0) := ⟨_, rfl⟩
  have hN : ((N : Int) == 0) = t := by rw [ht]; exact HT.out N
  rw [← ht]
  clear hq e3 e4 HT ht
  go_enter Try.func42, Try.ntmps42
  go_wp2_with fail
  refine (Hp.out _ H.out).mono ?_
  rintro e w1 ⟨rfl, hB0⟩
  go_wp2_with fail
  go_loopw [6, 21] (fun fv iv wr => ∃ j : Nat, j ≤ n ∧ iv = .int .i64 j ∧ fv = .bool (t && allP n P j) ∧ Below w.heap.size w wr) (fun _ iv _ => n - (intOf iv).toNat)
  case atStart => exact ⟨0, Nat.zero_le _, rfl, by show Value.bool _ = Value.bool (t && true); rw [Bool.and_true, ← hN], hB0⟩
  case round =>
    clear hB0
    obtain ⟨j, hj, rfl, rfl, hB⟩ := hrel
    by_cases hlt : j < n
    · have hit : decide ((j : Int) < (n : Int)) = true := decide_eq_true (by omega)
      have hitN : decide (j < n) = true := decide_eq_true hlt
      go_wp2_with fail
      refine (Ha.out j hlt _ (H.out.up hB)).mono ?_
      rintro e w2 ⟨A', c', rfl, hI, hb⟩
      obtain ⟨b, rfl, _, hA⟩ := hI.at_ (show 0 < n by omega)
      have hB := nx hB hb
      clear hI hb
      have Hsj := Lib.hid (Hst.out j)
      have Hvj := Lib.hid (fun w hA => Hv.out b c' (fA n P (j : Int)) w hA)
      generalize lev (fA n P (j : Int)) n = lv at *
      cases ha : t && allP n P j
      · have Hn : Hid ((t && allP n P (j + 1)) = false) := by show _ = _; rw [Hsj.out, ← Bool.and_assoc, ha]; rfl
        clear ha
        go_wp2_with fail
        go_roundw
        case rel => exact ⟨j + 1, by omega, by go_num, by rw [Hn.out], hB⟩
        case measure => simp [intOf]; omega
      · have Hn : Hid ((t && allP n P (j + 1)) = lv) := by show _ = _; rw [Hsj.out, ← Bool.and_assoc, ha]; rfl
        clear ha
        go_wp2_with fail
        refine (Hvj.out _ hA).mono ?_
        rintro e w3 ⟨rfl, rfl⟩
        go_wp2_with fail
        go_roundw
        case rel => exact ⟨j + 1, by omega, by go_num, by rw [Hn.out], hB⟩
        case measure => simp [intOf]; omega
    · have hjn : j = n := by omega
      have hit : decide ((j : Int) < (n : Int)) = false := decide_eq_false (by omega)
      have hitN : decide (j < n) = false := decide_eq_false (by omega)
      rw [hjn] at *
      go_wp2_with fail
      go_ret2
      exact ⟨rfl, hB⟩

set_option maxRecDepth 20000 in
set_option maxHeartbeats 4000000 in
theorem specPF_any (A : Option Addr) (n c : Nat) (P : Nat → Nat → Int) (w : World) (h : Row w A n P) (hn : n ≤ maxLen) :
    Calls Try.prog 41 #[.slice A n c] w fun e w' => e = .returned (.tuple #[.bool (pfO n P), .bool (isPool n P)]) ∧ Below w.heap.size w w' := by
  have Hp := Lib.hid (fun w h => l2Pool_any A n c P w h hn)
  have H := Lib.hid h; clear h
  cases hq : isPool n P
  · have e3 : pfO n P = false := by unfold pfO; rw [hq]; rfl
    rw [e3]
    rw [hq] at Hp
    have Hp := Lib.hid Hp
    clear hq e3
    go_enter Try.func41, Try.ntmps41
    go_wp2_with fail
    refine (Hp.out _ H.out).mono ?_
    rintro e w1 ⟨rfl, hb⟩
    go_wp2_with fail
    go_ret2
    exact ⟨rfl, hb⟩
  obtain ⟨h1, h4, _⟩ := of_pool hq
  have e3 : pfO n P = (decide (nos (gO P n) (all6 n) = 0) && allP n P n) := by unfold pfO; rw [hq]; rfl
  rw [e3]
  rw [hq] at Hp
  have Hp := Lib.hid Hp
  have Hw := Lib.hid (fun w h => specW_any A n c P w h h1 h4)
  have Hal := Lib.hid (fun w => l2All_any n w h4)
  have h6 := all6_le h4
  have Ht : Hid (∀ b (p j : Nat) w, j < 4 → At w b (ordL n).length (wf (cnt (gO P n) (all6 n)) (ordL n)) → Calls Try.prog 77 #[.int .i64 n, .slice (some ⟨b, 0, none⟩) (ordL n).length (ordL n).length, .int .i64 p, .int .i64 j] w fun e w' => e = .returned (.int .i64 (wA n P p j : Nat)) ∧ Below w.heap.size w w') := fun b p j w hj hA => l10At_any n b j p (cnt (gO P n) (all6 n)) w h1 h4 hj (cnt_small P h4) hA
  have Hle := Lib.hid (fun p j => wA_le (P := P) h1 h4 p j)
  have Hiff := Lib.hid (fair_iff (P := P) h1 h4)
  obtain ⟨r, hr⟩ : ∃ r, r = (decide (nos (gO P n) (all6 n) = 0) && allP n P n) := ⟨_, rfl⟩
  rw [← hr] at Hiff ⊢
  clear hq e3 hr
  generalize wA n P = R at *
  generalize wf (cnt (gO P n) (all6 n)) (ordL n) = W at *
  generalize (ordL n).length = m at *
  generalize all6 n = T6 at *
  go_enter Try.func41, Try.ntmps41
  go_wp2_with fail
  refine (Hp.out _ H.out).mono ?_
  rintro e w1 ⟨rfl, hb⟩
  go_wp2_with fail
  refine (Hw.out _ (H.out.up hb)).mono ?_
  rintro e w2 ⟨b, rfl, hbb, hA0, hb2⟩
  have hB2 := nx hb hb2
  clear hb hb2
  go_wp2_with fail
  go_loopw [5] (fun iv wr => ∃ i : Nat, i ≤ n ∧ iv = .int .i64 i ∧ Hid (∀ p, p < i → ∀ j, j < n → R (p : Int) j * n = T6) ∧ At wr b m W ∧ Below w.heap.size w wr) (fun iv _ => n - (intOf iv).toNat)
  case atStart => exact ⟨0, Nat.zero_le _, rfl, (fun p hp => by omega), hA0, hB2⟩
  case round =>
    clear hA0 hB2
    obtain ⟨i, hi, rfl, he, hA, hB⟩ := hrel
    by_cases hlt : i < n
    · have hit : decide ((i : Int) < (n : Int)) = true := decide_eq_true (by omega)
      have hitN : decide (i < n) = true := decide_eq_true hlt
      go_wp2_with fail
      go_loopw [6] (fun jv wr => ∃ j : Nat, j ≤ n ∧ jv = .int .i64 j ∧ Hid (∀ t, t < j → R (i : Int) t * n = T6) ∧ At wr b m W ∧ Below w.heap.size w wr) (fun jv _ => n - (intOf jv).toNat)
      case atStart => exact ⟨0, Nat.zero_le _, rfl, (fun p hp => by omega), hA, hB⟩
      case round =>
        clear hA hB
        obtain ⟨j, hj, rfl, hj2, hA, hB⟩ := hrel
        by_cases hlj : j < n
        · have hjt : decide ((j : Int) < (n : Int)) = true := decide_eq_true (by omega)
          have hjtN : decide (j < n) = true := decide_eq_true hlj
          go_wp2_with fail
          refine (Ht.out _ _ j _ (by omega) hA).mono ?_
          rintro e w3 ⟨rfl, hb⟩
          have hA := hA.up hb
          have hB := nx hB hb
          clear hb
          have hRl := Hle.out (i : Int) j
          have hRn : R (i : Int) j * n ≤ 1296 * 4 := Nat.mul_le_mul hRl h4
          obtain ⟨M, hM⟩ : ∃ M, M = R (i : Int) j * n := ⟨_, rfl⟩
          have hmul : ((R (i : Int) j : Nat) : Int) * (n : Int) = (M : Int) := by rw [hM]; push_cast; rfl
          rw [← hM] at hRn
          have HM := Lib.hid hM; clear hM
          go_wp2_with fail
          refine (Hal.out _).mono ?_
          rintro e w4 ⟨rfl, rfl⟩
          by_cases hMT : M = T6
          · have hd : ((M : Int) != (T6 : Int)) = false := by simp [hMT]
            have hn2 : Hid (∀ t, t < j + 1 → R (i : Int) t * n = T6) := fun t ht => by
              by_cases e : t = j
              · subst e; rw [← HM.out, hMT]
              · exact hj2.out t (by omega)
            clear hMT hj2
            go_wp2_with fail
            go_roundw
            case rel => exact ⟨j + 1, by omega, by go_num, hn2, hA, hB⟩
            case measure => simp [intOf]; omega
          · have hd : ((M : Int) != (T6 : Int)) = true := by simp; omega
            have hr : r = false := by
              cases h : r
              · rfl
              · exact absurd (Hiff.out.1 h i hlt j hlj) (by rw [← HM.out]; exact hMT)
            have Hr := Lib.hid hr
            clear hMT hj2 hr
            go_wp2_with fail
            go_ret2
            exact ⟨by rw [Hr.out]; rfl, hB⟩
        · have hjn : j = n := by omega
          have hjt : decide ((j : Int) < (n : Int)) = false := decide_eq_false (by omega)
          have hjtN : decide (j < n) = false := decide_eq_false (by omega)
          have hn2 : Hid (∀ p, p < i + 1 → ∀ t, t < n → R (p : Int) t * n = T6) := fun p hp t ht => by
            by_cases e : p = i
            · subst e; exact hj2.out t (by omega)
            · exact he.out p (by omega) t ht
          clear hj2 hjn
          go_wp2_with fail
          go_roundw
          case rel => exact ⟨i + 1, by omega, by go_num, hn2, hA, hB⟩
          case measure => simp [intOf]; omega
    · have him : i = n := by omega
      have hit : decide ((i : Int) < (n : Int)) = false := decide_eq_false (by omega)
      have hitN : decide (i < n) = false := decide_eq_false (by omega)
      have hr : r = true := Hiff.out.2 fun p hp t ht => he.out p (by omega) t ht
      have Hr := Lib.hid hr
      clear he him hr
      go_wp2_with fail
      go_ret2
      exact ⟨by rw [Hr.out]; rfl, hB⟩


end PlaW
end Go.Proofs.Ytiiknpebphpeiaa
