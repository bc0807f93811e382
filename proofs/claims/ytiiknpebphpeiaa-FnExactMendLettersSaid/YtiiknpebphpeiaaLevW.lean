/-
  Orders that are fair, on both sides.
-/
import Derived.Test.YtiiknpebphpeiaaRows
import Derived.Test.YtiiknpebphpeiaaArr
import Derived.Test.YtiiknpebphpeiaaDieW
import Derived.Test.YtiiknpebphpeiaaSortW
import Derived.Test.YtiiknpebphpeiaaDicesW
import Derived.Test.YtiiknpebphpeiaaPoolW
import Derived.Test.YtiiknpebphpeiaaAll6
import Derived.Test.YtiiknpebphpeiaaIntsW
import Derived.Test.YtiiknpebphpeiaaRollN
import Derived.Test.YtiiknpebphpeiaaRollS
import Derived.Test.YtiiknpebphpeiaaFour
import Derived.Test.YtiiknpebphpeiaaOrdM
import Derived.Test.YtiiknpebphpeiaaOrdT
import Derived.Test.YtiiknpebphpeiaaOrdW
import Derived.Test.YtiiknpebphpeiaaOrdO
import Derived.Test.YtiiknpebphpeiaaOrdI
import Derived.Test.YtiiknpebphpeiaaOrdK
import Derived.Test.YtiiknpebphpeiaaOrdS
import Derived.Test.YtiiknpebphpeiaaOwnL
import Derived.Test.YtiiknpebphpeiaaAnyR
import Derived.Test.YtiiknpebphpeiaaMapO
import Derived.Test.YtiiknpebphpeiaaShelfMax
import Derived.Test.YtiiknpebphpeiaaOrdN
import Derived.Test.YtiiknpebphpeiaaOrdL
import Derived.Test.YtiiknpebphpeiaaCntI
import Derived.Test.YtiiknpebphpeiaaWayI
import Derived.Test.YtiiknpebphpeiaaWayJ
import Derived.Test.YtiiknpebphpeiaaWayS
import Derived.Test.YtiiknpebphpeiaaWayT
import Derived.Test.YtiiknpebphpeiaaOpenD
import Derived.WalkKit
import Derived.WalkLawsBesides
import Derived.WalkSpells
import Derived.ProofKit
import Derived.OpenShut
import Derived.Deep.RegionWith
import Derived.Deep.QuietTactic
import Derived.BigQuiet
namespace Go.Proofs.Ytiiknpebphpeiaa
open Go.ChangeShapes Go.WideShapes Go.ChangeAt Go.RowKit
open Go.ChangeMaps (open_string shut_string)

namespace LevW
open Dice Arr OpenD DieW SortW DicesW PoolW All6 IntsW RollW Four OwnL OrdM OrdT OrdW OrdO OrdI OrdK OrdS AnyR MapO OrdN OrdL CntI WayI WayJ WayS WayT


def zl (f : Nat → Int) (n : Nat) : List Int := (List.range n).map f
theorem zl_len (f : Nat → Int) (n : Nat) : (zl f n).length = n := by simp [zl]
theorem zl_get {f : Nat → Int} {n j : Nat} (h : j < n) : (zl f n).getD j 0 = f j := by
  rw [List.getD_eq_getElem?_getD]
  simp [zl, h]
theorem zl_in (f : Nat → Int) (n : Nat) : ∀ k, k + 1 ≤ n → ∀ j, j ≤ k → Lib.minOf ((zl f n).take (k + 1)) ≤ f j ∧ f j ≤ Lib.maxOf ((zl f n).take (k + 1))
  | 0, h, j, hj => by
    obtain rfl : j = 0 := by omega
    rw [Lib.minOf_one, Lib.maxOf_one, zl_get (by omega)]
    exact ⟨Int.le_refl _, Int.le_refl _⟩
  | k + 1, h, j, hj => by
    rw [Lib.minOf_step _ _ (by omega) (by rw [zl_len]; omega), Lib.maxOf_step _ _ (by omega) (by rw [zl_len]; omega), zl_get (by omega)]
    by_cases e : j = k + 1
    · subst e; omega
    · have := zl_in f n k (by omega) j (by omega)
      omega
theorem zl_same (f : Nat → Int) (n : Nat) (he : ∀ j, j < n → f j = f 0) : ∀ k, k + 1 ≤ n → Lib.minOf ((zl f n).take (k + 1)) = f 0 ∧ Lib.maxOf ((zl f n).take (k + 1)) = f 0
  | 0, h => by
    rw [Lib.minOf_one, Lib.maxOf_one, zl_get (by omega)]
    exact ⟨rfl, rfl⟩
  | k + 1, h => by
    obtain ⟨h1, h2⟩ := zl_same f n he k (by omega)
    rw [Lib.minOf_step _ _ (by omega) (by rw [zl_len]; omega), Lib.maxOf_step _ _ (by omega) (by rw [zl_len]; omega), zl_get (by omega), h1, h2, he (k + 1) (by omega)]
    omega
/-- Whether all of n numbers are the same. -/
def lev (f : Nat → Int) (n : Nat) : Bool := decide (∀ i, i < n → f i = f 0)
theorem lev_eq {f : Nat → Int} {n : Nat} (h1 : 1 ≤ n) : (Lib.minOf ((zl f n).take n) == Lib.maxOf ((zl f n).take n)) = lev f n := by
  obtain ⟨k, rfl⟩ : ∃ k, n = k + 1 := ⟨n - 1, by omega⟩
  by_cases h : ∀ i, i < k + 1 → f i = f 0
  · obtain ⟨e1, e2⟩ := zl_same f (k + 1) h k (Nat.le_refl _)
    unfold lev
    rw [e1, e2, decide_eq_true h]
    simp
  · unfold lev
    rw [decide_eq_false h]
    have hne : Lib.minOf ((zl f (k + 1)).take (k + 1)) ≠ Lib.maxOf ((zl f (k + 1)).take (k + 1)) := fun e => h fun i hi => by
      have h0 := zl_in f (k + 1) k (Nat.le_refl _) 0 (by omega)
      have h1 := zl_in f (k + 1) k (Nat.le_refl _) i (by omega)
      omega
    simpa using hne
set_option maxHeartbeats 1000000 in
theorem level_any (b n c : Nat) (f : Nat → Int) (w : World) (hA : At w b n f) (h1 : 1 ≤ n) (hn : n ≤ 1000) :
    Calls Try.prog 79 #[.slice (some ⟨b, 0, none⟩) n c] w fun e w' => e = .returned (.bool (lev f n)) ∧ w' = w := by
  have hmn := Try.slices_Min_int b 0 n c (zl f n) w (by omega) (by rw [zl_len]; omega) (by omega) (fun j hj => by rw [zl_len] at hj; rw [zl_get hj, Nat.zero_add]; exact hA.cell j hj)
  have hmx := Try.slices_Max_int b 0 n c (zl f n) w (by omega) (by rw [zl_len]; omega) (by omega) (fun j hj => by rw [zl_len] at hj; rw [zl_get hj, Nat.zero_add]; exact hA.cell j hj)
  have Hle := Lib.hid (lev_eq (f := f) h1)
  have Hmn := Lib.hid hmn; clear hmn
  have Hmx := Lib.hid hmx; clear hmx
  generalize Lib.minOf ((zl f n).take n) = x at *
  generalize Lib.maxOf ((zl f n).take n) = y at *
  go_enter Try.func79, Try.ntmps79
  go_wp2_with fail
  refine Hmn.out.mono ?_
  rintro e w1 ⟨rfl, hw⟩
  have hw := hw.symm
  subst hw
  go_wp2_with fail
  refine Hmx.out.mono ?_
  rintro e w1 ⟨rfl, hw⟩
  have hw := hw.symm
  subst hw
  go_wp2_with fail
  go_ret
  exact ⟨by rw [← Hle.out]; rfl, rfl⟩

/-- What IsOrderFair answers. -/
def foO (n : Nat) (P : Nat → Nat → Int) : Bool := isPool n P && (decide (nos (gO P n) (all6 n) = 0) && lev (fW n P) (ordL n).length)
set_option maxRecDepth 20000 in
set_option maxHeartbeats 4000000 in
theorem implFairO_any (A : Option Addr) (n c : Nat) (P : Nat → Nat → Int) (w : World) (h : Row w A n P) (hn : n ≤ maxLen) :
    Calls Try.prog 40 #[.slice A n c] w fun e w' => e = .returned (.tuple #[.bool (foO n P), .bool (isPool n P)]) ∧ Below w.heap.size w w' := by
  have Hp := Lib.hid (fun w h => implIsPool_any A n c P w h hn)
  cases hq : isPool n P
  · have e1 : foO n P = false := by unfold foO; rw [hq]; rfl
    rw [e1]
    rw [hq] at Hp
    have Hp := Lib.hid Hp
    clear hq e1
    go_enter Try.func40, Try.ntmps40
    go_wp2_with fail
    refine (Hp.out _ h).mono ?_
    rintro e w1 ⟨rfl, hb⟩
    go_wp2_with fail
    go_ret2
    exact ⟨rfl, hb⟩
  · have e1 : foO n P = (decide (nos (gO P n) (all6 n) = 0) && lev (fW n P) (ordL n).length) := by unfold foO; rw [hq]; rfl
    rw [e1]
    rw [hq] at Hp
    have Hp := Lib.hid Hp
    obtain ⟨h1, h4, _⟩ := of_pool hq
    have hl24 : (ordL n).length ≤ 24 := (ordI_len h1 h4 n (Nat.le_refl _)).1
    have hl1 : 1 ≤ (ordL n).length := (ordI_len h1 h4 n (Nat.le_refl _)).2
    have Hc := Lib.hid (fun m w h hm hM => count_any A n c m 0 (fun _ => 0) P w h hm hq hM)
    have Hw := Lib.hid (fun m k w hM => inOrder_any m k n (cnt (gO P n) (all6 n)) w hM h1 h4 (cnt_small P h4))
    have HE : Hid (fW n P = wf (cnt (gO P n) (all6 n)) (ordL n)) := rfl
    rw [HE.out]
    have Hv := Lib.hid (fun b c w hA => level_any b (ordL n).length c (wf (cnt (gO P n) (all6 n)) (ordL n)) w hA hl1 (by omega))
    have hmm := @run_makeMap Try.prog
    clear hq e1
    have H := Lib.hid h; clear h
    generalize wf (cnt (gO P n) (all6 n)) (ordL n) = f at *
    generalize cnt (gO P n) (all6 n) = CF at *
    generalize nos (gO P n) (all6 n) = N at *
    generalize (ordL n).length = m at *
    obtain ⟨lv, hlv⟩ : ∃ lv, lv = lev f m := ⟨_, rfl⟩
    rw [← hlv] at Hv ⊢
    clear hlv
    go_enter Try.func40, Try.ntmps40
    go_wp2_with fail
    refine (Hp.out _ H.out).mono ?_
    rintro e w1 ⟨rfl, hb⟩
    have hR := H.out.up hb
    have hfr := fresh_row hR h1
    have hMm := Mapped.made w1
    go_wp2_with fail
    clear hmm
    refine (Hc.out _ _ (hR.up ((Below.refl _ w1).alloc (Nat.le_refl _) (.map #[] 0))) hfr hMm).mono ?_
    rintro e w2 ⟨rfl, hM2, hg⟩
    have hB2 := nx hb (below_map hg)
    clear hg hMm hb hR hfr
    by_cases hN : N = 0
    · have hN1 : ((N : Int) == 0) = true := by simp [hN]
      have hNd : decide (N = 0) = true := decide_eq_true hN
      have HNd := Lib.hid hNd
      clear hN hNd
      go_wp2_with fail
      refine (Hw.out _ _ _ hM2).mono ?_
      rintro e w3 ⟨A', c', rfl, hI, hb⟩
      have hB3 := nx hB2 hb
      obtain ⟨b, rfl, _, hA⟩ := hI.at_ (show 0 < m by omega)
      go_wp2_with fail
      refine (Hv.out _ _ _ hA).mono ?_
      rintro e w4 ⟨rfl, rfl⟩
      go_wp2_with fail
      go_ret2
      exact ⟨by rw [HNd.out]; rfl, hB3⟩
    · have hN1 : ((N : Int) == 0) = false := by simp [hN]
      have hNd : decide (N = 0) = false := decide_eq_false hN
      have HNd := Lib.hid hNd
      clear hN hNd
      go_wp2_with fail
      go_ret2
      exact ⟨by rw [HNd.out]; rfl, hB2⟩

set_option maxRecDepth 20000 in
set_option maxHeartbeats 4000000 in
theorem specFairO_any (A : Option Addr) (n c : Nat) (P : Nat → Nat → Int) (w : World) (h : Row w A n P) (hn : n ≤ maxLen) :
    Calls Try.prog 39 #[.slice A n c] w fun e w' => e = .returned (.tuple #[.bool (foO n P), .bool (isPool n P)]) ∧ Below w.heap.size w w' := by
  have Hp := Lib.hid (fun w h => l2Pool_any A n c P w h hn)
  cases hq : isPool n P
  · have e1 : foO n P = false := by unfold foO; rw [hq]; rfl
    rw [e1]
    rw [hq] at Hp
    have Hp := Lib.hid Hp
    clear hq e1
    go_enter Try.func39, Try.ntmps39
    go_wp2_with fail
    refine (Hp.out _ h).mono ?_
    rintro e w1 ⟨rfl, hb⟩
    go_wp2_with fail
    go_ret2
    exact ⟨rfl, hb⟩
  · obtain ⟨h1, h4, _⟩ := of_pool hq
    have hte := ties_eq (P := P) h1 h4 (all6 n)
    have e1 : foO n P = (decide (nos (gO P n) (all6 n) = 0) && lev (fW n P) (ordL n).length) := by unfold foO; rw [hq]; rfl
    rw [e1]
    rw [hq] at Hp
    have Hp := Lib.hid Hp
    have Hw := Lib.hid (fun w h => specW_any A n c P w h h1 h4)
    have hl24 : (ordL n).length ≤ 24 := (ordI_len h1 h4 n (Nat.le_refl _)).1
    have hl1 : 1 ≤ (ordL n).length := (ordI_len h1 h4 n (Nat.le_refl _)).2
    have Ht := Lib.hid (fun b w hA => ties_any A n c b (cnt (gO P n) (all6 n)) (ordL n) w h4 (cnt_small P h4) hl24 hA)
    have hsub : ((all6 n : Nat) - (psum (cnt (gO P n) (all6 n)) (ordL n) (ordL n).length : Nat) : Int) = (nos (gO P n) (all6 n) : Nat) := by omega
    rw [hsub] at Ht
    have HE : Hid (fW n P = wf (cnt (gO P n) (all6 n)) (ordL n)) := rfl
    rw [HE.out]
    clear hq e1 hte hsub
    have Ht := Lib.hid Ht
    have H := Lib.hid h; clear h
    generalize wf (cnt (gO P n) (all6 n)) (ordL n) = f at *
    generalize nos (gO P n) (all6 n) = N at *
    generalize (ordL n).length = m at *
    go_enter Try.func39, Try.ntmps39
    go_wp2_with fail
    refine (Hp.out _ H.out).mono ?_
    rintro e w1 ⟨rfl, hb⟩
    go_wp2_with fail
    refine (Hw.out _ (H.out.up hb)).mono ?_
    rintro e w2 ⟨b, rfl, hbb, hA0, hb2⟩
    have hB2 := nx hb hb2
    clear hb hb2
    go_wp2_with fail
    go_loopw [5] (fun iv wr => ∃ i : Nat, i ≤ m ∧ iv = .int .i64 i ∧ Hid (∀ j, j < i → f j = f 0) ∧ At wr b m f ∧ Below w.heap.size w wr) (fun iv _ => m - (intOf iv).toNat)
    case atStart => exact ⟨0, Nat.zero_le _, rfl, fun j hj => by omega, hA0, hB2⟩
    case round =>
      clear hA0 hB2
      obtain ⟨i, hi, rfl, he, hA, hB⟩ := hrel
      by_cases hlt : i < m
      · have hit : decide ((i : Int) < (m : Int)) = true := decide_eq_true (by omega)
        have hitN : decide (i < m) = true := decide_eq_true hlt
        have ci := hA.cell i hlt
        have c0 := hA.cell 0 (by omega)
        by_cases hfi : f i = f 0
        · have hd : (f i != f 0) = false := by simp [hfi]
          have hn2 : Hid (∀ j, j < i + 1 → f j = f 0) := fun j hj => by
            by_cases e : j = i
            · subst e; exact hfi
            · exact he.out j (by omega)
          clear hfi he
          go_wp2_with fail
          go_quiet (fail)
          go_wp2_with fail
          go_roundw
          case rel => exact ⟨i + 1, by omega, by go_num, hn2, hA.drewN _, belowN hB _⟩
          case measure => simp [intOf]; omega
        · have hd : (f i != f 0) = true := by simp [hfi]
          have hlv : lev f m = false := decide_eq_false (fun e => hfi (e i hlt))
          have Hlv := Lib.hid hlv
          clear hfi he hlv
          go_wp2_with fail
          go_quiet (fail)
          go_wp2_with fail
          go_ret2
          exact ⟨by rw [Hlv.out, Bool.and_false]; rfl, belowN hB _⟩
      · have him : i = m := by omega
        have hit : decide ((i : Int) < (m : Int)) = false := decide_eq_false (by omega)
        have hitN : decide (i < m) = false := decide_eq_false (by omega)
        have hlv : lev f m = true := decide_eq_true (by rw [← him]; exact he.out)
        have Hlv := Lib.hid hlv
        have HNb : Hid (((N : Int) == 0) = decide (N = 0)) := by show _ = _; by_cases h : N = 0 <;> simp [h]
        clear hlv he
        go_wp2_with fail
        refine (Ht.out _ _ hA).mono ?_
        rintro e w3 ⟨rfl, rfl⟩
        go_wp2_with fail
        go_ret2
        exact ⟨by rw [Hlv.out, Bool.and_true, ← HNb.out]; rfl, hB⟩


end LevW
end Go.Proofs.Ytiiknpebphpeiaa
