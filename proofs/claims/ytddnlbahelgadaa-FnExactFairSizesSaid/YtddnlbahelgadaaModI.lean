/-
  ModTable, both sides.
-/
import Derived.Test.YtddnlbahelgadaaRows
import Derived.Test.YtddnlbahelgadaaArr
import Derived.Test.YtddnlbahelgadaaAnyR
import Derived.Test.YtddnlbahelgadaaDieW
import Derived.Test.YtddnlbahelgadaaSortW
import Derived.Test.YtddnlbahelgadaaDicesW
import Derived.Test.YtddnlbahelgadaaPoolW
import Derived.Test.YtddnlbahelgadaaSumsM
import Derived.Test.YtddnlbahelgadaaTableM
import Derived.Test.YtddnlbahelgadaaTableWM
import Derived.Test.YtddnlbahelgadaaTableIM
import Derived.Test.YtddnlbahelgadaaTableSM
import Derived.Test.YtddnlbahelgadaaOwnL
import Derived.Test.YtddnlbahelgadaaIntsW
import Derived.Test.YtddnlbahelgadaaOpenD
import Derived.Test.YtddnlbahelgadaaModS
import Derived.Test.YtddnlbahelgadaaOpenD
import Derived.WalkKit
import Derived.WalkLawsBesides
import Derived.WalkSpells
import Derived.ProofKit
import Derived.OpenShut
import Derived.Deep.RegionWith
import Derived.Deep.QuietTactic
import Derived.BigQuiet
namespace Go.Proofs.Ytddnlbahelgadaa
open Go.ChangeShapes Go.WideShapes Go.ChangeAt Go.RowKit
open Go.ChangeMaps (open_string shut_string)

namespace ModI
open Dice Arr AnyR OpenD DieW SortW DicesW PoolW SumsW Table TableW TableI TableS OwnL IntsW ModS

/-- What ModTable answers. -/
def okQ (m : Int) (n : Nat) (P : Nat → Nat → Int) : Bool := isPool n P && decide (1 ≤ m ∧ m ≤ 40)
def lenQ (m : Int) (n : Nat) (P : Nat → Nat → Int) : Nat := if okQ m n P then m.toNat else 0
def fQ (m : Int) (n : Nat) (P : Nat → Nat → Int) : Nat → Int := md m.toNat (T P n) 121
theorem lenQ_no {m : Int} {n : Nat} {P : Nat → Nat → Int} (h : okQ m n P = false) : lenQ m n P = 0 := by simp [lenQ, h]
theorem lenQ_yes {m n : Nat} {P : Nat → Nat → Int} (h : okQ m n P = true) : lenQ m n P = m := by simp [lenQ, h]
theorem lenQ_le (m : Int) (n : Nat) (P : Nat → Nat → Int) : lenQ m n P ≤ 1048576 := by
  unfold lenQ
  split
  case isTrue h =>
    simp only [okQ, Bool.and_eq_true, decide_eq_true_eq] at h
    omega
  case isFalse => exact Nat.zero_le _

set_option maxRecDepth 100000 in
set_option maxHeartbeats 8000000 in
theorem specMT_any (A : Option Addr) (n c : Nat) (P : Nat → Nat → Int) (m : Int) (w : World) (h : Row w A n P) (hn : n ≤ maxLen) :
    Calls Try.prog 42 #[.slice A n c, .int .i64 m] w fun e w' => ∃ A' c', e = .returned (.tuple #[.slice A' (lenQ m n P) c', .bool (okQ m n P)]) ∧ Ints w.heap.size w' A' (lenQ m n P) (fQ m n P) ∧ Below w.heap.size w w' := by
  have hp := fun w h => l2Pool_any A n c P w h hn
  have hin := fun w => l1In_any m 1 40 w
  cases hq : isPool n P
  · rw [hq] at hp
    have hk : okQ m n P = false := by simp only [okQ, hq, Bool.false_and]
    have Hp := Lib.hid hp; clear hp hq
    have H := Lib.hid h; clear h
    rw [hk, lenQ_no hk]
    clear hk hin
    go_enter Try.func42, Try.ntmps42
    go_wp2_with fail
    refine (Hp.out _ H.out).mono ?_
    rintro e w1 ⟨rfl, hb⟩
    go_wp2_with fail
    refine bodyPost_ret (results_tmp2 rfl _ _ _) rfl ?_
    exact ⟨_, _, rfl, .inl rfl, na hb _⟩
  obtain ⟨_, h4, hd⟩ := of_pool hq
  rw [hq] at hp
  have Hp := Lib.hid hp; clear hp
  by_cases hm : 1 ≤ m ∧ m ≤ 40
  case neg =>
    rw [decide_eq_false hm] at hin
    have Hin := Lib.hid hin; clear hin
    have hk : okQ m n P = false := by simp only [okQ, decide_eq_false hm, Bool.and_false]
    have H := Lib.hid h; clear h
    rw [hk, lenQ_no hk]
    clear hk hq hd hm
    go_enter Try.func42, Try.ntmps42
    go_wp2_with fail
    refine (Hp.out _ H.out).mono ?_
    rintro e w1 ⟨rfl, hb⟩
    go_wp2_with fail
    refine (Hin.out _).mono ?_
    rintro e w2 ⟨rfl, hw⟩
    have hw := hw.symm
    subst hw
    go_wp2_with fail
    refine bodyPost_ret (results_tmp2 rfl _ _ _) rfl ?_
    exact ⟨_, _, rfl, .inl rfl, na hb _⟩
  rw [decide_eq_true hm] at hin
  have Hin := Lib.hid hin; clear hin
  have hk : okQ m n P = true := by simp only [okQ, hq, decide_eq_true hm, Bool.and_true]
  obtain ⟨m, rfl⟩ : ∃ a : Nat, m = a := ⟨m.toNat, by omega⟩
  rw [hk, lenQ_yes hk]
  have Hmo := Lib.hid (fun w h => specMod_any A n c m P w h h4 hd (by omega) (by omega))
  have H := Lib.hid h; clear h
  have hfq : fQ (m : Int) n P = md m (T P n) 121 := rfl
  rw [hfq]
  clear hk hq hd hfq
  generalize md m (T P n) 121 = F at *
  go_enter Try.func42, Try.ntmps42
  go_wp2_with fail
  refine (Hp.out _ H.out).mono ?_
  rintro e w1 ⟨rfl, hb⟩
  go_wp2_with fail
  refine (Hin.out _).mono ?_
  rintro e w2 ⟨rfl, hw⟩
  have hw := hw.symm
  subst hw
  go_wp2_with fail
  refine (Hmo.out _ (H.out.up hb)).mono ?_
  rintro e w3 ⟨r, rfl, hr, hA, hb3⟩
  have hB := nx hb hb3
  have hsz := hb.size
  go_wp2_with fail
  refine bodyPost_ret (results_tmp2 rfl _ _ _) rfl ?_
  exact ⟨_, _, rfl, .inr ⟨r, rfl, Nat.le_trans hsz hr, hA⟩, hB⟩

set_option maxRecDepth 100000 in
set_option maxHeartbeats 8000000 in
theorem implMT_any (A : Option Addr) (n c : Nat) (P : Nat → Nat → Int) (m : Int) (w : World) (h : Row w A n P) (hn : n ≤ maxLen) :
    Calls Try.prog 44 #[.slice A n c, .int .i64 m] w fun e w' => ∃ A' c', e = .returned (.tuple #[.slice A' (lenQ m n P) c', .bool (okQ m n P)]) ∧ Ints w.heap.size w' A' (lenQ m n P) (fQ m n P) ∧ Below w.heap.size w w' := by
  have hp := fun w h => implTable_any A n c P w h hn
  cases hq : isPool n P
  · rw [hq] at hp
    simp only [Bool.false_eq_true, ↓reduceIte] at hp
    have hk : okQ m n P = false := by simp only [okQ, hq, Bool.false_and]
    have Hp := Lib.hid hp; clear hp hq
    have H := Lib.hid h; clear h
    rw [hk, lenQ_no hk]
    clear hk
    go_enter Try.func44, Try.ntmps44
    go_wp2_with fail
    refine (Hp.out _ H.out).mono ?_
    rintro e w1 ⟨rfl, hb⟩
    obtain ⟨w2, hst, hT, hB2, hK2⟩ := store_ex (fresh w1 (b := w1.heap.size) rfl) (fun _ => 0)
    have hB := (na hb _).trans (hB2 _ hb.size)
    have hqs := hT.lt
    clear hB2 hK2
    go_wp2_with fail
    refine bodyPost_ret (results_tmp2 rfl _ _ _) rfl ?_
    exact ⟨_, _, rfl, .inl rfl, hB⟩
  obtain ⟨_, h4, hd⟩ := of_pool hq
  rw [hq] at hp
  simp only [↓reduceIte] at hp
  have hsm := fun j hj => (tab_T h4 (die_range' hd) n (Nat.le_refl _)).small h4 j hj
  have H := Lib.hid h; clear h hd
  by_cases hm : 1 ≤ m ∧ m ≤ 40
  case neg =>
    have hk : okQ m n P = false := by simp only [okQ, decide_eq_false hm, Bool.and_false]
    generalize T P n = t at *
    have Hp := Lib.hid hp; clear hp hq hsm
    rw [hk, lenQ_no hk]
    by_cases hlo : m < 1
    · have d1 : decide (m < 1) = true := decide_eq_true (by omega)
      clear hk hm hlo
      go_enter Try.func44, Try.ntmps44
      go_wp2_with fail
      refine (Hp.out _ H.out).mono ?_
      rintro e w1 ⟨rfl, hb⟩
      obtain ⟨w2, hst, hT, hB2, hK2⟩ := store_ex (fresh w1 (b := w1.heap.size) rfl) (t)
      have hB := (na hb _).trans (hB2 _ hb.size)
      have hqs := hT.lt
      clear hB2 hK2
      go_wp2_with fail
      refine bodyPost_ret (results_tmp2 rfl _ _ _) rfl ?_
      exact ⟨_, _, rfl, .inl rfl, hB⟩
    have d1 : decide (m < 1) = false := decide_eq_false (by omega)
    have d2 : decide (40 < m) = true := decide_eq_true (by omega)
    clear hk hm hlo
    go_enter Try.func44, Try.ntmps44
    go_wp2_with fail
    refine (Hp.out _ H.out).mono ?_
    rintro e w1 ⟨rfl, hb⟩
    obtain ⟨w2, hst, hT, hB2, hK2⟩ := store_ex (fresh w1 (b := w1.heap.size) rfl) (t)
    have hB := (na hb _).trans (hB2 _ hb.size)
    have hqs := hT.lt
    clear hB2 hK2
    go_wp2_with fail
    refine bodyPost_ret (results_tmp2 rfl _ _ _) rfl ?_
    exact ⟨_, _, rfl, .inl rfl, hB⟩
  have d1 : decide (m < 1) = false := decide_eq_false (by omega)
  have d2 : decide (40 < m) = false := decide_eq_false (by omega)
  have hk : okQ m n P = true := by simp only [okQ, hq, decide_eq_true hm, Bool.and_true]
  obtain ⟨m, rfl⟩ : ∃ a : Nat, m = a := ⟨m.toNat, by omega⟩
  rw [hk, lenQ_yes hk]
  have hfq : fQ (m : Int) n P = md m (T P n) 121 := rfl
  rw [hfq]
  generalize T P n = t at *
  have Hmd := Lib.hid (md_le (m := m) hsm)
  have Hsm := Lib.hid hsm; clear hsm
  have Hp := Lib.hid hp; clear hp hk hq hfq
  have hix := fun (w : World) (k : Nat) (hk : k < 121) => run_index_vals (P := Try.prog) w 70 3 121 Try.underlying70 Try.underlying3 Try.sizeOf3 t hk
  have Hix := Lib.hid hix; clear hix
  go_enter Try.func44, Try.ntmps44
  go_wp2_with fail
  refine (Hp.out _ H.out).mono ?_
  rintro e w1 ⟨rfl, hb⟩
  obtain ⟨w2, hst, hT, hB2, hK2⟩ := store_ex (fresh w1 (b := w1.heap.size) rfl) (t)
  have hB := (na hb _).trans (hB2 _ hb.size)
  have hqs := hT.lt
  clear hB2 hK2
  obtain ⟨w3, hr3, hN, hb3⟩ := make_ints w2 m (by omega)
  have hB3 := nx hB hb3
  have hT3 := hT.up hb3
  have hrl := hB.size
  obtain ⟨r, hr⟩ : ∃ r, r = w2.heap.size := ⟨_, rfl⟩
  rw [← hr] at hr3 hN hrl hqs
  clear hB hT hr
  go_wp2_with (refine ld rfl _ rfl rfl hT3 ?_)
  clear hst hr3 hT3
  go_loopw [29] (fun iv wr => ∃ s : Nat, s ≤ 121 ∧ iv = .int .i64 s ∧ At wr r m (md m t s) ∧ Below w.heap.size w wr) (fun iv _ => 121 - (intOf iv).toNat)
  case atStart => exact ⟨0, by omega, rfl, hN, hB3⟩
  case round =>
    clear hN hB3
    obtain ⟨s, hs, rfl, hN, hB⟩ := hrel
    by_cases hlt : s < 121
    · have hit : decide ((s : Int) < (121 : Int)) = true := decide_eq_true (by omega)
      have hitN : decide (s < 121) = true := decide_eq_true hlt
      have hixs := fun w => Hix.out w s hlt
      have hmod : ((s : Int) % (m : Int)) = ((s % m : Nat) : Int) := by simp
      have hrm : s % m < m := Nat.mod_lt _ (by omega)
      have hv := Hmd.out s (by omega) (s % m)
      have hts := Hsm.out s hlt
      have hst : Hid (md m t (s + 1) = put (md m t s) (s % m) (md m t s (s % m) + t s)) := rfl
      have hm0 : (m : Int) ≠ 0 := by omega
      have hmq : ((m : Int) = 0) = False := by simp; omega
      generalize s % m = x at *
      have cj := hN.cell x hrm
      have zj := hN.free x
      generalize hvv : md m t s x = v at *
      go_wp2_with fail
      go_roundw
      case rel => exact ⟨s + 1, by omega, by go_num, by rw [hst.out]; exact hN.set hrm _, hB.setCell (p := ⟨r, x, none⟩) hrl _⟩
      case measure => simp [intOf]; omega
    · obtain rfl : s = 121 := by omega
      have hit : decide (((121 : Nat) : Int) < (121 : Int)) = false := rfl
      go_wp2_with fail
      refine bodyPost_ret (results_tmp2 rfl _ _ _) rfl ?_
      exact ⟨_, _, rfl, .inr ⟨r, rfl, hrl, hN⟩, hB⟩


end ModI
end Go.Proofs.Ytddnlbahelgadaa
