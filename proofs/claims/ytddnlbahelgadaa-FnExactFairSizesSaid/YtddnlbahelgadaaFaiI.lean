/-
  FairSizes by the program.
-/
import Derived.Test.YtddnlbahelgadaaRows
import Derived.Test.YtddnlbahelgadaaArr
import Derived.Test.YtddnlbahelgadaaAnyR
import Derived.Test.YtddnlbahelgadaaDieW
import Derived.Test.YtddnlbahelgadaaSortW
import Derived.Test.YtddnlbahelgadaaDicesW
import Derived.Test.YtddnlbahelgadaaPoolW
import Derived.Test.YtddnlbahelgadaaSumsM
import Derived.Test.YtddnlbahelgadaaTableM
import Derived.Test.YtddnlbahelgadaaTableWM
import Derived.Test.YtddnlbahelgadaaTableIM
import Derived.Test.YtddnlbahelgadaaTableSM
import Derived.Test.YtddnlbahelgadaaOwnL
import Derived.Test.YtddnlbahelgadaaIntsW
import Derived.Test.YtddnlbahelgadaaOpenD
import Derived.Test.YtddnlbahelgadaaModS
import Derived.Test.YtddnlbahelgadaaModI
import Derived.Test.YtddnlbahelgadaaIntsE
import Derived.Test.YtddnlbahelgadaaOpenI
import Derived.Test.YtddnlbahelgadaaMadL
import Derived.Test.YtddnlbahelgadaaMadC
import Derived.Test.YtddnlbahelgadaaMadK
import Derived.Test.YtddnlbahelgadaaListK
import Derived.Test.YtddnlbahelgadaaThrS
import Derived.Test.YtddnlbahelgadaaShelfMM
import Derived.Test.YtddnlbahelgadaaFaiS
import Derived.Test.YtddnlbahelgadaaOpenD
import Derived.WalkKit
import Derived.WalkLawsBesides
import Derived.WalkSpells
import Derived.ProofKit
import Derived.OpenShut
import Derived.Deep.RegionWith
import Derived.Deep.QuietTactic
import Derived.BigQuiet
namespace Go.Proofs.Ytddnlbahelgadaa
open Go.ChangeShapes Go.WideShapes Go.ChangeAt Go.RowKit
open Go.ChangeMaps (open_string shut_string)

namespace FaiI
open Dice Arr AnyR OpenD DieW SortW DicesW PoolW SumsW Table TableW TableI TableS OwnL IntsW ModS ModI MadL MadK ListK ThrS FaiS


set_option maxRecDepth 100000 in
set_option maxHeartbeats 16000000 in
theorem implFS_any (A : Option Addr) (n c : Nat) (P : Nat → Nat → Int) (w : World) (h : Row w A n P) (hn : n ≤ maxLen) :
    Calls Try.prog 48 #[.slice A n c] w fun e w' => ∃ A' c', e = .returned (.tuple #[.slice A' (oF n P).length c', .bool (isPool n P)]) ∧ Ints w.heap.size w' A' (oF n P).length (fun i => (oF n P).getD i 0) ∧ Below w.heap.size w w' := by
  have hp := fun w h => implIsPool_any A n c P w h hn
  cases hq : isPool n P
  · rw [hq] at hp
    have e : oF n P = [] := by simp [oF, hq]
    rw [e]
    have Hp := Lib.hid hp; clear hp hq e
    have H := Lib.hid h; clear h
    have hB := n0 w
    have hO := own_nil w w.heap.size
    go_enter Try.func48, Try.ntmps48
    go_wp2_with fail
    refine (Hp.out _ (H.out.up hB)).mono ?_
    rintro e w1 ⟨rfl, hb⟩
    have hB := nx hB hb
    go_wp2_with fail
    refine bodyPost_ret (results_tmp2 rfl _ _ _) rfl ?_
    exact ⟨_, _, rfl, ints_empty, hB⟩
  obtain ⟨_, h4, hd⟩ := of_pool hq
  rw [hq] at hp
  have Hp := Lib.hid hp; clear hp
  have e : oF n P = fs (T P n) 40 := by simp [oF, hq]
  rw [e]
  clear e
  have hmo : ∀ (j : Nat), 1 ≤ j → j ≤ 40 → ∀ w, Row w A n P → Calls Try.prog 44 #[.slice A n c, .int .i64 (j : Nat)] w fun e w' => ∃ A' c', e = .returned (.tuple #[.slice A' j c', .bool true]) ∧ Ints w.heap.size w' A' j (md j (T P n) 121) ∧ Below w.heap.size w w' := fun j h1 h40 w h => by
    have hk : okQ (j : Nat) n P = true := by simp only [okQ, hq, decide_eq_true (show 1 ≤ ((j : Nat) : Int) ∧ ((j : Nat) : Int) ≤ 40 by omega), Bool.and_true]
    have := implMT_any A n c P (j : Nat) w h hn
    rw [hk, lenQ_yes hk] at this
    exact this
  have Hmo := Lib.hid hmo; clear hmo
  clear hd hq
  generalize T P n = t at *
  have Hfl := Lib.hid (fs_len t)
  have Hst : Hid (∀ k, fs t (k + 1) = if fair t (k + 1) then fs t k ++ [((k + 1 : Nat) : Int)] else fs t k) := fun k => rfl
  have Hfa : Hid (∀ m, fair t m = decide (∀ i, i < m → md m t 121 i = md m t 121 0)) := fun m => rfl
  have H := Lib.hid h; clear h
  obtain ⟨i0, hi0, hz0, hz1, hz2⟩ := info_parts OwnL.info_int
  have Hi := Lib.hid (And.intro hi0 (And.intro hz0 (And.intro hz1 hz2)))
  clear hi0 hz0 hz1 hz2
  have hB := n0 w
  have hO := own_nil w w.heap.size
  go_enter Try.func48, Try.ntmps48
  go_wp2_with fail
  refine (Hp.out _ (H.out.up hB)).mono ?_
  rintro e w1 ⟨rfl, hb⟩
  have hB := nx hB hb
  go_wp2_with fail
  go_loopw [4, 5] (fun lv kv wr => ∃ k : Nat, k ≤ 40 ∧ kv = .int .i64 (k + 1 : Nat) ∧ wr.ownsRow w.heap.size 3 1 lv (fs t k).length ((fs t k).map mk) ∧ Below w.heap.size w wr) (fun _ kv _ => 41 - (intOf kv).toNat)
  case atStart => exact ⟨0, by omega, rfl, own_up hO hb, hB⟩
  case round =>
    clear hO hB
    obtain ⟨k, hk, rfl, hO, hB⟩ := hrel
    by_cases hlt : k < 40
    · obtain ⟨m, hm⟩ : ∃ m, m = k + 1 := ⟨_, rfl⟩
      have hit : decide ((m : Int) ≤ (40 : Int)) = true := decide_eq_true (by omega)
      have hitN : decide (m ≤ 40) = true := decide_eq_true (by omega)
      have hst := Hst.out k
      have hlen := Hfl.out k
      have hfa := Hfa.out (k + 1)
      rw [← hm] at hst hfa ⊢
      obtain ⟨L, hL⟩ : ∃ L, L = fs t k := ⟨_, rfl⟩
      rw [← hL] at hO hst hlen
      clear hL
      have hm1 : 1 ≤ m := by omega
      have hm40 : m ≤ 40 := by omega
      have Hm := Lib.hid hm
      clear hm
      go_wp2_with fail
      refine (Hmo.out m hm1 hm40 _ (H.out.up hB)).mono ?_
      rintro e w2 ⟨Ar, cr, rfl, hI, hb2⟩
      have hO := own_up hO hb2
      have hB := nx hB hb2
      clear hb2
      generalize md m t 121 = F at *
      obtain ⟨r, rfl, _, hA⟩ := hI.at_ (show 0 < m by omega)
      have hcells : ∀ j, j < (zl F m).length → w2.cell? ⟨r, 0 + j, none⟩ = some (.int .i64 ((zl F m).getD j 0)) := fun j hj => by
        rw [zl_len] at hj
        rw [Nat.zero_add, zl_get hj]
        exact hA.cell j hj
      have hmin := Try.slices_Min_int r 0 m cr (zl F m) w2 (by omega) (by rw [zl_len]; exact Nat.le_refl _) (by omega) hcells
      have hmax := Try.slices_Max_int r 0 m cr (zl F m) w2 (by omega) (by rw [zl_len]; exact Nat.le_refl _) (by omega) hcells
      have hef := ends_fair (F := F) hm1
      rw [← hfa] at hef
      clear hfa
      generalize Lib.minOf ((zl F m).take m) = a at *
      generalize Lib.maxOf ((zl F m).take m) = b at *
      have Hmin := Lib.hid hmin
      have Hmax := Lib.hid hmax
      clear hmin hmax hcells hI
      cases hf : fair t m
      · rw [hf] at hst hef
        rw [if_neg (by decide)] at hst
        have Hst1 := Lib.hid hst; clear hst
        have hee2 : (a == b) = false := hef
        go_wp2_with fail
        refine Hmin.out.mono ?_
        rintro e w3 ⟨rfl, hw⟩
        have hw := hw.symm
        subst hw
        go_wp2_with fail
        refine Hmax.out.mono ?_
        rintro e w4 ⟨rfl, hw⟩
        have hw := hw.symm
        subst hw
        go_wp2_with fail
        go_roundw
        case rel => exact ⟨k + 1, by omega, by rw [← Hm.out]; go_num, by rw [← Hm.out, Hst1.out]; exact hO, hB⟩
        case measure => simp [intOf]; omega
      · rw [hf] at hst hef
        rw [if_pos rfl] at hst
        have Hst1 := Lib.hid hst; clear hst
        have hee2 : (a == b) = true := hef
        go_wp2_with fail
        refine Hmin.out.mono ?_
        rintro e w3 ⟨rfl, hw⟩
        have hw := hw.symm
        subst hw
        go_wp2_with fail
        refine Hmax.out.mono ?_
        rintro e w4 ⟨rfl, hw⟩
        have hw := hw.symm
        subst hw
        go_wp2_with (at_builtin; refine wpList_append_own _ rfl _ _ 22 rfl (w.heap.size) 3 i0 (.int .i64 0) 1 8 Try.underlying22 Hi.out.1 Hi.out.2.1 Hi.out.2.2.1 Hi.out.2.2.2 rfl (by decide) _ _ _ rfl (hO.alloc _) ⟨w2.heap.size, 0, none⟩ 1 1 [.int .i64 (m : Nat)] rfl rfl ?c1 ?c2 ?c3 ?c4 ?c5 ?_)
        case c1 => exact news_one (cell_one _ _ _)
        case c2 => intro u hu; simp at hu; subst hu; rfl
        case c3 => unfold maxLen; omega
        case c4 => omega
        case c5 => have := hB.size; rw [size_alloc]; omega
        intro lv' wN hO4 hg4 _
        have hB4 := (na hB (.cells #[.int .i64 (m : Nat)] 3)).grown hg4 (by rw [size_alloc]; have := hB.size; omega) (fun t e => by have := (hO.lt t e).1; omega)
        have hO4 := own_snoc hO4
        clear hO hg4 hB
        go_wp2_with fail
        go_roundw
        case rel => exact ⟨k + 1, by omega, by rw [← Hm.out]; go_num, by rw [← Hm.out, Hst1.out]; exact hO4, hB4⟩
        case measure => simp [intOf]; omega
    · obtain rfl : k = 40 := by omega
      have hit : decide (((40 + 1 : Nat) : Int) ≤ (40 : Int)) = false := rfl
      obtain ⟨A', c', rfl, hI⟩ := own_ints hO
      go_wp2_with fail
      refine bodyPost_ret (results_tmp2 rfl _ _ _) rfl ?_
      exact ⟨A', c', rfl, hI, hB⟩


end FaiI
end Go.Proofs.Ytddnlbahelgadaa
