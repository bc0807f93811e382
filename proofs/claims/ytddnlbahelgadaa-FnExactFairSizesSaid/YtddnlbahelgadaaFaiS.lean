/-
  FairSizes by the specification.
-/
import Derived.Test.YtddnlbahelgadaaRows
import Derived.Test.YtddnlbahelgadaaArr
import Derived.Test.YtddnlbahelgadaaAnyR
import Derived.Test.YtddnlbahelgadaaDieW
import Derived.Test.YtddnlbahelgadaaSortW
import Derived.Test.YtddnlbahelgadaaDicesW
import Derived.Test.YtddnlbahelgadaaPoolW
import Derived.Test.YtddnlbahelgadaaSumsM
import Derived.Test.YtddnlbahelgadaaTableM
import Derived.Test.YtddnlbahelgadaaTableWM
import Derived.Test.YtddnlbahelgadaaTableIM
import Derived.Test.YtddnlbahelgadaaTableSM
import Derived.Test.YtddnlbahelgadaaOwnL
import Derived.Test.YtddnlbahelgadaaIntsW
import Derived.Test.YtddnlbahelgadaaOpenD
import Derived.Test.YtddnlbahelgadaaModS
import Derived.Test.YtddnlbahelgadaaModI
import Derived.Test.YtddnlbahelgadaaIntsE
import Derived.Test.YtddnlbahelgadaaOpenI
import Derived.Test.YtddnlbahelgadaaMadL
import Derived.Test.YtddnlbahelgadaaMadC
import Derived.Test.YtddnlbahelgadaaMadK
import Derived.Test.YtddnlbahelgadaaListK
import Derived.Test.YtddnlbahelgadaaThrS
import Derived.Test.YtddnlbahelgadaaShelfMM
import Derived.Test.YtddnlbahelgadaaOpenD
import Derived.WalkKit
import Derived.WalkLawsBesides
import Derived.WalkSpells
import Derived.ProofKit
import Derived.OpenShut
import Derived.Deep.RegionWith
import Derived.Deep.QuietTactic
import Derived.BigQuiet
namespace Go.Proofs.Ytddnlbahelgadaa
open Go.ChangeShapes Go.WideShapes Go.ChangeAt Go.RowKit
open Go.ChangeMaps (open_string shut_string)

namespace FaiS
open Dice Arr AnyR OpenD DieW SortW DicesW PoolW SumsW Table TableW TableI TableS OwnL IntsW ModS ModI MadL MadK ListK ThrS

theorem drew_ex (w : World) (a b : Nat) : ∃ q, (w.drewN a).drewN b = w.drewN q := ⟨a + b, by simp [World.drewN, Nat.add_assoc]⟩
/-- The sizes that are fair. -/
def fair (t : Nat → Int) (m : Nat) : Bool := decide (∀ i, i < m → md m t 121 i = md m t 121 0)
def fs (t : Nat → Int) : Nat → List Int
  | 0 => []
  | k + 1 => if fair t (k + 1) then fs t k ++ [((k + 1 : Nat) : Int)] else fs t k
theorem fs_len (t : Nat → Int) : ∀ k, (fs t k).length ≤ k
  | 0 => Nat.le_refl _
  | k + 1 => by
    have := fs_len t k
    show (if fair t (k + 1) then fs t k ++ [((k + 1 : Nat) : Int)] else fs t k).length ≤ _
    split
    · simp; omega
    · omega
def oF (n : Nat) (P : Nat → Nat → Int) : List Int := if isPool n P then fs (T P n) 40 else []
theorem oF_len (n : Nat) (P : Nat → Nat → Int) : (oF n P).length ≤ 1048576 := by
  unfold oF
  split
  case isTrue h => have := fs_len (T P n) 40; omega
  case isFalse => exact Nat.zero_le _
/-- The least and the greatest one of a list are the same where all are. -/
def zl (F : Nat → Int) (m : Nat) : List Int := (List.range m).map F
theorem zl_len (F : Nat → Int) (m : Nat) : (zl F m).length = m := by simp [zl]
theorem zl_get {F : Nat → Int} {m j : Nat} (h : j < m) : (zl F m).getD j 0 = F j := by
  unfold zl
  rw [List.getD_eq_getElem?_getD, List.getElem?_map, List.getElem?_range h]
  rfl
theorem ends (F : Nat → Int) (m : Nat) : ∀ k, k + 1 ≤ m → Lib.minOf ((zl F m).take (k + 1)) ≤ F 0 ∧ F 0 ≤ Lib.maxOf ((zl F m).take (k + 1)) ∧ (Lib.minOf ((zl F m).take (k + 1)) = Lib.maxOf ((zl F m).take (k + 1)) ↔ ∀ i, i < k + 1 → F i = F 0) := by
  intro k
  induction k with
  | zero =>
    intro h
    rw [Lib.minOf_one, Lib.maxOf_one, zl_get (by omega)]
    exact ⟨Int.le_refl _, Int.le_refl _, fun _ i hi => by rw [show i = 0 by omega], fun _ => rfl⟩
  | succ k ih =>
    intro h
    obtain ⟨h1, h2, h3⟩ := ih (by omega)
    rw [Lib.minOf_step _ _ (by omega) (by rw [zl_len]; omega), Lib.maxOf_step _ _ (by omega) (by rw [zl_len]; omega), zl_get (by omega)]
    generalize Lib.minOf ((zl F m).take (k + 1)) = a at *
    generalize Lib.maxOf ((zl F m).take (k + 1)) = b at *
    refine ⟨by omega, by omega, ?_, ?_⟩
    · intro e i hi
      have hab : a = b := by omega
      have hk := h3.1 hab
      by_cases hik : i = k + 1
      · subst hik; omega
      · exact hk i (by omega)
    · intro e
      have hab := h3.2 (fun i hi => e i (by omega))
      have := e (k + 1) (by omega)
      omega
theorem ends_fair {F : Nat → Int} {m : Nat} (h : 1 ≤ m) : decide (Lib.minOf ((zl F m).take m) = Lib.maxOf ((zl F m).take m)) = decide (∀ i, i < m → F i = F 0) := by
  obtain ⟨k, rfl⟩ : ∃ k, m = k + 1 := ⟨m - 1, by omega⟩
  exact decide_eq_decide.2 (ends F (k + 1) k (Nat.le_refl _)).2.2

set_option maxRecDepth 100000 in
set_option maxHeartbeats 16000000 in
theorem specFS_any (A : Option Addr) (n c : Nat) (P : Nat → Nat → Int) (w : World) (h : Row w A n P) (hn : n ≤ maxLen) :
    Calls Try.prog 47 #[.slice A n c] w fun e w' => ∃ A' c', e = .returned (.tuple #[.slice A' (oF n P).length c', .bool (isPool n P)]) ∧ Ints w.heap.size w' A' (oF n P).length (fun i => (oF n P).getD i 0) ∧ Below w.heap.size w w' := by
  have hp := fun w h => l2Pool_any A n c P w h hn
  cases hq : isPool n P
  · rw [hq] at hp
    have e : oF n P = [] := by simp [oF, hq]
    rw [e]
    have Hp := Lib.hid hp; clear hp hq e
    have H := Lib.hid h; clear h
    have hB := na (n0 w) (.cells #[] 3)
    have hO := own_empty w
    go_enter Try.func47, Try.ntmps47
    go_wp2_with fail
    refine (Hp.out _ (H.out.up hB)).mono ?_
    rintro e w1 ⟨rfl, hb⟩
    have hB := nx hB hb
    go_wp2_with fail
    refine bodyPost_ret (results_tmp2 rfl _ _ _) rfl ?_
    exact ⟨_, _, rfl, ints_empty, hB⟩
  obtain ⟨_, h4, hd⟩ := of_pool hq
  rw [hq] at hp
  have Hp := Lib.hid hp; clear hp
  have e : oF n P = fs (T P n) 40 := by simp [oF, hq]
  rw [e]
  clear e
  have Hmo := Lib.hid (fun (m : Nat) w h h1 h40 => specMod_any A n c m P w h h4 hd h1 h40)
  clear hd hq
  generalize T P n = t at *
  have Hfl := Lib.hid (fs_len t)
  have Hst : Hid (∀ k, fs t (k + 1) = if fair t (k + 1) then fs t k ++ [((k + 1 : Nat) : Int)] else fs t k) := fun k => rfl
  have Hfa : Hid (∀ m, fair t m = decide (∀ i, i < m → md m t 121 i = md m t 121 0)) := fun m => rfl
  have H := Lib.hid h; clear h
  obtain ⟨i0, hi0, hz0, hz1, hz2⟩ := info_parts OwnL.info_int
  have Hi := Lib.hid (And.intro hi0 (And.intro hz0 (And.intro hz1 hz2)))
  clear hi0 hz0 hz1 hz2
  have hB := na (n0 w) (.cells #[] 3)
  have hO := own_empty w
  go_enter Try.func47, Try.ntmps47
  go_wp2_with fail
  refine (Hp.out _ (H.out.up hB)).mono ?_
  rintro e w1 ⟨rfl, hb⟩
  have hB := nx hB hb
  go_wp2_with fail
  go_loopw [4, 5] (fun lv kv wr => ∃ k : Nat, k ≤ 40 ∧ kv = .int .i64 (k + 1 : Nat) ∧ wr.ownsRow w.heap.size 3 1 lv (fs t k).length ((fs t k).map mk) ∧ Below w.heap.size w wr) (fun _ kv _ => 41 - (intOf kv).toNat)
  case atStart => exact ⟨0, by omega, rfl, own_up hO hb, hB⟩
  case round =>
    clear hO hB
    obtain ⟨k, hk, rfl, hO, hB⟩ := hrel
    by_cases hlt : k < 40
    · obtain ⟨m, hm⟩ : ∃ m, m = k + 1 := ⟨_, rfl⟩
      have hit : decide ((m : Int) ≤ (40 : Int)) = true := decide_eq_true (by omega)
      have hitN : decide (m ≤ 40) = true := decide_eq_true (by omega)
      have hst := Hst.out k
      have hlen := Hfl.out k
      have hfa := Hfa.out (k + 1)
      rw [← hm] at hst hfa ⊢
      obtain ⟨L, hL⟩ : ∃ L, L = fs t k := ⟨_, rfl⟩
      rw [← hL] at hO hst hlen
      clear hL
      have hm1 : 1 ≤ m := by omega
      have hm40 : m ≤ 40 := by omega
      have Hm := Lib.hid hm
      clear hm
      go_wp2_with fail
      refine (Hmo.out m _ (H.out.up hB) hm1 hm40).mono ?_
      rintro e w2 ⟨r, rfl, hr, hA, hb2⟩
      have hO := own_up hO hb2
      have hrl := Nat.le_trans hB.size hr
      have hB := nx hB hb2
      have hOl := fun t0 e => (hO.lt t0 e).2
      clear hb2
      generalize md m t 121 = F at *
      have hsz2 : Hid (w2.heap.size = w2.heap.size) := rfl
      go_wp2_with fail
      go_loopw [7, 8] (fun bv iv wr2 => ∃ i : Nat, 1 ≤ i ∧ i ≤ m ∧ iv = .int .i64 i ∧ bv = .bool (decide (∀ j, j < i → F j = F 0)) ∧ ∃ q, wr2 = w2.drewN q) (fun _ iv _ => m - (intOf iv).toNat)
      case atStart => exact ⟨1, by omega, hm1, rfl, by rw [decide_eq_true (fun j hj => by rw [show j = 0 by omega])], 0, rfl⟩
      case round =>
        obtain ⟨i, hi1, him, rfl, rfl, q, rfl⟩ := hrel
        by_cases hil : i < m
        · have hit2 : decide ((i : Int) < (m : Int)) = true := decide_eq_true (by omega)
          have hit2N : decide (i < m) = true := decide_eq_true hil
          have hAW := hA.drewN q
          obtain ⟨W, hW⟩ : ∃ W, W = w2.drewN q := ⟨_, rfl⟩
          rw [← hW] at hAW ⊢
          have c0 := hAW.cell 0 (by omega)
          have c1 := hAW.cell i hil
          have HW := Lib.hid hW; clear hW
          have hstep : decide (∀ j, j < i + 1 → F j = F 0) = (decide (∀ j, j < i → F j = F 0) && decide (F i = F 0)) := by
            rw [← Bool.decide_and]
            refine decide_eq_decide.2 ⟨fun h => ⟨fun j hj => h j (by omega), h i (by omega)⟩, fun h j hj => ?_⟩
            by_cases e : j = i
            · subst e; exact h.2
            · exact h.1 j (by omega)
          have Hstep := Lib.hid hstep; clear hstep
          cases hbb : decide (∀ j, j < i → F j = F 0)
          · rw [hbb] at Hstep
            clear hbb
            go_wp2_with fail
            go_quiet (fail)
            go_wp2_with fail
            go_roundw
            case rel => exact ⟨i + 1, by omega, by omega, by go_num, by rw [Hstep.out]; rfl, by rw [HW.out]; exact drew_ex _ _ _⟩
            case measure => simp [intOf]; omega
          · rw [hbb] at Hstep
            clear hbb
            cases hee : decide (F i = F 0)
            all_goals
              rw [hee] at Hstep
              have hee2 : (F i == F 0) = decide (F i = F 0) := rfl
              rw [hee] at hee2
              go_wp2_with fail
              go_quiet (fail)
              go_wp2_with fail
              go_roundw
              case rel => exact ⟨i + 1, by omega, by omega, by go_num, by rw [Hstep.out]; rfl, by rw [HW.out]; exact drew_ex _ _ _⟩
              case measure => simp [intOf]; omega
        · obtain rfl : i = m := by omega
          have hit2 : decide ((i : Int) < (i : Int)) = false := decide_eq_false (by omega)
          have hO := own_eq rfl hO (q := q)
          have hB' : Below w.heap.size w (w2.drewN q) := below_dn hB q
          clear hB
          have hB := hB'
          clear hB'
          generalize w2.drewN q = w3 at *
          cases hf : fair t i
          · rw [hf] at hst hfa
            rw [← hfa]
            clear hfa
            rw [if_neg (by decide)] at hst
            have Hst1 := Lib.hid hst; clear hst
            go_wp2_with fail
            go_roundw
            case rel => exact ⟨k + 1, by omega, by rw [← Hm.out]; go_num, by rw [← Hm.out, Hst1.out]; exact hO, hB⟩
            case measure => simp [intOf]; omega
          · rw [hf] at hst hfa
            rw [← hfa]
            clear hfa
            rw [if_pos rfl] at hst
            have Hst1 := Lib.hid hst; clear hst
            go_wp2_with (at_builtin; refine wpList_append_own _ rfl _ _ 22 rfl (w.heap.size) 3 i0 (.int .i64 0) 1 8 Try.underlying22 Hi.out.1 Hi.out.2.1 Hi.out.2.2.1 Hi.out.2.2.2 rfl (by decide) _ _ _ rfl (hO.alloc _) ⟨w3.heap.size, 0, none⟩ 1 1 [.int .i64 (i : Nat)] rfl rfl ?c1 ?c2 ?c3 ?c4 ?c5 ?_)
            case c1 => exact news_one (cell_one _ _ _)
            case c2 => intro u hu; simp at hu; subst hu; rfl
            case c3 => unfold maxLen; omega
            case c4 => omega
            case c5 => have := hB.size; rw [size_alloc]; omega
            intro lv' wN hO4 hg4 _
            have hB4 := (na hB (.cells #[.int .i64 (i : Nat)] 3)).grown hg4 (by rw [size_alloc]; have := hB.size; omega) (fun t e => by have := (hO.lt t e).1; omega)
            have hO4 := own_snoc hO4
            clear hO hg4 hB
            go_wp2_with fail
            go_roundw
            case rel => exact ⟨k + 1, by omega, by rw [← Hm.out]; go_num, by rw [← Hm.out, Hst1.out]; exact hO4, hB4⟩
            case measure => simp [intOf]; omega
    · obtain rfl : k = 40 := by omega
      have hit : decide (((40 + 1 : Nat) : Int) ≤ (40 : Int)) = false := rfl
      obtain ⟨A', c', rfl, hI⟩ := own_ints hO
      go_wp2_with fail
      refine bodyPost_ret (results_tmp2 rfl _ _ _) rfl ?_
      exact ⟨A', c', rfl, hI, hB⟩


end FaiS
end Go.Proofs.Ytddnlbahelgadaa
