/-
  EvenCoin by the program.
-/
import Derived.Test.YtddnlbahelgadaaRows
import Derived.Test.YtddnlbahelgadaaArr
import Derived.Test.YtddnlbahelgadaaDieW
import Derived.Test.YtddnlbahelgadaaSortW
import Derived.Test.YtddnlbahelgadaaDicesW
import Derived.Test.YtddnlbahelgadaaOwnL
import Derived.Test.YtddnlbahelgadaaIntsW
import Derived.Test.YtddnlbahelgadaaIntsE
import Derived.Test.YtddnlbahelgadaaOpenI
import Derived.Test.YtddnlbahelgadaaOpenD
import Derived.Test.YtddnlbahelgadaaMadL
import Derived.Test.YtddnlbahelgadaaMadC
import Derived.Test.YtddnlbahelgadaaMadK
import Derived.Test.YtddnlbahelgadaaListK
import Derived.Test.YtddnlbahelgadaaThrS
import Derived.Test.YtddnlbahelgadaaEveS
import Derived.Test.YtddnlbahelgadaaOpenD
import Derived.WalkKit
import Derived.WalkLawsBesides
import Derived.WalkSpells
import Derived.ProofKit
import Derived.OpenShut
import Derived.Deep.RegionWith
import Derived.Deep.QuietTactic
import Derived.BigQuiet
namespace Go.Proofs.Ytddnlbahelgadaa
open Go.ChangeShapes Go.WideShapes Go.ChangeAt Go.RowKit
open Go.ChangeMaps (open_string shut_string)

namespace EveI
open Dice Arr DieW SortW OwnL OpenG OpenD MadL MadC IntsW MadK ListK ThrS EveS


set_option maxRecDepth 100000 in
set_option maxHeartbeats 4000000 in
theorem implEO_any (g n : Nat) (l : Int) (f : Nat → Int) (w : World) (hA : At w g n f) (hn : n ≤ 1048576) :
    Calls Try.prog 38 #[.slice (some ⟨g, 0, none⟩) n n, .int .i64 l] w fun e w' => ∃ A c, e = .returned (.tuple #[.slice A (oE l n f).length c, .int .i64 (nE l n f), .bool (okE l n f)]) ∧ Ints w.heap.size w' A (oE l n f).length (fun i => (oE l n f).getD i 0) ∧ Below w.heap.size w w' := by
  have hth := fun w hA => throws_any g n f w hA hn
  have hgl := hA.lt
  cases ho : okM 40 6 n f
  · rw [ho] at hth
    have Hth := Lib.hid hth; clear hth
    have hk : okE l n f = false := by simp only [okE, ho, Bool.false_and]
    clear ho
    have e : oE l n f = [] := by simp [oE, hk]
    have e2 : nE l n f = 0 := by simp [nE, hk]
    rw [hk, e, e2]
    clear e e2 hk
    have hB := n0 w
    have HA := Lib.hid hA
    go_enter Try.func38, Try.ntmps38
    go_wp2_with fail
    refine (Hth.out _ HA.out).mono ?_
    rintro e w1 ⟨rfl, hw⟩
    have hw := hw.symm
    subst hw
    go_wp2_with fail
    refine bodyPost_ret (results_tmp3 rfl _ _ _) rfl ?_
    exact ⟨_, _, rfl, ints_empty, hB⟩
  rw [ho] at hth
  have Hth := Lib.hid hth; clear hth
  by_cases hl : 0 ≤ l ∧ l ≤ 6
  case neg =>
    have hk : okE l n f = false := by simp only [okE, decide_eq_false hl, Bool.and_false]
    clear ho
    have e : oE l n f = [] := by simp [oE, hk]
    have e2 : nE l n f = 0 := by simp [nE, hk]
    rw [hk, e, e2]
    clear e e2 hk
    by_cases hlo : l < 0
    · have d1 : decide (l < 0) = true := decide_eq_true (by omega)
      clear hl hlo
      have hB := n0 w
      have HA := Lib.hid hA
      go_enter Try.func38, Try.ntmps38
      go_wp2_with fail
      refine (Hth.out _ HA.out).mono ?_
      rintro e w1 ⟨rfl, hw⟩
      have hw := hw.symm
      subst hw
      go_wp2_with fail
      refine bodyPost_ret (results_tmp3 rfl _ _ _) rfl ?_
      exact ⟨_, _, rfl, ints_empty, hB⟩
    have d1 : decide (l < 0) = false := decide_eq_false (by omega)
    have d2 : decide (6 < l) = true := decide_eq_true (by omega)
    clear hl hlo
    have hB := n0 w
    have HA := Lib.hid hA
    go_enter Try.func38, Try.ntmps38
    go_wp2_with fail
    refine (Hth.out _ HA.out).mono ?_
    rintro e w1 ⟨rfl, hw⟩
    have hw := hw.symm
    subst hw
    go_wp2_with fail
    refine bodyPost_ret (results_tmp3 rfl _ _ _) rfl ?_
    exact ⟨_, _, rfl, ints_empty, hB⟩
  have d1 : decide (l < 0) = false := decide_eq_false (by omega)
  have d2 : decide (6 < l) = false := decide_eq_false (by omega)
  have hk : okE l n f = true := by simp only [okE, ho, decide_eq_true hl, Bool.and_true]
  have e : oE l n f = el f l (n / 2) := by simp [oE, hk]
  have e2 : nE l n f = ((en f l (n / 2) : Nat) : Int) := by simp [nE, hk]
  rw [hk, e, e2]
  clear e e2 hk
  obtain ⟨h40, hf⟩ := of_okM ho
  clear ho
  have Hel := Lib.hid (el_len f l)
  have Hst : Hid (∀ k, el f l (k + 1) = if pa f l k == pb f l k then el f l k else if pa f l k then el f l k ++ [1] else el f l k ++ [0]) := fun k => rfl
  have Hsn : Hid (∀ k, en f l (k + 1) = if pa f l k == pb f l k then en f l k + 1 else en f l k) := fun k => rfl
  have Hp : Hid (∀ k, decide (f (2 * k) < l) = pa f l k ∧ decide (f (2 * k + 1) < l) = pb f l k) := fun k => ⟨rfl, rfl⟩
  obtain ⟨i0, hi0, hz0, hz1, hz2⟩ := info_parts OwnL.info_int
  have Hi := Lib.hid (And.intro hi0 (And.intro hz0 (And.intro hz1 hz2)))
  clear hi0 hz0 hz1 hz2
  have Hso := Lib.hid (fun w hA => source_any g n f w hA)
  have Hcl := Lib.hid (fun (bu bl u : Nat) (hu : u < n) w hS => clos_any bu bl g n u f w hS hu hn)
  have hB := n0 w
  have HA := Lib.hid hA
  go_enter Try.func38, Try.ntmps38
  go_wp2_with fail
  refine (Hth.out _ HA.out).mono ?_
  rintro e w1 ⟨rfl, hw⟩
  have hw := hw.symm
  subst hw
  go_wp2_with fail
  refine (Hso.out _ HA.out).mono ?_
  rintro e w2 ⟨bu, bl, rfl, hS, hbu, hbl, hb2⟩
  have hB := nx hB hb2
  have hul := hS.1.lt
  have hll := hS.2.1.1
  obtain ⟨B2, hB2⟩ : ∃ B2, B2 = w2.heap.size := ⟨_, rfl⟩
  have hO := own_nil w2 B2
  have hgl2 := hS.2.2.1.lt
  rw [← hB2] at hul hll hgl2
  have hwB := hB.size
  rw [← hB2] at hwB
  clear hb2
  go_wp2_with fail
  go_loopw [8, 9, 28] (fun lv nv kv wr => ∃ k : Nat, k ≤ n / 2 ∧ kv = .int .i64 (k : Nat) ∧ nv = .int .i64 (en f l k : Nat) ∧ wr.ownsRow B2 3 1 lv (el f l k).length ((el f l k).map mk) ∧ Src wr bu bl g n f (2 * k) ∧ Below w.heap.size w wr ∧ B2 ≤ wr.heap.size) (fun _ _ kv _ => n / 2 - (intOf kv).toNat)
  case atStart => exact ⟨0, by omega, rfl, rfl, hO, hS, hB, Nat.le_of_eq hB2⟩
  case round =>
    clear hO hS hB HA hB2
    obtain ⟨k, hk, rfl, rfl, hO, hS, hB, hBl⟩ := hrel
    by_cases hlt : k < n / 2
    · have hit : decide ((k : Int) < ((n / 2 : Nat) : Int)) = true := decide_eq_true (by omega)
      have hit2 : decide ((k : Int) < (n : Int) / 2) = true := decide_eq_true (by omega)
      have hitN : decide (k < n / 2) = true := decide_eq_true (by omega)
      have hst := Hst.out k
      have hsn := Hsn.out k
      have hlen := Hel.out k
      obtain ⟨hp1, hp2⟩ := Hp.out k
      obtain ⟨L, hL⟩ : ∃ L, L = el f l k := ⟨_, rfl⟩
      obtain ⟨N, hN⟩ : ∃ N, N = en f l k := ⟨_, rfl⟩
      rw [← hL] at hO hst hlen
      rw [← hN] at hsn hlen ⊢
      clear hL hN
      have Hc1 := Lib.hid (Hcl.out bu bl (2 * k) (by omega))
      have Hc2 := Lib.hid (Hcl.out bu bl (2 * k + 1) (by omega))
      have e3 : 2 * k + 1 + 1 = 2 * (k + 1) := by omega
      rw [e3] at Hc2
      clear e3
      generalize f (2 * k) = v0 at *
      generalize f (2 * k + 1) = v1 at *
      cases ha : pa f l k
      · cases hb : pb f l k
        · rw [ha] at hp1 hst hsn
          rw [hb] at hp2 hst hsn
          rw [if_pos (show (false == false) = true from rfl)] at hst hsn
          have Hst1 := Lib.hid hst
          have Hsn1 := Lib.hid hsn
          clear hst hsn ha hb
          go_wp2_with fail
          refine (Hc1.out _ hS).mono ?_
          rintro e w5 ⟨rfl, hS5, hG⟩
          have hO := hO.kept hG (.inr (fun e => by have := (hO.lt _ e).1; omega))
          have hB := below_grown hB hG (by have := hB.size; omega) hbu
          have hBl := Nat.le_trans hBl hG.size
          have hS := hS5
          clear hS5 hG
          go_wp2_with fail
          refine (Hc2.out _ hS).mono ?_
          rintro e w6 ⟨rfl, hS5, hG⟩
          have hO := hO.kept hG (.inr (fun e => by have := (hO.lt _ e).1; omega))
          have hB := below_grown hB hG (by have := hB.size; omega) hbu
          have hBl := Nat.le_trans hBl hG.size
          have hS := hS5
          clear hS5 hG
          go_wp2_with fail
          go_roundw
          case rel => exact ⟨k + 1, by omega, by go_num, by rw [Hsn1.out]; try go_num, by rw [Hst1.out]; exact hO, hS, hB, hBl⟩
          case measure => simp [intOf]; omega
        · rw [ha] at hp1 hst hsn
          rw [hb] at hp2 hst hsn
          rw [if_neg (by decide)] at hst hsn
          rw [if_neg (by decide)] at hst
          have Hst1 := Lib.hid hst
          have Hsn1 := Lib.hid hsn
          clear hst hsn ha hb
          go_wp2_with fail
          refine (Hc1.out _ hS).mono ?_
          rintro e w5 ⟨rfl, hS5, hG⟩
          have hO := hO.kept hG (.inr (fun e => by have := (hO.lt _ e).1; omega))
          have hB := below_grown hB hG (by have := hB.size; omega) hbu
          have hBl := Nat.le_trans hBl hG.size
          have hS := hS5
          clear hS5 hG
          go_wp2_with fail
          refine (Hc2.out _ hS).mono ?_
          rintro e w6 ⟨rfl, hS5, hG⟩
          have hO := hO.kept hG (.inr (fun e => by have := (hO.lt _ e).1; omega))
          have hB := below_grown hB hG (by have := hB.size; omega) hbu
          have hBl := Nat.le_trans hBl hG.size
          have hS := hS5
          clear hS5 hG
          go_wp2_with (at_builtin; refine wpList_append_own _ rfl _ _ 22 rfl (B2) 3 i0 (.int .i64 0) 1 8 Try.underlying22 Hi.out.1 Hi.out.2.1 Hi.out.2.2.1 Hi.out.2.2.2 rfl (by decide) _ _ _ rfl (hO.alloc _) ⟨w6.heap.size, 0, none⟩ 1 1 [.int .i64 0] rfl rfl ?c1 ?c2 ?c3 ?c4 ?c5 ?_)
          case c1 => exact news_one (cell_one _ _ _)
          case c2 => intro u hu; simp at hu; subst hu; rfl
          case c3 => unfold maxLen; omega
          case c4 => omega
          case c5 => rw [size_alloc]; omega
          intro lv' wN hO4 hg4 _
          have hB4 := (na hB (.cells #[.int .i64 0] 3)).grown hg4 (by rw [size_alloc]; have := hB.size; omega) (fun t e => by have := (hO.lt t e).1; omega)
          have hS4 := (hS.past (.cells #[.int .i64 0] 3)).kept hg4 (fun e => by have := (hO.lt _ e.symm).1; omega) (fun e => by have := (hO.lt _ e.symm).1; omega) (fun e => by have := (hO.lt _ e.symm).1; omega)
          have hO4 := own_snoc hO4
          have hg4' := hg4
          clear hO hg4 hB hS
          have hBl4 := Nat.le_trans hBl (Nat.le_trans (by rw [size_alloc]; omega) hg4'.size)
          go_wp2_with fail
          go_roundw
          case rel => exact ⟨k + 1, by omega, by go_num, by rw [Hsn1.out]; try go_num, by rw [Hst1.out]; exact hO4, hS4, hB4, hBl4⟩
          case measure => simp [intOf]; omega
      · cases hb : pb f l k
        · rw [ha] at hp1 hst hsn
          rw [hb] at hp2 hst hsn
          rw [if_neg (by decide)] at hst hsn
          rw [if_pos rfl] at hst
          have Hst1 := Lib.hid hst
          have Hsn1 := Lib.hid hsn
          clear hst hsn ha hb
          go_wp2_with fail
          refine (Hc1.out _ hS).mono ?_
          rintro e w5 ⟨rfl, hS5, hG⟩
          have hO := hO.kept hG (.inr (fun e => by have := (hO.lt _ e).1; omega))
          have hB := below_grown hB hG (by have := hB.size; omega) hbu
          have hBl := Nat.le_trans hBl hG.size
          have hS := hS5
          clear hS5 hG
          go_wp2_with fail
          refine (Hc2.out _ hS).mono ?_
          rintro e w6 ⟨rfl, hS5, hG⟩
          have hO := hO.kept hG (.inr (fun e => by have := (hO.lt _ e).1; omega))
          have hB := below_grown hB hG (by have := hB.size; omega) hbu
          have hBl := Nat.le_trans hBl hG.size
          have hS := hS5
          clear hS5 hG
          go_wp2_with (at_builtin; refine wpList_append_own _ rfl _ _ 22 rfl (B2) 3 i0 (.int .i64 0) 1 8 Try.underlying22 Hi.out.1 Hi.out.2.1 Hi.out.2.2.1 Hi.out.2.2.2 rfl (by decide) _ _ _ rfl (hO.alloc _) ⟨w6.heap.size, 0, none⟩ 1 1 [.int .i64 1] rfl rfl ?c1 ?c2 ?c3 ?c4 ?c5 ?_)
          case c1 => exact news_one (cell_one _ _ _)
          case c2 => intro u hu; simp at hu; subst hu; rfl
          case c3 => unfold maxLen; omega
          case c4 => omega
          case c5 => rw [size_alloc]; omega
          intro lv' wN hO4 hg4 _
          have hB4 := (na hB (.cells #[.int .i64 1] 3)).grown hg4 (by rw [size_alloc]; have := hB.size; omega) (fun t e => by have := (hO.lt t e).1; omega)
          have hS4 := (hS.past (.cells #[.int .i64 1] 3)).kept hg4 (fun e => by have := (hO.lt _ e.symm).1; omega) (fun e => by have := (hO.lt _ e.symm).1; omega) (fun e => by have := (hO.lt _ e.symm).1; omega)
          have hO4 := own_snoc hO4
          have hg4' := hg4
          clear hO hg4 hB hS
          have hBl4 := Nat.le_trans hBl (Nat.le_trans (by rw [size_alloc]; omega) hg4'.size)
          go_wp2_with fail
          go_roundw
          case rel => exact ⟨k + 1, by omega, by go_num, by rw [Hsn1.out]; try go_num, by rw [Hst1.out]; exact hO4, hS4, hB4, hBl4⟩
          case measure => simp [intOf]; omega
        · rw [ha] at hp1 hst hsn
          rw [hb] at hp2 hst hsn
          rw [if_pos (show (true == true) = true from rfl)] at hst hsn
          have Hst1 := Lib.hid hst
          have Hsn1 := Lib.hid hsn
          clear hst hsn ha hb
          go_wp2_with fail
          refine (Hc1.out _ hS).mono ?_
          rintro e w5 ⟨rfl, hS5, hG⟩
          have hO := hO.kept hG (.inr (fun e => by have := (hO.lt _ e).1; omega))
          have hB := below_grown hB hG (by have := hB.size; omega) hbu
          have hBl := Nat.le_trans hBl hG.size
          have hS := hS5
          clear hS5 hG
          go_wp2_with fail
          refine (Hc2.out _ hS).mono ?_
          rintro e w6 ⟨rfl, hS5, hG⟩
          have hO := hO.kept hG (.inr (fun e => by have := (hO.lt _ e).1; omega))
          have hB := below_grown hB hG (by have := hB.size; omega) hbu
          have hBl := Nat.le_trans hBl hG.size
          have hS := hS5
          clear hS5 hG
          go_wp2_with fail
          go_roundw
          case rel => exact ⟨k + 1, by omega, by go_num, by rw [Hsn1.out]; try go_num, by rw [Hst1.out]; exact hO, hS, hB, hBl⟩
          case measure => simp [intOf]; omega
    · obtain rfl : k = n / 2 := by omega
      have hit : decide (((n / 2 : Nat) : Int) < ((n / 2 : Nat) : Int)) = false := decide_eq_false (by omega)
      have hit2 : decide (((n / 2 : Nat) : Int) < (n : Int) / 2) = false := decide_eq_false (by omega)
      obtain ⟨A, c, rfl, hI⟩ := own_ints hO
      go_wp2_with fail
      refine bodyPost_ret (results_tmp3 rfl _ _ _) rfl ?_
      exact ⟨A, c, rfl, hI.mono hwB, hB⟩


end EveI
end Go.Proofs.Ytddnlbahelgadaa
