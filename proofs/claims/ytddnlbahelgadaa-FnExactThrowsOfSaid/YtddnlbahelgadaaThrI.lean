/-
  ThrowsOf by the program.
-/
import Derived.Test.YtddnlbahelgadaaRows
import Derived.Test.YtddnlbahelgadaaArr
import Derived.Test.YtddnlbahelgadaaDieW
import Derived.Test.YtddnlbahelgadaaSortW
import Derived.Test.YtddnlbahelgadaaDicesW
import Derived.Test.YtddnlbahelgadaaOwnL
import Derived.Test.YtddnlbahelgadaaIntsW
import Derived.Test.YtddnlbahelgadaaIntsE
import Derived.Test.YtddnlbahelgadaaOpenI
import Derived.Test.YtddnlbahelgadaaOpenD
import Derived.Test.YtddnlbahelgadaaMadL
import Derived.Test.YtddnlbahelgadaaMadC
import Derived.Test.YtddnlbahelgadaaMadK
import Derived.Test.YtddnlbahelgadaaListK
import Derived.Test.YtddnlbahelgadaaThrS
import Derived.Test.YtddnlbahelgadaaOpenD
import Derived.WalkKit
import Derived.WalkLawsBesides
import Derived.WalkSpells
import Derived.ProofKit
import Derived.OpenShut
import Derived.Deep.RegionWith
import Derived.Deep.QuietTactic
import Derived.BigQuiet
namespace Go.Proofs.Ytddnlbahelgadaa
open Go.ChangeShapes Go.WideShapes Go.ChangeAt Go.RowKit
open Go.ChangeMaps (open_string shut_string)

namespace ThrI
open Dice Arr DieW SortW OwnL OpenG OpenD MadL MadC IntsW MadK ListK ThrS


set_option maxRecDepth 100000 in
set_option maxHeartbeats 4000000 in
theorem implTO_any (g n : Nat) (f : Nat → Int) (w : World) (hA : At w g n f) (hn : n ≤ 1048576) :
    Calls Try.prog 36 #[.slice (some ⟨g, 0, none⟩) n n] w fun e w' => ∃ A c, e = .returned (.tuple #[.slice A (oT n f).length c, .int .i64 (lfT n f), .bool (okM 40 2 n f)]) ∧ Ints w.heap.size w' A (oT n f).length (fun i => (oT n f).getD i 0) ∧ Below w.heap.size w w' := by
  have hth := fun w hA => bits_any g n f w hA hn
  have hgl := hA.lt
  cases ho : okM 40 2 n f
  · rw [ho] at hth
    have Hth := Lib.hid hth; clear hth
    have e : oT n f = [] := by simp [oT, ho]
    have e2 : lfT n f = 0 := by simp [lfT, ho]
    rw [e, e2]
    clear e e2 ho
    have hB := n0 w
    have HA := Lib.hid hA
    go_enter Try.func36, Try.ntmps36
    go_wp2_with fail
    refine (Hth.out _ HA.out).mono ?_
    rintro e w1 ⟨rfl, hw⟩
    have hw := hw.symm
    subst hw
    go_wp2_with fail
    refine bodyPost_ret (results_tmp3 rfl _ _ _) rfl ?_
    exact ⟨_, _, rfl, ints_empty, hB⟩
  rw [ho] at hth
  have Hth := Lib.hid hth; clear hth
  have e : oT n f = tl f (n / 3) := by simp [oT, ho]
  have e2 : lfT n f = ((n % 3 : Nat) : Int) := by simp [lfT, ho]
  rw [e, e2]
  clear e e2
  obtain ⟨h40, hf⟩ := of_okM ho
  clear ho
  have Htl := Lib.hid (tl_len f)
  have Hst : Hid (∀ k, tl f (k + 1) = if x3 f k < 6 then tl f k ++ [x3 f k] else tl f k) := fun k => rfl
  obtain ⟨i0, hi0, hz0, hz1, hz2⟩ := info_parts OwnL.info_int
  have Hi := Lib.hid (And.intro hi0 (And.intro hz0 (And.intro hz1 hz2)))
  clear hi0 hz0 hz1 hz2
  have Hso := Lib.hid (fun w hA => source_any g n f w hA)
  have Hnx := Lib.hid (fun (bu bl k : Nat) (hk : k < n / 3) w hS => next_any bu bl g n (3 * k) 3 2 f w hS (by omega) (by omega) (by omega) hf hn)
  have Hx : Hid (∀ k, k < n / 3 → nb 2 (fun i => f (3 * k + i)) 3 = x3 f k ∧ 0 ≤ x3 f k ∧ x3 f k ≤ 7) := fun k hk => by
    have f0 := hf (3 * k) (by omega)
    have f1 := hf (3 * k + 1) (by omega)
    have f2 := hf (3 * k + 2) (by omega)
    refine ⟨?_, ?_⟩
    · show ((0 * 2 + f (3 * k + 0)) * 2 + f (3 * k + 1)) * 2 + f (3 * k + 2) = 4 * f (3 * k) + 2 * f (3 * k + 1) + f (3 * k + 2)
      rw [Nat.add_zero]
      omega
    · unfold x3
      omega
  clear hf
  have hB := n0 w
  have HA := Lib.hid hA
  go_enter Try.func36, Try.ntmps36
  go_wp2_with fail
  refine (Hth.out _ HA.out).mono ?_
  rintro e w1 ⟨rfl, hw⟩
  have hw := hw.symm
  subst hw
  go_wp2_with fail
  refine (Hso.out _ HA.out).mono ?_
  rintro e w2 ⟨bu, bl, rfl, hS, hbu, hbl, hb2⟩
  have hB := nx hB hb2
  have hul := hS.1.lt
  have hll := hS.2.1.1
  obtain ⟨B2, hB2⟩ : ∃ B2, B2 = w2.heap.size := ⟨_, rfl⟩
  have hO := own_nil w2 B2
  have hgl2 := hS.2.2.1.lt
  rw [← hB2] at hul hll hgl2
  have hwB := hB.size
  rw [← hB2] at hwB
  clear hb2
  have hq3 : wrap64 ((n : Int) / 3) = ((n / 3 : Nat) : Int) := by unfold wrap64; omega
  go_wp2_with fail
  go_loopw [6, 16] (fun lv kv wr => ∃ k : Nat, k ≤ n / 3 ∧ kv = .int .i64 (k : Nat) ∧ wr.ownsRow B2 3 1 lv (tl f k).length ((tl f k).map mk) ∧ Src wr bu bl g n f (3 * k) ∧ Below w.heap.size w wr ∧ B2 ≤ wr.heap.size) (fun _ kv _ => n / 3 - (intOf kv).toNat)
  case atStart => exact ⟨0, by omega, rfl, hO, hS, hB, Nat.le_of_eq hB2⟩
  case round =>
    clear hO hS hB HA hB2
    obtain ⟨k, hk, rfl, hO, hS, hB, hBl⟩ := hrel
    by_cases hlt : k < n / 3
    · have hit : decide ((k : Int) < ((n / 3 : Nat) : Int)) = true := decide_eq_true (by omega)
      have hit2 : decide ((k : Int) < (n : Int) / 3) = true := decide_eq_true (by omega)
      have hitN : decide (k < n / 3) = true := decide_eq_true (by omega)
      have hst := Hst.out k
      have hlen := Htl.out k
      obtain ⟨hx1, hx2⟩ := Hx.out k hlt
      have hnx := fun w hS => Hnx.out bu bl k hlt w hS
      rw [hx1] at hnx
      obtain ⟨L, hL⟩ : ∃ L, L = tl f k := ⟨_, rfl⟩
      rw [← hL] at hO hst hlen
      clear hL hx1
      generalize x3 f k = x at *
      have Hnx1 := Lib.hid hnx; clear hnx
      have e3 : 3 * k + 3 = 3 * (k + 1) := by omega
      by_cases h6 : x < 6
      · rw [if_pos h6] at hst
        have Hst1 := Lib.hid hst; clear hst
        have hlt2 : decide (x < 6) = true := decide_eq_true h6
        go_wp2_with fail
        refine (Hnx1.out _ hS).mono ?_
        rintro e w5 ⟨rfl, hS5, hG⟩
        have hO := hO.kept hG (.inr (fun e => by have := (hO.lt _ e).1; omega))
        have hB := below_grown hB hG (by have := hB.size; omega) hbu
        have hBl := Nat.le_trans hBl hG.size
        rw [e3] at hS5
        have hS := hS5
        clear hS5 hG
        go_wp2_with (at_builtin; refine wpList_append_own _ rfl _ _ 22 rfl (B2) 3 i0 (.int .i64 0) 1 8 Try.underlying22 Hi.out.1 Hi.out.2.1 Hi.out.2.2.1 Hi.out.2.2.2 rfl (by decide) _ _ _ rfl (hO.alloc _) ⟨w5.heap.size, 0, none⟩ 1 1 [.int .i64 x] rfl rfl ?c1 ?c2 ?c3 ?c4 ?c5 ?_)
        case c1 => exact news_one (cell_one _ _ _)
        case c2 => intro u hu; simp at hu; subst hu; rfl
        case c3 => unfold maxLen; omega
        case c4 => omega
        case c5 => rw [size_alloc]; omega
        intro lv' wN hO4 hg4 _
        have hB4 := (na hB (.cells #[.int .i64 x] 3)).grown hg4 (by rw [size_alloc]; have := hB.size; omega) (fun t e => by have := (hO.lt t e).1; omega)
        have hS4 := (hS.past (.cells #[.int .i64 x] 3)).kept hg4 (fun e => by have := (hO.lt _ e.symm).1; omega) (fun e => by have := (hO.lt _ e.symm).1; omega) (fun e => by have := (hO.lt _ e.symm).1; omega)
        have hO4 := own_snoc hO4
        have hg4' := hg4
        clear hO hg4 hB hS
        have hBl4 := Nat.le_trans hBl (Nat.le_trans (by rw [size_alloc]; omega) hg4'.size)
        go_wp2_with fail
        go_roundw
        case rel => exact ⟨k + 1, by omega, by go_num, by rw [Hst1.out]; exact hO4, hS4, hB4, hBl4⟩
        case measure => simp [intOf]; omega
      · rw [if_neg h6] at hst
        have Hst1 := Lib.hid hst; clear hst
        have hlt2 : decide (x < 6) = false := decide_eq_false h6
        go_wp2_with fail
        refine (Hnx1.out _ hS).mono ?_
        rintro e w5 ⟨rfl, hS5, hG⟩
        have hO := hO.kept hG (.inr (fun e => by have := (hO.lt _ e).1; omega))
        have hB := below_grown hB hG (by have := hB.size; omega) hbu
        have hBl := Nat.le_trans hBl hG.size
        rw [e3] at hS5
        have hS := hS5
        clear hS5 hG
        go_wp2_with fail
        go_roundw
        case rel => exact ⟨k + 1, by omega, by go_num, by rw [Hst1.out]; exact hO, hS, hB, hBl⟩
        case measure => simp [intOf]; omega
    · obtain rfl : k = n / 3 := by omega
      have hit : decide (((n / 3 : Nat) : Int) < ((n / 3 : Nat) : Int)) = false := decide_eq_false (by omega)
      have hit2 : decide (((n / 3 : Nat) : Int) < (n : Int) / 3) = false := decide_eq_false (by omega)
      obtain ⟨A, c, rfl, hI⟩ := own_ints hO
      go_wp2_with fail
      refine bodyPost_ret (results_tmp3 rfl _ _ _) rfl ?_
      exact ⟨A, c, by first | rfl | simp, hI.mono hwB, hB⟩


end ThrI
end Go.Proofs.Ytddnlbahelgadaa
