/-
  CountEven on both sides.
-/
import Derived.Test.YtiiknpebphpeiaaRows
import Derived.Test.YtiiknpebphpeiaaArr
import Derived.Test.YtiiknpebphpeiaaDieW
import Derived.Test.YtiiknpebphpeiaaSortW
import Derived.Test.YtiiknpebphpeiaaCEvM
import Derived.Test.YtiiknpebphpeiaaCEvW
import Derived.Test.YtiiknpebphpeiaaOpenD
import Derived.WalkKit
import Derived.WalkLawsBesides
import Derived.WalkSpells
import Derived.ProofKit
import Derived.OpenShut
import Derived.Deep.RegionWith
import Derived.Deep.QuietTactic
import Derived.BigQuiet
namespace Go.Proofs.Ytiiknpebphpeiaa
open Go.ChangeShapes Go.WideShapes Go.ChangeAt Go.RowKit
open Go.ChangeMaps (open_string shut_string)

namespace CEvI
open Dice Arr DieW SortW CEvM CEvW


theorem wrapN (N : Nat) (h : N ≤ 4096) : wrap64 (N : Int) = (N : Int) := by unfold wrap64; omega
theorem wrapU (N : Nat) (h : N ≤ 4096) : IntKind.u64.wrap (N : Int) = (N : Int) := by rw [IntKind.wrap_u64]; omega
def okE (k : Int) : Bool := decide (1 ≤ k ∧ k ≤ 6)
def vE (k : Int) : Int := if okE k then (ev k.toNat (2 ^ (2 * k.toNat)) : Nat) else 0
theorem oE_no {k : Int} (h : ¬ (1 ≤ k ∧ k ≤ 6)) : okE k = false ∧ vE k = 0 := by
  have e : okE k = false := decide_eq_false h
  exact ⟨e, by unfold vE; rw [e]; rfl⟩
theorem oE_yes {m : Nat} (h : 1 ≤ m ∧ m ≤ 6) : okE m = true ∧ vE m = (ev m (2 ^ (2 * m)) : Nat) := by
  have e : okE m = true := decide_eq_true (by omega)
  exact ⟨e, by unfold vE; rw [e, Int.toNat_natCast]; rfl⟩
set_option maxRecDepth 20000 in
set_option maxHeartbeats 4000000 in
theorem implE_any (k : Int) (w : World) :
    Calls Try.prog 58 #[.int .i64 k] w fun e w' => e = .returned (.tuple #[.int .i64 (vE k), .bool (okE k)]) ∧ Below w.heap.size w w' := by
  by_cases h : 1 ≤ k ∧ k ≤ 6
  case neg =>
    obtain ⟨e1, e2⟩ := oE_no h
    rw [e1, e2]
    clear e1 e2
    by_cases h1 : k < 1
    · have hd1 : decide (k < 1) = true := decide_eq_true h1
      clear h
      go_enter Try.func58, Try.ntmps58
      go_wp2_with fail
      go_ret2
      exact ⟨rfl, n0 _⟩
    · have hd1 : decide (k < 1) = false := decide_eq_false h1
      have hd2 : decide (6 < k) = true := decide_eq_true (by omega)
      clear h
      go_enter Try.func58, Try.ntmps58
      go_wp2_with fail
      go_ret2
      exact ⟨rfl, n0 _⟩
  obtain ⟨m, rfl⟩ : ∃ m : Nat, k = m := ⟨k.toNat, by omega⟩
  have hm1 : 1 ≤ m := by omega
  have hm6 : m ≤ 6 := by omega
  obtain ⟨e1, e2⟩ := oE_yes (m := m) ⟨hm1, hm6⟩
  rw [e1, e2]
  have hN : 2 ^ (2 * m) ≤ 4096 := Nat.le_trans (Nat.pow_le_pow_right (n := 2) (by omega) (show 2 * m ≤ 12 by omega)) (by decide)
  have hev : ∀ c, (on c (2 * m) = m ∧ 2 * bh c (2 * m) = m * m) → ev m (c + 1) = ev m c + 1 := fun c h => ev_yes h
  have hevn : ∀ c, ¬ (on c (2 * m) = m ∧ 2 * bh c (2 * m) = m * m) → ev m (c + 1) = ev m c := fun c h => ev_no h
  have hon : ∀ c, c < 2 ^ (2 * m) → on c 12 = on c (2 * m) := fun c hc => by
    have := on_more hc (12 - 2 * m)
    rw [show 2 * m + (12 - 2 * m) = 12 by omega] at this
    exact this
  have hsh : wrap64 ((2 : Int) ^ (2 * m)) = ((2 ^ (2 * m) : Nat) : Int) := by
    have e : (2 : Int) ^ (2 * m) = ((2 ^ (2 * m) : Nat) : Int) := by push_cast; rfl
    rw [e]; exact wrapN _ hN
  have hshu : IntKind.u64.wrap ((2 : Int) ^ (2 * m)) = ((2 ^ (2 * m) : Nat) : Int) := by
    have e : (2 : Int) ^ (2 * m) = ((2 ^ (2 * m) : Nat) : Int) := by push_cast; rfl
    rw [e]; exact wrapU _ hN
  have hkk : (m : Int) * (m : Int) = ((m * m : Nat) : Int) := by push_cast; rfl
  have hkl : m * m ≤ 36 := Nat.mul_le_mul hm6 hm6
  have h2m : (2 : Int) * (m : Int) = ((2 * m : Nat) : Int) := by push_cast; rfl
  have hK : 2 * m ≤ 12 := by omega
  generalize hKK : 2 * m = K at *
  generalize m * m = kk at *
  have Hev := Lib.hid hev; clear hev
  have Hevn := Lib.hid hevn; clear hevn
  have Hon := Lib.hid hon; clear hon
  have hel := Lib.hid (ev_le m)
  generalize 2 ^ K = N at *
  have HKK := Lib.hid hKK; clear hKK
  clear e1 e2 h
  have hd1 : decide ((m : Int) < 1) = false := decide_eq_false (by omega)
  have hd2 : decide (6 < (m : Int)) = false := decide_eq_false (by omega)
  have hd1N : decide (m < 1) = false := decide_eq_false (by omega)
  have hd2N : decide (6 < m) = false := decide_eq_false (by omega)
  have Ho := Lib.hid (fun c w hc => ones_any c w hc)
  have Hb := Lib.hid (fun c w hc => pairs_any c K w hc hK)
  clear hsh
  go_enter Try.func58, Try.ntmps58
  go_wp2_with fail
  go_loopw [4, 15] (fun ev' iv wr => ∃ c : Nat, c ≤ N ∧ iv = .int .u64 c ∧ ev' = .int .i64 (ev m c : Nat) ∧ wr = w) (fun _ iv _ => N - (intOf iv).toNat)
  case atStart => exact ⟨0, Nat.zero_le _, rfl, rfl, rfl⟩
  case round =>
    obtain ⟨c, hc, rfl, rfl, rfl⟩ := hrel
    by_cases hlt : c < N
    · have hit : decide ((c : Int) < (N : Int)) = true := decide_eq_true (by omega)
      have hitN : decide (c < N) = true := decide_eq_true hlt
      have hoc := Hon.out c hlt
      have hec := hel.out c
      have hbl : bh c K ≤ 144 := Nat.le_trans (bh_le c K) (Nat.mul_le_mul hK hK)
      have hol := on_le c K
      have hcu : IntKind.u64.wrap ((c : Int) + 1) = (c : Int) + 1 := by rw [IntKind.wrap_u64]; omega
      have Hyes := Lib.hid (Hev.out c)
      have Hno := Lib.hid (Hevn.out c)
      go_wp2_with fail
      refine (Ho.out c _ (by omega)).mono ?_
      rintro e w2 ⟨rfl, rfl⟩
      rw [hoc]
      by_cases ho : on c K = m
      · have hd : ((on c K : Int) == (m : Int)) = true := by simp [ho]
        generalize on c K = a at *
        go_wp2_with fail
        refine (Hb.out c _ (by omega)).mono ?_
        rintro e w2 ⟨rfl, rfl⟩
        have h2b : (2 : Int) * ((bh c K : Nat) : Int) = ((2 * bh c K : Nat) : Int) := by push_cast; rfl
        by_cases hb : 2 * bh c K = kk
        · have hn := Lib.hid (Hyes.out ⟨ho, hb⟩)
          have hdb : (((2 * bh c K : Nat) : Int) == (kk : Int)) = true := by simp [hb]
          generalize bh c K = b at *
          generalize 2 * b = b2 at *
          have Hb9 := Lib.hid hb; clear hb Hyes Hno ho
          go_wp2_with fail
          go_roundw
          case rel => exact ⟨c + 1, by omega, by go_num, by rw [hn.out]; go_num, by first | rfl | trivial⟩
          case measure => simp [intOf]; omega
        · have hn := Lib.hid (Hno.out fun e => hb e.2)
          have hdb : (((2 * bh c K : Nat) : Int) == (kk : Int)) = false := by simp; omega
          generalize bh c K = b at *
          generalize 2 * b = b2 at *
          have Hb9 := Lib.hid hb; clear hb Hyes Hno ho
          go_wp2_with fail
          go_roundw
          case rel => exact ⟨c + 1, by omega, by go_num, by rw [hn.out], by first | rfl | trivial⟩
          case measure => simp [intOf]; omega
      · have hd : ((on c K : Int) == (m : Int)) = false := by simp; omega
        have hn := Lib.hid (Hno.out fun e => ho e.1)
        generalize on c K = a at *
        clear ho Hyes Hno
        go_wp2_with fail
        go_roundw
        case rel => exact ⟨c + 1, by omega, by go_num, by rw [hn.out], by first | rfl | trivial⟩
        case measure => simp [intOf]; omega
    · have hcN : c = N := by omega
      have hit : decide ((c : Int) < (N : Int)) = false := decide_eq_false (by omega)
      have hitN : decide (c < N) = false := decide_eq_false (by omega)
      go_wp2_with fail
      go_ret2
      exact ⟨by rw [hcN]; rfl, n0 _⟩

set_option maxRecDepth 20000 in
set_option maxHeartbeats 4000000 in
theorem specE_any (k : Int) (w : World) :
    Calls Try.prog 57 #[.int .i64 k] w fun e w' => e = .returned (.tuple #[.int .i64 (vE k), .bool (okE k)]) ∧ Below w.heap.size w w' := by
  have Hin := Lib.hid (fun w => l1In_any k 1 6 w)
  by_cases h : 1 ≤ k ∧ k ≤ 6
  case neg =>
    obtain ⟨e1, e2⟩ := oE_no h
    rw [e1, e2]
    rw [decide_eq_false h] at Hin
    have Hin := Lib.hid Hin
    clear e1 e2 h
    go_enter Try.func57, Try.ntmps57
    go_wp2_with fail
    refine (Hin.out _).mono ?_
    rintro e w2 ⟨rfl, rfl⟩
    go_wp2_with fail
    go_ret2
    exact ⟨rfl, n0 _⟩
  rw [decide_eq_true h] at Hin
  have Hin := Lib.hid Hin
  obtain ⟨m, rfl⟩ : ∃ m : Nat, k = m := ⟨k.toNat, by omega⟩
  have hm1 : 1 ≤ m := by omega
  have hm6 : m ≤ 6 := by omega
  obtain ⟨e1, e2⟩ := oE_yes (m := m) ⟨hm1, hm6⟩
  rw [e1, e2]
  have hN : 2 ^ (2 * m) ≤ 4096 := Nat.le_trans (Nat.pow_le_pow_right (n := 2) (by omega) (show 2 * m ≤ 12 by omega)) (by decide)
  have hev : ∀ c, (on c (2 * m) = m ∧ 2 * bh c (2 * m) = m * m) → ev m (c + 1) = ev m c + 1 := fun c h => ev_yes h
  have hevn : ∀ c, ¬ (on c (2 * m) = m ∧ 2 * bh c (2 * m) = m * m) → ev m (c + 1) = ev m c := fun c h => ev_no h
  have hon : ∀ c, c < 2 ^ (2 * m) → on c 12 = on c (2 * m) := fun c hc => by
    have := on_more hc (12 - 2 * m)
    rw [show 2 * m + (12 - 2 * m) = 12 by omega] at this
    exact this
  have hsh : wrap64 ((2 : Int) ^ (2 * m)) = ((2 ^ (2 * m) : Nat) : Int) := by
    have e : (2 : Int) ^ (2 * m) = ((2 ^ (2 * m) : Nat) : Int) := by push_cast; rfl
    rw [e]; exact wrapN _ hN
  have hshu : IntKind.u64.wrap ((2 : Int) ^ (2 * m)) = ((2 ^ (2 * m) : Nat) : Int) := by
    have e : (2 : Int) ^ (2 * m) = ((2 ^ (2 * m) : Nat) : Int) := by push_cast; rfl
    rw [e]; exact wrapU _ hN
  have hkk : (m : Int) * (m : Int) = ((m * m : Nat) : Int) := by push_cast; rfl
  have hkl : m * m ≤ 36 := Nat.mul_le_mul hm6 hm6
  have h2m : (2 : Int) * (m : Int) = ((2 * m : Nat) : Int) := by push_cast; rfl
  have hK : 2 * m ≤ 12 := by omega
  generalize hKK : 2 * m = K at *
  generalize m * m = kk at *
  have Hev := Lib.hid hev; clear hev
  have Hevn := Lib.hid hevn; clear hevn
  have Hon := Lib.hid hon; clear hon
  have hel := Lib.hid (ev_le m)
  generalize 2 ^ K = N at *
  have HKK := Lib.hid hKK; clear hKK
  clear e1 e2 h
  clear hshu
  go_enter Try.func57, Try.ntmps57
  go_wp2_with fail
  refine (Hin.out _).mono ?_
  rintro e w2 ⟨rfl, rfl⟩
  go_wp2_with fail
  obtain ⟨W0, rfl⟩ : ∃ W0, W0 = w2 := ⟨w2, rfl⟩
  go_loopw [4, 5] (fun ev' iv wr => ∃ c : Nat, c ≤ N ∧ iv = .int .i64 c ∧ ev' = .int .i64 (ev m c : Nat) ∧ wr = W0) (fun _ iv _ => N - (intOf iv).toNat)
  case atStart => exact ⟨0, Nat.zero_le _, rfl, rfl, rfl⟩
  case round =>
    obtain ⟨c, hc, rfl, rfl, rfl⟩ := hrel
    by_cases hlt : c < N
    · have hit : decide ((c : Int) < (N : Int)) = true := decide_eq_true (by omega)
      have hitN : decide (c < N) = true := decide_eq_true hlt
      have hec := hel.out c
      have Hyes := Lib.hid (Hev.out c)
      have Hno := Lib.hid (Hevn.out c)
      go_wp2_with fail
      obtain ⟨W1, rfl⟩ : ∃ W1, W1 = wr := ⟨wr, rfl⟩
      go_loopw [6, 7, 8] (fun ov pv iv wr => ∃ i : Nat, i ≤ K ∧ iv = .int .i64 i ∧ pv = .int .i64 (bh c i : Nat) ∧ ov = .int .i64 (on c i : Nat) ∧ wr = W1) (fun _ _ iv _ => K - (intOf iv).toNat)
      case atStart => exact ⟨0, Nat.zero_le _, rfl, rfl, rfl, rfl⟩
      case round =>
        obtain ⟨i, hi, rfl, rfl, rfl, rfl⟩ := hrel
        by_cases hli : i < K
        · have hjt : decide ((i : Int) < (K : Int)) = true := decide_eq_true (by omega)
          have hjtN : decide (i < K) = true := decide_eq_true hli
          have hb := bit_i (c := c) (by omega) i
          have h1 := on_le c i
          have h2 : bh c i ≤ 144 := Nat.le_trans (bh_le c i) (Nat.mul_le_mul (show i ≤ 12 by omega) (show i ≤ 12 by omega))
          by_cases hbt : bt c i = 1
          · obtain ⟨e1, e2⟩ := on_hit hbt
            have hd : (((bt c i : Nat) : Int) == 1) = true := by rw [hbt]; rfl
            have E1 := Lib.hid e1; clear e1
            have E2 := Lib.hid e2; clear e2
            clear hbt
            generalize bt c i = t at *
            generalize on c i = a at *
            generalize bh c i = b at *
            go_wp2_with fail
            go_roundw
            case rel => exact ⟨i + 1, by omega, by go_num, by rw [E2.out], by rw [E1.out]; go_num, by first | rfl | trivial⟩
            case measure => simp [intOf]; omega
          · obtain ⟨e1, e2⟩ := on_miss hbt
            have hd : (((bt c i : Nat) : Int) == 1) = false := by simp; omega
            have E1 := Lib.hid e1; clear e1
            have E2 := Lib.hid e2; clear e2
            clear hbt
            generalize bt c i = t at *
            generalize on c i = a at *
            generalize bh c i = b at *
            go_wp2_with fail
            go_roundw
            case rel => exact ⟨i + 1, by omega, by go_num, by rw [E2.out]; go_num, by rw [E1.out], by first | rfl | trivial⟩
            case measure => simp [intOf]; omega
        · have hiK : i = K := by omega
          have hjt : decide ((i : Int) < (K : Int)) = false := decide_eq_false (by omega)
          have hjtN : decide (i < K) = false := decide_eq_false (by omega)
          rw [hiK]
          clear hiK hjt hjtN hli hi
          have hjt : decide ((K : Int) < (K : Int)) = false := decide_eq_false (by omega)
          have hjtN : decide (K < K) = false := decide_eq_false (by omega)
          have hbl : bh c K ≤ 144 := Nat.le_trans (bh_le c K) (Nat.mul_le_mul hK hK)
          have hol := on_le c K
          have h2b : (2 : Int) * ((bh c K : Nat) : Int) = ((2 * bh c K : Nat) : Int) := by push_cast; rfl
          by_cases ho : on c K = m
          · have hd : ((on c K : Int) == (m : Int)) = true := by simp [ho]
            generalize on c K = a at *
            by_cases hb : 2 * bh c K = kk
            · have hn := Lib.hid (Hyes.out ⟨ho, hb⟩)
              have hdb : (((2 * bh c K : Nat) : Int) == (kk : Int)) = true := by simp [hb]
              generalize bh c K = b at *
              generalize 2 * b = b2 at *
              have Hb9 := Lib.hid hb; clear hb Hyes Hno ho
              go_wp2_with fail
              go_roundw
              case rel => exact ⟨c + 1, by omega, by go_num, by rw [hn.out]; go_num, by first | rfl | trivial⟩
              case measure => simp [intOf]; omega
            · have hn := Lib.hid (Hno.out fun e => hb e.2)
              have hdb : (((2 * bh c K : Nat) : Int) == (kk : Int)) = false := by simp; omega
              generalize bh c K = b at *
              generalize 2 * b = b2 at *
              have Hb9 := Lib.hid hb; clear hb Hyes Hno ho
              go_wp2_with fail
              go_roundw
              case rel => exact ⟨c + 1, by omega, by go_num, by rw [hn.out], by first | rfl | trivial⟩
              case measure => simp [intOf]; omega
          · have hd : ((on c K : Int) == (m : Int)) = false := by simp; omega
            have hn := Lib.hid (Hno.out fun e => ho e.1)
            generalize on c K = a at *
            clear ho Hyes Hno
            go_wp2_with fail
            go_roundw
            case rel => exact ⟨c + 1, by omega, by go_num, by rw [hn.out], by first | rfl | trivial⟩
            case measure => simp [intOf]; omega
    · have hcN : c = N := by omega
      have hit : decide ((c : Int) < (N : Int)) = false := decide_eq_false (by omega)
      have hitN : decide (c < N) = false := decide_eq_false (by omega)
      go_wp2_with fail
      go_ret2
      exact ⟨by rw [hcN]; rfl, n0 _⟩


end CEvI
end Go.Proofs.Ytiiknpebphpeiaa
