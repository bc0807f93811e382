/-
  Contracts of the functions that tell the roll of an outcome.
-/
import Derived.Test.YtiiknpebphpeiaaRows
import Derived.Test.YtiiknpebphpeiaaIntsW
import Derived.Test.YtiiknpebphpeiaaDicesW
import Derived.Test.YtiiknpebphpeiaaPoolW
import Derived.Test.YtiiknpebphpeiaaAll6
import Derived.Test.YtiiknpebphpeiaaSortW
import Derived.Test.YtiiknpebphpeiaaOpenD
import Derived.WalkKit
import Derived.WalkLawsBesides
import Derived.WalkSpells
import Derived.ProofKit
import Derived.OpenShut
import Derived.Deep.RegionWith
import Derived.Deep.QuietTactic
import Derived.BigQuiet
namespace Go.Proofs.Ytiiknpebphpeiaa
open Go.ChangeShapes Go.WideShapes Go.ChangeAt Go.RowKit
open Go.ChangeMaps (open_string shut_string)

namespace RollW
open Dice Arr OpenD DieW SortW DicesW PoolW All6 IntsW

/-- The faces of the outcome with a number. -/
def rollF (P : Nat → Nat → Int) (N n i : Nat) : Int := P i (N / 6 ^ (n - 1 - i) % 6)
theorem info_int : (Try.prog.info? 3).map (fun i => (i.zero, i.size, i.bytes)) = some (some (.int .i64 0), 1, 8) := by kernel_rfl
theorem made_ints (n j : Nat) (h : j < n) : (madeCells (Value.int .i64 0).cells n).toList[j]? = some (.int .i64 0) := by
  have e2 : (madeCells (Value.int .i64 0).cells n) = (Array.range n).map fun _ => Value.int .i64 0 := by
    unfold madeCells
    congr 1
    funext k
    show (#[Value.int .i64 0] : Array Value)[k % 1]! = _
    rw [Nat.mod_one]
    rfl
  rw [e2]
  simp [h]
theorem div_next (N n k : Nat) (h : k + 1 ≤ n) : N / 6 ^ (n - (k + 1)) / 6 = N / 6 ^ (n - k) := by
  rw [Nat.div_div_eq_div_mul, ← Nat.pow_succ, show (n - (k + 1)).succ = n - k by omega]

set_option maxHeartbeats 2000000 in
theorem l2Roll_any (A : Option Addr) (n c N : Nat) (P : Nat → Nat → Int) (w : World) (h : Row w A n P) (h4 : n ≤ 4) (hN : N < 1296) :
    Calls Try.prog 93 #[.slice A n c, .int .i64 N] w fun e w' => ∃ g, e = .returned (.slice (some ⟨g, 0, none⟩) n n) ∧ w.heap.size ≤ g ∧ At w' g n (rollF P N n) ∧ Below w.heap.size w w' := by
  have H := Lib.hid h; clear h
  obtain ⟨i0, hi, hz0, hz1, hz2⟩ := info_parts info_int
  obtain ⟨w1, hr, hown1, hg1⟩ := run_make_full (P := Try.prog) w w.heap.size 39 3 i0 _ 1 Try.underlying39 hi hz0 hz1 .i64 .i64 n (by rw [hz2]; omega) (by unfold maxLen; omega) (Nat.le_refl _)
  have hb1 : Below w.heap.size w w1 := (Below.refl _ _).grown hg1 (Nat.le_refl _) (fun _ e => by cases e)
  have hA1 : At w1 w.heap.size n (fun _ => 0) := ⟨(hown1.lt _ rfl).2, fun k hk => by rw [hown1.cellAt k (by omega)]; exact made_ints _ _ (by omega), fun k => hown1.frozenAt k⟩
  clear hi hz0 hz1 hz2 hg1 hown1
  go_enter Try.func93, Try.ntmps93
  go_wp2_with fail
  have H1 := H.out.below (Nat.le_refl _) hb1
  obtain ⟨g, hgg⟩ : ∃ g, g = w.heap.size := ⟨_, rfl⟩
  rw [← hgg] at hA1 hb1 ⊢
  have Hgg : Hid (g = w.heap.size) := hgg; clear hgg
  go_loopw [1, 6] (fun nv i wr => ∃ (k M : Nat) (f : Nat → Int), k ≤ n ∧ i = .int .i64 ((k : Int) - 1) ∧ nv = .int .i64 M ∧ M < 1296 ∧ Hid (M = N / 6 ^ (n - k)) ∧ Below g w wr ∧ At wr g n f ∧ Hid (∀ m, k ≤ m → m < n → f m = rollF P N n m)) (fun _ i _ => (intOf i + 1).toNat)
  case atStart => exact ⟨n, N, fun _ => 0, Nat.le_refl _, rfl, rfl, hN, (by show N = N / 6 ^ (n - n); simp), hb1, hA1, fun m h1 h2 => by omega⟩
  case round =>
    clear hA1 hb1
    obtain ⟨k, M, f, hk, rfl, rfl, hM, hMN, hb, hA, he⟩ := hrel
    rcases k with _ | k
    · go_wp2_with fail
      go_ret
      exact ⟨g, rfl, Nat.le_of_eq Hgg.out.symm, hA.congr fun m hm => he.out m (Nat.zero_le _) hm, Hgg.out ▸ hb⟩
    · have hkn : k < n := by omega
      obtain ⟨bk, o, rfl, hbk, hc⟩ := (H.out.below (Nat.le_of_eq Hgg.out.symm) hb).at_ hkn
      obtain ⟨r, hr6, hrM⟩ : ∃ r : Nat, r < 6 ∧ r = M % 6 := ⟨M % 6, Nat.mod_lt _ (by omega), rfl⟩
      have cr := hc r hr6
      simp only [← Nat.add_assoc] at cr
      have cg := hA.cell k hkn
      have zg := hA.free k
      have hM6 : (M : Int).tmod 6 = r := by rw [hrM]; rfl
      have hM7 : (M : Int).tdiv 6 = ((M / 6 : Nat) : Int) := rfl
      have Hr := Lib.hid hrM; clear hrM
      clear hc
      have hki : (((k + 1 : Nat) : Int) - 1) = (k : Int) := by omega
      rw [hki]
      clear hki
      go_wp2_with fail
      go_roundw
      case rel =>
        refine ⟨k, M / 6, put f k (P k r), by omega, by first | rfl | go_num, by first | rfl | go_num, by omega, ?_, hb.setCell (p := ⟨g, k, none⟩) (Nat.le_refl _) _, hA.set hkn _, fun m h1 h2 => ?_⟩
        · show M / 6 = N / 6 ^ (n - k)
          rw [← div_next N n k hk, ← hMN.out]
        · by_cases hmk : m = k
          · subst hmk
            rw [put_same]
            unfold rollF
            rw [Hr.out, hMN.out, show n - (m + 1) = n - 1 - m by omega]
          · rw [put_other _ hmk]
            exact he.out m (by omega) h2
      case measure => simp [intOf]

/-- Whether there is an outcome with the number, and how long the answer is. -/
def okR (n : Nat) (P : Nat → Nat → Int) (k : Int) : Bool := isPool n P && decide (0 ≤ k ∧ k < (all6 n : Nat))
def lenR (n : Nat) (P : Nat → Nat → Int) (k : Int) : Nat := if okR n P k then n else 0
theorem no_pool {n : Nat} {P : Nat → Nat → Int} (k : Int) (h : isPool n P = false) : okR n P k = false ∧ lenR n P k = 0 := by
  have : okR n P k = false := by unfold okR; rw [h, Bool.false_and]
  exact ⟨this, by unfold lenR; rw [this]; rfl⟩
theorem no_number {n : Nat} (P : Nat → Nat → Int) {k : Int} (h : ¬ (0 ≤ k ∧ k < (all6 n : Nat))) : okR n P k = false ∧ lenR n P k = 0 := by
  have : okR n P k = false := by unfold okR; rw [decide_eq_false h, Bool.and_false]
  exact ⟨this, by unfold lenR; rw [this]; rfl⟩
theorem yes_roll {n : Nat} {P : Nat → Nat → Int} {k : Int} (hp : isPool n P = true) (h : 0 ≤ k ∧ k < (all6 n : Nat)) : okR n P k = true ∧ lenR n P k = n := by
  have : okR n P k = true := by unfold okR; rw [hp, decide_eq_true h]; rfl
  exact ⟨this, by unfold lenR; rw [this]; rfl⟩

set_option maxHeartbeats 2000000 in
theorem implRoll_any (A : Option Addr) (n c : Nat) (k : Int) (P : Nat → Nat → Int) (w : World) (h : Row w A n P) (hn : n ≤ maxLen) :
    Calls Try.prog 64 #[.slice A n c, .int .i64 k] w fun e w' => ∃ A' c', e = .returned (.tuple #[.slice A' (lenR n P k) c', .bool (okR n P k)]) ∧ Ints w.heap.size w' A' (lenR n P k) (rollF P k.toNat n) ∧ Below w.heap.size w w' := by
  have hp := fun w h => implIsPool_any A n c P w h hn
  have H := Lib.hid h; clear h
  cases hq : isPool n P
  · obtain ⟨e1, e2⟩ := no_pool k hq
    rw [e1, e2]
    rw [hq] at hp
    have Hp := Lib.hid hp; clear hp hq e1 e2
    go_enter Try.func64, Try.ntmps64
    go_wp2_with fail
    refine (Hp.out _ H.out).mono ?_
    rintro e w1 ⟨rfl, hb⟩
    go_wp2_with fail
    go_ret2
    exact ⟨_, _, rfl, .inl rfl, hb⟩
  obtain ⟨h1, h4, hd⟩ := of_pool hq
  have Ho := Lib.hid (fun w => outcomes_any n w h4)
  have h6 := all6_le h4
  by_cases hk : 0 ≤ k ∧ k < (all6 n : Nat)
  · obtain ⟨e1, e2⟩ := yes_roll hq hk
    rw [e1, e2]
    rw [hq] at hp
    have Hp := Lib.hid hp; clear hp hq e1 e2 hd
    obtain ⟨N, rfl⟩ : ∃ N : Nat, k = N := ⟨k.toNat, by omega⟩
    have hN : N < 1296 := by omega
    have hTN : decide (all6 n ≤ N) = false := decide_eq_false (by omega)
    have hN0 : decide ((N : Int) < 0) = false := decide_eq_false (by omega)
    rw [Int.toNat_natCast]
    clear hk h6
    generalize all6 n = T at *
    go_enter Try.func64, Try.ntmps64
    go_wp2_with fail
    refine (Hp.out _ H.out).mono ?_
    rintro e w1 ⟨rfl, hb⟩
    go_wp2_with fail
    refine (Ho.out _).mono ?_
    rintro e w2 ⟨rfl, rfl⟩
    obtain ⟨i0, hi, hz0, hz1, hz2⟩ := info_parts info_int
    obtain ⟨w3, hr, hown1, hg1⟩ := run_make_full (P := Try.prog) w2 w2.heap.size 39 3 i0 _ 1 Try.underlying39 hi hz0 hz1 .i64 .i64 n (by rw [hz2]; omega) (by unfold maxLen; omega) (Nat.le_refl _)
    have hb3 : Below w2.heap.size w2 w3 := (Below.refl _ _).grown hg1 (Nat.le_refl _) (fun _ e => by cases e)
    have hA3 : At w3 w2.heap.size n (fun _ => 0) := ⟨(hown1.lt _ rfl).2, fun k hk => by rw [hown1.cellAt k (by omega)]; exact made_ints _ _ (by omega), fun k => hown1.frozenAt k⟩
    clear hi hz0 hz1 hz2 hg1 hown1
    obtain ⟨g, hgg⟩ : ∃ g, g = w2.heap.size := ⟨_, rfl⟩
    rw [← hgg] at hA3 hb3 hr
    have Hgg : Hid (w.heap.size ≤ g ∧ g = w2.heap.size) := ⟨by rw [hgg]; exact hb.size, hgg⟩; clear hgg
    have Hb : Hid (Below w.heap.size w w2) := hb; clear hb
    go_wp2_with fail
    go_loopw [1, 7] (fun nv i wr => ∃ (k M : Nat) (f : Nat → Int), k ≤ n ∧ i = .int .i64 ((k : Int) - 1) ∧ nv = .int .i64 M ∧ M < 1296 ∧ Hid (M = N / 6 ^ (n - k)) ∧ Below g w2 wr ∧ At wr g n f ∧ Hid (∀ m, k ≤ m → m < n → f m = rollF P N n m)) (fun _ i _ => (intOf i + 1).toNat)
    case atStart => exact ⟨n, N, fun _ => 0, Nat.le_refl _, rfl, rfl, hN, (by show N = N / 6 ^ (n - n); simp), hb3, hA3, fun m h1 h2 => by omega⟩
    case round =>
      clear hA3 hb3 hr
      obtain ⟨k, M, f, hk, rfl, rfl, hM, hMN, hb, hA, he⟩ := hrel
      rcases k with _ | k
      · go_wp2_with fail
        go_ret2
        exact ⟨_, _, rfl, .inr ⟨g, rfl, Hgg.out.1, hA.congr fun m hm => he.out m (Nat.zero_le _) hm⟩, Hb.out.trans (hb.mono Hgg.out.1)⟩
      · have hkn : k < n := by omega
        obtain ⟨bk, o, rfl, hbk, hc⟩ := ((H.out.up Hb.out).below (Nat.le_of_eq Hgg.out.2.symm) hb).at_ hkn
        obtain ⟨r, hr6, hrM⟩ : ∃ r : Nat, r < 6 ∧ r = M % 6 := ⟨M % 6, Nat.mod_lt _ (by omega), rfl⟩
        have cr := hc r hr6
        simp only [← Nat.add_assoc] at cr
        have cg := hA.cell k hkn
        have zg := hA.free k
        have hM6 : (M : Int).tmod 6 = r := by rw [hrM]; rfl
        have hM7 : (M : Int).tdiv 6 = ((M / 6 : Nat) : Int) := rfl
        have Hr := Lib.hid hrM; clear hrM
        clear hc
        have hki : (((k + 1 : Nat) : Int) - 1) = (k : Int) := by omega
        rw [hki]
        clear hki
        go_wp2_with fail
        go_roundw
        case rel =>
          refine ⟨k, M / 6, put f k (P k r), by omega, by first | rfl | go_num, by first | rfl | go_num, by omega, ?_, hb.setCell (p := ⟨g, k, none⟩) (Nat.le_refl _) _, hA.set hkn _, fun m h1 h2 => ?_⟩
          · show M / 6 = N / 6 ^ (n - k)
            rw [← div_next N n k hk, ← hMN.out]
          · by_cases hmk : m = k
            · subst hmk
              rw [put_same]
              unfold rollF
              rw [Hr.out, hMN.out, show n - (m + 1) = n - 1 - m by omega]
            · rw [put_other _ hmk]
              exact he.out m (by omega) h2
        case measure => simp [intOf]
  · obtain ⟨e1, e2⟩ := no_number P hk
    rw [e1, e2]
    rw [hq] at hp
    have Hp := Lib.hid hp; clear hp hq e1 e2 hd
    by_cases hk0 : k < 0
    · have hkd : decide (k < 0) = true := decide_eq_true hk0
      clear hk h6 Ho
      go_enter Try.func64, Try.ntmps64
      go_wp2_with fail
      refine (Hp.out _ H.out).mono ?_
      rintro e w1 ⟨rfl, hb⟩
      go_wp2_with fail
      go_ret2
      exact ⟨_, _, rfl, .inl rfl, hb⟩
    · obtain ⟨N, rfl⟩ : ∃ N : Nat, k = N := ⟨k.toNat, by omega⟩
      have hTN : decide (all6 n ≤ N) = true := decide_eq_true (by omega)
      have hN0 : decide ((N : Int) < 0) = false := decide_eq_false (by omega)
      clear hk h6 hk0
      generalize all6 n = T at *
      go_enter Try.func64, Try.ntmps64
      go_wp2_with fail
      refine (Hp.out _ H.out).mono ?_
      rintro e w1 ⟨rfl, hb⟩
      go_wp2_with fail
      refine (Ho.out _).mono ?_
      rintro e w2 ⟨rfl, rfl⟩
      go_wp2_with fail
      go_ret2
      exact ⟨_, _, rfl, .inl rfl, hb⟩


end RollW
end Go.Proofs.Ytiiknpebphpeiaa
