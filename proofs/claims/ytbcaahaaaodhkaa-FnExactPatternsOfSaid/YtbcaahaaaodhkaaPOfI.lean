/-
  PatternsOf, by the program.
-/
import Derived.Test.YtbcaahaaaodhkaaRows
import Derived.Test.YtbcaahaaaodhkaaFoursW
import Derived.Test.YtbcaahaaaodhkaaKeysW
import Derived.Test.YtbcaahaaaodhkaaPKey
import Derived.Test.YtbcaahaaaodhkaaShelfS4
import Derived.Test.YtbcaahaaaodhkaaPatC
import Derived.Test.YtbcaahaaaodhkaaPatS
import Derived.Test.YtbcaahaaaodhkaaPatsI
import Derived.Test.YtbcaahaaaodhkaaPlS
import Derived.Test.YtbcaahaaaodhkaaPatI
import Derived.Test.YtbcaahaaaodhkaaPlI
import Derived.Test.YtbcaahaaaodhkaaFour
import Derived.Test.YtbcaahaaaodhkaaPatM
import Derived.Test.YtbcaahaaaodhkaaSortDn
import Derived.Test.YtbcaahaaaodhkaaPlaces
import Derived.Test.YtbcaahaaaodhkaaRollWM
import Derived.Test.YtbcaahaaaodhkaaIntsM
import Derived.Test.YtbcaahaaaodhkaaPoolW
import Derived.Test.YtbcaahaaaodhkaaAll6
import Derived.Test.YtbcaahaaaodhkaaDicesW
import Derived.Test.YtbcaahaaaodhkaaOpenD
import Derived.WalkKit
import Derived.WalkLawsBesides
import Derived.WalkSpells
import Derived.ProofKit
import Derived.OpenShut
import Derived.Deep.RegionWith
import Derived.Deep.QuietTactic
import Derived.BigQuiet
namespace Go.Proofs.Ytbcaahaaaodhkaa
open Go.ChangeShapes Go.WideShapes Go.ChangeAt Go.RowKit
open Go.ChangeMaps (open_string shut_string)

namespace POfI
open Dice Arr OpenD DieW SortW DicesW PoolW All6 IntsW RollW Places PatM SortDn PlI Four PatI PatsI PlS PatS PatC PKey KeysW FoursW

/-- What both answer. -/
def outP (n : Nat) (P : Nat → Nat → Int) : List Key := if isPool n P then iss (kk P n) (all6 n) else []
theorem outP_len (n : Nat) (P : Nat → Nat → Int) : (outP n P).length ≤ 1296 := by
  unfold outP
  cases hq : isPool n P
  · exact Nat.zero_le _
  · have := iss_len (kk P n) (all6 n)
    have := (all6_le (of_pool hq).2.1)
    simp only [↓reduceIte]
    omega
theorem info4 : (Try.prog.info? 23).map (fun i => (i.zero, i.size, i.bytes)) = some (some (.agg #[.int .i64 0, .int .i64 0, .int .i64 0, .int .i64 0]), 4, 32) := by kernel_rfl

set_option maxRecDepth 20000 in
set_option maxHeartbeats 8000000 in
theorem implP_any (A : Option Addr) (n c : Nat) (P : Nat → Nat → Int) (w : World) (h : Row w A n P) (hn : n ≤ maxLen) :
    Calls Try.prog 20 #[.slice A n c] w fun e w' => ∃ A' c', e = .returned (.tuple #[.slice A' (outP n P).length c', .bool (isPool n P)]) ∧ Fours w.heap.size w' A' (outP n P).length (kf (outP n P)) ∧ Below w.heap.size w w' := by
  unfold outP
  cases hq : isPool n P
  · simp only [Bool.false_eq_true, ↓reduceIte]
    have Hp := Lib.hid (fun w h => pats_no A n c P w h hn hq)
    clear hq
    go_enter Try.func20, Try.ntmps20
    go_wp2_with fail
    refine (Hp.out _ h).mono ?_
    rintro e w1 ⟨rfl, hb⟩
    go_wp2_with fail
    go_ret2
    exact ⟨none, 0, rfl, .inl rfl, hb⟩
  simp only [↓reduceIte]
  have Hp := Lib.hid (fun w h => pats_yes A n c P w h hn hq)
  have h4 := (of_pool hq).2.1
  have h6 := all6_le h4
  have hfa : ∀ i q, q < 4 → patF P n (i * 4 + q) = dec (kk P n i) q := fun i q hq => by rw [patF_at P n i hq, dec_kk P h4 i q hq]
  have Hfa := Lib.hid hfa; clear hfa hq
  generalize patF P n = F at *
  generalize kk P n = κ at *
  generalize all6 n = N at *
  obtain ⟨i4, hi, hz0, hz1, hz2⟩ := info_parts info4
  have H4 := Lib.hid (And.intro hi (And.intro hz0 (And.intro hz1 hz2)))
  clear hi hz0 hz1 hz2
  go_enter Try.func20, Try.ntmps20
  go_wp2_with fail
  refine (Hp.out _ h).mono ?_
  rintro e w2 ⟨g, rfl, hg, hG, hb⟩
  have hgl := hG.lt
  have Hkeep := Lib.hid (And.intro hG hb)
  clear hG hb hg
  go_wp2_with fail
  go_loopw [6, 18] (fun v iv wr => ∃ k : Nat, k ≤ N ∧ iv = .int .i64 k ∧ wr.ownsRow w2.heap.size 23 4 v (dd κ k).length (kc (dd κ k)) ∧ Below w2.heap.size w2 wr) (fun _ iv _ => N - (intOf iv).toNat)
  case atStart => exact ⟨0, Nat.zero_le _, rfl, World.ownsRow_nil _ _ _ _, Below.refl _ _⟩
  case round =>
    obtain ⟨k, hk, rfl, hO, hB⟩ := hrel
    by_cases hlt : k < N
    · have hkt : decide (k < N) = true := decide_eq_true hlt
      have hGr := Hkeep.out.1.up hB
      obtain ⟨y0, y1, y2, y3⟩ := from4 hGr (k * 4) (by omega)
      rw [show F (k * 4) = dec (κ k) 0 from Hfa.out k 0 (by omega)] at y0
      rw [Hfa.out k 1 (by omega)] at y1
      rw [Hfa.out k 2 (by omega)] at y2
      rw [Hfa.out k 3 (by omega)] at y3
      have hln := dd_len κ k
      have hX := At.new4 wr (dec (κ k)) 23 rfl
      have hOa := hO.alloc (fourO (dec (κ k)) 23)
      have hBa := hB.alloc hB.size (fourO (dec (κ k)) 23)
      have hh := Lib.hid (fun v w h => has_any w2.heap.size v (dd κ k) (κ k) w h (by omega))
      have hst := @dd_new κ k
      have hso := @dd_old κ k
      have Hst := Lib.hid hst
      have Hso := Lib.hid hso
      clear hst hso hO hB hGr
      obtain ⟨x0, x1, x2, x3⟩ := At.four hX
      by_cases hin : κ k ∈ dd κ k
      · have hind : decide (κ k ∈ dd κ k) = true := decide_eq_true hin
        rw [hind] at hh
        have Hs := Lib.hid (Hso.out hin)
        clear Hso Hst hind hin
        generalize dec (κ k) = d at *
        go_wp2_with fail
        refine (hh.out _ _ hOa).mono ?_
        rintro e w3 ⟨rfl, hb⟩
        go_wp2_with fail
        go_roundw
        case rel => exact ⟨k + 1, by omega, by go_num, by rw [Hs.out]; exact hOa.kept (grown_of hb (Nat.le_refl _) none) (keep_none _), nx hBa hb⟩
        case measure => simp [intOf]; omega
      · have hind : decide (κ k ∈ dd κ k) = false := decide_eq_false hin
        rw [hind] at hh
        have Hs := Lib.hid (Hst.out hin)
        have Hkc := Lib.hid (kc_snoc (dd κ k) (κ k))
        have Hen := Lib.hid (show enc (κ k) = vals 4 (dec (κ k)) from rfl)
        clear Hso Hst hind hin
        generalize dec (κ k) = d at *
        go_wp2_with fail
        refine (hh.out _ _ hOa).mono ?_
        rintro e w3 ⟨rfl, hb⟩
        have hO3 := hOa.kept (grown_of hb (Nat.le_refl _) none) (keep_none _)
        have hB3 := nx hBa hb
        have hX3 := hX.up hb
        have hsz3 := hB3.size
        clear hOa hBa hb hX x0 x1 x2 x3 y0 y1 y2 y3
        obtain ⟨x0, x1, x2, x3⟩ := At.four hX3
        go_wp2_with (at_builtin; refine wpList_append_own _ rfl _ _ 35 rfl w2.heap.size 23 i4 (.agg #[.int .i64 0, .int .i64 0, .int .i64 0, .int .i64 0]) 4 32 Try.underlying35 H4.out.1 H4.out.2.1 H4.out.2.2.1 H4.out.2.2.2 rfl (by decide) _ _ _ rfl (hO3.alloc _) ⟨w3.heap.size, 0, none⟩ 1 1 [.int .i64 (d 0), .int .i64 (d 1), .int .i64 (d 2), .int .i64 (d 3)] rfl rfl ?c1 ?c2 ?c3 ?c4 ?c5 ?_)
        case c1 =>
          intro t u ht
          match t, ht with
          | 0, ht => simp at ht; subst ht; simp [Addr.add]
          | 1, ht => simp at ht; subst ht; simp [Addr.add]
          | 2, ht => simp at ht; subst ht; simp [Addr.add]
          | 3, ht => simp at ht; subst ht; simp [Addr.add]
        case c2 => intro u hu; simp at hu; rcases hu with rfl | rfl | rfl | rfl <;> rfl
        case c3 => unfold maxLen; omega
        case c4 => omega
        case c5 => simp; omega
        · intro v' w4 hO4 hg4 _
          have hB4 := (hB3.alloc hsz3 (.cells #[.int .i64 (d 0), .int .i64 (d 1), .int .i64 (d 2), .int .i64 (d 3)] 23)).grown hg4 (by rw [size_alloc]; omega) (fun t e => (hO3.lt t e).1)
          have hO5 : w4.ownsRow w2.heap.size 23 4 v' (dd κ (k + 1)).length (kc (dd κ (k + 1))) := by rw [Hs.out, Hkc.out, List.length_append, Hen.out]; exact hO4
          clear hg4 hO4 hO3 hB3
          go_wp2_with fail
          go_roundw
          case rel => exact ⟨k + 1, by omega, by go_num, hO5, hB4⟩
          case measure => simp [intOf]; omega
    · obtain rfl : k = N := by omega
      have hlen := dd_len κ k
      obtain ⟨A', c', rfl, hF⟩ := keys_own hO
      have hso := Lib.hid (sort_any w2.heap.size A' c' (dd κ k) wr hF hB.size (by omega))
      have hss := sorted_same κ k le_cf le_cf_eq
      have hll : (iss κ k).length = (dd κ k).length := by rw [← hss, List.length_mergeSort]
      rw [hss] at hso
      clear hF hO hss
      have Hll := Lib.hid hll; clear hll
      go_wp2_with fail
      refine hso.out.mono ?_
      rintro e w5 ⟨rfl, hF5, hb5⟩
      go_wp2_with fail
      go_ret2
      have hbw := Hkeep.out.2
      rw [Hll.out]
      exact ⟨_, _, rfl, hF5.mono hbw.size, hbw.trans ((hB.trans hb5).mono hbw.size)⟩


end POfI
end Go.Proofs.Ytbcaahaaaodhkaa
