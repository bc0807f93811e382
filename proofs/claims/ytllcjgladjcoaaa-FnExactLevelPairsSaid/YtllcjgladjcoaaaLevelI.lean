/-
  The level pairs of a row, in the program.
-/
import Derived.Test.YtllcjgladjcoaaaRows
import Derived.Test.YtllcjgladjcoaaaLevelS
import Derived.Test.YtllcjgladjcoaaaPairsW
import Derived.Test.YtllcjgladjcoaaaGridW
import Derived.Test.YtllcjgladjcoaaaTableS2
import Derived.Test.YtllcjgladjcoaaaRingI
import Derived.Test.YtllcjgladjcoaaaRingS
import Derived.Test.YtllcjgladjcoaaaManyI
import Derived.Test.YtllcjgladjcoaaaManyS
import Derived.Test.YtllcjgladjcoaaaAnyR
import Derived.Test.YtllcjgladjcoaaaBeatI
import Derived.Test.YtllcjgladjcoaaaIntsW
import Derived.Test.YtllcjgladjcoaaaSafeI
import Derived.Test.YtllcjgladjcoaaaSafeS
import Derived.Test.YtllcjgladjcoaaaRowW
import Derived.Test.YtllcjgladjcoaaaRowsL
import Derived.Test.YtllcjgladjcoaaaQuietR
import Derived.Test.YtllcjgladjcoaaaQuietD
import Derived.Test.YtllcjgladjcoaaaBestI
import Derived.Test.YtllcjgladjcoaaaBestS
import Derived.Test.YtllcjgladjcoaaaShelfMax
import Derived.Test.YtllcjgladjcoaaaTopW
import Derived.Test.YtllcjgladjcoaaaManyW
import Derived.Test.YtllcjgladjcoaaaDicesW
import Derived.Test.YtllcjgladjcoaaaWaysW
import Derived.Test.YtllcjgladjcoaaaKnow
import Derived.Test.YtllcjgladjcoaaaCmpW
import Derived.Test.YtllcjgladjcoaaaCompW
import Derived.Test.YtllcjgladjcoaaaCompS
import Derived.Test.YtllcjgladjcoaaaDuel
import Derived.Test.YtllcjgladjcoaaaDieW
import Derived.Test.YtllcjgladjcoaaaSortW
import Derived.Test.YtllcjgladjcoaaaOpenD
import Derived.WalkKit
import Derived.WalkLawsBesides
import Derived.WalkSpells
import Derived.ProofKit
import Derived.OpenShut
import Derived.Deep.RegionWith
import Derived.Deep.QuietTactic
import Derived.BigQuiet
namespace Go.Proofs.Ytllcjgladjcoaaa
open Go.ChangeShapes Go.WideShapes Go.ChangeAt Go.RowKit
open Go.ChangeMaps (open_string shut_string)

namespace LevelI
open Dice Arr OpenD DieW SortW Duel CmpW Know WaysW CompS CompW ManyW QuietD QuietR TopW DicesW BestS BestI RowsL RowW SafeS SafeI BeatI IntsW ManyS ManyI RingS RingI AnyR TableS2 GridW PairsW LevelS


set_option maxRecDepth 100000 in
set_option maxHeartbeats 16000000 in
theorem implLevel_any (A : Option Addr) (n c : Nat) (P : Nat → Nat → Int) (w : World) (h : Row w A n P) (hn : n ≤ maxLen) :
    Calls Try.prog 35 #[.slice A n c] w fun e w' => ∃ A' c', e = .returned (.tuple #[.slice A' (lenV n P) c', .bool (many 6 n P)]) ∧ Pairs w.heap.size w' A' (lenV n P) (pf (lpa P n n)) ∧ Below w.heap.size w w' := by
  have hr := beatTable_any A n c P w h hn
  clear h
  unfold lenV
  cases hq : many 6 n P
  · rw [hq] at hr
    simp only [Bool.false_eq_true, ↓reduceIte]
    have Hr := Lib.hid hr; clear hr hq
    go_enter Try.func35, Try.ntmps35
    go_wp2_with fail
    refine Hr.out.mono ?_
    rintro e w1 ⟨v, rfl, hb1, _, _⟩
    go_wp2_with fail
    go_ret2
    exact ⟨_, _, rfl, .inl rfl, hb1⟩
  · obtain ⟨h1, h6, _⟩ := of_many hq
    rw [hq] at hr
    simp only [↓reduceIte]
    have Hr := Lib.hid hr; clear hr hq
    obtain ⟨i2, hi, hz0, hz1, hz2⟩ := info_parts info2
    have H2 := Lib.hid (And.intro hi (And.intro hz0 (And.intro hz1 hz2)))
    clear hi hz0 hz1 hz2
    go_enter Try.func35, Try.ntmps35
    go_wp2_with fail
    refine Hr.out.mono ?_
    rintro e w1 ⟨v, rfl, hB1, hrows, _⟩
    obtain ⟨gr, cr, hR⟩ := hrows trivial
    obtain ⟨g, cg, rfl, hg, hgl, hgc⟩ := hR.head h1
    have Hgc := Lib.hid hgc; clear hgc
    have HR := Lib.hid hR; clear hR hrows
    clear Hr
    go_wp2_with fail
    go_loopw [6, 19] (fun v kv wr => ∃ i : Nat, i ≤ n ∧ kv = .int .i64 i ∧ wr.ownsRow w1.heap.size 63 2 v (lpa P n i).length (pc (lpa P n i)) ∧ Below w1.heap.size w1 wr) (fun _ kv _ => n - (intOf kv).toNat)
    case atStart => exact ⟨0, by omega, rfl, World.ownsRow_nil _ _ _ _, Below.refl _ _⟩
    case round =>
      obtain ⟨W0, rfl⟩ : ∃ W0, W0 = wr := ⟨wr, rfl⟩
      obtain ⟨i, hi, rfl, hO, hB⟩ := hrel
      by_cases hlt : i < n
      · have hit : decide (i < n) = true := decide_eq_true hlt
        have hla := Lib.hid (lpa_len P h6 i)
        have ci := (hB.cell (p := ⟨g, i, none⟩) hgl).trans (Hgc.out i hlt)
        have hl0 := (HR.out.inner_lt hlt).2
        go_wp2_with fail
        clear ci
        go_loopw [6, 9] (fun v kv wx => ∃ k : Nat, i + 1 ≤ k ∧ k ≤ n ∧ kv = .int .i64 k ∧ wx.ownsRow w1.heap.size 63 2 v (lpa P n i ++ lpk P i k).length (pc (lpa P n i ++ lpk P i k)) ∧ Below w1.heap.size w1 wx) (fun _ kv _ => n - (intOf kv).toNat)
        case atStart => exact ⟨i + 1, by omega, by omega, by go_num, by rw [lpk_nil P i (i + 1) (Nat.le_refl _), List.append_nil]; exact hO, hB⟩
        case round =>
          clear hO hB
          obtain ⟨k, hik, hk, rfl, hO, hB⟩ := hrel
          by_cases hlk : k < n
          · have hkt : decide (k < n) = true := decide_eq_true hlk
            have hlk2 := lpk_len P i k
            have hlen : (lpa P n i ++ lpk P i k).length ≤ 42 := by rw [List.length_append]; have := hla.out; omega
            have Hlen := Lib.hid hlen
            have HO := Lib.hid hO
            clear hlen hlk2 hO
            have c0 := (hB.cell (p := ⟨gr i, k, none⟩) hl0).trans ((HR.out.cell hlt (show k < n * 1 by omega)).trans (iv_get hlk))
            have hsg : (sg P i k == 0) = lvl P i k := sg_lvl P i k
            cases hbt : lvl P i k
            · have Hs : Hid (lpk P i (k + 1) = lpk P i k) := by show (if _ then _ else _) = _; rw [if_neg (fun h => by have := h.2; rw [hbt] at this; cases this)]
              rw [hbt] at hsg
              clear hbt
              go_wp2_with fail
              go_roundw
              case rel => exact ⟨k + 1, by omega, by omega, by go_num, by rw [Hs.out]; exact HO.out, hB⟩
              case measure => simp [intOf]; omega
            · have Hs : Hid (lpk P i (k + 1) = lpk P i k ++ [(i, k)]) := by show (if _ then _ else _) = _; rw [if_pos ⟨by omega, hbt⟩]
              rw [hbt] at hsg
              clear hbt
              have hsz3 := hB.size
              have hlen := Hlen.out
              have hO3 := HO.out
              go_wp2_with (at_builtin; refine wpList_append_own _ rfl _ _ 42 rfl w1.heap.size 63 i2 (.agg #[.int .i64 0, .int .i64 0]) 2 16 Try.underlying42 H2.out.1 H2.out.2.1 H2.out.2.2.1 H2.out.2.2.2 rfl (by decide) _ _ _ rfl (hO3.alloc _) ⟨wr.heap.size, 0, none⟩ 1 1 [.int .i64 (i : Int), .int .i64 (k : Int)] rfl rfl ?c1 ?c2 ?c3 ?c4 ?c5 ?_)
              case c1 =>
                intro t u ht
                match t, ht with
                | 0, ht => simp at ht; subst ht; simp [Addr.add]
                | 1, ht => simp at ht; subst ht; simp [Addr.add]
              case c2 => intro u hu; simp at hu; rcases hu with rfl | rfl <;> rfl
              case c3 => unfold maxLen; omega
              case c4 => omega
              case c5 => simp; omega
              · intro v' w4 hO4 hg4 _
                have hB4 := (hB.alloc hsz3 (.cells #[.int .i64 (i : Int), .int .i64 (k : Int)] 63)).grown hg4 (by rw [size_alloc]; omega) (fun t e => (hO3.lt t e).1)
                have hO5 : w4.ownsRow w1.heap.size 63 2 v' (lpa P n i ++ lpk P i (k + 1)).length (pc (lpa P n i ++ lpk P i (k + 1))) := by rw [Hs.out, ← List.append_assoc, pc_snoc, List.length_append, List.length_append]; exact hO4
                clear hg4 hO4 hO3 hB
                go_wp2_with fail
                go_roundw
                case rel => exact ⟨k + 1, by omega, by omega, by go_num, hO5, hB4⟩
                case measure => simp [intOf]; omega
          · obtain rfl : k = n := by omega
            go_wp2_with fail
            go_roundw
            case rel => exact ⟨i + 1, by omega, by go_num, hO, hB⟩
            case measure => simp [intOf]; omega
      · obtain rfl : i = n := by omega
        obtain ⟨A', c', rfl, hI⟩ := pairs_own hO
        go_wp2_with fail
        go_ret2
        exact ⟨_, _, rfl, hI.mono hB1.size, hB1.trans (hB.mono hB1.size)⟩


end LevelI
end Go.Proofs.Ytllcjgladjcoaaa
