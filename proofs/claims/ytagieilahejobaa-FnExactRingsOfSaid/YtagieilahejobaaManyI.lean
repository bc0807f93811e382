/-
  How many others each die of a row beats, in the program.
-/
import Derived.Test.YtagieilahejobaaRows
import Derived.Test.YtagieilahejobaaManyS
import Derived.Test.YtagieilahejobaaBeatI
import Derived.Test.YtagieilahejobaaIntsW
import Derived.Test.YtagieilahejobaaSafeI
import Derived.Test.YtagieilahejobaaSafeS
import Derived.Test.YtagieilahejobaaRowW
import Derived.Test.YtagieilahejobaaRowsL
import Derived.Test.YtagieilahejobaaQuietR
import Derived.Test.YtagieilahejobaaQuietD
import Derived.Test.YtagieilahejobaaBestI
import Derived.Test.YtagieilahejobaaBestS
import Derived.Test.YtagieilahejobaaShelfMax
import Derived.Test.YtagieilahejobaaTopW
import Derived.Test.YtagieilahejobaaManyW
import Derived.Test.YtagieilahejobaaDicesW
import Derived.Test.YtagieilahejobaaWaysW
import Derived.Test.YtagieilahejobaaKnow
import Derived.Test.YtagieilahejobaaCmpW
import Derived.Test.YtagieilahejobaaCompW
import Derived.Test.YtagieilahejobaaCompS
import Derived.Test.YtagieilahejobaaDuel
import Derived.Test.YtagieilahejobaaDieW
import Derived.Test.YtagieilahejobaaSortW
import Derived.Test.YtagieilahejobaaOpenD
import Derived.WalkKit
import Derived.WalkLawsBesides
import Derived.WalkSpells
import Derived.ProofKit
import Derived.OpenShut
import Derived.Deep.RegionWith
import Derived.Deep.QuietTactic
import Derived.BigQuiet
namespace Go.Proofs.Ytagieilahejobaa
open Go.ChangeShapes Go.WideShapes Go.ChangeAt Go.RowKit
open Go.ChangeMaps (open_string shut_string)

namespace ManyI
open Dice Arr OpenD DieW SortW Duel CmpW Know WaysW CompS CompW ManyW QuietD QuietR TopW DicesW BestS BestI RowsL RowW SafeS SafeI BeatI IntsW ManyS

set_option maxRecDepth 100000 in
set_option maxHeartbeats 8000000 in
theorem implBeaten_any (A : Option Addr) (n c : Nat) (P : Nat → Nat → Int) (w : World) (h : Row w A n P) (hn : n ≤ maxLen) :
    Calls Try.prog 43 #[.slice A n c] w fun e w' => ∃ A' c', e = .returned (.tuple #[.slice A' (lenB n P) c', .bool (many 6 n P)]) ∧ Ints w.heap.size w' A' (lenB n P) (C n P) ∧ Below w.heap.size w w' := by
  have hr := beatTable_any A n c P w h hn
  clear h
  unfold lenB
  cases hq : many 6 n P
  · rw [hq] at hr
    simp only [Bool.false_eq_true, ↓reduceIte]
    have Hr := Lib.hid hr; clear hr hq
    go_enter Try.func43, Try.ntmps43
    go_wp2_with fail
    refine Hr.out.mono ?_
    rintro e w1 ⟨v, rfl, hb1, _, _⟩
    go_wp2_with fail
    go_ret2
    exact ⟨_, _, rfl, .inl rfl, hb1⟩
  · obtain ⟨h1, h6, _⟩ := of_many hq
    rw [hq] at hr
    simp only [↓reduceIte]
    have Hr := Lib.hid hr; clear hr hq
    obtain ⟨i0, hi, hz0, hz1, hz2⟩ := info_parts info_int
    have Hi := Lib.hid (And.intro hi (And.intro hz0 (And.intro hz1 hz2)))
    clear hi hz0 hz1 hz2
    go_enter Try.func43, Try.ntmps43
    go_wp2_with fail
    refine Hr.out.mono ?_
    rintro e w1 ⟨v, rfl, hB1, hrows, _⟩
    obtain ⟨gr, cr, hR⟩ := hrows trivial
    obtain ⟨g, cg, rfl, hg, hgl, hgc⟩ := hR.head h1
    have Hgc := Lib.hid hgc; clear hgc
    have HR := Lib.hid hR; clear hR hrows
    clear Hr
    go_wp2_with fail
    go_loopw [6, 21] (fun v kv wr => ∃ k : Nat, k ≤ n ∧ kv = .int .i64 k ∧ wr.ownsRow w1.heap.size 3 1 v k (iv (C n P) k) ∧ Below w1.heap.size w1 wr) (fun _ kv _ => n - (intOf kv).toNat)
    case atStart => exact ⟨0, by omega, rfl, World.ownsRow_nil _ _ _ _, Below.refl _ _⟩
    case round =>
      obtain ⟨W0, rfl⟩ : ∃ W0, W0 = wr := ⟨wr, rfl⟩
      obtain ⟨i, hi, rfl, hO, hB⟩ := hrel
      by_cases hlt : i < n
      · have hit : decide (i < n) = true := decide_eq_true hlt
        have ci := (hB.cell (p := ⟨g, i, none⟩) hgl).trans (Hgc.out i hlt)
        have hl0 := (HR.out.inner_lt hlt).2
        have hsz := hB.size
        go_wp2_with fail
        clear ci
        go_loopw [9, 27] (fun lv jv wx => ∃ j : Nat, j ≤ n ∧ jv = .int .i64 j ∧ lv = .int .i64 (cnt P i j) ∧ wx = W0) (fun _ jv _ => n - (intOf jv).toNat)
        case atStart => exact ⟨0, by omega, rfl, rfl, rfl⟩
        case round =>
          obtain ⟨j, hj, rfl, rfl, rfl⟩ := hrel
          by_cases hlj : j < n
          · have hjt : decide (j < n) = true := decide_eq_true hlj
            have hcb := cnt_b P i j
            have c0 := (hB.cell (p := ⟨gr i, j, none⟩) hl0).trans ((HR.out.cell hlt (show j < n * 1 by omega)).trans (iv_get hlj))
            have hsg : (sg P i j == 1) = beats (P i) (P j) := sg_beats P i j
            cases hbt : beats (P i) (P j)
            · have Hs : Hid (cnt P i (j + 1) = cnt P i j) := by show (if beats (P i) (P j) then _ else _) = _; rw [hbt]; rfl
              rw [hbt] at hsg
              clear hbt
              go_wp2_with fail
              go_roundw
              case rel => exact ⟨j + 1, by omega, by go_num, by rw [Hs.out], by first | rfl | trivial⟩
              case measure => simp [intOf]; omega
            · have Hs : Hid (cnt P i (j + 1) = cnt P i j + 1) := by show (if beats (P i) (P j) then _ else _) = _; rw [hbt]; rfl
              rw [hbt] at hsg
              clear hbt
              go_wp2_with fail
              go_roundw
              case rel => exact ⟨j + 1, by omega, by go_num, by rw [Hs.out], by first | rfl | trivial⟩
              case measure => simp [intOf]; omega
          · obtain rfl : j = n := by omega
            go_wp2_with (at_builtin; refine wpList_append_own _ rfl _ _ 51 rfl w1.heap.size 3 i0 (.int .i64 0) 1 8 Try.underlying51 Hi.out.1 Hi.out.2.1 Hi.out.2.2.1 Hi.out.2.2.2 rfl (by decide) _ _ _ rfl (hO.alloc _) ⟨wr.heap.size, 0, none⟩ 1 1 [.int .i64 (cnt P i j)] rfl rfl ?c1 ?c2 ?c3 ?c4 ?c5 ?_)
            case c1 =>
              intro t u ht
              match t, ht with
              | 0, ht => simp at ht; subst ht; simp [Addr.add]
            case c2 => intro u hu; simp at hu; subst hu; rfl
            case c3 => unfold maxLen; omega
            case c4 => omega
            case c5 => simp; omega
            · intro v' w4 hO4 hg4 _
              have hB4 := (hB.alloc hsz (.cells #[.int .i64 (cnt P i j)] 3)).grown hg4 (by rw [size_alloc]; omega) (fun k e => (hO.lt k e).1)
              have hO5 : w4.ownsRow w1.heap.size 3 1 v' (i + 1) (iv (C j P) (i + 1)) := by rw [iv_succ]; exact hO4
              clear hg4 hO4 hO hB
              go_wp2_with fail
              go_roundw
              case rel => exact ⟨i + 1, by omega, by go_num, hO5, hB4⟩
              case measure => simp [intOf]; omega
      · obtain rfl : i = n := by omega
        obtain ⟨A', c', rfl, hI⟩ := ints_owned hO h1
        go_wp2_with fail
        go_ret2
        exact ⟨_, _, rfl, hI.mono hB1.size, hB1.trans (hB.mono hB1.size)⟩


end ManyI
end Go.Proofs.Ytagieilahejobaa
