/-
  The safest die of a row, in the program.
-/
import Derived.Test.YtagieilahejobaaRows
import Derived.Test.YtagieilahejobaaSafeS
import Derived.Test.YtagieilahejobaaRowW
import Derived.Test.YtagieilahejobaaRowsL
import Derived.Test.YtagieilahejobaaQuietR
import Derived.Test.YtagieilahejobaaQuietD
import Derived.Test.YtagieilahejobaaBestI
import Derived.Test.YtagieilahejobaaBestS
import Derived.Test.YtagieilahejobaaShelfMax
import Derived.Test.YtagieilahejobaaTopW
import Derived.Test.YtagieilahejobaaManyW
import Derived.Test.YtagieilahejobaaDicesW
import Derived.Test.YtagieilahejobaaWaysW
import Derived.Test.YtagieilahejobaaKnow
import Derived.Test.YtagieilahejobaaCmpW
import Derived.Test.YtagieilahejobaaCompS
import Derived.Test.YtagieilahejobaaDuel
import Derived.Test.YtagieilahejobaaDieW
import Derived.Test.YtagieilahejobaaSortW
import Derived.Test.YtagieilahejobaaOpenD
import Derived.WalkKit
import Derived.WalkLawsBesides
import Derived.WalkSpells
import Derived.ProofKit
import Derived.OpenShut
import Derived.Deep.RegionWith
import Derived.Deep.QuietTactic
import Derived.BigQuiet
namespace Go.Proofs.Ytagieilahejobaa
open Go.ChangeShapes Go.WideShapes Go.ChangeAt Go.RowKit
open Go.ChangeMaps (open_string shut_string)

namespace SafeI
open Dice Arr OpenD DieW SortW Duel CmpW Know WaysW CompS ManyW QuietD QuietR TopW DicesW BestS BestI RowsL RowW SafeS

theorem keep_none (v : Value) : v.ownBlock = none ∨ v.ownBlock ≠ none := by cases v.ownBlock <;> simp
set_option maxRecDepth 100000 in
set_option maxHeartbeats 4000000 in
theorem implSafe_any (A : Option Addr) (n c : Nat) (P : Nat → Nat → Int) (w : World) (h : Row w A n P) (hn : n ≤ maxLen) :
    Calls Try.prog 41 #[.slice A n c] w fun e w' => e = .returned (.tuple (outS n P)) ∧ Below w.heap.size w w' := by
  have hr := compareRow_any A n c P w h hn
  clear h
  unfold outS
  cases hq : many 6 n P
  · rw [hq] at hr
    simp only [Bool.false_eq_true, ↓reduceIte]
    have Hr := Lib.hid hr; clear hr hq
    go_enter Try.func41, Try.ntmps41
    go_wp2_with fail
    refine Hr.out.mono ?_
    rintro e w1 ⟨v, rfl, hb1, _, _⟩
    go_wp2_with fail
    go_ret3
    exact ⟨rfl, hb1⟩
  · obtain ⟨h1, h6, _⟩ := of_many hq
    rw [hq] at hr
    simp only [↓reduceIte]
    have Hr := Lib.hid hr; clear hr hq
    have Hm := Lib.hid (fun g n' c hn w hA => firstMost_any (S n P) (S_nn n P) g n' c hn w hA)
    obtain ⟨i0, hi, hz0, hz1, hz2⟩ := info_parts info_int
    have Hi := Lib.hid (And.intro hi (And.intro hz0 (And.intro hz1 hz2)))
    clear hi hz0 hz1 hz2
    go_enter Try.func41, Try.ntmps41
    go_wp2_with fail
    refine Hr.out.mono ?_
    rintro e w1 ⟨v, rfl, hB1, hrows, _⟩
    obtain ⟨gs, cs, hR⟩ := hrows trivial
    obtain ⟨g, cg, rfl, hg, hgl, hgc⟩ := hR.head h1
    have Hgc := Lib.hid hgc; clear hgc
    have HR := Lib.hid hR; clear hR hrows
    clear Hr
    go_wp2_with fail
    go_loopw [7, 24] (fun v kv wr => ∃ k : Nat, k ≤ n ∧ kv = .int .i64 k ∧ wr.ownsRow w1.heap.size 3 1 v k (iv (S n P) k) ∧ Below w1.heap.size w1 wr) (fun _ kv _ => n - (intOf kv).toNat)
    case atStart => exact ⟨0, by omega, rfl, World.ownsRow_nil _ _ _ _, Below.refl _ _⟩
    case round =>
      obtain ⟨W0, rfl⟩ : ∃ W0, W0 = wr := ⟨wr, rfl⟩
      obtain ⟨i, hi, rfl, hO, hB⟩ := hrel
      by_cases hlt : i < n
      · have hit : decide (i < n) = true := decide_eq_true hlt
        have ci := (hB.cell (p := ⟨g, i, none⟩) hgl).trans (Hgc.out i hlt)
        have hl0 := (HR.out.inner_lt hlt).2
        have hsz := hB.size
        go_wp2_with fail
        clear ci
        go_loopw [10, 31] (fun lv jv wx => ∃ j : Nat, j ≤ n ∧ jv = .int .i64 j ∧ lv = .int .i64 (lo P i j) ∧ Below W0.heap.size W0 wx) (fun _ jv _ => n - (intOf jv).toNat)
        case atStart => exact ⟨0, by omega, rfl, rfl, Below.refl _ _⟩
        case round =>
          obtain ⟨j, hj, rfl, rfl, hU⟩ := hrel
          have hBx := hB.trans (hU.mono hsz)
          by_cases hlj : j < n
          · have hjt : decide (j < n) = true := decide_eq_true hlj
            have hcell : ∀ c, c < 3 → wr.cell? ⟨gs i, j * 3 + c, none⟩ = some (.int .i64 (cw (P i) (P j) 36 c)) := fun c hc =>
              (hBx.cell (p := ⟨gs i, j * 3 + c, none⟩) hl0).trans ((HR.out.cell hlt (by omega)).trans (L3_get P i n j c hlj hc))
            have c0 := hcell 0 (by omega)
            have c1 := hcell 1 (by omega)
            have c2 := hcell 2 (by omega)
            simp only [Nat.add_zero] at c0
            clear hcell hBx
            by_cases hji : j = i
            · subst hji
              have Hs : Hid (lo P j (j + 1) = lo P j j) := if_pos rfl
              go_wp2_with fail
              go_roundw
              case rel => exact ⟨j + 1, by omega, by go_num, by rw [Hs.out], na hU _⟩
              case measure => simp [intOf]; omega
            · have hjd : decide (j = i) = false := decide_eq_false hji
              have Hs : Hid (lo P i (j + 1) = min (lo P i j) (cw (P i) (P j) 36 0)) := if_neg hji
              go_wp2_with fail
              go_roundw
              case rel => exact ⟨j + 1, by omega, by go_num, by rw [Hs.out], na hU _⟩
              case measure => simp [intOf]; omega
          · obtain rfl : j = n := by omega
            have hOx := hO.kept (grown_of hU (Nat.le_refl _) none) (keep_none _)
            have hsx : w1.heap.size ≤ wr.heap.size := hBx.size
            clear hU hO hB
            go_wp2_with (at_builtin; refine wpList_append_own _ rfl _ _ 51 rfl w1.heap.size 3 i0 (.int .i64 0) 1 8 Try.underlying51 Hi.out.1 Hi.out.2.1 Hi.out.2.2.1 Hi.out.2.2.2 rfl (by decide) _ _ _ rfl (hOx.alloc _) ⟨wr.heap.size, 0, none⟩ 1 1 [.int .i64 (lo P i j)] rfl rfl ?c1 ?c2 ?c3 ?c4 ?c5 ?_)
            case c1 =>
              intro t u ht
              match t, ht with
              | 0, ht => simp at ht; subst ht; simp [Addr.add]
            case c2 => intro u hu; simp at hu; subst hu; rfl
            case c3 => unfold maxLen; omega
            case c4 => omega
            case c5 => simp; omega
            · intro v' w4 hO4 hg4 _
              have hB4 := (hBx.alloc hsx (.cells #[.int .i64 (lo P i j)] 3)).grown hg4 (by rw [size_alloc]; omega) (fun k e => (hOx.lt k e).1)
              have hO5 : w4.ownsRow w1.heap.size 3 1 v' (i + 1) (iv (S j P) (i + 1)) := by rw [iv_succ]; exact hO4
              clear hg4 hO4 hOx hBx
              go_wp2_with fail
              go_roundw
              case rel => exact ⟨i + 1, by omega, by go_num, hO5, hB4⟩
              case measure => simp [intOf]; omega
      · obtain rfl : i = n := by omega
        obtain ⟨q, rfl⟩ : ∃ q, i = q + 1 := ⟨i - 1, by omega⟩
        obtain ⟨g', c', rfl, hg', hA⟩ := at_owned hO
        go_wp2_with fail
        refine (Hm.out g' q c' (by omega) _ hA).mono ?_
        rintro e w3 ⟨rfl, rfl⟩
        go_wp2_with fail
        go_ret3
        exact ⟨rfl, hB1.trans (hB.mono hB1.size)⟩


end SafeI
end Go.Proofs.Ytagieilahejobaa
