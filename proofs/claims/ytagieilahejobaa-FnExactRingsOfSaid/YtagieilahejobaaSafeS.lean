/-
  The safest die of a row, by the specification.
-/
import Derived.Test.YtagieilahejobaaRows
import Derived.Test.YtagieilahejobaaRowW
import Derived.Test.YtagieilahejobaaRowsL
import Derived.Test.YtagieilahejobaaQuietR
import Derived.Test.YtagieilahejobaaQuietD
import Derived.Test.YtagieilahejobaaBestI
import Derived.Test.YtagieilahejobaaBestS
import Derived.Test.YtagieilahejobaaShelfMax
import Derived.Test.YtagieilahejobaaTopW
import Derived.Test.YtagieilahejobaaManyW
import Derived.Test.YtagieilahejobaaDicesW
import Derived.Test.YtagieilahejobaaWaysW
import Derived.Test.YtagieilahejobaaKnow
import Derived.Test.YtagieilahejobaaCmpW
import Derived.Test.YtagieilahejobaaCompS
import Derived.Test.YtagieilahejobaaDuel
import Derived.Test.YtagieilahejobaaDieW
import Derived.Test.YtagieilahejobaaSortW
import Derived.Test.YtagieilahejobaaOpenD
import Derived.WalkKit
import Derived.WalkLawsBesides
import Derived.WalkSpells
import Derived.ProofKit
import Derived.OpenShut
import Derived.Deep.RegionWith
import Derived.Deep.QuietTactic
import Derived.BigQuiet
namespace Go.Proofs.Ytagieilahejobaa
open Go.ChangeShapes Go.WideShapes Go.ChangeAt Go.RowKit
open Go.ChangeMaps (open_string shut_string)

namespace SafeS
open Dice Arr OpenD DieW SortW Duel CmpW Know WaysW CompS ManyW QuietD QuietR TopW DicesW BestS BestI RowsL RowW

/-- The least number of ways against the first j others. -/
def lo (P : Nat → Nat → Int) (i : Nat) : Nat → Int
  | 0 => 36
  | j + 1 => if j = i then lo P i j else min (lo P i j) (cw (P i) (P j) 36 0)
theorem lo_nn (P : Nat → Nat → Int) (i : Nat) : ∀ j, 0 ≤ lo P i j ∧ lo P i j ≤ 36 := by
  intro j
  induction j with
  | zero => exact ⟨(show (0 : Int) ≤ 36 by decide), (show (36 : Int) ≤ 36 by decide)⟩
  | succ j ih =>
    have := cw_bound (P i) (P j) 36 0
    rw [lo]
    split
    · exact ih
    · omega
def S (n : Nat) (P : Nat → Nat → Int) (i : Nat) : Int := lo P i n
theorem S_nn (n : Nat) (P : Nat → Nat → Int) : ∀ k, 0 ≤ S n P k := fun k => (lo_nn P k n).1
def outS (n : Nat) (P : Nat → Nat → Int) : Array Value := if many 6 n P then #[.int .i64 (top (S n P) n).1, .int .i64 (top (S n P) n).2, .bool true] else #[.int .i64 0, .int .i64 0, .bool false]
theorem row_cells {w : World} {A : Option Addr} {n : Nat} {P : Nat → Nat → Int} (h : Row w A n P) (hn : 0 < n) : ∃ bk o, A = some ⟨bk, o, none⟩ ∧ bk < w.heap.size ∧ ∀ t, t < n → ∀ k, k < 6 → w.cell? ⟨bk, o + (t * 6 + k), none⟩ = some (.int .i64 (P t k)) := by
  rcases h with h | ⟨b, o, hA, hl, hc⟩
  · omega
  · exact ⟨b, o, hA, hl, hc⟩

theorem least_min (a b : Int) (w : World) :
    Calls Try.prog 58 #[.int .i64 a, .int .i64 b] w fun e w' => e = .returned (.int .i64 (min a b)) ∧ w' = w := by
  by_cases h : a < b
  · rw [show min a b = a by omega]
    go_enter Try.func58, Try.ntmps58
    go_wp2
    go_ret
    exact ⟨rfl, rfl⟩
  · rw [show min a b = b by omega]
    go_enter Try.func58, Try.ntmps58
    go_wp2
    go_ret
    exact ⟨rfl, rfl⟩

set_option maxRecDepth 100000 in
set_option maxHeartbeats 4000000 in
theorem specSafe_any (A : Option Addr) (n c : Nat) (P : Nat → Nat → Int) (w : World) (h : Row w A n P) (hn : n ≤ maxLen) :
    Calls Try.prog 40 #[.slice A n c] w fun e w' => e = .returned (.tuple (outS n P)) ∧ Below w.heap.size w w' := by
  have hr := fun w h => l3Row_any A n c P w h hn
  have H := Lib.hid h; clear h
  unfold outS
  cases hq : many 6 n P
  · rw [hq] at hr
    simp only [Bool.false_eq_true, ↓reduceIte]
    have Hr := Lib.hid hr; clear hr hq
    go_enter Try.func40, Try.ntmps40
    go_wp2_with fail
    refine (Hr.out _ H.out).mono ?_
    rintro e w1 ⟨rfl, hb1⟩
    go_wp2_with fail
    go_ret3
    exact ⟨rfl, hb1⟩
  · obtain ⟨h1, h6, hp⟩ := of_many hq
    rw [hq] at hr
    simp only [↓reduceIte]
    have Hl0 := Lib.hid (fun x y w => l3Compare_any x y w)
    have Hmin0 := Lib.hid (fun a b w => least_min a b w)
    have Hr := Lib.hid hr; clear hr hq hp
    go_enter Try.func40, Try.ntmps40
    go_wp2_with fail
    refine (Hr.out _ H.out).mono ?_
    rintro e w1 ⟨rfl, hB1⟩
    obtain ⟨bk, o, rfl, hbk, hcw⟩ := row_cells H.out h1
    have Hcw := Lib.hid hcw; clear hcw
    clear Hr
    go_wp2_with fail
    go_loopw [5, 6, 7] (fun bv mv iv wr => ∃ i : Nat, i ≤ n ∧ iv = .int .i64 i ∧ bv = .int .i64 (top (S n P) i).1 ∧ mv = .int .i64 (top (S n P) i).2 ∧ Below w.heap.size w wr) (fun _ _ iv _ => n - (intOf iv).toNat)
    case atStart => exact ⟨0, by omega, rfl, rfl, rfl, hB1⟩
    case round =>
      clear hB1
      obtain ⟨i, hi, rfl, rfl, rfl, hB⟩ := hrel
      by_cases hlt : i < n
      · have hit : decide (i < n) = true := decide_eq_true hlt
        go_wp2_with fail
        go_loopw [8, 9] (fun lv jv wr => ∃ j : Nat, j ≤ n ∧ jv = .int .i64 j ∧ lv = .int .i64 (lo P i j) ∧ Below w.heap.size w wr) (fun _ jv _ => n - (intOf jv).toNat)
        case atStart => exact ⟨0, by omega, rfl, rfl, hB⟩
        case round =>
          clear hB
          obtain ⟨j, hj, rfl, rfl, hB⟩ := hrel
          by_cases hlj : j < n
          · have hjt : decide (j < n) = true := decide_eq_true hlj
            by_cases hji : j = i
            · subst hji
              have Hs : Hid (lo P j (j + 1) = lo P j j) := if_pos rfl
              go_wp2_with fail
              go_roundw
              case rel => exact ⟨j + 1, by omega, by go_num, by rw [Hs.out], hB⟩
              case measure => simp [intOf]; omega
            · have hjd : decide (j = i) = false := decide_eq_false hji
              have Hs : Hid (lo P i (j + 1) = min (lo P i j) (cw (P i) (P j) 36 0)) := if_neg hji
              have hl := Hl0.out (P i) (P j)
              unfold tri at hl
              have Hl := Lib.hid hl; clear hl
              have Hmin := Lib.hid (Hmin0.out (lo P i j) (cw (P i) (P j) 36 0))
              go_wp2_with fail
              refine wp_region_quiet (C := fun w' => Below w.heap.size w w') (by kernel_rfl) (by kernel_rfl) hB.drew ?_
              clear hB
              refine BigFrame.wpQuiet_want rfl (fun K hK => BigFrame.quiet_move _ rfl (hK _ ?_)); clear hK K; go_simp
              refine BigFrame.wpQuiet_want rfl (fun K hK => BigFrame.quiet_move _ rfl (hK _ ?_)); clear hK K; go_simp
              refine BigFrame.wpQuiet_want rfl (fun K hK => BigFrame.quiet_move _ rfl (hK _ ?_)); clear hK K; go_simp
              refine BigFrame.wpQuiet_want rfl (fun K hK => ?_); go_big_quiet_op; refine ⟨_, by intros; rfl, hK _ ?_⟩; clear hK K; go_simp
              refine BigFrame.wpQuiet_want rfl (fun K hK => quiet_ldo _ rfl rfl (fun _ h => at_row (fun k hk => Hcw.out i hlt k hk) hbk h) (hK _ ?_)); clear hK K; go_simp
              refine BigFrame.wpQuiet_want rfl (fun K hK => BigFrame.quiet_move _ rfl (hK _ ?_)); clear hK K; go_simp
              refine BigFrame.wpQuiet_want rfl (fun K hK => BigFrame.quiet_move _ rfl (hK _ ?_)); clear hK K; go_simp
              refine BigFrame.wpQuiet_want rfl (fun K hK => ?_); go_big_quiet_op; refine ⟨_, by intros; rfl, hK _ ?_⟩; clear hK K; go_simp
              refine BigFrame.wpQuiet_want rfl (fun K hK => quiet_ldo _ rfl rfl (fun _ h => at_row (fun k hk => Hcw.out j hlj k hk) hbk h) (hK _ ?_)); clear hK K; go_simp
              refine BigFrame.wpQuiet_want rfl (fun K hK => ⟨.agg #[.int .i64 (cw (P i) (P j) 36 0), .int .i64 (cw (P i) (P j) 36 1), .int .i64 (cw (P i) (P j) 36 2)], fun w' hw' => ?_, hK _ ?_⟩)
              · clear hK K
                have Hw := Lib.hid hw'; clear hw'
                go_simp
                refine (Hl.out _).mono ?_
                rintro e w5 ⟨rfl, hb⟩
                exact ⟨rfl, nx Hw.out hb⟩
              clear hK K; go_simp
              refine BigFrame.wpQuiet_want rfl (fun K hK => ?_); go_big_quiet_op; refine ⟨.int .i64 (cw (P i) (P j) 36 0), ?_, hK _ ?_⟩
              · intros
                rw [idx3]
                exact ⟨rfl, rfl⟩
              clear hK K; go_simp
              refine BigFrame.wpQuiet_want rfl (fun K hK => ⟨.int .i64 (min (lo P i j) (cw (P i) (P j) 36 0)), fun w' hw' => ?_, hK _ ?_⟩)
              · clear hK K
                have Hw := Lib.hid hw'; clear hw'
                go_simp
                refine (Hmin.out _).mono ?_
                rintro e w5 ⟨rfl, rfl⟩
                exact ⟨rfl, Hw.out⟩
              clear hK K; go_simp
              refine BigFrame.wpQuiet_want rfl (fun K hK => BigFrame.quiet_assign _ rfl (hK _ ?_)); clear hK K; go_simp
              refine wpQuiet_nil ?_
              intro w3 hB
              go_wp2_with fail
              go_roundw
              case rel => exact ⟨j + 1, by omega, by go_num, by rw [Hs.out], hB⟩
              case measure => simp [intOf]; omega
          · obtain rfl : j = n := by omega
            by_cases hgt : (top (S j P) i).2 < S j P i
            · have hgd : decide ((top (S j P) i).2 < lo P i j) = true := decide_eq_true hgt
              have Hs : Hid (top (S j P) (i + 1) = (i, lo P i j)) := if_pos hgt
              clear hgt
              go_wp2_with fail
              go_roundw
              case rel => exact ⟨i + 1, by omega, by go_num, by rw [Hs.out], by rw [Hs.out], hB⟩
              case measure => simp [intOf]; omega
            · have hgd : decide ((top (S j P) i).2 < lo P i j) = false := decide_eq_false hgt
              have Hs : Hid (top (S j P) (i + 1) = top (S j P) i) := if_neg hgt
              clear hgt
              go_wp2_with fail
              go_roundw
              case rel => exact ⟨i + 1, by omega, by go_num, by rw [Hs.out], by rw [Hs.out], hB⟩
              case measure => simp [intOf]; omega
      · obtain rfl : i = n := by omega
        go_wp2_with fail
        go_ret3
        exact ⟨rfl, hB⟩


end SafeS
end Go.Proofs.Ytagieilahejobaa
