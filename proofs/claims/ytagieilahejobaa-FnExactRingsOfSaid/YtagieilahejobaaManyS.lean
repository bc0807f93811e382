/-
  How many others each die of a row beats, by the specification.
-/
import Derived.Test.YtagieilahejobaaRows
import Derived.Test.YtagieilahejobaaBeatI
import Derived.Test.YtagieilahejobaaIntsW
import Derived.Test.YtagieilahejobaaSafeI
import Derived.Test.YtagieilahejobaaSafeS
import Derived.Test.YtagieilahejobaaRowW
import Derived.Test.YtagieilahejobaaRowsL
import Derived.Test.YtagieilahejobaaQuietR
import Derived.Test.YtagieilahejobaaQuietD
import Derived.Test.YtagieilahejobaaBestI
import Derived.Test.YtagieilahejobaaBestS
import Derived.Test.YtagieilahejobaaShelfMax
import Derived.Test.YtagieilahejobaaTopW
import Derived.Test.YtagieilahejobaaManyW
import Derived.Test.YtagieilahejobaaDicesW
import Derived.Test.YtagieilahejobaaWaysW
import Derived.Test.YtagieilahejobaaKnow
import Derived.Test.YtagieilahejobaaCmpW
import Derived.Test.YtagieilahejobaaCompW
import Derived.Test.YtagieilahejobaaCompS
import Derived.Test.YtagieilahejobaaDuel
import Derived.Test.YtagieilahejobaaDieW
import Derived.Test.YtagieilahejobaaSortW
import Derived.Test.YtagieilahejobaaOpenD
import Derived.WalkKit
import Derived.WalkLawsBesides
import Derived.WalkSpells
import Derived.ProofKit
import Derived.OpenShut
import Derived.Deep.RegionWith
import Derived.Deep.QuietTactic
import Derived.BigQuiet
namespace Go.Proofs.Ytagieilahejobaa
open Go.ChangeShapes Go.WideShapes Go.ChangeAt Go.RowKit
open Go.ChangeMaps (open_string shut_string)

namespace ManyS
open Dice Arr OpenD DieW SortW Duel CmpW Know WaysW CompS CompW ManyW QuietD QuietR TopW DicesW BestS BestI RowsL RowW SafeS SafeI BeatI IntsW

/-- How many of the first j dice one beats. -/
def cnt (P : Nat → Nat → Int) (i : Nat) : Nat → Int
  | 0 => 0
  | j + 1 => if beats (P i) (P j) then cnt P i j + 1 else cnt P i j
theorem cnt_b (P : Nat → Nat → Int) (i : Nat) : ∀ j, 0 ≤ cnt P i j ∧ cnt P i j ≤ j := by
  intro j
  induction j with
  | zero => exact ⟨(show (0 : Int) ≤ 0 by decide), (show (0 : Int) ≤ 0 by decide)⟩
  | succ j ih =>
    rw [cnt]
    split <;> omega
def C (n : Nat) (P : Nat → Nat → Int) (i : Nat) : Int := cnt P i n
def lenB (n : Nat) (P : Nat → Nat → Int) : Nat := if many 6 n P then n else 0
theorem ints_owned {w : World} {B n : Nat} {v : Value} {F : Nat → Int} (h : w.ownsRow B 3 1 v n (iv F n)) (hn : 1 ≤ n) : ∃ A c, v = .slice A n c ∧ Ints B w A n F := by
  obtain ⟨q, rfl⟩ : ∃ q, n = q + 1 := ⟨n - 1, by omega⟩
  obtain ⟨g, c, hv, hg, hA⟩ := at_owned h
  exact ⟨_, c, hv, .inr ⟨g, rfl, hg, hA⟩⟩

set_option maxRecDepth 100000 in
set_option maxHeartbeats 8000000 in
theorem specBeaten_any (A : Option Addr) (n c : Nat) (P : Nat → Nat → Int) (w : World) (h : Row w A n P) (hn : n ≤ maxLen) :
    Calls Try.prog 42 #[.slice A n c] w fun e w' => ∃ A' c', e = .returned (.tuple #[.slice A' (lenB n P) c', .bool (many 6 n P)]) ∧ Ints w.heap.size w' A' (lenB n P) (C n P) ∧ Below w.heap.size w w' := by
  have hr := fun w h => l3Row_any A n c P w h hn
  have H := Lib.hid h; clear h
  unfold lenB
  have hB := na (n0 w) (.cells #[] 3)
  have hO0 : (w.alloc (.cells #[] 3)).ownsRow w.heap.size 3 1 (.slice (some ⟨w.heap.size, 0, none⟩) 0 0) 0 [] := World.ownsRow_made w #[] 0 (Nat.le_refl _) (by decide) rfl
  cases hq : many 6 n P
  · rw [hq] at hr
    simp only [Bool.false_eq_true, ↓reduceIte]
    have Hr := Lib.hid hr; clear hr hq hO0
    go_enter Try.func42, Try.ntmps42
    go_wp2_with fail
    refine (Hr.out _ (H.out.up hB)).mono ?_
    rintro e w1 ⟨rfl, hb1⟩
    go_wp2_with fail
    go_ret2
    exact ⟨_, _, rfl, .inl rfl, nx hB hb1⟩
  · obtain ⟨h1, h6, hp⟩ := of_many hq
    rw [hq] at hr
    simp only [↓reduceIte]
    have Hl0 := Lib.hid (fun x y w => l3Beats_any x y w)
    have Hr := Lib.hid hr; clear hr hq hp
    obtain ⟨i0, hi, hz0, hz1, hz2⟩ := info_parts info_int
    have Hi := Lib.hid (And.intro hi (And.intro hz0 (And.intro hz1 hz2)))
    clear hi hz0 hz1 hz2
    go_enter Try.func42, Try.ntmps42
    go_wp2_with fail
    refine (Hr.out _ (H.out.up hB)).mono ?_
    rintro e w1 ⟨rfl, hb1⟩
    have hB1 := nx hB hb1
    have hO1 := hO0.kept (grown_of hb1 (Nat.le_refl _) none) (keep_none _)
    clear hb1 hB hO0
    obtain ⟨bk, o, rfl, hbk, hcw⟩ := row_cells H.out h1
    have Hcw := Lib.hid hcw; clear hcw
    clear Hr
    go_wp2_with fail
    go_loopw [4, 5] (fun v kv wr => ∃ i : Nat, i ≤ n ∧ kv = .int .i64 i ∧ wr.ownsRow w.heap.size 3 1 v i (iv (C n P) i) ∧ Below w.heap.size w wr) (fun _ kv _ => n - (intOf kv).toNat)
    case atStart => exact ⟨0, by omega, rfl, hO1, hB1⟩
    case round =>
      clear hB1 hO1
      obtain ⟨i, hi, rfl, hO, hB⟩ := hrel
      by_cases hlt : i < n
      · have hit : decide (i < n) = true := decide_eq_true hlt
        go_wp2_with fail
        obtain ⟨W0, rfl⟩ : ∃ W0, W0 = wr := ⟨wr, rfl⟩
        go_loopw [6, 7] (fun lv jv wr => ∃ j : Nat, j ≤ n ∧ jv = .int .i64 j ∧ lv = .int .i64 (cnt P i j) ∧ Below W0.heap.size W0 wr ∧ Below w.heap.size w wr) (fun _ jv _ => n - (intOf jv).toNat)
        case atStart => exact ⟨0, by omega, rfl, rfl, n0 W0, hB⟩
        case round =>
          clear hB
          obtain ⟨j, hj, rfl, rfl, hU, hB⟩ := hrel
          by_cases hlj : j < n
          · have hjt : decide (j < n) = true := decide_eq_true hlj
            have hcb := cnt_b P i j
            have hl := Hl0.out (P i) (P j)
            cases hbt : beats (P i) (P j)
            · have Hs : Hid (cnt P i (j + 1) = cnt P i j) := by show (if beats (P i) (P j) then _ else _) = _; rw [hbt]; rfl
              rw [hbt] at hl
              have Hl := Lib.hid hl; clear hl hbt
              go_wp2_with fail
              refine wp_region_quiet (C := fun w' => Below W0.heap.size W0 w' ∧ Below w.heap.size w w') (by kernel_rfl) (by kernel_rfl) ⟨hU.drew, hB.drew⟩ ?_
              clear hB hU
              refine BigFrame.wpQuiet_want rfl (fun K hK => BigFrame.quiet_move _ rfl (hK _ ?_)); clear hK K; go_simp
              refine BigFrame.wpQuiet_want rfl (fun K hK => BigFrame.quiet_move _ rfl (hK _ ?_)); clear hK K; go_simp
              refine BigFrame.wpQuiet_want rfl (fun K hK => ?_); go_big_quiet_op; refine ⟨_, by intros; rfl, hK _ ?_⟩; clear hK K; go_simp
              refine BigFrame.wpQuiet_want rfl (fun K hK => quiet_ldo _ rfl rfl (fun _ h => at_row (fun k hk => Hcw.out i hlt k hk) hbk h.2) (hK _ ?_)); clear hK K; go_simp
              refine BigFrame.wpQuiet_want rfl (fun K hK => BigFrame.quiet_move _ rfl (hK _ ?_)); clear hK K; go_simp
              refine BigFrame.wpQuiet_want rfl (fun K hK => BigFrame.quiet_move _ rfl (hK _ ?_)); clear hK K; go_simp
              refine BigFrame.wpQuiet_want rfl (fun K hK => ?_); go_big_quiet_op; refine ⟨_, by intros; rfl, hK _ ?_⟩; clear hK K; go_simp
              refine BigFrame.wpQuiet_want rfl (fun K hK => quiet_ldo _ rfl rfl (fun _ h => at_row (fun k hk => Hcw.out j hlj k hk) hbk h.2) (hK _ ?_)); clear hK K; go_simp
              refine BigFrame.wpQuiet_want rfl (fun K hK => ⟨.bool false, fun w' hw' => ?_, hK _ ?_⟩)
              · clear hK K
                have Hw := Lib.hid hw'; clear hw'
                go_simp
                refine (Hl.out _).mono ?_
                rintro e w5 ⟨rfl, hb⟩
                exact ⟨rfl, nx Hw.out.1 hb, nx Hw.out.2 hb⟩
              clear hK K; go_simp
              refine wpQuiet_nil ?_
              intro w3 hU hB
              go_wp2_with fail
              go_roundw
              case rel => exact ⟨j + 1, by omega, by go_num, by rw [Hs.out], hU, hB⟩
              case measure => simp [intOf]; omega
            · have Hs : Hid (cnt P i (j + 1) = cnt P i j + 1) := by show (if beats (P i) (P j) then _ else _) = _; rw [hbt]; rfl
              rw [hbt] at hl
              have Hl := Lib.hid hl; clear hl hbt
              go_wp2_with fail
              refine wp_region_quiet (C := fun w' => Below W0.heap.size W0 w' ∧ Below w.heap.size w w') (by kernel_rfl) (by kernel_rfl) ⟨hU.drew, hB.drew⟩ ?_
              clear hB hU
              refine BigFrame.wpQuiet_want rfl (fun K hK => BigFrame.quiet_move _ rfl (hK _ ?_)); clear hK K; go_simp
              refine BigFrame.wpQuiet_want rfl (fun K hK => BigFrame.quiet_move _ rfl (hK _ ?_)); clear hK K; go_simp
              refine BigFrame.wpQuiet_want rfl (fun K hK => ?_); go_big_quiet_op; refine ⟨_, by intros; rfl, hK _ ?_⟩; clear hK K; go_simp
              refine BigFrame.wpQuiet_want rfl (fun K hK => quiet_ldo _ rfl rfl (fun _ h => at_row (fun k hk => Hcw.out i hlt k hk) hbk h.2) (hK _ ?_)); clear hK K; go_simp
              refine BigFrame.wpQuiet_want rfl (fun K hK => BigFrame.quiet_move _ rfl (hK _ ?_)); clear hK K; go_simp
              refine BigFrame.wpQuiet_want rfl (fun K hK => BigFrame.quiet_move _ rfl (hK _ ?_)); clear hK K; go_simp
              refine BigFrame.wpQuiet_want rfl (fun K hK => ?_); go_big_quiet_op; refine ⟨_, by intros; rfl, hK _ ?_⟩; clear hK K; go_simp
              refine BigFrame.wpQuiet_want rfl (fun K hK => quiet_ldo _ rfl rfl (fun _ h => at_row (fun k hk => Hcw.out j hlj k hk) hbk h.2) (hK _ ?_)); clear hK K; go_simp
              refine BigFrame.wpQuiet_want rfl (fun K hK => ⟨.bool true, fun w' hw' => ?_, hK _ ?_⟩)
              · clear hK K
                have Hw := Lib.hid hw'; clear hw'
                go_simp
                refine (Hl.out _).mono ?_
                rintro e w5 ⟨rfl, hb⟩
                exact ⟨rfl, nx Hw.out.1 hb, nx Hw.out.2 hb⟩
              clear hK K; go_simp
              refine wpQuiet_nil ?_
              intro w3 hU hB
              go_wp2_with fail
              go_roundw
              case rel => exact ⟨j + 1, by omega, by go_num, by rw [Hs.out], hU, hB⟩
              case measure => simp [intOf]; omega
          · obtain rfl : j = n := by omega
            have hOx := hO.kept (grown_of hU (Nat.le_refl _) none) (keep_none _)
            have hsx := hB.size
            clear hU hO
            go_wp2_with (at_builtin; refine wpList_append_own _ rfl _ _ 51 rfl w.heap.size 3 i0 (.int .i64 0) 1 8 Try.underlying51 Hi.out.1 Hi.out.2.1 Hi.out.2.2.1 Hi.out.2.2.2 rfl (by decide) _ _ _ rfl (hOx.alloc _) ⟨wr.heap.size, 0, none⟩ 1 1 [.int .i64 (cnt P i j)] rfl rfl ?c1 ?c2 ?c3 ?c4 ?c5 ?_)
            case c1 =>
              intro t u ht
              match t, ht with
              | 0, ht => simp at ht; subst ht; simp [Addr.add]
            case c2 => intro u hu; simp at hu; subst hu; rfl
            case c3 => unfold maxLen; omega
            case c4 => omega
            case c5 => simp; omega
            · intro v' w4 hO4 hg4 _
              have hB4 := (na hB (.cells #[.int .i64 (cnt P i j)] 3)).grown hg4 (by rw [size_alloc]; omega) (fun k e => (hOx.lt k e).1)
              have hO5 : w4.ownsRow w.heap.size 3 1 v' (i + 1) (iv (C j P) (i + 1)) := by rw [iv_succ]; exact hO4
              clear hg4 hO4 hOx hB
              go_wp2_with fail
              go_roundw
              case rel => exact ⟨i + 1, by omega, by go_num, hO5, hB4⟩
              case measure => simp [intOf]; omega
      · obtain rfl : i = n := by omega
        obtain ⟨A', c', rfl, hI⟩ := ints_owned hO h1
        go_wp2_with fail
        go_ret2
        exact ⟨_, _, rfl, hI, hB⟩


end ManyS
end Go.Proofs.Ytagieilahejobaa
