/-
  The first best die of a row against a die, by the specification.
-/
import Derived.Test.YtagieilahejobaaRows
import Derived.Test.YtagieilahejobaaQuietR
import Derived.Test.YtagieilahejobaaQuietD
import Derived.Test.YtagieilahejobaaTopW
import Derived.Test.YtagieilahejobaaManyW
import Derived.Test.YtagieilahejobaaDicesW
import Derived.Test.YtagieilahejobaaCompS
import Derived.Test.YtagieilahejobaaDuel
import Derived.Test.YtagieilahejobaaDieW
import Derived.Test.YtagieilahejobaaSortW
import Derived.Test.YtagieilahejobaaOpenD
import Derived.WalkKit
import Derived.WalkLawsBesides
import Derived.WalkSpells
import Derived.ProofKit
import Derived.OpenShut
import Derived.Deep.RegionWith
import Derived.Deep.QuietTactic
import Derived.BigQuiet
namespace Go.Proofs.Ytagieilahejobaa
open Go.ChangeShapes Go.WideShapes Go.ChangeAt Go.RowKit
open Go.ChangeMaps (open_string shut_string)

namespace BestS
open Dice Arr OpenD DieW SortW Duel CompS ManyW QuietD QuietR TopW DicesW

/-- The ways in which a die of the row is greater. -/
def G (P : Nat → Nat → Int) (d : Nat → Int) (i : Nat) : Int := cw (P i) d 36 0
theorem G_nn (P : Nat → Nat → Int) (d : Nat → Int) : ∀ k, 0 ≤ G P d k := fun k => (cw_bound (P k) d 36 0).1
def okT (n : Nat) (P : Nat → Nat → Int) (d : Nat → Int) : Bool := many 6 n P && isDie d
def outT (n : Nat) (P : Nat → Nat → Int) (d : Nat → Int) : Array Value := if okT n P d then #[.int .i64 (top (G P d) n).1, .int .i64 (top (G P d) n).2, .bool true] else #[.int .i64 0, .int .i64 0, .bool false]

theorem idx3 (f : Nat → Int) (w : World) : Sem.run Try.prog (Instr.index 23 (.agg #[.int .i64 (f 0), .int .i64 (f 1), .int .i64 (f 2)]) (.int .i64 0)) w = .ok (.int .i64 (f 0)) w :=
  run_index_vals (P := Try.prog) w 23 3 3 Try.underlying23 Try.underlying3 Try.sizeOf3 f (k := 0) (by omega)

set_option maxRecDepth 100000 in
set_option maxHeartbeats 4000000 in
theorem specBest_any (A : Option Addr) (n c : Nat) (P : Nat → Nat → Int) (d : Nat → Int) (w : World) (h : Row w A n P) (hn : n ≤ maxLen) :
    Calls Try.prog 38 #[.slice A n c, dv d] w fun e w' => e = .returned (.tuple (outT n P d)) ∧ Below w.heap.size w w' := by
  have hr := fun w h => l3Row_any A n c P w h hn
  have hb := l2Die_any d
  have hD := At.new6 w d 22 (b := w.heap.size) rfl
  have hB := na (n0 w) (sixO d 22)
  have H := Lib.hid h; clear h
  unfold outT okT
  cases hq : many 6 n P
  · rw [hq] at hr
    simp only [Bool.false_and, Bool.false_eq_true, ↓reduceIte]
    have Hr := Lib.hid hr; clear hr hb hq
    unfold dv
    go_enter Try.func38, Try.ntmps38
    go_wp2_with fail
    refine (Hr.out _ (H.out.up hB)).mono ?_
    rintro e w1 ⟨rfl, hb1⟩
    go_wp2_with fail
    go_ret3
    exact ⟨rfl, nx hB hb1⟩
  obtain ⟨h1, h6, hp⟩ := of_many hq
  cases hqd : isDie d
  · rw [hq] at hr
    rw [hqd] at hb
    simp only [Bool.and_false, Bool.false_eq_true, ↓reduceIte]
    unfold dv at hb
    have Hr := Lib.hid hr; clear hr hq
    have Hb := Lib.hid hb; clear hb hqd hp
    unfold dv
    go_enter Try.func38, Try.ntmps38
    go_wp2_with fail
    refine (Hr.out _ (H.out.up hB)).mono ?_
    rintro e w1 ⟨rfl, hb1⟩
    obtain ⟨x0, x1, x2, x3, x4, x5⟩ := (hD.up hb1).six
    go_wp2_with fail
    refine (Hb.out _).mono ?_
    rintro e w2 ⟨rfl, hb2⟩
    go_wp2_with fail
    go_ret3
    exact ⟨rfl, nx (nx hB hb1) hb2⟩
  · rw [hq] at hr
    rw [hqd] at hb
    simp only [Bool.and_self, ↓reduceIte]
    unfold dv at hb
    have hl := fun x => l3Compare_any x d
    unfold tri at hl
    have Hl0 := Lib.hid hl; clear hl
    have Hr := Lib.hid hr; clear hr hq
    have Hb := Lib.hid hb; clear hb hqd hp
    unfold dv
    go_enter Try.func38, Try.ntmps38
    go_wp2_with fail
    refine (Hr.out _ (H.out.up hB)).mono ?_
    rintro e w1 ⟨rfl, hb1⟩
    obtain ⟨x0, x1, x2, x3, x4, x5⟩ := (hD.up hb1).six
    go_wp2_with fail
    refine (Hb.out _).mono ?_
    rintro e w2 ⟨rfl, hb2⟩
    have hD2 := (hD.up hb1).up hb2
    have hB2 := nx (nx hB hb1) hb2
    clear hb1 hb2 hD hB x0 x1 x2 x3 x4 x5
    go_wp2_with fail
    go_loopw [7, 8, 9] (fun bv mv iv wr => ∃ i : Nat, i ≤ n ∧ iv = .int .i64 i ∧ bv = .int .i64 (top (G P d) i).1 ∧ mv = .int .i64 (top (G P d) i).2 ∧ Below w.heap.size w wr ∧ At wr w.heap.size 6 d) (fun _ _ iv _ => n - (intOf iv).toNat)
    case atStart => exact ⟨0, by omega, rfl, rfl, rfl, hB2, hD2⟩
    case round =>
      clear hB2 hD2
      obtain ⟨i, hi, rfl, rfl, rfl, hB, hD⟩ := hrel
      by_cases hlt : i < n
      · obtain ⟨bk, o, rfl, hbk, hc⟩ := H.out.at_ hlt
        have hit : decide (i < n) = true := decide_eq_true hlt
        have Hl := Lib.hid (Hl0.out (P i))
        go_wp2_with fail
        refine wp_region_quiet (C := fun w' => Below w.heap.size w w' ∧ At w' w.heap.size 6 d) (by kernel_rfl) (by kernel_rfl) ⟨hB.drew, hD.drew⟩ ?_
        clear hB hD
        refine BigFrame.wpQuiet_want rfl (fun K hK => BigFrame.quiet_move _ rfl (hK _ ?_)); clear hK K; go_simp
        refine BigFrame.wpQuiet_want rfl (fun K hK => BigFrame.quiet_move _ rfl (hK _ ?_)); clear hK K; go_simp
        refine BigFrame.wpQuiet_want rfl (fun K hK => ?_); go_big_quiet_op; refine ⟨_, by intros; rfl, hK _ ?_⟩; clear hK K; go_simp
        refine BigFrame.wpQuiet_want rfl (fun K hK => quiet_ldo _ rfl rfl (fun _ h => at_row hc hbk h.1) (hK _ ?_)); clear hK K; go_simp
        refine BigFrame.wpQuiet_want rfl (fun K hK => quiet_ld6 _ rfl rfl (fun _ h => h.2) (hK _ ?_)); clear hK K; go_simp
        refine BigFrame.wpQuiet_want rfl (fun K hK => ⟨.agg #[.int .i64 (cw (P i) d 36 0), .int .i64 (cw (P i) d 36 1), .int .i64 (cw (P i) d 36 2)], fun w' hw' => ?_, hK _ ?_⟩)
        · clear hK K
          have Hw := Lib.hid hw'; clear hw'
          go_simp
          refine (Hl.out _).mono ?_
          rintro e w5 ⟨rfl, hb⟩
          exact ⟨rfl, nx Hw.out.1 hb, Hw.out.2.up hb⟩
        clear hK K; go_simp
        refine BigFrame.wpQuiet_want rfl (fun K hK => ?_); go_big_quiet_op; refine ⟨.int .i64 (cw (P i) d 36 0), ?_, hK _ ?_⟩
        · intros
          rw [idx3]
          exact ⟨rfl, rfl⟩
        clear hK K; go_simp
        refine BigFrame.wpQuiet_want rfl (fun K hK => BigFrame.quiet_assign _ rfl (hK _ ?_)); clear hK K; go_simp
        refine wpQuiet_nil ?_
        intro w3 hB hD
        by_cases hgt : (top (G P d) i).2 < cw (P i) d 36 0
        · have hgd : decide ((top (G P d) i).2 < cw (P i) d 36 0) = true := decide_eq_true hgt
          have Hs : Hid (top (G P d) (i + 1) = (i, cw (P i) d 36 0)) := if_pos hgt
          clear hgt
          go_wp2_with fail
          go_roundw
          case rel => exact ⟨i + 1, by omega, by go_num, by rw [Hs.out], by rw [Hs.out], hB, hD⟩
          case measure => simp [intOf]; omega
        · have hgd : decide ((top (G P d) i).2 < cw (P i) d 36 0) = false := decide_eq_false hgt
          have Hs : Hid (top (G P d) (i + 1) = top (G P d) i) := if_neg hgt
          clear hgt
          go_wp2_with fail
          go_roundw
          case rel => exact ⟨i + 1, by omega, by go_num, by rw [Hs.out], by rw [Hs.out], hB, hD⟩
          case measure => simp [intOf]; omega
      · obtain rfl : i = n := by omega
        go_wp2_with fail
        go_ret3
        exact ⟨rfl, hB⟩


end BestS
end Go.Proofs.Ytagieilahejobaa
