/-
  Pairs like each other, both sides.
-/
import Derived.Test.YtjdijbidpcjjdaaRows
import Derived.Test.YtjdijbidpcjjdaaQuietR
import Derived.Test.YtjdijbidpcjjdaaQuietD
import Derived.Test.YtjdijbidpcjjdaaSameX
import Derived.Test.YtjdijbidpcjjdaaSameW
import Derived.Test.YtjdijbidpcjjdaaQuietT
import Derived.Test.YtjdijbidpcjjdaaScaleW
import Derived.Test.YtjdijbidpcjjdaaBndsX
import Derived.Test.YtjdijbidpcjjdaaSumsB
import Derived.Test.YtjdijbidpcjjdaaTableSM
import Derived.Test.YtjdijbidpcjjdaaTableIM
import Derived.Test.YtjdijbidpcjjdaaTableWM
import Derived.Test.YtjdijbidpcjjdaaTableM
import Derived.Test.YtjdijbidpcjjdaaSumsM
import Derived.Test.YtjdijbidpcjjdaaFracW
import Derived.Test.YtjdijbidpcjjdaaCutW
import Derived.Test.YtjdijbidpcjjdaaAll6
import Derived.Test.YtjdijbidpcjjdaaPoolW
import Derived.Test.YtjdijbidpcjjdaaDicesW
import Derived.Test.YtjdijbidpcjjdaaSortW
import Derived.Test.YtjdijbidpcjjdaaDieW
import Derived.Test.YtjdijbidpcjjdaaOpenD
import Derived.Test.YtjdijbidpcjjdaaArr
import Derived.Test.YtjdijbidpcjjdaaGoodW
import Derived.Test.YtjdijbidpcjjdaaPairA
import Derived.Test.YtjdijbidpcjjdaaLessW
import Derived.Test.YtjdijbidpcjjdaaSgnW
import Derived.WalkKit
import Derived.WalkLawsBesides
import Derived.WalkSpells
import Derived.ProofKit
import Derived.OpenShut
import Derived.Deep.RegionWith
import Derived.Deep.WholeRow
import Derived.Deep.QuietTactic
import Derived.BigQuiet
namespace Go.Proofs.Ytjdijbidpcjjdaa
open Go.ChangeShapes Go.WideShapes Go.ChangeAt Go.RowKit
open Go.ChangeMaps (open_string shut_string)

namespace LikeW
open Dice Arr OpenD DieW SortW DicesW PoolW FracW CutW SumsW Table TableW TableI TableS All6 ScaleW QuietT QuietD QuietR SameX LessW SgnW PairA GoodW

theorem two_die {a b : Nat → Int} (ha : isDie a = true) (hb : isDie b = true) : pooled (two a b) 2 := by
  intro i hi
  obtain rfl | rfl : i = 0 ∨ i = 1 := by omega
  · exact ha
  · exact hb
theorem two_pool {a b : Nat → Int} (ha : isDie a = true) (hb : isDie b = true) : isPool 2 (two a b) = true := pool_yes (by omega) (by omega) (two_die ha hb)
/-- The ways of the sums of two dice. -/
def wy (a b : Nat → Int) : Nat → Int := T (two a b) 2
theorem agree_scale (f g : Nat → Int) (k : Nat) (hk : 1 ≤ k) : decide (agree (scaleTo f k 121) (scaleTo g k 121) 121) = decide (agree f g 121) := by
  refine decide_eq_decide.2 ⟨fun h j hj => ?_, fun h j hj => ?_⟩
  · have h1 := h j hj
    simp only [scaleTo, hj, if_true] at h1
    exact Int.eq_of_mul_eq_mul_right (by omega) h1
  · simp only [scaleTo, hj, if_true]
    rw [h j hj]
def likeB (a b c d : Nat → Int) : Bool := decide (agree (wy a b) (wy c d) 121)
theorem same_like {a b c d : Nat → Int} (ha : isDie a = true) (hb : isDie b = true) (hc : isDie c = true) (hd : isDie d = true) : sameS 2 2 (two a b) (two c d) = likeB a b c d ∧ okS 2 2 (two a b) (two c d) = true := by
  have h : okS 2 2 (two a b) (two c d) = true := by unfold okS; rw [two_pool ha hb, two_pool hc hd]; rfl
  refine ⟨?_, h⟩
  unfold sameS likeB wy
  rw [h, agree_scale _ _ _ (all6_le (by omega)).2]
  rfl

set_option maxRecDepth 100000 in
set_option maxHeartbeats 4000000 in
theorem l5Ways_any (a b : Nat → Int) (ha : isDie a = true) (hb : isDie b = true) (w : World) :
    Calls Try.prog 43 #[dv a, dv b] w fun e w' => e = .returned (tv (wy a b)) ∧ Below w.heap.size w w' := by
  have Ht := Lib.hid (fun A c w h => l2Table_any A 2 c (two a b) w h (by omega) (two_die ha hb))
  unfold wy
  generalize T (two a b) 2 = t at *
  have hr := fresh ((w.alloc (sixO a 22)).alloc (sixO b 22)) (b := w.heap.size + 2) (by rw [size_alloc, size_alloc])
  have hB := na (na (na (n0 w) (sixO a 22)) (sixO b 22)) (.cells Try.zeroCells54 54)
  have ha := ((At.new6 w a 22 rfl).past (sixO b 22)).past (.cells Try.zeroCells54 54)
  have hb := (At.new6 (w.alloc (sixO a 22)) b 22 (b := w.heap.size + 1) (by rw [size_alloc])).past (.cells Try.zeroCells54 54)
  obtain ⟨a0, a1, a2, a3, a4, a5⟩ := ha.six
  obtain ⟨b0, b1, b2, b3, b4, b5⟩ := hb.six
  have hvt := vals_len 121 t
  unfold dv
  go_enter Try.func43, Try.ntmps43
  go_wp2_with fail
  have hWs : (((w.alloc (sixO a 22)).alloc (sixO b 22)).alloc (.cells Try.zeroCells54 54)).heap.size = w.heap.size + 1 + 1 + 1 := by rw [size_alloc, size_alloc, size_alloc]
  generalize ((w.alloc (sixO a 22)).alloc (sixO b 22)).alloc (.cells Try.zeroCells54 54) = W at *
  have hrow := row_two (At.new12 W a b 22 rfl)
  rw [hWs] at hrow
  have hr := hr.past (twO a b 22)
  have hB := na hB (twO a b 22)
  refine (Ht.out _ _ _ hrow).mono ?_
  rintro e w1 ⟨rfl, hb1⟩
  have hr := hr.up hb1
  have hB := nx hB hb1
  clear hb1 hrow ha hb a0 a1 a2 a3 a4 a5 b0 b1 b2 b3 b4 b5 hWs
  obtain ⟨w2, hst, hA2, hB2, hK2⟩ := store_ex hr t
  go_wp2_with fail
  exact ret_cell (b := w.heap.size + 2) (n := 121) (f := t) Try.results43 rfl Try.underlying54 size_run hA2 rfl ⟨rfl, hB.trans (hB2 _ (by omega))⟩
section
variable {C : World → Prop} {K : Act → Prop} {a : Act} {o : Oper}
theorem lo_at {w : World} {p : Nat} {a b : Nat → Int} (h : At w p 12 (pr a b)) : ∀ k, k < 6 → w.cell? ⟨p, 0 + k, none⟩ = some (.int .i64 (a k)) := fun k hk => by
  rw [Nat.zero_add, ← pr_lo a b hk]
  exact h.cell k (by omega)
theorem hi_at {w : World} {p : Nat} {a b : Nat → Int} (h : At w p 12 (pr a b)) : ∀ k, k < 6 → w.cell? ⟨p, 6 + k, none⟩ = some (.int .i64 (b k)) := fun k hk => by
  rw [← pr_hi a b k]
  exact h.cell (6 + k) (by omega)
theorem size12L : (Try.prog.info? 24).map (·.size) = some 12 := by kernel_rfl
theorem quiet_ld12L (x : Operand) (ho : o.op = .load 24 x) {b : Nat} {f g : Nat → Int} (hx : a.eval x = .pointer (some ⟨b, 0, none⟩)) (hC : ∀ w, C w → At w b 12 (pr f g))
    (hk : K (a.put o.dst (pv f g))) : o.quiet Try.prog a C K :=
  ⟨pv f g, fun w hw => by
    unfold Oper.quietAt execOp
    simp only [ho, hx, Instr.loadAt, Instr.sureAddr, Sem.run_bind, Sem.run_pure, Result.andThen_ok, At.loadVarS (hC w hw) Try.underlying24 size12L]
    exact ⟨rfl, rfl⟩, hk⟩
end
noncomputable def likeO (a b c d : Nat → Int) : Bool := isPr a b && isPr c d && likeB a b c d
set_option maxRecDepth 100000 in
set_option maxHeartbeats 8000000 in
theorem specLike_any (a b c d : Nat → Int) (w : World) :
    Calls Try.prog 19 #[pv a b, pv c d] w fun e w' => e = .returned (.tuple #[.bool (likeO a b c d), .bool (isPr a b && isPr c d)]) ∧ Below w.heap.size w w' := by
  have hg := l5Good_any a b
  have hg2 := l5Good_any c d
  have hp := (At.new12 w a b 26 rfl).past (twO c d 26)
  have hq := At.new12 (w.alloc (twO a b 26)) c d 26 (p := w.heap.size + 1) (by rw [size_alloc])
  have hB := na (na (n0 w) (twO a b 26)) (twO c d 26)
  unfold likeO
  cases hx : isPr a b
  · rw [hx] at hg
    unfold pv at hg
    have Hg := Lib.hid hg; clear hg hx hg2
    simp only [Bool.false_and]
    unfold pv
    go_enter Try.func19, Try.ntmps19
    go_wp2_with fail
    refine (Hg.out _).mono ?_
    rintro e w1 ⟨rfl, hb1⟩
    go_wp2_with fail
    go_ret2
    exact ⟨rfl, nx hB hb1⟩
  · rw [hx] at hg
    unfold pv at hg
    have Hg := Lib.hid hg; clear hg
    cases hy : isPr c d
    · rw [hy] at hg2
      unfold pv at hg2
      have Hg2 := Lib.hid hg2; clear hg2 hx hy
      simp only [Bool.and_false, Bool.false_and]
      unfold pv
      go_enter Try.func19, Try.ntmps19
      go_wp2_with fail
      refine (Hg.out _).mono ?_
      rintro e w1 ⟨rfl, hb1⟩
      have hB := nx hB hb1
      obtain ⟨c0, c1, c2, c3, c4, c5, c6, c7, c8, c9, c10, c11⟩ := At.twelve (hq.up hb1)
      clear hb1
      go_wp2_with fail
      refine (Hg2.out _).mono ?_
      rintro e w2 ⟨rfl, hb1⟩
      go_wp2_with fail
      go_ret2
      exact ⟨rfl, nx hB hb1⟩
    · rw [hy] at hg2
      unfold pv at hg2
      have Hg2 := Lib.hid hg2; clear hg2
      obtain ⟨da, db⟩ : isDie a = true ∧ isDie b = true := by
        unfold isPr at hx
        simp only [Bool.and_eq_true] at hx
        exact ⟨hx.1.1, hx.1.2⟩
      obtain ⟨dc, dd⟩ : isDie c = true ∧ isDie d = true := by
        unfold isPr at hy
        simp only [Bool.and_eq_true] at hy
        exact ⟨hy.1.1, hy.1.2⟩
      simp only [Bool.and_self, Bool.true_and]
      clear hx hy
      have hw1 := l5Ways_any a b da db
      have hw2 := l5Ways_any c d dc dd
      unfold likeB
      generalize wy a b = f at *
      generalize wy c d = g at *
      unfold dv at hw1 hw2
      have Hw1 := Lib.hid hw1; clear hw1
      have Hw2 := Lib.hid hw2; clear hw2
      clear da db dc dd
      unfold pv
      go_enter Try.func19, Try.ntmps19
      go_wp2_with fail
      refine (Hg.out _).mono ?_
      rintro e w1 ⟨rfl, hb1⟩
      have hB := nx hB hb1
      have hp := hp.up hb1
      have hq := hq.up hb1
      obtain ⟨c0, c1, c2, c3, c4, c5, c6, c7, c8, c9, c10, c11⟩ := At.twelve hq
      clear hb1
      go_wp2_with fail
      refine (Hg2.out _).mono ?_
      rintro e w2 ⟨rfl, hb1⟩
      have hB := nx hB hb1
      have hp := hp.up hb1
      have hq := hq.up hb1
      clear hb1 c0 c1 c2 c3 c4 c5 c6 c7 c8 c9 c10 c11
      go_wp2_with fail
      refine wp_region_quiet (C := fun w' => Below w.heap.size w w' ∧ At w' w.heap.size 12 (pr a b) ∧ At w' (w.heap.size + 1) 12 (pr c d)) (by kernel_rfl) (by kernel_rfl) ⟨hB.drew, hp.drew, hq.drew⟩ ?_
      clear hB hp hq
      refine BigFrame.wpQuiet_want rfl (fun K hK => ?_); go_big_quiet_op; refine ⟨_, by intros; rfl, hK _ ?_⟩; clear hK K; go_simp
      go_big_quiet_want; rename_i K hK; refine quiet_ldo _ rfl rfl (fun _ h => lo_at h.2.1) (hK _ ?_); clear hK K; go_simp
      go_big_quiet_want; go_big_quiet_op; first | go_big_quiet_on | (rename_i K hK; refine ⟨_, by intros; rfl, hK _ ?_⟩; clear hK K; go_simp)
      go_big_quiet_want; rename_i K hK; refine quiet_ldo _ rfl rfl (fun _ h => hi_at h.2.1) (hK _ ?_); clear hK K; go_simp
      go_big_quiet_want; rename_i K hK; refine ⟨tv f, fun w' hw' => ?_, hK _ ?_⟩
      · clear hK K
        have Hw := Lib.hid hw'; clear hw'
        go_simp
        refine (Hw1.out _).mono ?_
        rintro e w5 ⟨rfl, hb⟩
        exact ⟨rfl, nx Hw.out.1 hb, Hw.out.2.1.up hb, Hw.out.2.2.up hb⟩
      clear hK K; go_simp
      go_big_quiet_want; go_big_quiet_op; first | go_big_quiet_on | (rename_i K hK; refine ⟨_, by intros; rfl, hK _ ?_⟩; clear hK K; go_simp)
      go_big_quiet_want; rename_i K hK; refine quiet_ldo _ rfl rfl (fun _ h => lo_at h.2.2) (hK _ ?_); clear hK K; go_simp
      go_big_quiet_want; go_big_quiet_op; first | go_big_quiet_on | (rename_i K hK; refine ⟨_, by intros; rfl, hK _ ?_⟩; clear hK K; go_simp)
      go_big_quiet_want; rename_i K hK; refine quiet_ldo _ rfl rfl (fun _ h => hi_at h.2.2) (hK _ ?_); clear hK K; go_simp
      go_big_quiet_want; rename_i K hK; refine ⟨tv g, fun w' hw' => ?_, hK _ ?_⟩
      · clear hK K
        have Hw := Lib.hid hw'; clear hw'
        go_simp
        refine (Hw2.out _).mono ?_
        rintro e w5 ⟨rfl, hb⟩
        exact ⟨rfl, nx Hw.out.1 hb, Hw.out.2.1.up hb, Hw.out.2.2.up hb⟩
      clear hK K; go_simp
      go_big_quiet_want; rename_i K hK; refine quiet_eql _ _ rfl rfl rfl (hK _ ?_); clear hK K; go_simp
      go_big_quiet_want; go_big_quiet_op; first | go_big_quiet_on | (rename_i K hK; refine ⟨_, by intros; rfl, hK _ ?_⟩; clear hK K; go_simp)
      go_big_quiet_want; go_big_quiet_op; first | go_big_quiet_on | (rename_i K hK; refine ⟨_, by intros; rfl, hK _ ?_⟩; clear hK K; go_simp)
      refine wpQuiet_nil ?_
      intro w3 hB hp hq
      go_wp2_with fail
      go_ret2
      exact ⟨rfl, hB⟩

set_option maxRecDepth 100000 in
set_option maxHeartbeats 8000000 in
theorem implLike_any (a b c d : Nat → Int) (w : World) :
    Calls Try.prog 20 #[pv a b, pv c d] w fun e w' => e = .returned (.tuple #[.bool (likeO a b c d), .bool (isPr a b && isPr c d)]) ∧ Below w.heap.size w w' := by
  have hg := implPair_any a b
  have hg2 := implPair_any c d
  have hp := (At.new12 w a b 26 rfl).past (twO c d 26)
  have hq := At.new12 (w.alloc (twO a b 26)) c d 26 (p := w.heap.size + 1) (by rw [size_alloc])
  have hB := na (na (n0 w) (twO a b 26)) (twO c d 26)
  unfold likeO
  cases hx : isPr a b
  · rw [hx] at hg
    unfold pv at hg
    have Hg := Lib.hid hg; clear hg hx hg2
    simp only [Bool.false_and]
    unfold pv
    go_enter Try.func20, Try.ntmps20
    go_wp2_with fail
    refine (Hg.out _).mono ?_
    rintro e w1 ⟨rfl, hb1⟩
    go_wp2_with fail
    go_ret2
    exact ⟨rfl, nx hB hb1⟩
  · rw [hx] at hg
    unfold pv at hg
    have Hg := Lib.hid hg; clear hg
    cases hy : isPr c d
    · rw [hy] at hg2
      unfold pv at hg2
      have Hg2 := Lib.hid hg2; clear hg2 hx hy
      simp only [Bool.and_false, Bool.false_and]
      unfold pv
      go_enter Try.func20, Try.ntmps20
      go_wp2_with fail
      refine (Hg.out _).mono ?_
      rintro e w1 ⟨rfl, hb1⟩
      have hB := nx hB hb1
      obtain ⟨c0, c1, c2, c3, c4, c5, c6, c7, c8, c9, c10, c11⟩ := At.twelve (hq.up hb1)
      clear hb1
      go_wp2_with fail
      refine (Hg2.out _).mono ?_
      rintro e w2 ⟨rfl, hb1⟩
      go_wp2_with fail
      go_ret2
      exact ⟨rfl, nx hB hb1⟩
    · rw [hy] at hg2
      unfold pv at hg2
      have Hg2 := Lib.hid hg2; clear hg2
      obtain ⟨da, db⟩ : isDie a = true ∧ isDie b = true := by
        unfold isPr at hx
        simp only [Bool.and_eq_true] at hx
        exact ⟨hx.1.1, hx.1.2⟩
      obtain ⟨dc, dd⟩ : isDie c = true ∧ isDie d = true := by
        unfold isPr at hy
        simp only [Bool.and_eq_true] at hy
        exact ⟨hy.1.1, hy.1.2⟩
      simp only [Bool.and_self, Bool.true_and]
      clear hx hy
      have hs := fun A B w h h' => implSame_any A B 2 2 2 2 (two a b) (two c d) w h h' (by unfold maxLen; omega) (by unfold maxLen; omega)
      rw [(same_like da db dc dd).1, (same_like da db dc dd).2] at hs
      generalize likeB a b c d = x at hs ⊢
      have Hs := Lib.hid hs; clear hs da db dc dd
      unfold pv
      go_enter Try.func20, Try.ntmps20
      go_wp2_with fail
      refine (Hg.out _).mono ?_
      rintro e w1 ⟨rfl, hb1⟩
      have hB := nx hB hb1
      have hp := hp.up hb1
      have hq := hq.up hb1
      obtain ⟨c0, c1, c2, c3, c4, c5, c6, c7, c8, c9, c10, c11⟩ := At.twelve hq
      clear hb1
      go_wp2_with fail
      refine (Hg2.out _).mono ?_
      rintro e w2 ⟨rfl, hb1⟩
      have hB := nx hB hb1
      have hp := hp.up hb1
      have hq := hq.up hb1
      clear hb1 c0 c1 c2 c3 c4 c5 c6 c7 c8 c9 c10 c11
      obtain ⟨c0, c1, c2, c3, c4, c5, c6, c7, c8, c9, c10, c11⟩ := At.twelve hp
      obtain ⟨d0, d1, d2, d3, d4, d5, d6, d7, d8, d9, d10, d11⟩ := At.twelve (hq.past (twO a b 22))
      have hU := row_two (At.new12 w2 a b 22 rfl)
      have hV := row_two (At.new12 (w2.alloc (twO a b 22)) c d 22 (p := w2.heap.size + 1) (by rw [size_alloc]))
      have hU := hU.up (na (n0 (w2.alloc (twO a b 22))) (twO c d 22))
      have hB := na (na hB (twO a b 22)) (twO c d 22)
      clear hp hq
      go_wp2_with fail
      refine (Hs.out _ _ _ hU hV).mono ?_
      rintro e w3 ⟨rfl, hb1⟩
      have hB := nx hB hb1
      go_wp2_with fail
      go_ret2
      exact ⟨rfl, hB⟩


end LikeW
end Go.Proofs.Ytjdijbidpcjjdaa
