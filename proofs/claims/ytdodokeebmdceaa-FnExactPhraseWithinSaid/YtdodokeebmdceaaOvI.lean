/-
  overlapOf of the program.
-/
import Derived.Test.YtdodokeebmdceaaRows
import Derived.Test.YtdodokeebmdceaaArr
import Derived.Test.YtdodokeebmdceaaAnyR
import Derived.Test.YtdodokeebmdceaaDieW
import Derived.Test.YtdodokeebmdceaaSortW
import Derived.Test.YtdodokeebmdceaaFracW
import Derived.Test.YtdodokeebmdceaaFracL
import Derived.Test.YtdodokeebmdceaaCutW
import Derived.Test.YtdodokeebmdceaaAll6
import Derived.Test.YtdodokeebmdceaaAllL
import Derived.Test.YtdodokeebmdceaaOwnL
import Derived.Test.YtdodokeebmdceaaFracM
import Derived.Test.YtdodokeebmdceaaWgtM
import Derived.Test.YtdodokeebmdceaaWgtW
import Derived.Test.YtdodokeebmdceaaShelfSl
import Derived.Test.YtdodokeebmdceaaOpenI
import Derived.Test.YtdodokeebmdceaaPhrM
import Derived.Test.YtdodokeebmdceaaPhrW
import Derived.Test.YtdodokeebmdceaaPhrV
import Derived.Test.YtdodokeebmdceaaOpenD
import Derived.StillTail
import Derived.StillTactics
import Derived.StillTailTactics
import Derived.BigRegion
import Derived.WalkKit
import Derived.WalkLawsBesides
import Derived.WalkSpells
import Derived.ProofKit
import Derived.OpenShut
import Derived.Deep.RegionWith
import Derived.Deep.QuietTactic
import Derived.BigQuiet
namespace Go.Proofs.Ytdodokeebmdceaa
open Go.ChangeShapes Go.WideShapes Go.ChangeAt Go.RowKit
open Go.ChangeMaps (open_string shut_string)

namespace OvI
open Dice Arr DieW SortW FracW CutW All6 AllL OwnL FracM WgtM WgtW OpenG PhrM PhrW PhrV


/-- Whether the last k numbers of a list are the first k of another one. -/
def mt (fa fb : Nat → Int) (n : Nat) (k : Nat) : Bool := decide (agree (fun i => fa (n - k + i)) fb k)
def wv (d fb : Nat → Int) (i : Nat) : Nat := wgt d (fb i) 6
theorem wv_le (d fb : Nat → Int) (i : Nat) : wv d fb i ≤ 6 := wgt_le d (fb i) 6
theorem row_to {w : World} {g n : Nat} {f : Nat → Int} (h : At w g n f) {k : Nat} (hk : k ≤ n) : RowI w (some ⟨g, 0, none⟩) k f :=
  .inr ⟨g, 0, rfl, h.lt, fun i hi => by have := h.cell i (by omega); rw [show 0 + i = i by omega]; exact this⟩

theorem size6 : (Try.prog.info? 22).map (·.size) = some 6 := by kernel_rfl
section
variable {a : Act} {o : Oper} {C : World → Prop} {K : Act → Prop}
theorem quiet_ld6 (x : Operand) (ho : o.op = .load 22 x) {b : Nat} {f : Nat → Int} (hx : a.eval x = .pointer (some ⟨b, 0, none⟩)) (hC : ∀ w, C w → At w b 6 f)
    (hk : K (a.put o.dst (dv f))) : o.quiet Try.prog a C K :=
  ⟨dv f, fun w hw => by
    unfold Oper.quietAt execOp
    simp only [ho, hx, Instr.loadAt, Instr.sureAddr, Sem.run_bind, Sem.run_pure, Result.andThen_ok, (hC w hw).loadVar Try.underlying22 size6]
    exact ⟨rfl, rfl⟩, hk⟩
theorem quiet_ldi (x : Operand) (ho : o.op = .load 3 x) {p : Addr} {v : Int} (hx : a.eval x = .pointer (some p)) (hC : ∀ w, C w → w.cell? p = some (.int .i64 v))
    (hk : K (a.put o.dst (.int .i64 v))) : o.quiet Try.prog a C K :=
  ⟨.int .i64 v, fun w hw => by
    have hcell := hC w hw
    clear hC hw
    have hld : (loadVar 3 p).run Try.prog w = .ok (.int .i64 v) w := by simp [go_sem, hcell]
    unfold Oper.quietAt execOp
    simp only [ho, hx, Instr.loadAt, Instr.sureAddr, Sem.run_bind, Sem.run_pure, Result.andThen_ok, hld]
    exact ⟨rfl, rfl⟩, hk⟩
theorem size2 : (Try.prog.info? 29).map (·.size) = some 2 := by kernel_rfl
theorem quiet_ld2 (x : Operand) (ho : o.op = .load 29 x) {b : Nat} {u v : Int} (hx : a.eval x = .pointer (some ⟨b, 0, none⟩)) (hC : ∀ w, C w → At w b 2 (fr u v))
    (hk : K (a.put o.dst (v2 u v))) : o.quiet Try.prog a C K :=
  ⟨v2 u v, fun w hw => by
    unfold Oper.quietAt execOp
    simp only [ho, hx, Instr.loadAt, Instr.sureAddr, Sem.run_bind, Sem.run_pure, Result.andThen_ok, (hC w hw).loadVar Try.underlying29 size2]
    exact ⟨rfl, rfl⟩, hk⟩
end

set_option maxRecDepth 100000 in
set_option maxHeartbeats 8000000 in
theorem implOv_any (d : Nat → Int) (ga n gb m : Nat) (fa fb : Nat → Int) (w : World) (hA : At w ga n fa) (hC : At w gb m fb) (hn : 1 ≤ n ∧ n ≤ 6) (hm : 1 ≤ m ∧ m ≤ 6) :
    Calls Try.prog 73 #[dv d, .slice (some ⟨ga, 0, none⟩) n n, .slice (some ⟨gb, 0, none⟩) m m] w fun e w' => e = .returned (.int .i64 (nn (wv d fb) (mt fa fb n) m (min n m) : Nat)) ∧ Below w.heap.size w w' := by
  have hwy : ∀ (A : Option Addr) (k c : Nat) (f : Nat → Int) (w : World), RowI w A k f → k ≤ 6 → Calls Try.prog 74 #[dv d, .slice A k c] w fun e w' => e = .returned (.int .i64 (pr (fun i => wgt d (f i) 6) k : Nat)) ∧ Below w.heap.size w w' := fun A k c f w h hk => ways_any d A k c f w h hk
  unfold dv at hwy
  have Hwy := Lib.hid hwy; clear hwy
  have Heq := Lib.hid (fun (A A' : Option Addr) (k c c' : Nat) (f g : Nat → Int) (w : World) (h : RowI w A k f) (h' : RowI w A' k g) (hk : k ≤ 1048576) => equal_any A A' k c c' f g w h h' hk)
  have Ho := Lib.hid (fun (k : Nat) w (h : k ≤ 16) => outcomesL k w h)
  have Hnn := Lib.hid (fun k (h : k ≤ m) => nn_le6 (mt := mt fa fb n) (wv_le d fb) hm.2 k h)
  obtain ⟨K, hK⟩ : ∃ K, K = min n m := ⟨_, rfl⟩
  rw [← hK]
  have HKn : K ≤ n := by omega
  have HKm : K ≤ m := by omega
  have hKc : ∀ k : Nat, (decide (k ≤ K) = decide (k ≤ min n m)) := fun k => by rw [hK]
  have hsla : ∀ (k : Nat) (hk : 1 ≤ k) (hkn : k ≤ n) (w : World), (Instr.slice 37 (.slice (some ⟨ga, 0, none⟩) n n) (some (.int .i64 (n - k : Nat))) none none).run Try.prog w = .ok (.slice (some ⟨ga, n - k, none⟩) k k) w := fun k hk hkn w => by
    have := sl_from (g := ga) (n := n) (c := n) (l := n - k) (by omega) (by omega) w
    rw [show n - (n - k) = k by omega] at this
    exact this
  have hslb := fun (k : Nat) (hk : k ≤ m) (w : World) => sl_to (g := gb) (n := m) (c := m) hk hm.1 w
  have hslc : ∀ k : Nat, k ≤ m → ∃ o, (∀ w, (Instr.slice 37 (.slice (some ⟨gb, 0, none⟩) m m) (some (.int .i64 (k : Nat))) none none).run Try.prog w = .ok (.slice (some ⟨gb, o, none⟩) (m - k) (m - k)) w) ∧ ∀ w, At w gb m fb → RowI w (some ⟨gb, o, none⟩) (m - k) (fun i => fb (k + i)) := fun k hk => by
    by_cases h : k < m
    · exact ⟨k, fun w => sl_from h hk w, fun w hC => row_of hC (by omega)⟩
    · obtain rfl : k = m := by omega
      exact ⟨0, fun w => by rw [Nat.sub_self]; exact sl_end w, fun w _ => .inl (Nat.sub_self _)⟩
  have Hsa := Lib.hid hsla; clear hsla
  have Hsb := Lib.hid hslb; clear hslb
  have Hsc := Lib.hid hslc; clear hslc
  have hmin : min (n : Int) (m : Int) = (K : Int) := by omega
  have hminI : (if (n : Int) ≤ (m : Int) then (n : Int) else (m : Int)) = (K : Int) := by split <;> omega
  have hminJ : (if (m : Int) < (n : Int) then (m : Int) else (n : Int)) = (K : Int) := by split <;> omega
  clear hKc
  have HK := Lib.hid hK; clear hK
  unfold dv
  have hB0 := na (n0 w) (sixO d 22)
  have hD0 := At.new6 w d 22 rfl
  have hA0 := hA.past (sixO d 22)
  have hC0 := hC.past (sixO d 22)
  clear hA hC
  go_enter Try.func73, Try.ntmps73
  go_wp2_with fail
  go_wp2_with fail
  go_loopw [7, 8] (fun sv kv wr => ∃ k k1 : Nat, (k1 ≤ k + 1 ∧ k + 1 ≤ k1) ∧ k ≤ K ∧ kv = .int .i64 k1 ∧ sv = .int .i64 (nn (wv d fb) (mt fa fb n) m k : Nat) ∧ At wr ga n fa ∧ At wr gb m fb ∧ At wr w.heap.size 6 d ∧ Below w.heap.size w wr) (fun _ kv _ => K + 1 - (intOf kv).toNat)
  case atStart => exact ⟨0, 1, by omega, by omega, rfl, rfl, hA0, hC0, hD0, hB0⟩
  case round =>
    clear hA0 hC0 hD0 hB0
    obtain ⟨k0, k, ⟨hk1, hk2⟩, hk, rfl, rfl, hA, hC, hD, hB⟩ := hrel
    by_cases hlt : k0 < K
    · have hit : decide ((k : Int) ≤ (K : Int)) = true := decide_eq_true (by omega)
      have hitN : decide (k ≤ K) = true := decide_eq_true (by omega)
      have Hsub : (n : Int) - (k : Int) = ((n - k : Nat) : Int) := by omega
      have hwsub : IntKind.i64.wrap ((n - k : Nat) : Int) = ((n - k : Nat) : Int) := FracL.wrap_sameL _ (by omega) (by omega)
      have hwsub2 : wrap64 ((n - k : Nat) : Int) = ((n - k : Nat) : Int) := by unfold wrap64; omega
      have hs1 := Hsa.out k (by omega) (by omega)
      have hs2 := Hsb.out k (by omega)
      have hqk : ∀ w, At w ga n fa → At w gb m fb → Calls Try.prog 98 #[.slice (some ⟨ga, n - k, none⟩) k k, .slice (some ⟨gb, 0, none⟩) k m] w fun e w' => e = .returned (.bool (mt fa fb n k)) ∧ Below w.heap.size w w' := fun w h1 h2 => Heq.out _ _ k k m _ _ w (row_of h1 (by omega)) (row_to h2 (by omega)) (by omega)
      have Hqk := Lib.hid hqk; clear hqk
      have hA' := hA.drew
      have hC' := hC.drew
      have hD' := hD.drew
      have hB' := hB.drew
      clear hA hC hD hB
      have hst : Hid (nn (wv d fb) (mt fa fb n) m (k0 + 1) = nn (wv d fb) (mt fa fb n) m k0 + if mt fa fb n (k0 + 1) then 6 ^ (k0 + 1) * pr (fun i => wv d fb (k0 + 1 + i)) (m - (k0 + 1)) else 0) := rfl
      have hN0 := Hnn.out k0 (by omega)
      have hN1 := Hnn.out (k0 + 1) (by omega)
      have hkk : k0 + 1 = k := by omega
      rw [hkk] at hst hN1
      have Hkk := Lib.hid hkk; clear hkk
      cases hmt : mt fa fb n k
      · rw [hmt] at Hqk hst
        rw [if_neg (by decide), Nat.add_zero] at hst
        go_wp2_with fail
        refine wp_region_still_tail 9 (by kernel_rfl) (by kernel_rfl) ?_
        simp only [List.take_succ_cons, List.take_zero, List.drop_succ_cons, List.drop_zero]
        repeat still_step
        refine wpStill_nil ?_
        change wpList _ _ _ _ _ wr.drew
        generalize wr.drew = W5 at *
        go_wp2_with fail
        refine (Hqk.out _ hA' hC').mono ?_
        rintro e w2 ⟨rfl, hb2⟩
        have hA2 := hA'.up hb2
        have hC2 := hC'.up hb2
        have hD2 := hD'.up hb2
        have hB2 := nx hB' hb2
        clear hA' hC' hD' hB' hb2
        go_wp2_with fail
        go_roundw
        case rel => exact ⟨k, k + 1, by omega, by omega, by go_num, by rw [hst.out], hA2, hC2, hD2, hB2⟩
        case measure => simp [intOf]; omega
      · rw [hmt] at Hqk hst
        rw [if_pos rfl] at hst
        go_wp2_with fail
        refine wp_region_still_tail 9 (by kernel_rfl) (by kernel_rfl) ?_
        simp only [List.take_succ_cons, List.take_zero, List.drop_succ_cons, List.drop_zero]
        repeat still_step
        refine wpStill_nil ?_
        change wpList _ _ _ _ _ wr.drew
        generalize wr.drew = W5 at *
        go_wp2_with fail
        refine (Hqk.out _ hA' hC').mono ?_
        rintro e w2 ⟨rfl, hb2⟩
        have hA2 := hA'.up hb2
        have hC2 := hC'.up hb2
        have hD2 := hD'.up hb2
        have hB2 := nx hB' hb2
        clear hA' hC' hD' hB' hb2 hs1 hs2
        obtain ⟨o, hs3, hrow⟩ := Hsc.out k (by omega)
        have hwk := Hwy.out (some ⟨gb, o, none⟩) (m - k) (m - k) (fun i => fb (k + i))
        have Hrow := Lib.hid hrow; clear hrow
        have hok := Ho.out k
        have Hok := Lib.hid (fun w => hok w (by omega)); clear hok
        rw [show all6 k = 6 ^ k from rfl] at Hok
        have hwk' : ∀ w, RowI w (some ⟨gb, o, none⟩) (m - k) (fun i => fb (k + i)) → Calls Try.prog 74 #[.agg #[.int .i64 (d 0), .int .i64 (d 1), .int .i64 (d 2), .int .i64 (d 3), .int .i64 (d 4), .int .i64 (d 5)], .slice (some ⟨gb, o, none⟩) (m - k) (m - k)] w fun e w' => e = .returned (.int .i64 (pr (fun i => wv d fb (k + i)) (m - k) : Nat)) ∧ Below w.heap.size w w' := fun w h => hwk w h (by omega)
        have Hwk := Lib.hid hwk'; clear hwk' hwk
        rw [hst.out] at hN1
        obtain ⟨p, hp⟩ : ∃ p, p = 6 ^ k * pr (fun i => wv d fb (k + i)) (m - k) := ⟨_, rfl⟩
        have hpm : ((6 ^ k : Nat) : Int) * ((pr (fun i => wv d fb (k + i)) (m - k) : Nat) : Int) = (p : Int) := by rw [hp]; push_cast; rfl
        rw [← hp] at hst
        rw [← hp] at hN1
        have Hp := Lib.hid hp; clear hp
        generalize pr (fun i => wv d fb (k + i)) (m - k) = R at *
        generalize 6 ^ k = O at *
        generalize nn (wv d fb) (mt fa fb n) m k0 = N0 at *
        have hp6 : p ≤ 1000000 := by omega
        have hp7 : N0 ≤ 1000000 := by omega
        clear hmin hminI hminJ hN0 hN1 Hsub hwsub hwsub2
        have wp1 : IntKind.i64.wrap (p : Int) = (p : Int) := FracL.wrap_sameL _ (by omega) (by omega)
        have wp2 : wrap64 (p : Int) = (p : Int) := by unfold wrap64; omega
        have wp3 : IntKind.i64.wrap ((N0 : Int) + (p : Int)) = (N0 : Int) + (p : Int) := FracL.wrap_sameL _ (by omega) (by omega)
        have wp4 : wrap64 ((N0 : Int) + (p : Int)) = (N0 : Int) + (p : Int) := by unfold wrap64; omega
        have HA := Lib.hid hA2
        have HC := Lib.hid hC2
        have HD := Lib.hid hD2
        have HB := Lib.hid hB2
        clear hA2 hC2 hD2 hB2
        go_wp2_with fail
        refine wp_region_quiet (C := fun w' => Below w2.heap.size w2 w') (by kernel_rfl) (by kernel_rfl) ((n0 w2).drew) ?_
        refine BigFrame.wpQuiet_want rfl (fun K hK => BigFrame.quiet_move _ rfl (hK _ ?_)); clear hK K; go_simp
        refine BigFrame.wpQuiet_want rfl (fun K hK => BigFrame.quiet_move _ rfl (hK _ ?_)); clear hK K; go_simp
        refine BigFrame.wpQuiet_want rfl (fun K hK => ⟨(.int .i64 (O : Nat)), fun w' hw' => ?_, hK _ ?_⟩)
        · clear hK K
          have Hw := Lib.hid hw'; clear hw'
          go_simp
          refine (Hok.out _).mono ?_
          rintro e w5 ⟨rfl, hw5⟩
          exact ⟨rfl, by rw [hw5]; exact Hw.out⟩
        clear hK K; go_simp
        refine BigFrame.wpQuiet_want rfl (fun K hK => quiet_ld6 _ rfl rfl (fun _ h => HD.out.up h) (hK _ ?_)); clear hK K; go_simp
        refine BigFrame.wpQuiet_want rfl (fun K hK => BigFrame.quiet_move _ rfl (hK _ ?_)); clear hK K; go_simp
        refine BigFrame.wpQuiet_want rfl (fun K hK => BigFrame.quiet_move _ rfl (hK _ ?_)); clear hK K; go_simp
        refine BigFrame.wpQuiet_want rfl (fun K hK => ⟨(.slice (some ⟨gb, o, none⟩) (m - k) (m - k)), fun w' hw' => ?_, hK _ ?_⟩)
        · clear hK K
          have Hw := Lib.hid hw'; clear hw'
          go_simp
          first | done | exact ⟨rfl, rfl⟩
        clear hK K; go_simp
        refine BigFrame.wpQuiet_want rfl (fun K hK => ⟨(.int .i64 (R : Nat)), fun w' hw' => ?_, hK _ ?_⟩)
        · clear hK K
          have Hw := Lib.hid hw'; clear hw'
          go_simp
          refine (Hwk.out _ (Hrow.out _ (HC.out.up Hw.out))).mono ?_
          rintro e w5 ⟨rfl, hb5⟩
          exact ⟨rfl, nx Hw.out hb5⟩
        clear hK K; go_simp
        refine BigFrame.wpQuiet_want rfl (fun K hK => ?_); go_big_quiet_op; refine ⟨_, by intros; rfl, hK _ ?_⟩; clear hK K; go_simp
        refine BigFrame.wpQuiet_want rfl (fun K hK => ?_); go_big_quiet_op; refine ⟨_, by intros; rfl, hK _ ?_⟩; clear hK K; go_simp
        refine BigFrame.wpQuiet_want rfl (fun K hK => BigFrame.quiet_assign _ rfl (hK _ ?_)); clear hK K; go_simp
        refine wpQuiet_nil ?_
        intro w3 hQ
        go_wp2_with fail
        go_roundw
        case rel => exact ⟨k, k + 1, by omega, by omega, by go_num, by rw [hst.out]; go_num, HA.out.up hQ, HC.out.up hQ, HD.out.up hQ, nx HB.out hQ⟩
        case measure => simp [intOf]; omega
    · have hit : decide ((k : Int) ≤ (K : Int)) = false := decide_eq_false (by omega)
      have hitN : decide (k ≤ K) = false := decide_eq_false (by omega)
      obtain rfl : k0 = K := by omega
      go_wp2_with fail
      go_ret
      exact ⟨rfl, hB⟩


end OvI
end Go.Proofs.Ytdodokeebmdceaa
