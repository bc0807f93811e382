/-
  The law's own helpers on lists of lists of integers.
-/
import Derived.Test.YtagieilahejobaaRows
import Derived.Test.YtagieilahejobaaTableS2
import Derived.Test.YtagieilahejobaaRingI
import Derived.Test.YtagieilahejobaaRingS
import Derived.Test.YtagieilahejobaaManyI
import Derived.Test.YtagieilahejobaaManyS
import Derived.Test.YtagieilahejobaaAnyR
import Derived.Test.YtagieilahejobaaBeatI
import Derived.Test.YtagieilahejobaaIntsW
import Derived.Test.YtagieilahejobaaSafeI
import Derived.Test.YtagieilahejobaaSafeS
import Derived.Test.YtagieilahejobaaRowW
import Derived.Test.YtagieilahejobaaRowsL
import Derived.Test.YtagieilahejobaaQuietR
import Derived.Test.YtagieilahejobaaQuietD
import Derived.Test.YtagieilahejobaaBestI
import Derived.Test.YtagieilahejobaaBestS
import Derived.Test.YtagieilahejobaaShelfMax
import Derived.Test.YtagieilahejobaaTopW
import Derived.Test.YtagieilahejobaaManyW
import Derived.Test.YtagieilahejobaaDicesW
import Derived.Test.YtagieilahejobaaWaysW
import Derived.Test.YtagieilahejobaaKnow
import Derived.Test.YtagieilahejobaaCmpW
import Derived.Test.YtagieilahejobaaCompW
import Derived.Test.YtagieilahejobaaCompS
import Derived.Test.YtagieilahejobaaDuel
import Derived.Test.YtagieilahejobaaDieW
import Derived.Test.YtagieilahejobaaSortW
import Derived.Test.YtagieilahejobaaOpenD
import Derived.WalkKit
import Derived.WalkLawsBesides
import Derived.WalkSpells
import Derived.ProofKit
import Derived.OpenShut
import Derived.Deep.RegionWith
import Derived.Deep.QuietTactic
import Derived.BigQuiet
namespace Go.Proofs.Ytagieilahejobaa
open Go.ChangeShapes Go.WideShapes Go.ChangeAt Go.RowKit
open Go.ChangeMaps (open_string shut_string)

namespace GridW
open Dice Arr OpenD DieW SortW Duel CmpW Know WaysW CompS CompW ManyW QuietD QuietR TopW DicesW BestS BestI RowsL RowW SafeS SafeI BeatI IntsW ManyS ManyI RingS RingI AnyR TableS2

theorem grown_set {w w' : World} {g j : Nat} {v : Value} (h : w.grownBy w' (some g)) : w.grownBy (w'.setCell ⟨g, j, none⟩ v) (some g) :=
  ⟨h.os, h.tape, h.output, by rw [World.size_setCell]; exact h.size, fun k hk hne => (heap_setCell_other _ _ _ _ (fun e => hne (by rw [e]))).trans (h.block k hk hne)⟩
theorem grown_trans {w w' w'' : World} {row : Option Nat} (h : w.grownBy w' row) (h' : w'.grownBy w'' row) : w.grownBy w'' row :=
  ⟨h'.os.trans h.os, h'.tape.trans h.tape, h'.output.trans h.output, Nat.le_trans h.size h'.size, fun k hk hne => (h'.block k (Nat.lt_of_lt_of_le hk h.size) hne).trans (h.block k hk hne)⟩
set_option maxHeartbeats 1000000 in
theorem markDice_grown (g n c K : Nat) (f : Nat → Int) (w : World) (h : At w g (n * 6) f) (hn : n ≤ 1048576) (hK : K ≤ 1048576) :
    Calls Try.prog 26 #[.slice (some ⟨g, 0, none⟩) n c, .int .i64 K] w fun e w' => e = .returned (.int .i64 ((K : Int) + 6 * n)) ∧ (∃ f, At w' g (n * 6) f) ∧ w.grownBy w' (some g) := by
  go_enter Try.func26, Try.ntmps26
  go_wp2_with fail
  go_loopw [1, 5] (fun kv i wr => ∃ (j : Nat) (f : Nat → Int), j ≤ n ∧ i = .int .i64 j ∧ kv = .int .i64 ((K : Int) + 6 * j) ∧ At wr g (n * 6) f ∧ w.grownBy wr (some g)) (fun _ i _ => n - (intOf i).toNat)
  case atStart => exact ⟨0, f, Nat.zero_le _, rfl, by simp, h, World.grownBy.refl w _⟩
  case round =>
    clear h
    obtain ⟨j, f0, hj, rfl, rfl, hA0, hR0⟩ := hrel
    by_cases hlt : j < n
    · have hit : decide ((j : Int) < (n : Int)) = true := decide_eq_true (by omega)
      go_wp2_with fail
      go_loopw [1, 6] (fun kv i wr => ∃ (k : Nat) (f : Nat → Int), k ≤ 6 ∧ i = .int .i64 k ∧ kv = .int .i64 ((K : Int) + 6 * j + k) ∧ At wr g (n * 6) f ∧ w.grownBy wr (some g)) (fun _ i _ => 6 - (intOf i).toNat)
      case atStart => exact ⟨0, f0, Nat.zero_le _, rfl, by simp, hA0, hR0⟩
      case round =>
        clear hA0 hR0
        obtain ⟨k, f, hk, rfl, rfl, hA, hR⟩ := hrel
        by_cases hk6 : k < 6
        · have hjk : j * 6 + k < n * 6 := by omega
          have cj := hA.cell (j * 6 + k) hjk
          have zj := hA.free (j * 6 + k)
          go_wp2_with fail
          go_roundw
          case rel => exact ⟨k + 1, put f (j * 6 + k) ((K : Int) + 6 * j + k), by omega, by go_num, by congr 1, hA.set hjk _, grown_set hR⟩
          case measure => simp [intOf]; omega
        · obtain rfl : k = 6 := by omega
          go_wp2_with fail
          go_roundw
          case rel => exact ⟨j + 1, f, by omega, by go_num, by congr 1, hA, hR⟩
          case measure => simp [intOf]; omega
    · obtain rfl : j = n := by omega
      go_wp2_with fail
      go_ret
      exact ⟨rfl, ⟨f0, hA0⟩, hR0⟩



/-- A list of m lists of n integers in memory from block B on; all lists in blocks of their own. -/
def Grid (B : Nat) (w : World) (A : Option Addr) (m n : Nat) (F : Nat → Nat → Int) : Prop := m = 0 ∨ ∃ g, ∃ gs cs : Nat → Nat, A = some ⟨g, 0, none⟩ ∧ B ≤ g ∧ g < w.heap.size ∧ (∀ i, i < m → w.cell? ⟨g, i, none⟩ = some (.slice (some ⟨gs i, 0, none⟩) n (cs i)) ∧ B ≤ gs i ∧ gs i ≠ g ∧ At w (gs i) n (F i)) ∧ ∀ i j, i < j → j < m → gs i ≠ gs j
theorem Grid.below {B : Nat} {w w' : World} {A : Option Addr} {m n : Nat} {F : Nat → Nat → Int} (h : Grid B w A m n F) (hb : Below w.heap.size w w') : Grid B w' A m n F := by
  rcases h with h | ⟨g, gs, cs, hA, hB, hl, hr, hd⟩
  · exact .inl h
  · exact .inr ⟨g, gs, cs, hA, hB, Nat.lt_of_lt_of_le hl hb.size, fun i hi => ⟨(hb.cell (p := ⟨g, i, none⟩) hl).trans (hr i hi).1, (hr i hi).2.1, (hr i hi).2.2.1, (hr i hi).2.2.2.up hb⟩, hd⟩
theorem Grid.mono {B B' : Nat} {w : World} {A : Option Addr} {m n : Nat} {F : Nat → Nat → Int} (h : Grid B w A m n F) (hB : B' ≤ B) : Grid B' w A m n F := by
  rcases h with h | ⟨g, gs, cs, hA, hb, hl, hr, hd⟩
  · exact .inl h
  · exact .inr ⟨g, gs, cs, hA, by omega, hl, fun i hi => ⟨(hr i hi).1, by have := (hr i hi).2.1; omega, (hr i hi).2.2⟩, hd⟩
theorem Grid.kept {B g0 : Nat} {w w' : World} {A : Option Addr} {m n : Nat} {F : Nat → Nat → Int} (h : Grid B w A m n F) (hg : w.grownBy w' (some g0)) (h0 : g0 < B) : Grid B w' A m n F := by
  rcases h with h | ⟨g, gs, cs, hA, hb, hl, hr, hd⟩
  · exact .inl h
  · refine .inr ⟨g, gs, cs, hA, hb, Nat.lt_of_lt_of_le hl hg.size, fun i hi => ⟨?_, (hr i hi).2.1, (hr i hi).2.2.1, At.kept (hr i hi).2.2.2 hg (by have := (hr i hi).2.1; omega)⟩, hd⟩
    exact (World.cell?_of_block (a := ⟨g, i, none⟩) (hg.block g hl (fun e => by injection e with e; omega))).trans (hr i hi).1
theorem Grid.at_ {B : Nat} {w : World} {A : Option Addr} {m n : Nat} {F : Nat → Nat → Int} (h : Grid B w A m n F) (hm : 0 < m) : ∃ g, ∃ gs cs : Nat → Nat, A = some ⟨g, 0, none⟩ ∧ B ≤ g ∧ g < w.heap.size ∧ (∀ i, i < m → w.cell? ⟨g, i, none⟩ = some (.slice (some ⟨gs i, 0, none⟩) n (cs i)) ∧ B ≤ gs i ∧ gs i ≠ g ∧ At w (gs i) n (F i)) ∧ ∀ i j, i < j → j < m → gs i ≠ gs j := by
  rcases h with h | h
  · omega
  · exact h
theorem at_own {w : World} {B g n c : Nat} {F : Nat → Int} (h : w.ownsRow B 3 1 (.slice (some ⟨g, 0, none⟩) n c) n (iv F n)) : At w g n F :=
  ⟨(h.lt g rfl).2, fun k hk => (h.cellAt k (by omega)).trans (iv_get hk), fun k => h.frozenAt k⟩
theorem grid_of {w : World} {B m n : Nat} {v : Value} {F : Nat → Nat → Int} {gs cs : Nat → Nat} (h : RowsAt w B 51 3 1 v m n (fun i => iv (F i) n) gs cs) (hm : 0 < m) : ∃ A c, v = .slice A m c ∧ Grid B w A m n F := by
  obtain ⟨g, c, rfl, hB, hl, hc⟩ := h.head hm
  refine ⟨_, c, rfl, .inr ⟨g, gs, cs, rfl, hB, hl, fun i hi => ⟨hc i hi, (h.inner_lt hi).1, fun e => ?_, at_own (h.inn i hi)⟩, fun i j hij hj => Nat.ne_of_lt (h.asc i j hij hj)⟩⟩
  have := own_apart (h.inn i hi) h.out (show (3 : TypeId) ≠ 51 by decide) (b := g) (by simp [Value.ownBlock, e])
  exact this rfl
section
variable {C : World → Prop} {K : Act → Prop} {a : Act} {o : Oper}
/-- A list's word read, in every world of the class. -/
theorem quiet_lds (x : Operand) (ho : o.op = .load 51 x) {b off : Nat} {u : Value} (hx : a.eval x = .pointer (some ⟨b, off, none⟩)) (hC : ∀ w, C w → w.cell? ⟨b, off, none⟩ = some u)
    (hk : K (a.put o.dst u)) : o.quiet Try.prog a C K :=
  ⟨u, fun w hw => by
    have hcell := hC w hw
    clear hC hw
    have hld : (loadVar 51 ⟨b, off, none⟩).run Try.prog w = .ok u w := by simp [go_sem, hcell]
    unfold Oper.quietAt execOp
    simp only [ho, hx, Instr.loadAt, Instr.sureAddr, Sem.run_bind, Sem.run_pure, Result.andThen_ok, hld]
    exact ⟨rfl, rfl⟩, hk⟩
end
theorem Grid.up {B : Nat} {w w' : World} {A : Option Addr} {m n : Nat} {F : Nat → Nat → Int} (h : Grid B w A m n F) (hb : Below w.heap.size w w') : Grid B w' A m n F := h.below hb

set_option maxRecDepth 100000 in
set_option maxHeartbeats 4000000 in
theorem eqSS_any (B B' : Nat) (A A' : Option Addr) (m n c c' : Nat) (F : Nat → Nat → Int) (w : World) (h : Grid B w A m n F) (h' : Grid B' w A' m n F) (hm : m ≤ 1000) (hn : n ≤ 1000) :
    Calls Try.prog 24 #[.slice A m c, .slice A' m c'] w fun e w' => e = .returned (.bool true) ∧ Below w.heap.size w w' := by
  have H := Lib.hid h; clear h
  have H' := Lib.hid h'; clear h'
  have He := Lib.hid (fun B B' A A' c c' f w h h' => eqInts_any B B' A A' n c c' f w h h' (by unfold maxLen; omega))
  go_enter Try.func24, Try.ntmps24
  go_wp2_with fail
  go_loopw [5] (fun i wr => ∃ k : Nat, k ≤ m ∧ i = .int .i64 k ∧ Below w.heap.size w wr) (fun i _ => m - (intOf i).toNat)
  case atStart => exact ⟨0, Nat.zero_le _, rfl, n0 w⟩
  case round =>
    obtain ⟨k, hk, rfl, hB⟩ := hrel
    by_cases hlt : k < m
    · obtain ⟨g, gs, cs, rfl, _, hl, hr, _⟩ := H.out.at_ (show 0 < m by omega)
      obtain ⟨g', gs', cs', rfl, _, hl', hr', _⟩ := H'.out.at_ (show 0 < m by omega)
      obtain ⟨hc1, _, _, hA1⟩ := hr k hlt
      obtain ⟨hc2, _, _, hA2⟩ := hr' k hlt
      have hit : decide (k < m) = true := decide_eq_true hlt
      go_wp2_with fail
      refine wp_region_quiet (C := fun w' => Below w.heap.size w w') (by kernel_rfl) (by kernel_rfl) hB.drew ?_
      clear hB
      refine BigFrame.wpQuiet_want rfl (fun K hK => BigFrame.quiet_move _ rfl (hK _ ?_)); clear hK K; go_simp
      refine BigFrame.wpQuiet_want rfl (fun K hK => BigFrame.quiet_move _ rfl (hK _ ?_)); clear hK K; go_simp
      refine BigFrame.wpQuiet_want rfl (fun K hK => ?_); go_big_quiet_op; refine ⟨_, by intros; rfl, hK _ ?_⟩; clear hK K; go_simp
      refine BigFrame.wpQuiet_want rfl (fun K hK => quiet_lds _ rfl rfl (fun _ h => (h.cell (p := ⟨g, k, none⟩) hl).trans hc1) (hK _ ?_)); clear hK K; go_simp
      refine BigFrame.wpQuiet_want rfl (fun K hK => BigFrame.quiet_move _ rfl (hK _ ?_)); clear hK K; go_simp
      refine BigFrame.wpQuiet_want rfl (fun K hK => BigFrame.quiet_move _ rfl (hK _ ?_)); clear hK K; go_simp
      refine BigFrame.wpQuiet_want rfl (fun K hK => ?_); go_big_quiet_op; refine ⟨_, by intros; rfl, hK _ ?_⟩; clear hK K; go_simp
      refine BigFrame.wpQuiet_want rfl (fun K hK => quiet_lds _ rfl rfl (fun _ h => (h.cell (p := ⟨g', k, none⟩) hl').trans hc2) (hK _ ?_)); clear hK K; go_simp
      refine BigFrame.wpQuiet_want rfl (fun K hK => ⟨.bool true, fun w' hw' => ?_, hK _ ?_⟩)
      · clear hK K
        have Hw := Lib.hid hw'; clear hw'
        go_simp
        refine (He.out 0 0 _ _ _ _ (F k) _ (.inr ⟨gs k, rfl, Nat.zero_le _, hA1.up Hw.out⟩) (.inr ⟨gs' k, rfl, Nat.zero_le _, hA2.up Hw.out⟩)).mono ?_
        rintro e w5 ⟨rfl, hb⟩
        exact ⟨rfl, nx Hw.out hb⟩
      clear hK K; go_simp
      refine BigFrame.wpQuiet_want rfl (fun K hK => ?_); go_big_quiet_op; refine ⟨_, by intros; rfl, hK _ ?_⟩; clear hK K; go_simp
      refine wpQuiet_nil ?_
      intro w3 hB
      go_wp2_with fail
      go_roundw
      case rel => exact ⟨k + 1, by omega, by go_num, hB⟩
      case measure => simp [intOf]; omega
    · obtain rfl : k = m := by omega
      go_wp2_with fail
      go_ret
      exact ⟨rfl, hB⟩

set_option maxHeartbeats 1000000 in
theorem markRow_any (g n c K : Nat) (f : Nat → Int) (w : World) (h : At w g n f) (hn : n ≤ 1048576) (hK : K ≤ 1048576) :
    Calls Try.prog 45 #[.slice (some ⟨g, 0, none⟩) n c, .int .i64 K] w fun e w' => e = .returned (.int .i64 ((K : Int) + n)) ∧ At w' g n (fun i => (K : Int) + i) ∧ w.grownBy w' (some g) := by
  go_enter Try.func45, Try.ntmps45
  go_wp2_with fail
  go_loopw [1, 5] (fun kv i wr => ∃ (j : Nat) (g' : Nat → Int), j ≤ n ∧ i = .int .i64 j ∧ kv = .int .i64 ((K : Int) + j) ∧ w.grownBy wr (some g) ∧ At wr g n g' ∧ Hid (∀ m, m < j → g' m = (K : Int) + m)) (fun _ i _ => n - (intOf i).toNat)
  case atStart => exact ⟨0, f, Nat.zero_le _, rfl, by simp, World.grownBy.refl w _, h, fun m hm => by omega⟩
  case round =>
    clear h
    obtain ⟨j, g', hj, rfl, rfl, hG, hA, he⟩ := hrel
    by_cases hlt : j < n
    · have cj := hA.cell j hlt
      have zj := hA.free j
      go_wp2_with fail
      go_roundw
      case rel =>
        refine ⟨j + 1, put g' j ((K : Int) + j), by omega, by go_num, by congr 1, grown_set hG, hA.set hlt _, fun m hm => ?_⟩
        by_cases hmj : m = j
        · subst hmj; exact put_same _ _ _
        · rw [put_other _ hmj]; exact he.out m (by omega)
      case measure => simp [intOf]; omega
    · obtain rfl : j = n := by omega
      go_wp2_with fail
      go_ret
      exact ⟨rfl, hA.congr he.out, hG⟩
theorem mul_le36 {n m : Nat} (hn : n ≤ 6) (hm : m ≤ 6) : n * m ≤ 36 := Nat.mul_le_mul hn hm

set_option maxRecDepth 100000 in
set_option maxHeartbeats 4000000 in
theorem markSS_any (B : Nat) (A : Option Addr) (m n c : Nat) (F : Nat → Nat → Int) (w : World) (h : Grid B w A m n F) (hm : m ≤ 6) (hn : n ≤ 6) :
    Calls Try.prog 27 #[.slice A m c, .int .i64 1] w fun e w' => e = .returned (.int .i64 (1 + ((n * m : Nat) : Int))) ∧ Grid B w' A m n (fun i t => 1 + ((n * i : Nat) : Int) + t) ∧ Below B w w' := by
  have Hm := Lib.hid (fun g c K f w h hK => markRow_any g n c K f w h (by omega) hK)
  by_cases h0 : m = 0
  · subst h0
    clear h
    go_enter Try.func27, Try.ntmps27
    go_wp2_with fail
    go_loopw [1, 5] (fun kv i wr => i = .int .i64 0 ∧ kv = .int .i64 1 ∧ wr = w) (fun _ _ _ => 0)
    case atStart => exact ⟨rfl, rfl, rfl⟩
    case round =>
      obtain ⟨rfl, rfl, rfl⟩ := hrel
      go_wp2_with fail
      go_ret
      exact ⟨rfl, .inl rfl, Below.refl _ _⟩
  · obtain ⟨g, gs, cs, rfl, hB, hl, hr, hd⟩ := h.at_ (by omega)
    have Hd := Lib.hid hd; clear hd h
    have hcell : ∀ i, i < m → w.cell? ⟨g, i, none⟩ = some (.slice (some ⟨gs i, 0, none⟩) n (cs i)) := fun i hi => (hr i hi).1
    have hge : ∀ i, i < m → B ≤ gs i ∧ gs i ≠ g := fun i hi => ⟨(hr i hi).2.1, (hr i hi).2.2.1⟩
    have Hge := Lib.hid hge; clear hge
    go_enter Try.func27, Try.ntmps27
    go_wp2_with fail
    go_loopw [1, 5] (fun kv i wr => ∃ j : Nat, j ≤ m ∧ i = .int .i64 j ∧ kv = .int .i64 (1 + ((n * j : Nat) : Int)) ∧ Below B w wr ∧ g < wr.heap.size ∧ Hid (∀ t, t < m → wr.cell? ⟨g, t, none⟩ = some (.slice (some ⟨gs t, 0, none⟩) n (cs t))) ∧ Hid (∀ t, t < m → At wr (gs t) n (if t < j then (fun s => 1 + ((n * t : Nat) : Int) + s) else F t))) (fun _ i _ => m - (intOf i).toNat)
    case atStart => exact ⟨0, Nat.zero_le _, rfl, by simp, Below.refl _ _, hl, hcell, fun t ht => by rw [if_neg (by omega)]; exact (hr t ht).2.2.2⟩
    case round =>
      clear hcell hr
      obtain ⟨j, hj, rfl, rfl, hBl, hgl, hC, hA⟩ := hrel
      by_cases hlt : j < m
      · have cj := hC.out j hlt
        have hAj := hA.out j hlt
        have h36 := mul_le36 hn (show j ≤ 6 by omega)
        have Hmj := Lib.hid (Hm.out (gs j) (cs j) (1 + n * j) _ wr hAj (by omega))
        have e1 : ((1 + n * j : Nat) : Int) = 1 + ((n * j : Nat) : Int) := by omega
        have hmul := Nat.mul_succ n j
        have Hmul := Lib.hid hmul; clear hmul
        have Hmj2 := Hmj.out
        rw [e1] at Hmj2
        have Hmj3 := Lib.hid Hmj2; clear Hmj2 Hmj e1
        generalize hnj : n * j = z at *
        have Hnj := Lib.hid hnj; clear hnj
        go_wp2_with fail
        refine Hmj3.out.mono ?_
        rintro e w3 ⟨rfl, hA3, hg3⟩
        have hge := Hge.out j hlt
        have hB3 := hBl.grown hg3 (by have := hBl.size; omega) (fun k e => by injection e with e; omega)
        have hC3 : Hid (∀ t, t < m → w3.cell? ⟨g, t, none⟩ = some (.slice (some ⟨gs t, 0, none⟩) n (cs t))) := fun t ht =>
          (World.cell?_of_block (a := ⟨g, t, none⟩) (hg3.block g hgl (fun e => by injection e with e; exact hge.2 e.symm))).trans (hC.out t ht)
        have hA4 : Hid (∀ t, t < m → At w3 (gs t) n (if t < j + 1 then (fun s => 1 + ((n * t : Nat) : Int) + s) else F t)) := fun t ht => by
          by_cases htj : t = j
          · subst htj
            rw [if_pos (Nat.lt_succ_self t), Hnj.out]
            exact hA3
          · have hne : gs t ≠ gs j := by
              rcases Nat.lt_or_ge t j with h1 | h1
              · exact Hd.out t j h1 hlt
              · exact fun e => Hd.out j t (by omega) ht e.symm
            have := At.kept (hA.out t ht) hg3 hne
            by_cases h1 : t < j
            · rw [if_pos h1] at this
              rw [if_pos (by omega)]
              exact this
            · rw [if_neg h1] at this
              rw [if_neg (by omega)]
              exact this
        have hgl3 : g < w3.heap.size := Nat.lt_of_lt_of_le hgl hg3.size
        clear hC hA hAj hg3 hA3 cj
        go_wp2_with fail
        go_roundw
        case rel => exact ⟨j + 1, by omega, by go_num, by rw [Hmul.out]; congr 1; omega, hB3, hgl3, hC3, hA4⟩
        case measure => simp [intOf]; omega
      · obtain rfl : j = m := by omega
        go_wp2_with fail
        go_ret
        exact ⟨rfl, .inr ⟨g, gs, cs, rfl, hB, hgl, fun i hi => ⟨hC.out i hi, (Hge.out i hi).1, (Hge.out i hi).2, by have := hA.out i hi; rw [if_pos hi] at this; exact this⟩, Hd.out⟩, hBl⟩

set_option maxRecDepth 100000 in
set_option maxHeartbeats 4000000 in
theorem heldSS_any (B : Nat) (A : Option Addr) (m n c : Nat) (w : World) (h : Grid B w A m n (fun i t => 1 + ((n * i : Nat) : Int) + t)) (hm : m ≤ 6) (hn : n ≤ 6) :
    Calls Try.prog 28 #[.slice A m c, .int .i64 1] w fun e w' => e = .returned (.int .i64 (1 + ((n * m : Nat) : Int))) ∧ Below w.heap.size w w' := by
  have Hh := Lib.hid (fun B A c K w h hK => heldInts_any B A n c K w h (by omega) hK)
  have H := Lib.hid h; clear h
  go_enter Try.func28, Try.ntmps28
  go_wp2_with fail
  go_loopw [1, 5] (fun kv i wr => ∃ j : Nat, j ≤ m ∧ i = .int .i64 j ∧ kv = .int .i64 (1 + ((n * j : Nat) : Int)) ∧ Below w.heap.size w wr) (fun _ i _ => m - (intOf i).toNat)
  case atStart => exact ⟨0, Nat.zero_le _, rfl, by simp, n0 w⟩
  case round =>
    obtain ⟨j, hj, rfl, rfl, hBl⟩ := hrel
    by_cases hlt : j < m
    · obtain ⟨g, gs, cs, rfl, _, hl, hr, _⟩ := (H.out.below hBl).at_ (show 0 < m by omega)
      obtain ⟨cj, _, _, hAj⟩ := hr j hlt
      have h36 := mul_le36 hn (show j ≤ 6 by omega)
      have e1 : ((1 + n * j : Nat) : Int) = 1 + ((n * j : Nat) : Int) := by omega
      have hmul := Nat.mul_succ n j
      have Hmul := Lib.hid hmul; clear hmul
      have Hj := Hh.out 0 (some ⟨gs j, 0, none⟩) (cs j) (1 + n * j) wr
      rw [e1] at Hj
      have Hj2 := Lib.hid (Hj (.inr ⟨gs j, rfl, Nat.zero_le _, hAj⟩) (by omega)); clear Hj e1
      clear hr hAj
      generalize hnj : n * j = z at *
      have Hnj := Lib.hid hnj; clear hnj
      have hz : decide (1 + (z : Int) + (n : Int) < 0) = false := decide_eq_false (by omega)
      go_wp2_with fail
      refine Hj2.out.mono ?_
      rintro e w3 ⟨rfl, hb3⟩
      go_wp2_with fail
      go_roundw
      case rel => exact ⟨j + 1, by omega, by go_num, by rw [Hmul.out]; congr 1; omega, nx hBl hb3⟩
      case measure => simp [intOf]; omega
    · obtain rfl : j = m := by omega
      go_wp2_with fail
      go_ret
      exact ⟨rfl, hBl⟩


end GridW
end Go.Proofs.Ytagieilahejobaa
