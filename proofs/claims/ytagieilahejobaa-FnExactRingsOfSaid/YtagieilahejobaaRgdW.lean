/-
  A list of lists of different lengths: compared, marked, held.
-/
import Derived.Test.YtagieilahejobaaRows
import Derived.Test.YtagieilahejobaaRagL
import Derived.Test.YtagieilahejobaaRingW
import Derived.Test.YtagieilahejobaaGridW
import Derived.Test.YtagieilahejobaaTableS2
import Derived.Test.YtagieilahejobaaRingI
import Derived.Test.YtagieilahejobaaRingS
import Derived.Test.YtagieilahejobaaManyI
import Derived.Test.YtagieilahejobaaManyS
import Derived.Test.YtagieilahejobaaAnyR
import Derived.Test.YtagieilahejobaaBeatI
import Derived.Test.YtagieilahejobaaIntsW
import Derived.Test.YtagieilahejobaaSafeI
import Derived.Test.YtagieilahejobaaSafeS
import Derived.Test.YtagieilahejobaaRowW
import Derived.Test.YtagieilahejobaaRowsL
import Derived.Test.YtagieilahejobaaQuietR
import Derived.Test.YtagieilahejobaaQuietD
import Derived.Test.YtagieilahejobaaBestI
import Derived.Test.YtagieilahejobaaBestS
import Derived.Test.YtagieilahejobaaShelfMax
import Derived.Test.YtagieilahejobaaTopW
import Derived.Test.YtagieilahejobaaManyW
import Derived.Test.YtagieilahejobaaDicesW
import Derived.Test.YtagieilahejobaaWaysW
import Derived.Test.YtagieilahejobaaKnow
import Derived.Test.YtagieilahejobaaCmpW
import Derived.Test.YtagieilahejobaaCompW
import Derived.Test.YtagieilahejobaaCompS
import Derived.Test.YtagieilahejobaaDuel
import Derived.Test.YtagieilahejobaaDieW
import Derived.Test.YtagieilahejobaaSortW
import Derived.Test.YtagieilahejobaaOpenD
import Derived.WalkKit
import Derived.WalkLawsBesides
import Derived.WalkSpells
import Derived.ProofKit
import Derived.OpenShut
import Derived.Deep.RegionWith
import Derived.Deep.QuietTactic
import Derived.BigQuiet
namespace Go.Proofs.Ytagieilahejobaa
open Go.ChangeShapes Go.WideShapes Go.ChangeAt Go.RowKit
open Go.ChangeMaps (open_string shut_string)

namespace RgdW
open Dice Arr OpenD DieW SortW Duel CmpW Know WaysW CompS CompW ManyW QuietD QuietR TopW DicesW BestS BestI RowsL RowW SafeS SafeI BeatI IntsW ManyS ManyI RingS RingI AnyR TableS2 GridW RingW RagL

/-- A list of m lists in memory from block B on, list i of ln i integers; all lists in blocks of their own. -/
def Rgd (B : Nat) (w : World) (A : Option Addr) (m : Nat) (ln : Nat → Nat) (F : Nat → Nat → Int) : Prop := m = 0 ∨ ∃ g, ∃ gs cs : Nat → Nat, A = some ⟨g, 0, none⟩ ∧ B ≤ g ∧ g < w.heap.size ∧ (∀ i, i < m → w.cell? ⟨g, i, none⟩ = some (.slice (some ⟨gs i, 0, none⟩) (ln i) (cs i)) ∧ B ≤ gs i ∧ gs i ≠ g ∧ At w (gs i) (ln i) (F i)) ∧ ∀ i j, i < j → j < m → gs i ≠ gs j
theorem Rgd.below {B : Nat} {w w' : World} {A : Option Addr} {m : Nat} {ln : Nat → Nat} {F : Nat → Nat → Int} (h : Rgd B w A m ln F) (hb : Below w.heap.size w w') : Rgd B w' A m ln F := by
  rcases h with h | ⟨g, gs, cs, hA, hB, hl, hr, hd⟩
  · exact .inl h
  · exact .inr ⟨g, gs, cs, hA, hB, Nat.lt_of_lt_of_le hl hb.size, fun i hi => ⟨(hb.cell (p := ⟨g, i, none⟩) hl).trans (hr i hi).1, (hr i hi).2.1, (hr i hi).2.2.1, (hr i hi).2.2.2.up hb⟩, hd⟩
theorem Rgd.mono {B B' : Nat} {w : World} {A : Option Addr} {m : Nat} {ln : Nat → Nat} {F : Nat → Nat → Int} (h : Rgd B w A m ln F) (hB : B' ≤ B) : Rgd B' w A m ln F := by
  rcases h with h | ⟨g, gs, cs, hA, hb, hl, hr, hd⟩
  · exact .inl h
  · exact .inr ⟨g, gs, cs, hA, by omega, hl, fun i hi => ⟨(hr i hi).1, by have := (hr i hi).2.1; omega, (hr i hi).2.2⟩, hd⟩
theorem Rgd.kept {B g0 : Nat} {w w' : World} {A : Option Addr} {m : Nat} {ln : Nat → Nat} {F : Nat → Nat → Int} (h : Rgd B w A m ln F) (hg : w.grownBy w' (some g0)) (h0 : g0 < B) : Rgd B w' A m ln F := by
  rcases h with h | ⟨g, gs, cs, hA, hb, hl, hr, hd⟩
  · exact .inl h
  · refine .inr ⟨g, gs, cs, hA, hb, Nat.lt_of_lt_of_le hl hg.size, fun i hi => ⟨?_, (hr i hi).2.1, (hr i hi).2.2.1, At.kept (hr i hi).2.2.2 hg (by have := (hr i hi).2.1; omega)⟩, hd⟩
    exact (World.cell?_of_block (a := ⟨g, i, none⟩) (hg.block g hl (fun e => by injection e with e; omega))).trans (hr i hi).1
theorem Rgd.at_ {B : Nat} {w : World} {A : Option Addr} {m : Nat} {ln : Nat → Nat} {F : Nat → Nat → Int} (h : Rgd B w A m ln F) (hm : 0 < m) : ∃ g, ∃ gs cs : Nat → Nat, A = some ⟨g, 0, none⟩ ∧ B ≤ g ∧ g < w.heap.size ∧ (∀ i, i < m → w.cell? ⟨g, i, none⟩ = some (.slice (some ⟨gs i, 0, none⟩) (ln i) (cs i)) ∧ B ≤ gs i ∧ gs i ≠ g ∧ At w (gs i) (ln i) (F i)) ∧ ∀ i j, i < j → j < m → gs i ≠ gs j := by
  rcases h with h | h
  · omega
  · exact h
theorem Rgd.up {B : Nat} {w w' : World} {A : Option Addr} {m : Nat} {ln : Nat → Nat} {F : Nat → Nat → Int} (h : Rgd B w A m ln F) (hb : Below w.heap.size w w') : Rgd B w' A m ln F := h.below hb

set_option maxRecDepth 100000 in
set_option maxHeartbeats 4000000 in
theorem eqSSr_any (B B' : Nat) (A A' : Option Addr) (m c c' : Nat) (ln : Nat → Nat) (F : Nat → Nat → Int) (w : World) (h : Rgd B w A m ln F) (h' : Rgd B' w A' m ln F) (hm : m ≤ 1099511627776) (hn : ∀ i, i < m → ln i ≤ 1000) :
    Calls Try.prog 24 #[.slice A m c, .slice A' m c'] w fun e w' => e = .returned (.bool true) ∧ Below w.heap.size w w' := by
  have H := Lib.hid h; clear h
  have H' := Lib.hid h'; clear h'
  have He := Lib.hid (fun B B' A A' n c c' f w h h' (hn : n ≤ 1000) => eqInts_any B B' A A' n c c' f w h h' (by unfold maxLen; omega))
  have Hn := Lib.hid hn; clear hn
  go_enter Try.func24, Try.ntmps24
  go_wp2_with fail
  go_loopw [5] (fun i wr => ∃ k : Nat, k ≤ m ∧ i = .int .i64 k ∧ Below w.heap.size w wr) (fun i _ => m - (intOf i).toNat)
  case atStart => exact ⟨0, Nat.zero_le _, rfl, n0 w⟩
  case round =>
    obtain ⟨k, hk, rfl, hB⟩ := hrel
    by_cases hlt : k < m
    · obtain ⟨g, gs, cs, rfl, _, hl, hr, _⟩ := H.out.at_ (show 0 < m by omega)
      obtain ⟨g', gs', cs', rfl, _, hl', hr', _⟩ := H'.out.at_ (show 0 < m by omega)
      obtain ⟨hc1, _, _, hA1⟩ := hr k hlt
      obtain ⟨hc2, _, _, hA2⟩ := hr' k hlt
      have hit : decide (k < m) = true := decide_eq_true hlt
      have Hnk := Lib.hid (Hn.out k hlt)
      go_wp2_with fail
      refine wp_region_quiet (C := fun w' => Below w.heap.size w w') (by kernel_rfl) (by kernel_rfl) hB.drew ?_
      clear hB
      refine BigFrame.wpQuiet_want rfl (fun K hK => BigFrame.quiet_move _ rfl (hK _ ?_)); clear hK K; go_simp
      refine BigFrame.wpQuiet_want rfl (fun K hK => BigFrame.quiet_move _ rfl (hK _ ?_)); clear hK K; go_simp
      refine BigFrame.wpQuiet_want rfl (fun K hK => ?_); go_big_quiet_op; refine ⟨_, by intros; rfl, hK _ ?_⟩; clear hK K; go_simp
      refine BigFrame.wpQuiet_want rfl (fun K hK => quiet_lds _ rfl rfl (fun _ h => (h.cell (p := ⟨g, k, none⟩) hl).trans hc1) (hK _ ?_)); clear hK K; go_simp
      refine BigFrame.wpQuiet_want rfl (fun K hK => BigFrame.quiet_move _ rfl (hK _ ?_)); clear hK K; go_simp
      refine BigFrame.wpQuiet_want rfl (fun K hK => BigFrame.quiet_move _ rfl (hK _ ?_)); clear hK K; go_simp
      refine BigFrame.wpQuiet_want rfl (fun K hK => ?_); go_big_quiet_op; refine ⟨_, by intros; rfl, hK _ ?_⟩; clear hK K; go_simp
      refine BigFrame.wpQuiet_want rfl (fun K hK => quiet_lds _ rfl rfl (fun _ h => (h.cell (p := ⟨g', k, none⟩) hl').trans hc2) (hK _ ?_)); clear hK K; go_simp
      refine BigFrame.wpQuiet_want rfl (fun K hK => ⟨.bool true, fun w' hw' => ?_, hK _ ?_⟩)
      · clear hK K
        have Hw := Lib.hid hw'; clear hw'
        go_simp
        refine (He.out 0 0 _ _ (ln k) _ _ (F k) _ (.inr ⟨gs k, rfl, Nat.zero_le _, hA1.up Hw.out⟩) (.inr ⟨gs' k, rfl, Nat.zero_le _, hA2.up Hw.out⟩) Hnk.out).mono ?_
        rintro e w5 ⟨rfl, hb⟩
        exact ⟨rfl, nx Hw.out hb⟩
      clear hK K; go_simp
      refine BigFrame.wpQuiet_want rfl (fun K hK => ?_); go_big_quiet_op; refine ⟨_, by intros; rfl, hK _ ?_⟩; clear hK K; go_simp
      refine wpQuiet_nil ?_
      intro w3 hB
      go_wp2_with fail
      go_roundw
      case rel => exact ⟨k + 1, by omega, by go_num, hB⟩
      case measure => simp [intOf]; omega
    · obtain rfl : k = m := by omega
      go_wp2_with fail
      go_ret
      exact ⟨rfl, hB⟩

set_option maxHeartbeats 1000000 in
theorem markRowB_any (g n c K : Nat) (f : Nat → Int) (w : World) (h : At w g n f) (hn : n ≤ 1048576) (hK : K ≤ 1099511627776) :
    Calls Try.prog 45 #[.slice (some ⟨g, 0, none⟩) n c, .int .i64 K] w fun e w' => e = .returned (.int .i64 ((K : Int) + n)) ∧ At w' g n (fun i => (K : Int) + i) ∧ w.grownBy w' (some g) := by
  go_enter Try.func45, Try.ntmps45
  go_wp2_with fail
  go_loopw [1, 5] (fun kv i wr => ∃ (j : Nat) (g' : Nat → Int), j ≤ n ∧ i = .int .i64 j ∧ kv = .int .i64 ((K : Int) + j) ∧ w.grownBy wr (some g) ∧ At wr g n g' ∧ Hid (∀ m, m < j → g' m = (K : Int) + m)) (fun _ i _ => n - (intOf i).toNat)
  case atStart => exact ⟨0, f, Nat.zero_le _, rfl, by simp, World.grownBy.refl w _, h, fun m hm => by omega⟩
  case round =>
    clear h
    obtain ⟨j, g', hj, rfl, rfl, hG, hA, he⟩ := hrel
    by_cases hlt : j < n
    · have cj := hA.cell j hlt
      have zj := hA.free j
      go_wp2_with fail
      go_roundw
      case rel =>
        refine ⟨j + 1, put g' j ((K : Int) + j), by omega, by go_num, by congr 1, grown_set hG, hA.set hlt _, fun m hm => ?_⟩
        by_cases hmj : m = j
        · subst hmj; exact put_same _ _ _
        · rw [put_other _ hmj]; exact he.out m (by omega)
      case measure => simp [intOf]; omega
    · obtain rfl : j = n := by omega
      go_wp2_with fail
      go_ret
      exact ⟨rfl, hA.congr he.out, hG⟩
/-- The lengths of the first lists together. -/
def ps (ln : Nat → Nat) : Nat → Nat
  | 0 => 0
  | k + 1 => ps ln k + ln k
theorem ps_le {ln : Nat → Nat} {m : Nat} (h : ∀ i, i < m → ln i ≤ 7) : ∀ k, k ≤ m → ps ln k ≤ k * 7 := by
  intro k
  induction k with
  | zero => intro _; exact Nat.le_refl _
  | succ k ih =>
    intro hk
    have h1 := ih (by omega)
    have h2 := h k (by omega)
    rw [ps]
    omega
set_option maxHeartbeats 1000000 in
theorem heldRowB_any (B : Nat) (A : Option Addr) (n c K : Nat) (w : World) (h : Ints B w A n (fun i => (K : Int) + i)) (hn : n ≤ 1048576) (hK : K ≤ 1099511627776) :
    Calls Try.prog 46 #[.slice A n c, .int .i64 K] w fun e w' => e = .returned (.int .i64 ((K : Int) + n)) ∧ Below w.heap.size w w' := by
  have H := Lib.hid h; clear h
  go_enter Try.func46, Try.ntmps46
  go_wp2_with fail
  go_loopw [1, 5] (fun kv i wr => ∃ j : Nat, j ≤ n ∧ i = .int .i64 j ∧ kv = .int .i64 ((K : Int) + j) ∧ Below w.heap.size w wr) (fun _ i _ => n - (intOf i).toNat)
  case atStart => exact ⟨0, Nat.zero_le _, rfl, by simp, n0 w⟩
  case round =>
    obtain ⟨j, hj, rfl, rfl, hb⟩ := hrel
    by_cases hlt : j < n
    · obtain ⟨b, rfl, _, hA⟩ := (H.out.up hb).at_ hlt
      have cj := hA.cell j hlt
      go_wp2_with fail
      go_roundw
      case rel => exact ⟨j + 1, by omega, by go_num, by congr 1, hb⟩
      case measure => simp [intOf]; omega
    · obtain rfl : j = n := by omega
      go_wp2_with fail
      go_ret
      exact ⟨rfl, hb⟩


set_option maxRecDepth 100000 in
set_option maxHeartbeats 4000000 in
theorem markSSr_any (B : Nat) (A : Option Addr) (m c : Nat) (ln : Nat → Nat) (F : Nat → Nat → Int) (w : World) (h : Rgd B w A m ln F) (hm : m ≤ 10000000) (hn : ∀ i, i < m → ln i ≤ 7) :
    Calls Try.prog 27 #[.slice A m c, .int .i64 1] w fun e w' => e = .returned (.int .i64 (1 + ((ps ln m : Nat) : Int))) ∧ Rgd B w' A m ln (fun i t => 1 + ((ps ln i : Nat) : Int) + t) ∧ Below B w w' := by
  have Hm := Lib.hid (fun g n c K f w h (hn : n ≤ 7) hK => markRowB_any g n c K f w h (by omega) hK)
  have Hn := Lib.hid hn
  have Hps := Lib.hid (ps_le hn); clear hn
  by_cases h0 : m = 0
  · subst h0
    clear h
    go_enter Try.func27, Try.ntmps27
    go_wp2_with fail
    go_loopw [1, 5] (fun kv i wr => i = .int .i64 0 ∧ kv = .int .i64 1 ∧ wr = w) (fun _ _ _ => 0)
    case atStart => exact ⟨rfl, rfl, rfl⟩
    case round =>
      obtain ⟨rfl, rfl, rfl⟩ := hrel
      go_wp2_with fail
      go_ret
      exact ⟨rfl, .inl rfl, Below.refl _ _⟩
  · obtain ⟨g, gs, cs, rfl, hB, hl, hr, hd⟩ := h.at_ (by omega)
    have Hd := Lib.hid hd; clear hd h
    have hcell : ∀ i, i < m → w.cell? ⟨g, i, none⟩ = some (.slice (some ⟨gs i, 0, none⟩) (ln i) (cs i)) := fun i hi => (hr i hi).1
    have hge : ∀ i, i < m → B ≤ gs i ∧ gs i ≠ g := fun i hi => ⟨(hr i hi).2.1, (hr i hi).2.2.1⟩
    have Hge := Lib.hid hge; clear hge
    go_enter Try.func27, Try.ntmps27
    go_wp2_with fail
    go_loopw [1, 5] (fun kv i wr => ∃ j : Nat, j ≤ m ∧ i = .int .i64 j ∧ kv = .int .i64 (1 + ((ps ln j : Nat) : Int)) ∧ Below B w wr ∧ g < wr.heap.size ∧ Hid (∀ t, t < m → wr.cell? ⟨g, t, none⟩ = some (.slice (some ⟨gs t, 0, none⟩) (ln t) (cs t))) ∧ Hid (∀ t, t < m → At wr (gs t) (ln t) (if t < j then (fun s => 1 + ((ps ln t : Nat) : Int) + s) else F t))) (fun _ i _ => m - (intOf i).toNat)
    case atStart => exact ⟨0, Nat.zero_le _, rfl, by simp [ps], Below.refl _ _, hl, hcell, fun t ht => by rw [if_neg (by omega)]; exact (hr t ht).2.2.2⟩
    case round =>
      clear hcell hr
      obtain ⟨j, hj, rfl, rfl, hBl, hgl, hC, hA⟩ := hrel
      by_cases hlt : j < m
      · have cj := hC.out j hlt
        have hAj := hA.out j hlt
        have h36 := Hps.out j hj
        have hnj7 := Hn.out j hlt
        have Hmj := Lib.hid (Hm.out (gs j) (ln j) (cs j) (1 + ps ln j) _ wr hAj hnj7 (by omega))
        have e1 : ((1 + ps ln j : Nat) : Int) = 1 + ((ps ln j : Nat) : Int) := by omega
        have hmul : ps ln (j + 1) = ps ln j + ln j := rfl
        have Hmul := Lib.hid hmul; clear hmul
        have Hmj2 := Hmj.out
        rw [e1] at Hmj2
        have Hmj3 := Lib.hid Hmj2; clear Hmj2 Hmj e1
        generalize hnj : ps ln j = z at *
        have Hnj := Lib.hid hnj; clear hnj
        go_wp2_with fail
        refine Hmj3.out.mono ?_
        rintro e w3 ⟨rfl, hA3, hg3⟩
        have hge := Hge.out j hlt
        have hB3 := hBl.grown hg3 (by have := hBl.size; omega) (fun k e => by injection e with e; omega)
        have hC3 : Hid (∀ t, t < m → w3.cell? ⟨g, t, none⟩ = some (.slice (some ⟨gs t, 0, none⟩) (ln t) (cs t))) := fun t ht =>
          (World.cell?_of_block (a := ⟨g, t, none⟩) (hg3.block g hgl (fun e => by injection e with e; exact hge.2 e.symm))).trans (hC.out t ht)
        have hA4 : Hid (∀ t, t < m → At w3 (gs t) (ln t) (if t < j + 1 then (fun s => 1 + ((ps ln t : Nat) : Int) + s) else F t)) := fun t ht => by
          by_cases htj : t = j
          · subst htj
            rw [if_pos (Nat.lt_succ_self t), Hnj.out]
            exact hA3
          · have hne : gs t ≠ gs j := by
              rcases Nat.lt_or_ge t j with h1 | h1
              · exact Hd.out t j h1 hlt
              · exact fun e => Hd.out j t (by omega) ht e.symm
            have := At.kept (hA.out t ht) hg3 hne
            by_cases h1 : t < j
            · rw [if_pos h1] at this
              rw [if_pos (by omega)]
              exact this
            · rw [if_neg h1] at this
              rw [if_neg (by omega)]
              exact this
        have hgl3 : g < w3.heap.size := Nat.lt_of_lt_of_le hgl hg3.size
        clear hC hA hAj hg3 hA3 cj
        go_wp2_with fail
        go_roundw
        case rel => exact ⟨j + 1, by omega, by go_num, by rw [Hmul.out]; congr 1; omega, hB3, hgl3, hC3, hA4⟩
        case measure => simp [intOf]; omega
      · obtain rfl : j = m := by omega
        go_wp2_with fail
        go_ret
        exact ⟨rfl, .inr ⟨g, gs, cs, rfl, hB, hgl, fun i hi => ⟨hC.out i hi, (Hge.out i hi).1, (Hge.out i hi).2, by have := hA.out i hi; rw [if_pos hi] at this; exact this⟩, Hd.out⟩, hBl⟩

set_option maxRecDepth 100000 in
set_option maxHeartbeats 4000000 in
theorem heldSSr_any (B : Nat) (A : Option Addr) (m c : Nat) (ln : Nat → Nat) (w : World) (h : Rgd B w A m ln (fun i t => 1 + ((ps ln i : Nat) : Int) + t)) (hm : m ≤ 10000000) (hn : ∀ i, i < m → ln i ≤ 7) :
    Calls Try.prog 28 #[.slice A m c, .int .i64 1] w fun e w' => e = .returned (.int .i64 (1 + ((ps ln m : Nat) : Int))) ∧ Below w.heap.size w w' := by
  have Hh := Lib.hid (fun B A n c K w h (hn : n ≤ 7) hK => heldRowB_any B A n c K w h (by omega) hK)
  have Hn := Lib.hid hn
  have Hps := Lib.hid (ps_le hn); clear hn
  have H := Lib.hid h; clear h
  go_enter Try.func28, Try.ntmps28
  go_wp2_with fail
  go_loopw [1, 5] (fun kv i wr => ∃ j : Nat, j ≤ m ∧ i = .int .i64 j ∧ kv = .int .i64 (1 + ((ps ln j : Nat) : Int)) ∧ Below w.heap.size w wr) (fun _ i _ => m - (intOf i).toNat)
  case atStart => exact ⟨0, Nat.zero_le _, rfl, by simp [ps], n0 w⟩
  case round =>
    obtain ⟨j, hj, rfl, rfl, hBl⟩ := hrel
    by_cases hlt : j < m
    · obtain ⟨g, gs, cs, rfl, _, hl, hr, _⟩ := (H.out.below hBl).at_ (show 0 < m by omega)
      obtain ⟨cj, _, _, hAj⟩ := hr j hlt
      have h36 := Hps.out j hj
      have hnj7 := Hn.out j hlt
      have e1 : ((1 + ps ln j : Nat) : Int) = 1 + ((ps ln j : Nat) : Int) := by omega
      have hmul : ps ln (j + 1) = ps ln j + ln j := rfl
      have Hmul := Lib.hid hmul; clear hmul
      have Hj := Hh.out 0 (some ⟨gs j, 0, none⟩) (ln j) (cs j) (1 + ps ln j) wr
      rw [e1] at Hj
      have Hj2 := Lib.hid (Hj (.inr ⟨gs j, rfl, Nat.zero_le _, hAj⟩) hnj7 (by omega)); clear Hj e1
      clear hr hAj
      generalize hnj : ps ln j = z at *
      have Hnj := Lib.hid hnj; clear hnj
      have hz : decide (1 + (z : Int) + (ln j : Int) < 0) = false := decide_eq_false (by omega)
      go_wp2_with fail
      refine Hj2.out.mono ?_
      rintro e w3 ⟨rfl, hb3⟩
      go_wp2_with fail
      go_roundw
      case rel => exact ⟨j + 1, by omega, by go_num, by rw [Hmul.out]; congr 1; omega, nx hBl hb3⟩
      case measure => simp [intOf]; omega
    · obtain rfl : j = m := by omega
      go_wp2_with fail
      go_ret
      exact ⟨rfl, hBl⟩



theorem getD_get {q : List Nat} {k : Nat} (h : k < q.length) : q[k] = q.getD k 0 := by
  rw [List.getD_eq_getElem?_getD, List.getElem?_eq_getElem h]
  rfl
/-- A list of paths as such a list. -/
theorem rgd_of {w : World} {B : Nat} {v : Value} {l : List (List Nat)} {gs cs : Nat → Nat} (h : RagAt w B v l gs cs) (hm : 0 < l.length) : ∃ A c, v = .slice A l.length c ∧ Rgd B w A l.length (fun i => (l.getD i []).length) (fun i k => (((l.getD i []).getD k 0 : Nat) : Int)) := by
  obtain ⟨g, c, rfl, hB, hl, _, hc⟩ := h.head hm
  refine ⟨_, c, rfl, .inr ⟨g, gs, cs, rfl, hB, hl, fun i hi => ⟨hc i hi, (h.inner_lt hi).1, fun e => ?_, ?_⟩, fun i j hij hj => Nat.ne_of_lt (h.asc i j hij hj)⟩⟩
  · have := own_apart (h.inn i hi) h.out (show (3 : TypeId) ≠ 51 by decide) (b := g) (by simp [Value.ownBlock, e])
    exact this rfl
  · have hp := h.inn i hi
    refine ⟨(World.ownsRow.lt hp (gs i) rfl).2, fun k hk => ?_, fun k => World.ownsRow.frozenAt hp k⟩
    have h1 := World.ownsRow.cellAt hp k (by simpa using hk)
    have hk' : k < (l.getD i []).length := hk
    rw [vl_get hk'] at h1
    exact h1.trans (congrArg (fun x : Nat => some (Value.int .i64 (x : Int))) (getD_get hk'))

end RgdW
end Go.Proofs.Ytagieilahejobaa
