/-
  The level pairs of a row, by the specification.
-/
import Derived.Test.YtllcjgladjcoaaaRows
import Derived.Test.YtllcjgladjcoaaaPairsW
import Derived.Test.YtllcjgladjcoaaaGridW
import Derived.Test.YtllcjgladjcoaaaTableS2
import Derived.Test.YtllcjgladjcoaaaRingI
import Derived.Test.YtllcjgladjcoaaaRingS
import Derived.Test.YtllcjgladjcoaaaManyI
import Derived.Test.YtllcjgladjcoaaaManyS
import Derived.Test.YtllcjgladjcoaaaAnyR
import Derived.Test.YtllcjgladjcoaaaBeatI
import Derived.Test.YtllcjgladjcoaaaIntsW
import Derived.Test.YtllcjgladjcoaaaSafeI
import Derived.Test.YtllcjgladjcoaaaSafeS
import Derived.Test.YtllcjgladjcoaaaRowW
import Derived.Test.YtllcjgladjcoaaaRowsL
import Derived.Test.YtllcjgladjcoaaaQuietR
import Derived.Test.YtllcjgladjcoaaaQuietD
import Derived.Test.YtllcjgladjcoaaaBestI
import Derived.Test.YtllcjgladjcoaaaBestS
import Derived.Test.YtllcjgladjcoaaaShelfMax
import Derived.Test.YtllcjgladjcoaaaTopW
import Derived.Test.YtllcjgladjcoaaaManyW
import Derived.Test.YtllcjgladjcoaaaDicesW
import Derived.Test.YtllcjgladjcoaaaWaysW
import Derived.Test.YtllcjgladjcoaaaKnow
import Derived.Test.YtllcjgladjcoaaaCmpW
import Derived.Test.YtllcjgladjcoaaaCompW
import Derived.Test.YtllcjgladjcoaaaCompS
import Derived.Test.YtllcjgladjcoaaaDuel
import Derived.Test.YtllcjgladjcoaaaDieW
import Derived.Test.YtllcjgladjcoaaaSortW
import Derived.Test.YtllcjgladjcoaaaOpenD
import Derived.WalkKit
import Derived.WalkLawsBesides
import Derived.WalkSpells
import Derived.ProofKit
import Derived.OpenShut
import Derived.Deep.RegionWith
import Derived.Deep.QuietTactic
import Derived.BigQuiet
namespace Go.Proofs.Ytllcjgladjcoaaa
open Go.ChangeShapes Go.WideShapes Go.ChangeAt Go.RowKit
open Go.ChangeMaps (open_string shut_string)

namespace LevelS
open Dice Arr OpenD DieW SortW Duel CmpW Know WaysW CompS CompW ManyW QuietD QuietR TopW DicesW BestS BestI RowsL RowW SafeS SafeI BeatI IntsW ManyS ManyI RingS RingI AnyR TableS2 GridW PairsW

/-- Neither beats the other. -/
def lvl (P : Nat → Nat → Int) (i k : Nat) : Bool := !beats (P i) (P k) && !beats (P k) (P i)
theorem sg_lvl (P : Nat → Nat → Int) (i k : Nat) : (sg P i k == 0) = lvl P i k := by
  have e : (sg P i k == 0) = decide (sg P i k = 0) := rfl
  rw [e]
  unfold sg cmp3 lvl beats
  obtain ⟨e0, _, e2⟩ := cw_turn (P i) (P k)
  rw [← e0, ← e2]
  by_cases h1 : cw (P i) (P k) 36 0 < cw (P i) (P k) 36 2
  · rw [if_pos h1, decide_eq_true h1]; simp
  · rw [if_neg h1, decide_eq_false h1]
    by_cases h2 : cw (P i) (P k) 36 2 < cw (P i) (P k) 36 0
    · rw [if_pos h2, decide_eq_true h2]; rfl
    · rw [if_neg h2, decide_eq_false h2]; rfl
/-- The level pairs of one place with the first k places behind it. -/
def lpk (P : Nat → Nat → Int) (i : Nat) : Nat → List (Nat × Nat)
  | 0 => []
  | k + 1 => if i < k ∧ lvl P i k = true then lpk P i k ++ [(i, k)] else lpk P i k
def lpa (P : Nat → Nat → Int) (n : Nat) : Nat → List (Nat × Nat)
  | 0 => []
  | i + 1 => lpa P n i ++ lpk P i n
theorem lpk_nil (P : Nat → Nat → Int) (i : Nat) : ∀ k, k ≤ i + 1 → lpk P i k = [] := by
  intro k
  induction k with
  | zero => intro _; rfl
  | succ k ih =>
    intro hk
    rw [lpk, if_neg (fun h => by have := h.1; omega)]
    exact ih (by omega)
theorem lpk_len (P : Nat → Nat → Int) (i : Nat) : ∀ k, (lpk P i k).length ≤ k := by
  intro k
  induction k with
  | zero => exact Nat.le_refl _
  | succ k ih =>
    rw [lpk]
    split
    · simp; omega
    · omega
theorem lpa_len (P : Nat → Nat → Int) {n : Nat} (hn : n ≤ 6) : ∀ i, (lpa P n i).length ≤ 6 * i := by
  intro i
  induction i with
  | zero => exact Nat.le_refl _
  | succ i ih =>
    have := lpk_len P i n
    rw [lpa, List.length_append]
    omega
/-- Pairs as cells. -/
def pc (l : List (Nat × Nat)) : List Value := l.flatMap fun p => [.int .i64 (p.1 : Int), .int .i64 (p.2 : Int)]
theorem pc_snoc (l : List (Nat × Nat)) (i k : Nat) : pc (l ++ [(i, k)]) = pc l ++ [.int .i64 (i : Int), .int .i64 (k : Int)] := by simp [pc]
def pf (l : List (Nat × Nat)) (j : Nat) : Int := if j % 2 = 0 then ((l.getD (j / 2) (0, 0)).1 : Int) else ((l.getD (j / 2) (0, 0)).2 : Int)
theorem pc_get : ∀ (l : List (Nat × Nat)) (j : Nat), j < l.length * 2 → (pc l)[j]? = some (.int .i64 (pf l j)) := by
  intro l
  induction l with
  | nil => intro j hj; simp at hj
  | cons p l ih =>
    intro j hj
    have e : pc (p :: l) = .int .i64 (p.1 : Int) :: .int .i64 (p.2 : Int) :: pc l := by simp [pc]
    rw [e]
    match j, hj with
    | 0, _ => rfl
    | 1, _ => rfl
    | j + 2, hj =>
      have h1 := ih j (by simp at hj; omega)
      simp only [List.getElem?_cons_succ]
      rw [h1]
      have e1 : (j + 2) % 2 = j % 2 := by omega
      have e2 : (j + 2) / 2 = j / 2 + 1 := by omega
      simp only [pf, e1, e2, List.getD_cons_succ]
theorem pairs_own {w : World} {B : Nat} {v : Value} {l : List (Nat × Nat)} (h : w.ownsRow B 63 2 v l.length (pc l)) : ∃ A c, v = .slice A l.length c ∧ Pairs B w A l.length (pf l) := by
  rcases h.2 with ⟨rfl, h0⟩ | ⟨g, cap, cur, rfl, hb, hg, hnc, hcm, hcs, htake⟩
  · exact ⟨none, 0, by rw [h0], .inl h0⟩
  · exact ⟨_, cap, rfl, .inr ⟨g, rfl, hb, (Array.getElem?_eq_some_iff.1 hg).1, fun k hk => (h.cellAt k hk).trans (pc_get l k hk), fun k => h.frozenAt k⟩⟩
theorem info2 : (Try.prog.info? 63).map (fun i => (i.zero, i.size, i.bytes)) = some (some (.agg #[.int .i64 0, .int .i64 0]), 2, 16) := by kernel_rfl
def lenV (n : Nat) (P : Nat → Nat → Int) : Nat := if many 6 n P then (lpa P n n).length else 0

set_option maxRecDepth 100000 in
set_option maxHeartbeats 16000000 in
theorem specLevel_any (A : Option Addr) (n c : Nat) (P : Nat → Nat → Int) (w : World) (h : Row w A n P) (hn : n ≤ maxLen) :
    Calls Try.prog 34 #[.slice A n c] w fun e w' => ∃ A' c', e = .returned (.tuple #[.slice A' (lenV n P) c', .bool (many 6 n P)]) ∧ Pairs w.heap.size w' A' (lenV n P) (pf (lpa P n n)) ∧ Below w.heap.size w w' := by
  have hr := fun w h => l3Row_any A n c P w h hn
  have H := Lib.hid h; clear h
  unfold lenV
  have hB := na (n0 w) (.cells #[] 63)
  have hO0 : (w.alloc (.cells #[] 63)).ownsRow w.heap.size 63 2 (.slice (some ⟨w.heap.size, 0, none⟩) 0 0) 0 [] := World.ownsRow_made w #[] 0 (Nat.le_refl _) (by decide) rfl
  cases hq : many 6 n P
  · rw [hq] at hr
    simp only [Bool.false_eq_true, ↓reduceIte]
    have Hr := Lib.hid hr; clear hr hq hO0
    go_enter Try.func34, Try.ntmps34
    go_wp2_with fail
    refine (Hr.out _ (H.out.up hB)).mono ?_
    rintro e w1 ⟨rfl, hb1⟩
    go_wp2_with fail
    go_ret2
    exact ⟨_, _, rfl, .inl rfl, nx hB hb1⟩
  · obtain ⟨h1, h6, hp⟩ := of_many hq
    rw [hq] at hr
    simp only [↓reduceIte]
    have Hl0 := Lib.hid (fun x y w => l3Beats_any x y w)
    have Hr := Lib.hid hr; clear hr hq hp
    obtain ⟨i2, hi, hz0, hz1, hz2⟩ := info_parts info2
    have H2 := Lib.hid (And.intro hi (And.intro hz0 (And.intro hz1 hz2)))
    clear hi hz0 hz1 hz2
    go_enter Try.func34, Try.ntmps34
    go_wp2_with fail
    refine (Hr.out _ (H.out.up hB)).mono ?_
    rintro e w1 ⟨rfl, hb1⟩
    have hB1 := nx hB hb1
    have hO1 := hO0.kept (grown_of hb1 (Nat.le_refl _) none) (keep_none _)
    clear hb1 hB hO0
    obtain ⟨bk, o, rfl, hbk, hcw⟩ := row_cells H.out h1
    have Hcw := Lib.hid hcw; clear hcw
    clear Hr
    go_wp2_with fail
    go_loopw [4, 5] (fun v kv wr => ∃ i : Nat, i ≤ n ∧ kv = .int .i64 i ∧ wr.ownsRow w.heap.size 63 2 v (lpa P n i).length (pc (lpa P n i)) ∧ Below w.heap.size w wr) (fun _ kv _ => n - (intOf kv).toNat)
    case atStart => exact ⟨0, by omega, rfl, hO1, hB1⟩
    case round =>
      clear hB1 hO1
      obtain ⟨i, hi, rfl, hO, hB⟩ := hrel
      by_cases hlt : i < n
      · have hit : decide (i < n) = true := decide_eq_true hlt
        have hla := Lib.hid (lpa_len P h6 i)
        go_wp2_with fail
        go_loopw [4, 6] (fun v kv wr => ∃ k : Nat, i + 1 ≤ k ∧ k ≤ n ∧ kv = .int .i64 k ∧ wr.ownsRow w.heap.size 63 2 v (lpa P n i ++ lpk P i k).length (pc (lpa P n i ++ lpk P i k)) ∧ Below w.heap.size w wr) (fun _ kv _ => n - (intOf kv).toNat)
        case atStart => exact ⟨i + 1, by omega, by omega, by go_num, by rw [lpk_nil P i (i + 1) (Nat.le_refl _), List.append_nil]; exact hO, hB⟩
        case round =>
          clear hO hB
          obtain ⟨k, hik, hk, rfl, hO, hB⟩ := hrel
          by_cases hlk : k < n
          · have hkt : decide (k < n) = true := decide_eq_true hlk
            have hlk2 := lpk_len P i k
            have hlen : (lpa P n i ++ lpk P i k).length ≤ 42 := by rw [List.length_append]; have := hla.out; omega
            have Hlen := Lib.hid hlen
            have HO := Lib.hid hO
            clear hlen hlk2 hO
            have hl := Hl0.out (P i) (P k)
            have hr2 := Hl0.out (P k) (P i)
            cases hb1 : beats (P i) (P k)
            · cases hb2 : beats (P k) (P i)
              · have Hs : Hid (lpk P i (k + 1) = lpk P i k ++ [(i, k)]) := by show (if _ then _ else _) = _; rw [if_pos ⟨by omega, by unfold lvl; rw [hb1, hb2]; rfl⟩]
                rw [hb1] at hl
                rw [hb2] at hr2
                have Hl := Lib.hid hl; clear hl hb1
                have Hr2 := Lib.hid hr2; clear hr2 hb2
                obtain ⟨W0, rfl⟩ : ∃ W0, W0 = wr := ⟨wr, rfl⟩
                go_wp2_with fail
                refine wp_region_quiet (C := fun w' => Below W0.heap.size W0 w' ∧ Below w.heap.size w w') (by kernel_rfl) (by kernel_rfl) ⟨(n0 W0).drew, hB.drew⟩ ?_
                clear hB
                refine BigFrame.wpQuiet_want rfl (fun K hK => BigFrame.quiet_move _ rfl (hK _ ?_)); clear hK K; go_simp
                go_big_quiet_want; go_big_quiet_op; go_big_quiet_on
                go_big_quiet_want; go_big_quiet_op; first | go_big_quiet_on | (rename_i K hK; refine ⟨_, by intros; rfl, hK _ ?_⟩; clear hK K; go_simp)
                go_big_quiet_want; rename_i K hK; refine quiet_ldo _ rfl rfl (fun _ h => at_row (fun t hk => Hcw.out i hlt t hk) hbk h.2) (hK _ ?_); clear hK K; go_simp
                go_big_quiet_want; go_big_quiet_op; go_big_quiet_on
                go_big_quiet_want; go_big_quiet_op; go_big_quiet_on
                go_big_quiet_want; go_big_quiet_op; first | go_big_quiet_on | (rename_i K hK; refine ⟨_, by intros; rfl, hK _ ?_⟩; clear hK K; go_simp)
                go_big_quiet_want; rename_i K hK; refine quiet_ldo _ rfl rfl (fun _ h => at_row (fun t hk => Hcw.out k hlk t hk) hbk h.2) (hK _ ?_); clear hK K; go_simp
                go_big_quiet_want; rename_i K hK; refine ⟨.bool false, fun w' hw' => ?_, hK _ ?_⟩
                · clear hK K
                  have Hw := Lib.hid hw'; clear hw'
                  go_simp
                  refine (Hl.out _).mono ?_
                  rintro e w5 ⟨rfl, hb⟩
                  exact ⟨rfl, nx Hw.out.1 hb, nx Hw.out.2 hb⟩
                clear hK K; go_simp
                go_big_quiet_want; go_big_quiet_op; first | go_big_quiet_on | (rename_i K hK; refine ⟨_, by intros; rfl, hK _ ?_⟩; clear hK K; go_simp)
                go_big_quiet_want; go_big_quiet_op; go_big_quiet_on
                go_big_quiet_want; go_big_quiet_op; go_big_quiet_on
                go_big_quiet_want; go_big_quiet_op; go_big_quiet_on
                go_big_quiet_want; go_big_quiet_op; first | go_big_quiet_on | (rename_i K hK; refine ⟨_, by intros; rfl, hK _ ?_⟩; clear hK K; go_simp)
                go_big_quiet_want; rename_i K hK; refine quiet_ldo _ rfl rfl (fun _ h => at_row (fun t hk => Hcw.out k hlk t hk) hbk h.2) (hK _ ?_); clear hK K; go_simp
                go_big_quiet_want; go_big_quiet_op; go_big_quiet_on
                go_big_quiet_want; go_big_quiet_op; go_big_quiet_on
                go_big_quiet_want; go_big_quiet_op; first | go_big_quiet_on | (rename_i K hK; refine ⟨_, by intros; rfl, hK _ ?_⟩; clear hK K; go_simp)
                go_big_quiet_want; rename_i K hK; refine quiet_ldo _ rfl rfl (fun _ h => at_row (fun t hk => Hcw.out i hlt t hk) hbk h.2) (hK _ ?_); clear hK K; go_simp
                go_big_quiet_want; rename_i K hK; refine ⟨.bool false, fun w' hw' => ?_, hK _ ?_⟩
                · clear hK K
                  have Hw := Lib.hid hw'; clear hw'
                  go_simp
                  refine (Hr2.out _).mono ?_
                  rintro e w5 ⟨rfl, hb⟩
                  exact ⟨rfl, nx Hw.out.1 hb, nx Hw.out.2 hb⟩
                clear hK K; go_simp
                go_big_quiet_want; go_big_quiet_op; first | go_big_quiet_on | (rename_i K hK; refine ⟨_, by intros; rfl, hK _ ?_⟩; clear hK K; go_simp)
                go_big_quiet_want; go_big_quiet_op; first | go_big_quiet_on | (rename_i K hK; refine ⟨_, by intros; rfl, hK _ ?_⟩; clear hK K; go_simp)
                refine wpQuiet_nil ?_
                intro w3 hU hB
                have hO3 := HO.out.kept (grown_of hU (Nat.le_refl _) none) (keep_none _)
                clear HO hU
                have hsz3 := hB.size
                have hlen := Hlen.out
                go_wp2_with (at_builtin; refine wpList_append_own _ rfl _ _ 42 rfl w.heap.size 63 i2 (.agg #[.int .i64 0, .int .i64 0]) 2 16 Try.underlying42 H2.out.1 H2.out.2.1 H2.out.2.2.1 H2.out.2.2.2 rfl (by decide) _ _ _ rfl (hO3.alloc _) ⟨w3.heap.size, 0, none⟩ 1 1 [.int .i64 (i : Int), .int .i64 (k : Int)] rfl rfl ?c1 ?c2 ?c3 ?c4 ?c5 ?_)
                case c1 =>
                  intro t u ht
                  match t, ht with
                  | 0, ht => simp at ht; subst ht; simp [Addr.add]
                  | 1, ht => simp at ht; subst ht; simp [Addr.add]
                case c2 => intro u hu; simp at hu; rcases hu with rfl | rfl <;> rfl
                case c3 => unfold maxLen; omega
                case c4 => omega
                case c5 => simp; omega
                · intro v' w4 hO4 hg4 _
                  have hB4 := (na hB (.cells #[.int .i64 (i : Int), .int .i64 (k : Int)] 63)).grown hg4 (by rw [size_alloc]; omega) (fun t e => (hO3.lt t e).1)
                  have hO5 : w4.ownsRow w.heap.size 63 2 v' (lpa P n i ++ lpk P i (k + 1)).length (pc (lpa P n i ++ lpk P i (k + 1))) := by rw [Hs.out, ← List.append_assoc, pc_snoc, List.length_append, List.length_append]; exact hO4
                  clear hg4 hO4 hO3 hB
                  go_wp2_with fail
                  go_roundw
                  case rel => exact ⟨k + 1, by omega, by omega, by go_num, hO5, hB4⟩
                  case measure => simp [intOf]; omega
              · have Hs : Hid (lpk P i (k + 1) = lpk P i k) := by show (if _ then _ else _) = _; rw [if_neg (fun h => by have := h.2; unfold lvl at this; rw [hb1, hb2] at this; cases this)]
                rw [hb1] at hl
                rw [hb2] at hr2
                have Hl := Lib.hid hl; clear hl hb1
                have Hr2 := Lib.hid hr2; clear hr2 hb2
                obtain ⟨W0, rfl⟩ : ∃ W0, W0 = wr := ⟨wr, rfl⟩
                go_wp2_with fail
                refine wp_region_quiet (C := fun w' => Below W0.heap.size W0 w' ∧ Below w.heap.size w w') (by kernel_rfl) (by kernel_rfl) ⟨(n0 W0).drew, hB.drew⟩ ?_
                clear hB
                refine BigFrame.wpQuiet_want rfl (fun K hK => BigFrame.quiet_move _ rfl (hK _ ?_)); clear hK K; go_simp
                go_big_quiet_want; go_big_quiet_op; go_big_quiet_on
                go_big_quiet_want; go_big_quiet_op; first | go_big_quiet_on | (rename_i K hK; refine ⟨_, by intros; rfl, hK _ ?_⟩; clear hK K; go_simp)
                go_big_quiet_want; rename_i K hK; refine quiet_ldo _ rfl rfl (fun _ h => at_row (fun t hk => Hcw.out i hlt t hk) hbk h.2) (hK _ ?_); clear hK K; go_simp
                go_big_quiet_want; go_big_quiet_op; go_big_quiet_on
                go_big_quiet_want; go_big_quiet_op; go_big_quiet_on
                go_big_quiet_want; go_big_quiet_op; first | go_big_quiet_on | (rename_i K hK; refine ⟨_, by intros; rfl, hK _ ?_⟩; clear hK K; go_simp)
                go_big_quiet_want; rename_i K hK; refine quiet_ldo _ rfl rfl (fun _ h => at_row (fun t hk => Hcw.out k hlk t hk) hbk h.2) (hK _ ?_); clear hK K; go_simp
                go_big_quiet_want; rename_i K hK; refine ⟨.bool false, fun w' hw' => ?_, hK _ ?_⟩
                · clear hK K
                  have Hw := Lib.hid hw'; clear hw'
                  go_simp
                  refine (Hl.out _).mono ?_
                  rintro e w5 ⟨rfl, hb⟩
                  exact ⟨rfl, nx Hw.out.1 hb, nx Hw.out.2 hb⟩
                clear hK K; go_simp
                go_big_quiet_want; go_big_quiet_op; first | go_big_quiet_on | (rename_i K hK; refine ⟨_, by intros; rfl, hK _ ?_⟩; clear hK K; go_simp)
                go_big_quiet_want; go_big_quiet_op; go_big_quiet_on
                go_big_quiet_want; go_big_quiet_op; go_big_quiet_on
                go_big_quiet_want; go_big_quiet_op; go_big_quiet_on
                go_big_quiet_want; go_big_quiet_op; first | go_big_quiet_on | (rename_i K hK; refine ⟨_, by intros; rfl, hK _ ?_⟩; clear hK K; go_simp)
                go_big_quiet_want; rename_i K hK; refine quiet_ldo _ rfl rfl (fun _ h => at_row (fun t hk => Hcw.out k hlk t hk) hbk h.2) (hK _ ?_); clear hK K; go_simp
                go_big_quiet_want; go_big_quiet_op; go_big_quiet_on
                go_big_quiet_want; go_big_quiet_op; go_big_quiet_on
                go_big_quiet_want; go_big_quiet_op; first | go_big_quiet_on | (rename_i K hK; refine ⟨_, by intros; rfl, hK _ ?_⟩; clear hK K; go_simp)
                go_big_quiet_want; rename_i K hK; refine quiet_ldo _ rfl rfl (fun _ h => at_row (fun t hk => Hcw.out i hlt t hk) hbk h.2) (hK _ ?_); clear hK K; go_simp
                go_big_quiet_want; rename_i K hK; refine ⟨.bool true, fun w' hw' => ?_, hK _ ?_⟩
                · clear hK K
                  have Hw := Lib.hid hw'; clear hw'
                  go_simp
                  refine (Hr2.out _).mono ?_
                  rintro e w5 ⟨rfl, hb⟩
                  exact ⟨rfl, nx Hw.out.1 hb, nx Hw.out.2 hb⟩
                clear hK K; go_simp
                go_big_quiet_want; go_big_quiet_op; first | go_big_quiet_on | (rename_i K hK; refine ⟨_, by intros; rfl, hK _ ?_⟩; clear hK K; go_simp)
                go_big_quiet_want; go_big_quiet_op; first | go_big_quiet_on | (rename_i K hK; refine ⟨_, by intros; rfl, hK _ ?_⟩; clear hK K; go_simp)
                refine wpQuiet_nil ?_
                intro w3 hU hB
                have hO3 := HO.out.kept (grown_of hU (Nat.le_refl _) none) (keep_none _)
                clear HO hU
                go_wp2_with fail
                go_roundw
                case rel => exact ⟨k + 1, by omega, by omega, by go_num, by rw [Hs.out]; exact hO3, hB⟩
                case measure => simp [intOf]; omega
            · have Hs : Hid (lpk P i (k + 1) = lpk P i k) := by show (if _ then _ else _) = _; rw [if_neg (fun h => by have := h.2; unfold lvl at this; rw [hb1] at this; cases this)]
              rw [hb1] at hl
              have Hl := Lib.hid hl; clear hl hb1 hr2
              obtain ⟨W0, rfl⟩ : ∃ W0, W0 = wr := ⟨wr, rfl⟩
              go_wp2_with fail
              refine wp_region_quiet (C := fun w' => Below W0.heap.size W0 w' ∧ Below w.heap.size w w') (by kernel_rfl) (by kernel_rfl) ⟨(n0 W0).drew, hB.drew⟩ ?_
              clear hB
              refine BigFrame.wpQuiet_want rfl (fun K hK => BigFrame.quiet_move _ rfl (hK _ ?_)); clear hK K; go_simp
              go_big_quiet_want; go_big_quiet_op; go_big_quiet_on
              go_big_quiet_want; go_big_quiet_op; first | go_big_quiet_on | (rename_i K hK; refine ⟨_, by intros; rfl, hK _ ?_⟩; clear hK K; go_simp)
              go_big_quiet_want; rename_i K hK; refine quiet_ldo _ rfl rfl (fun _ h => at_row (fun t hk => Hcw.out i hlt t hk) hbk h.2) (hK _ ?_); clear hK K; go_simp
              go_big_quiet_want; go_big_quiet_op; go_big_quiet_on
              go_big_quiet_want; go_big_quiet_op; go_big_quiet_on
              go_big_quiet_want; go_big_quiet_op; first | go_big_quiet_on | (rename_i K hK; refine ⟨_, by intros; rfl, hK _ ?_⟩; clear hK K; go_simp)
              go_big_quiet_want; rename_i K hK; refine quiet_ldo _ rfl rfl (fun _ h => at_row (fun t hk => Hcw.out k hlk t hk) hbk h.2) (hK _ ?_); clear hK K; go_simp
              go_big_quiet_want; rename_i K hK; refine ⟨.bool true, fun w' hw' => ?_, hK _ ?_⟩
              · clear hK K
                have Hw := Lib.hid hw'; clear hw'
                go_simp
                refine (Hl.out _).mono ?_
                rintro e w5 ⟨rfl, hb⟩
                exact ⟨rfl, nx Hw.out.1 hb, nx Hw.out.2 hb⟩
              clear hK K; go_simp
              go_big_quiet_want; go_big_quiet_op; first | go_big_quiet_on | (rename_i K hK; refine ⟨_, by intros; rfl, hK _ ?_⟩; clear hK K; go_simp)
              go_big_quiet_want; go_big_quiet_op; go_big_quiet_on
              go_big_quiet_skip
              go_big_quiet_skip
              go_big_quiet_skip
              go_big_quiet_skip
              go_big_quiet_skip
              go_big_quiet_skip
              go_big_quiet_skip
              go_big_quiet_skip
              go_big_quiet_skip
              go_big_quiet_skip
              go_big_quiet_want; go_big_quiet_op; first | go_big_quiet_on | (rename_i K hK; refine ⟨_, by intros; rfl, hK _ ?_⟩; clear hK K; go_simp)
              refine wpQuiet_nil ?_
              intro w3 hU hB
              have hO3 := HO.out.kept (grown_of hU (Nat.le_refl _) none) (keep_none _)
              clear HO hU
              go_wp2_with fail
              go_roundw
              case rel => exact ⟨k + 1, by omega, by omega, by go_num, by rw [Hs.out]; exact hO3, hB⟩
              case measure => simp [intOf]; omega
          · obtain rfl : k = n := by omega
            go_wp2_with fail
            go_roundw
            case rel => exact ⟨i + 1, by omega, by go_num, hO, hB⟩
            case measure => simp [intOf]; omega
      · obtain rfl : i = n := by omega
        obtain ⟨A', c', rfl, hI⟩ := pairs_own hO
        go_wp2_with fail
        go_ret2
        exact ⟨_, _, rfl, hI, hB⟩


end LevelS
end Go.Proofs.Ytllcjgladjcoaaa
