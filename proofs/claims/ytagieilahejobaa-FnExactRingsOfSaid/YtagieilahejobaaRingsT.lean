/-
  RingsOf by the specification.
-/
import Derived.Test.YtagieilahejobaaRows
import Derived.Test.YtagieilahejobaaRingsS
import Derived.Test.YtagieilahejobaaRagL
import Derived.Test.YtagieilahejobaaRingW
import Derived.Test.YtagieilahejobaaRingM
import Derived.Test.YtagieilahejobaaPairsW
import Derived.Test.YtagieilahejobaaGridW
import Derived.Test.YtagieilahejobaaTableS2
import Derived.Test.YtagieilahejobaaRingI
import Derived.Test.YtagieilahejobaaRingS
import Derived.Test.YtagieilahejobaaManyI
import Derived.Test.YtagieilahejobaaManyS
import Derived.Test.YtagieilahejobaaAnyR
import Derived.Test.YtagieilahejobaaBeatI
import Derived.Test.YtagieilahejobaaIntsW
import Derived.Test.YtagieilahejobaaSafeI
import Derived.Test.YtagieilahejobaaSafeS
import Derived.Test.YtagieilahejobaaRowW
import Derived.Test.YtagieilahejobaaRowsL
import Derived.Test.YtagieilahejobaaQuietR
import Derived.Test.YtagieilahejobaaQuietD
import Derived.Test.YtagieilahejobaaBestI
import Derived.Test.YtagieilahejobaaBestS
import Derived.Test.YtagieilahejobaaShelfMax
import Derived.Test.YtagieilahejobaaTopW
import Derived.Test.YtagieilahejobaaManyW
import Derived.Test.YtagieilahejobaaDicesW
import Derived.Test.YtagieilahejobaaWaysW
import Derived.Test.YtagieilahejobaaKnow
import Derived.Test.YtagieilahejobaaCmpW
import Derived.Test.YtagieilahejobaaCompW
import Derived.Test.YtagieilahejobaaCompS
import Derived.Test.YtagieilahejobaaDuel
import Derived.Test.YtagieilahejobaaDieW
import Derived.Test.YtagieilahejobaaSortW
import Derived.Test.YtagieilahejobaaOpenD
import Derived.WalkKit
import Derived.WalkLawsBesides
import Derived.WalkSpells
import Derived.ProofKit
import Derived.OpenShut
import Derived.Deep.RegionWith
import Derived.Deep.QuietTactic
import Derived.BigQuiet
namespace Go.Proofs.Ytagieilahejobaa
open Go.ChangeShapes Go.WideShapes Go.ChangeAt Go.RowKit
open Go.ChangeMaps (open_string shut_string)

namespace RingsT
open Dice Arr OpenD DieW SortW Duel CmpW Know WaysW CompS CompW ManyW QuietD QuietR TopW DicesW BestS BestI RowsL RowW SafeS SafeI BeatI IntsW ManyS ManyI RingS RingI AnyR TableS2 GridW PairsW RingM RingW RagL RingsS

theorem bt_self (P : Nat → Nat → Int) (i : Nat) : bt P i i = false := beats_self (P i)
theorem bt_anti (P : Nat → Nat → Int) (i k : Nat) (h : bt P i k = true) : bt P k i = false := by
  unfold bt beats at *
  obtain ⟨e0, _, e2⟩ := cw_turn (P i) (P k)
  rw [← e0, ← e2]
  have := of_decide_eq_true h
  exact decide_eq_false (by omega)
theorem rg_end' (P : Nat → Nat → Int) {n L : Nat} (h1 : 1 ≤ n) (hL : 3 ≤ L) (hn : n < L) (hm : L ≤ 3 ∨ L = n + 1) : rg (bt P) n (L - 1) = rg (bt P) n n := by
  rcases hm with h | h
  · obtain rfl : L = 3 := by omega
    by_cases h2 : n = 2
    · subst h2; rfl
    · obtain rfl : n = 1 := by omega
      show rg (bt P) 1 2 = _
      rw [rg_two (bt_self P) (bt_anti P), rg_succ, closed0 (bt_self P)]
      rfl
  · rw [h]; rfl
theorem lev_le {b : Nat → Nat → Bool} {n m : Nat} (hn : n ≤ 6) (hm : m ≤ 6) : (lev b n m).length ≤ 279936 :=
  Nat.le_trans (lev_len m) (Nat.le_trans (Nat.pow_le_pow_left hn (m + 1)) (Nat.le_trans (Nat.pow_le_pow_right (by decide) (show m + 1 ≤ 7 by omega)) (by decide)))
theorem rg_len {b : Nat → Nat → Bool} {n : Nat} (hn : n ≤ 6) : ∀ m, m ≤ 7 → (rg b n m).length ≤ m * 279936 := by
  intro m
  induction m with
  | zero => intro _; exact Nat.zero_le _
  | succ m ih =>
    intro hm
    have h1 := ih (by omega)
    have h2 : (closed b n m).length ≤ 279936 := Nat.le_trans (List.length_filter_le _ _) (lev_le hn (by omega))
    rw [rg_succ, List.length_append]
    omega
/-- The rings of one length that begin with one of the first i places. -/
def bgn (P : Nat → Nat → Int) (n r i : Nat) : List (List Nat) := (List.range i).flatMap fun i => dfs (bt P) n r [i]
theorem bgn_succ (P : Nat → Nat → Int) (n r i : Nat) : bgn P n r (i + 1) = bgn P n r i ++ dfs (bt P) n r [i] := by
  unfold bgn
  rw [List.range_succ, List.flatMap_append]
  simp
theorem bgn_all (P : Nat → Nat → Int) (n r : Nat) : bgn P n r n = closed (bt P) n r := dfs_lev r
theorem bgn_len (P : Nat → Nat → Int) {n r : Nat} (hn : n ≤ 6) (hr : r ≤ 6) : ∀ i, (bgn P n r i).length ≤ i * 46656 := by
  intro i
  induction i with
  | zero => exact Nat.zero_le _
  | succ i ih =>
    have h1 := dfs_len (b := bt P) (n := n) r [i]
    have h2 := pow6 (n := n) (r := r) hn hr
    rw [bgn_succ, List.length_append]
    omega
theorem one_own (w : World) (B i : Nat) (hB : B ≤ w.heap.size) : PathAt B (w.alloc (.cells #[.int .i64 (i : Int)] 3)) (.slice (some ⟨w.heap.size, 0, none⟩) 1 1) [i] :=
  ⟨by simp [vl], .inr ⟨w.heap.size, 1, #[.int .i64 (i : Int)], rfl, hB, heap_alloc_new w _, Nat.le_refl _, by unfold maxLen; omega, rfl, by simp [vl]⟩⟩
def outR2 (n : Nat) (P : Nat → Nat → Int) : List (List Nat) := if many 6 n P then rg (bt P) n n else []
set_option maxRecDepth 100000 in
set_option maxHeartbeats 16000000 in
theorem specRings_any (A : Option Addr) (n c : Nat) (P : Nat → Nat → Int) (w : World) (h : Row w A n P) (hn : n ≤ maxLen) :
    Calls Try.prog 29 #[.slice A n c] w fun e w' => ∃ v gs cs, e = .returned (.tuple #[v, .bool (many 6 n P)]) ∧ RagAt w' w.heap.size v (outR2 n P) gs cs ∧ Below w.heap.size w w' := by
  have hr := fun w h => l3Row_any A n c P w h hn
  have H := Lib.hid h; clear h
  unfold outR2
  have hB := na (n0 w) (.cells #[] 51)
  have hO0 : (w.alloc (.cells #[] 51)).ownsRow w.heap.size 51 1 (.slice (some ⟨w.heap.size, 0, none⟩) 0 0) 0 [] := World.ownsRow_made w #[] 0 (Nat.le_refl _) (by decide) rfl
  have hR0 : RagAt (w.alloc (.cells #[] 51)) w.heap.size (.slice (some ⟨w.heap.size, 0, none⟩) 0 0) [] (fun _ => 0) (fun _ => 0) := ⟨hO0, fun _ hi => absurd hi (Nat.not_lt_zero _), fun _ _ _ hj => absurd hj (Nat.not_lt_zero _)⟩
  clear hO0
  cases hq : many 6 n P
  · rw [hq] at hr
    simp only [Bool.false_eq_true, ↓reduceIte]
    have Hr := Lib.hid hr; clear hr hq
    go_enter Try.func29, Try.ntmps29
    go_wp2_with fail
    refine (Hr.out _ (H.out.up hB)).mono ?_
    rintro e w1 ⟨rfl, hb1⟩
    have hR1 := hR0.up hb1
    go_wp2_with fail
    go_ret2
    exact ⟨_, _, _, rfl, hR1, nx hB hb1⟩
  · obtain ⟨h1, h6, hp⟩ := of_many hq
    rw [hq] at hr
    simp only [↓reduceIte]
    have Hr := Lib.hid hr; clear hr hq hp
    have h36 := Lib.hid (fun (B : Nat) (v : Value) (i r : Nat) (w : World) (h : Row w A n P) (hp : PathAt B w v [i]) (hi : i < n) (hr : 1 + r ≤ 6) (L : Nat) (hL : L = 1 + r) => l3Rings_any A n c P h6 r B v [i] w h hp (Nat.succ_pos _) (fun x hx => by rw [List.mem_singleton] at hx; subst hx; exact hi) hr L hL)
    obtain ⟨iS, hi, hz0, hz1, hz2⟩ := info_parts infoL
    have HS := Lib.hid (And.intro hi (And.intro hz0 (And.intro hz1 hz2)))
    clear hi hz0 hz1 hz2
    go_enter Try.func29, Try.ntmps29
    go_wp2_with fail
    refine (Hr.out _ (H.out.up hB)).mono ?_
    rintro e w1 ⟨rfl, hb1⟩
    have hB1 := nx hB hb1
    have hR1 := hR0.up hb1
    clear hb1 hB hR0 Hr
    go_wp2_with fail
    go_loopw [4, 5] (fun ov kv wr => ∃ (L : Nat) (gs cs : Nat → Nat), 3 ≤ L ∧ (L ≤ 3 ∨ L ≤ n + 1) ∧ kv = .int .i64 L ∧ RagAt wr w.heap.size ov (rg (bt P) n (L - 1)) gs cs ∧ ov ≠ .slice none 0 0 ∧ Below w.heap.size w wr) (fun _ kv _ => n + 4 - (intOf kv).toNat)
    case atStart => exact ⟨3, _, _, by omega, by omega, rfl, by show RagAt _ _ _ (rg (bt P) n 2) _ _; rw [rg_two (bt_self P) (bt_anti P)]; exact hR1, (fun e => by injection e with e; cases e), hB1⟩
    case round =>
      clear hB1 hR1
      obtain ⟨L, gs, cs, hL3, hLn, rfl, hR, hne, hB⟩ := hrel
      by_cases hlt : L ≤ n
      · have hit : decide (L ≤ n) = true := decide_eq_true hlt
        have hrl := Lib.hid (rg_len (b := bt P) (n := n) h6 (L - 1) (by omega))
        go_wp2_with fail
        go_loopw [4, 6] (fun ov kv wr => ∃ (i : Nat) (gs cs : Nat → Nat), i ≤ n ∧ kv = .int .i64 i ∧ RagAt wr w.heap.size ov (rg (bt P) n (L - 1) ++ bgn P n (L - 1) i) gs cs ∧ ov ≠ .slice none 0 0 ∧ Below w.heap.size w wr) (fun _ kv _ => n - (intOf kv).toNat)
        case atStart => exact ⟨0, _, _, by omega, rfl, by show RagAt _ _ _ (_ ++ []) _ _; rw [List.append_nil]; exact hR, hne, hB⟩
        case round =>
          clear hR hne hB
          obtain ⟨i, gs, cs, hi, rfl, hR, hne, hB⟩ := hrel
          by_cases hli : i < n
          · have hit2 : decide (i < n) = true := decide_eq_true hli
            have hbl := Lib.hid (bgn_len P h6 (show L - 1 ≤ 6 by omega) i)
            have hsz := hB.size
            have hP := one_own wr wr.heap.size i (Nat.le_refl _)
            have hb2 := na (n0 wr) (.cells #[.int .i64 (i : Int)] 3)
            have hB2 := nx hB hb2
            have HH := Lib.hid (h36.out _ _ i (L - 1) _ (H.out.up hB2) hP hli (by omega) L (by omega))
            have HR := Lib.hid hR; clear hR
            clear hP
            go_wp2_with fail
            refine HH.out.mono ?_
            rintro e w7 ⟨g7, c7, gs7, cs7, rfl, hR7, hb7⟩
            have hb37 := nx hb2 hb7
            have hB7 := nx hB2 hb7
            have hRo := HR.out.up hb37
            have hsz7 := hB7.size
            have hs2 := hb2.size
            have hdl2 : (dfs (bt P) n (L - 1) [i]).length ≤ 46656 := Nat.le_trans (dfs_len (L - 1) [i]) (pow6 h6 (by omega))
            have hll : (rg (bt P) n (L - 1) ++ bgn P n (L - 1) i).length ≤ 2000000 := by rw [List.length_append]; have := hrl.out; have := hbl.out; omega
            clear HH
            go_wp2_with (at_builtin; refine wpList_append_own _ rfl _ _ 33 rfl w.heap.size 51 iS (.slice none 0 0) 1 24 Try.underlying33 HS.out.1 HS.out.2.1 HS.out.2.2.1 HS.out.2.2.2 rfl (by decide) _ _ _ rfl hRo.out ⟨g7, 0, none⟩ (dfs (bt P) n (L - 1) [i]).length c7 (wd (dfs (bt P) n (L - 1) [i]) gs7 cs7) rfl (by rw [wd_len]; omega) ?f1 ?f2 ?f3 ?f4 ?f5 ?_)
            case f1 => exact words_of hR7
            case f2 => intro u hu; obtain ⟨x, _, rfl⟩ := List.mem_map.1 hu; rfl
            case f3 => unfold maxLen; omega
            case f4 => omega
            case f5 => first | exact hsz7 | omega
            · intro v8 w8 hO8 hg8 hn8
              have hR8 := hRo.join (qs := dfs (bt P) n (L - 1) [i]) (gs2 := gs7) (cs2 := cs7) (fun j hj => own_base (hR7.inn j hj) (by omega)) hR7.asc (fun x j hi hj => by
                have h1 := (HR.out.inner_lt hi).2
                have h2 := (hR7.inner_lt hj).1
                omega) hg8 (by rw [List.length_append]; exact hO8)
              rw [List.append_assoc, ← bgn_succ] at hR8
              have hB8 := hB7.grown hg8 (by omega) (fun t e => (hRo.out.lt t e).1)
              have hne8 : v8 ≠ .slice none 0 0 := fun e => by first | exact hn8 e | exact hne (hn8.1 e).1
              clear hO8 hg8 hn8 hRo hR7 hb37
              go_wp2_with fail
              go_roundw
              case rel => exact ⟨i + 1, _, _, by omega, by go_num, hR8, hne8, hB8⟩
              case measure => simp [intOf]; omega
          · obtain rfl : i = n := by omega
            have e : rg (bt P) i (L - 1) ++ closed (bt P) i (L - 1) = rg (bt P) i L := by rw [← rg_succ]; congr 1; omega
            rw [bgn_all, e] at hR
            clear e
            go_wp2_with fail
            go_roundw
            case rel => exact ⟨L + 1, _, _, by omega, by omega, by go_num, hR, hne, hB⟩
            case measure => simp [intOf]; omega
      · have hit : decide (L ≤ n) = false := decide_eq_false hlt
        have he := rg_end' P (n := n) h1 hL3 (by omega) (by omega)
        rw [he] at hR
        clear he
        go_wp2_with fail
        go_ret2
        exact ⟨_, _, _, rfl, hR, hB⟩


end RingsT
end Go.Proofs.Ytagieilahejobaa
