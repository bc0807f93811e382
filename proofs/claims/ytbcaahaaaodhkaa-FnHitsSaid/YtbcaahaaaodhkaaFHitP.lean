/-
  FnHits: for every code of bytes the law returns true, and the code reads afterwards as it read before. No condition.
-/
import Derived.Test.YtbcaahaaaodhkaaRows
import Derived.Test.YtbcaahaaaodhkaaOpenN
import Derived.Test.YtbcaahaaaodhkaaHitsF
import Derived.Test.YtbcaahaaaodhkaaHitsM
import Derived.Test.YtbcaahaaaodhkaaVCut
import Derived.Test.YtbcaahaaaodhkaaDrawB
import Derived.Test.YtbcaahaaaodhkaaDrawH
import Derived.Test.YtbcaahaaaodhkaaPoolD
import Derived.Test.YtbcaahaaaodhkaaCurN
import Derived.Test.YtbcaahaaaodhkaaBndI
import Derived.Test.YtbcaahaaaodhkaaBndS
import Derived.Test.YtbcaahaaaodhkaaHitC
import Derived.Test.YtbcaahaaaodhkaaHitI
import Derived.Test.YtbcaahaaaodhkaaHitS
import Derived.Test.YtbcaahaaaodhkaaHits
import Derived.Test.YtbcaahaaaodhkaaFive
import Derived.Test.YtbcaahaaaodhkaaFracW
import Derived.Test.YtbcaahaaaodhkaaCutW
import Derived.Test.YtbcaahaaaodhkaaAll6
import Derived.Test.YtbcaahaaaodhkaaPoolW
import Derived.Test.YtbcaahaaaodhkaaDicesW
import Derived.Test.YtbcaahaaaodhkaaSortW
import Derived.Test.YtbcaahaaaodhkaaDieW
import Derived.Test.YtbcaahaaaodhkaaOpenD
import Derived.WalkKit
import Derived.WalkLawsBesides
import Derived.WalkSpells
import Derived.ProofKit
import Derived.OpenShut
import Derived.Deep.RegionWith
import Derived.Deep.Cut
import Derived.Deep.CutRange
import Derived.Deep.DeepCutAuto
import Derived.Deep.QuietTactic
import Derived.BigQuiet
namespace Go.Proofs.Ytbcaahaaaodhkaa
open Go.ChangeShapes Go.WideShapes Go.ChangeAt Go.RowKit
open Go.ChangeMaps (open_string shut_string)

namespace FHitP
open Dice Arr OpenD DieW SortW DicesW PoolW All6 FracW CutW Hits Five HitI HitS HitC BndI BndS HitsM HitsF DrawH DrawB VCut PoolD OpenN

theorem wrap_id {x : Int} (h0 : 0 ≤ x) (h1 : x ≤ 9000000000) : wrap64 x = x := by unfold wrap64; omega
set_option maxRecDepth 20000 in
set_option maxHeartbeats 16000000 in
theorem law_any (A : Option Addr) (n c : Nat) (w : World) (h : CurN.Code w w.heap.size A n) (hc : n ≤ c) (hm : c ≤ maxLen) :
    Calls Try.prog 6 #[.slice A n c] w fun e w' => e = .returned (.bool true) ∧ Below w.heap.size w w' := by
  have hn : n ≤ maxLen := Nat.le_trans hc hm
  have Hb := Lib.hid (vBig_any A n c w)
  by_cases hbig : 65536 < n
  · rw [decide_eq_true hbig] at Hb
    clear h hc hm hn hbig
    go_enter Try.func6, Try.ntmps6
    go_wp2_with fail
    refine Hb.out.mono ?_
    rintro e w0 ⟨rfl, hw0⟩
    have hw0 := hw0.symm
    subst hw0
    go_wp2_with fail
    go_ret
    exact ⟨rfl, n0 _⟩
  rw [decide_eq_false hbig] at Hb
  have Hd1 := Lib.hid (drawChance_any A n c w h hn)
  have Hcut := Lib.hid (fun w' (hb : Below w.heap.size w w') => vCut_any A n c w' ((h.below hb).mono hb.size) (by omega) hc)
  have Hd2 := Lib.hid (fun A' n' c' w' (h' : CurN.Code w' w'.heap.size A' n') (hn' : n' ≤ 65537) => drawBound_any A' n' c' w' h' (by unfold maxLen; omega))
  clear h hc hm hn hbig
  go_enter Try.func6, Try.ntmps6
  go_wp2_with fail
  refine Hb.out.mono ?_
  rintro e w0 ⟨rfl, hw0⟩
  have hw0 := hw0.symm
  subst hw0
  go_wp2_with fail
  refine Hd1.out.mono ?_
  rintro e w1 ⟨⟨A1, n1, c1, P, b, k, rfl, h5, hc1, hc2, hR, _⟩, hB⟩
  have hml : n1 ≤ maxLen := Nat.le_trans hc1 hc2
  have hi1 := fun w h => implHits_any A1 n1 c1 P b w h hml
  have hs1 := fun w h => specHits_any A1 n1 c1 P b w h hml
  have hi2 := fun w h => implChHits_any A1 n1 c1 P b k w h hml
  have hs2 := fun w h => specChHits_any A1 n1 c1 P b k w h hml
  have hi5 := fun w h => implChHits_any A1 n1 c1 P (b + 1) k w h hml
  obtain ⟨f, b1, ho1, hf1⟩ : ∃ f b1, (if isPool n1 P && decide (0 ≤ b ∧ b ≤ 31) then #[v5 (HT P b n1), .bool true] else #[v5 fun _ => 0, .bool false] : Array Value) = #[v5 f, .bool b1] ∧ (b1 = true → f = HT P b n1 ∧ isPool n1 P = true ∧ 0 ≤ b ∧ b ≤ 31) ∧ (b1 = false → (isPool n1 P && decide (0 ≤ b ∧ b ≤ 31)) = false) := by
    cases hh : (isPool n1 P && decide (0 ≤ b ∧ b ≤ 31))
    · exact ⟨_, false, rfl, (fun h => by cases h), fun _ => rfl⟩
    · rw [Bool.and_eq_true, decide_eq_true_eq] at hh
      exact ⟨_, true, rfl, fun _ => ⟨rfl, hh.1, hh.2.1, hh.2.2⟩, fun h => by cases h⟩
  rw [ho1] at hi1 hs1
  obtain ⟨x, y, b2, ho2, hf2⟩ : ∃ x y b2, (if isPool n1 P && decide (0 ≤ b ∧ b ≤ 31) && decide (0 ≤ k ∧ k ≤ 4) then #[cutV (up P b n1 k) (all6 n1), .bool true] else #[v2 0 0, .bool false] : Array Value) = #[v2 x y, .bool b2] ∧ (b2 = true → b1 = true ∧ 0 ≤ k ∧ k ≤ 4 ∧ x = (up P b n1 k / Nat.gcd (up P b n1 k) (all6 n1) : Nat) ∧ y = (all6 n1 / Nat.gcd (up P b n1 k) (all6 n1) : Nat)) := by
    cases hh : (isPool n1 P && decide (0 ≤ b ∧ b ≤ 31) && decide (0 ≤ k ∧ k ≤ 4))
    · exact ⟨0, 0, false, rfl, fun h => by cases h⟩
    · rw [Bool.and_eq_true, decide_eq_true_eq] at hh
      refine ⟨_, _, true, rfl, fun _ => ⟨?_, hh.2.1, hh.2.2, rfl, rfl⟩⟩
      cases hb1 : b1
      · have := hf1.2 hb1
        rw [this] at hh
        cases hh.1
      · rfl
  rw [ho2] at hi2 hs2
  have Hi1 := Lib.hid hi1; clear hi1
  have Hs1 := Lib.hid hs1; clear hs1
  have Hi2 := Lib.hid hi2; clear hi2
  have Hs2 := Lib.hid hs2; clear hs2
  have Hi5 := Lib.hid hi5; clear hi5
  have Hf1 := Lib.hid hf1; clear hf1
  have Hf2 := Lib.hid hf2; clear hf2
  clear ho1 ho2 Hd1 Hb hc1 hc2 hml
  go_wp2_with fail
  refine (Hi1.out _ hR).mono ?_
  rintro e w2 ⟨rfl, hb⟩
  have hB := nx hB hb
  have hR := Row.up hR hb
  clear hb
  have hT := At.new5 w2 f 45 rfl
  have hal : Below w2.heap.size w2 (w2.alloc (fiveO f 45)) := na (n0 w2) _
  have hB := na hB (fiveO f 45)
  have hR := Row.up hR hal
  clear hal
  go_wp2_with fail
  refine (Hs1.out _ hR).mono ?_
  rintro e w3 ⟨rfl, hb⟩
  have hB := nx hB hb
  have hR := Row.up hR hb
  have hT := hT.up hb
  clear hb
  have hT2 := At.new5 w3 f 45 rfl
  have hal : Below w3.heap.size w3 (w3.alloc (fiveO f 45)) := na (n0 w3) _
  have hB := na hB (fiveO f 45)
  have hR := Row.up hR hal
  have hT := hT.up hal
  clear hal
  go_wp2_with fail
  refine (Hi2.out _ hR).mono ?_
  rintro e w4 ⟨rfl, hb⟩
  have hB := nx hB hb
  have hR := Row.up hR hb
  have hT := hT.up hb
  have hT2 := hT2.up hb
  clear hb
  have hC := At.pr x y w4
  have hal : Below w4.heap.size w4 (w4.alloc (.cells #[.int .i64 x, .int .i64 y] 31)) := na (n0 w4) _
  have hB := na hB (.cells #[.int .i64 x, .int .i64 y] 31)
  have hR := Row.up hR hal
  have hT := hT.up hal
  have hT2 := hT2.up hal
  clear hal
  go_wp2_with fail
  refine (Hs2.out _ hR).mono ?_
  rintro e w5 ⟨rfl, hb⟩
  have hB := nx hB hb
  have hR := Row.up hR hb
  have hT := hT.up hb
  have hT2 := hT2.up hb
  have hC := hC.up hb
  clear hb
  have hC2 := At.pr x y w5
  have hal : Below w5.heap.size w5 (w5.alloc (.cells #[.int .i64 x, .int .i64 y] 31)) := na (n0 w5) _
  have hB := na hB (.cells #[.int .i64 x, .int .i64 y] 31)
  have hR := Row.up hR hal
  have hT := hT.up hal
  have hT2 := hT2.up hal
  have hC := hC.up hal
  clear hal
  go_wp2_with fail
  refine (Hcut.out _ hB).mono ?_
  rintro e w6 ⟨⟨A9, n9, c9, rfl, hn9, hnc9, hcode⟩, hb⟩
  have hB := nx hB hb
  have hR := Row.up hR hb
  have hT := hT.up hb
  have hT2 := hT2.up hb
  have hC := hC.up hb
  have hC2 := hC2.up hb
  clear hb
  go_wp2_with fail
  refine (Hd2.out A9 n9 c9 _ hcode hn9).mono ?_
  rintro e w7 ⟨⟨A2, n2, c2, P2, k2, t2, m2, rfl, h52, hc12, hc22, hR2⟩, hb⟩
  have hB := nx hB hb
  have hR := Row.up hR hb
  have hT := hT.up hb
  have hT2 := hT2.up hb
  have hC := hC.up hb
  have hC2 := hC2.up hb
  clear hb
  have hml2 : n2 ≤ maxLen := Nat.le_trans hc12 hc22
  have hi3 := fun w h => implBnd_any A2 n2 c2 P2 k2 t2 m2 w h hml2
  have hs3 := fun w h => specBnd_any A2 n2 c2 P2 k2 t2 m2 w h hml2
  have hi4 := fun z w h => implChHits_any A2 n2 c2 P2 z k2 w h hml2
  obtain ⟨z, b3, ho3, hf3⟩ : ∃ z b3, (if isPool n2 P2 && (decide (1 ≤ k2 ∧ k2 ≤ 4) && (decide (1 ≤ m2 ∧ m2 ≤ 1000) && decide (0 ≤ t2 ∧ t2 ≤ m2))) then #[.int .i64 (bf (hit P2 n2 k2 t2 m2) 32).1, .bool (bf (hit P2 n2 k2 t2 m2) 32).2] else #[.int .i64 0, .bool false] : Array Value) = #[.int .i64 z, .bool b3] ∧ (b3 = true → isPool n2 P2 = true ∧ (1 ≤ k2 ∧ k2 ≤ 4) ∧ (1 ≤ m2 ∧ m2 ≤ 1000) ∧ (0 ≤ t2 ∧ t2 ≤ m2) ∧ bf (hit P2 n2 k2 t2 m2) 32 = (z, true)) := by
    cases hh : (isPool n2 P2 && (decide (1 ≤ k2 ∧ k2 ≤ 4) && (decide (1 ≤ m2 ∧ m2 ≤ 1000) && decide (0 ≤ t2 ∧ t2 ≤ m2))))
    · exact ⟨0, false, rfl, fun h => by cases h⟩
    · simp only [Bool.and_eq_true, decide_eq_true_eq] at hh
      exact ⟨_, _, rfl, fun h => ⟨hh.1, hh.2.1, hh.2.2.1, hh.2.2.2, by rw [← h]⟩⟩
  rw [ho3] at hi3 hs3
  have Hi3 := Lib.hid hi3; clear hi3
  have Hs3 := Lib.hid hs3; clear hs3
  have Hi4 := Lib.hid hi4; clear hi4
  have Hf3 := Lib.hid hf3; clear hf3
  clear ho3 Hcut Hd2 hcode hc12 hc22 hml2 hn9 hnc9
  go_wp2_with fail
  refine (Hi3.out _ hR2).mono ?_
  rintro e w8 ⟨rfl, hb⟩
  have hB := nx hB hb
  have hR := Row.up hR hb
  have hT := hT.up hb
  have hT2 := hT2.up hb
  have hC := hC.up hb
  have hC2 := hC2.up hb
  have hR2 := Row.up hR2 hb
  clear hb
  go_wp2_with fail
  refine (Hs3.out _ hR2).mono ?_
  rintro e w9 ⟨rfl, hb⟩
  have hB := nx hB hb
  have hR := Row.up hR hb
  have hT := hT.up hb
  have hT2 := hT2.up hb
  have hC := hC.up hb
  have hC2 := hC2.up hb
  have hR2 := Row.up hR2 hb
  clear hb
  obtain ⟨p0, p1, p2, p3, p4⟩ := At.five hT
  obtain ⟨q0, q1, q2, q3, q4⟩ := At.five hT2
  have r0 := hC.cell 0 (by omega)
  have r1 := hC.cell 1 (by omega)
  have s0 := hC2.cell 0 (by omega)
  have s1 := hC2.cell 1 (by omega)
  have heq5 : ∀ w, (Op.equalIn 10000 45 (v5 f) (v5 f)).run Try.prog w = .ok true w := fun w => by
    have := run_equalIn_vals (P := Try.prog) w 9998 45 3 5 Try.underlying45 Try.underlying3 Try.sizeOf3 f f
    rw [decide_eq_true (show agree f f 5 from fun _ _ => rfl)] at this
    exact this
  have heq2 : ∀ w, (Op.equalIn 10000 31 (v2 (fr x y 0) (fr x y 1)) (v2 (fr x y 0) (fr x y 1))).run Try.prog w = .ok true w := fun w => by
    have := run_equalIn_vals (P := Try.prog) w 9998 31 3 2 Try.underlying31 Try.underlying3 Try.sizeOf3 (fr x y) (fr x y)
    rw [decide_eq_true (show agree (fr x y) (fr x y) 2 from fun _ _ => rfl)] at this
    exact this
  cases hb2 : b2
  · rw [hb2] at *
    go_upto_if 124 with fail
    clear heq5 heq2 p0 p1 p2 p3 p4 q0 q1 q2 q3 q4 r0 r1 s0 s1
    go_cut [18, 19, 20, 21, 22, 23, 24, 25] from 31 to 167 (fun s18 s19 s20 s21 s22 s23 s24 s25 wx => Below w.heap.size w wx ∧ Row wx A1 n1 P ∧ At wx w2.heap.size 5 f ∧ At wx w4.heap.size 2 (fr x y))
    case first =>
      cases hb3 : b3
      · rw [hb3] at *
        go_wp2_with fail
        go_meet
        case rel => exact ⟨hB, hR, hT, hC⟩
      · obtain ⟨hq2, hk2, hm2, ht2, hbf⟩ := Hf3.out hb3
        obtain ⟨bn, hbn, rfl, hok, hno⟩ := bf_spec hbf
        have h42 := (of_pool hq2).2.1
        have hi4a := Hi4.out (bn : Int)
        rw [hq2, decide_eq_true (show (0 : Int) ≤ (bn : Int) ∧ (bn : Int) ≤ 31 by omega), decide_eq_true (show (0 : Int) ≤ k2 ∧ k2 ≤ 4 by omega), cut_cxy] at hi4a
        simp only [Bool.and_self, ↓reduceIte] at hi4a
        have hxy := cxy_le P2 n2 k2 bn h42
        have hge : t2 * (cy P2 n2 k2 bn : Nat) ≤ (cx P2 n2 k2 bn : Nat) * m2 := of_decide_eq_true hok
        have hi4b := Hi4.out ((bn : Int) + 1)
        have hxy' := cxy_le P2 n2 k2 (bn + 1) h42
        have hlt' : bn < 31 → ¬ t2 * (cy P2 n2 k2 (bn + 1) : Nat) ≤ (cx P2 n2 k2 (bn + 1) : Nat) * m2 := fun h => of_decide_eq_false (hno (bn + 1) (by omega) (by omega))
        have hi4c : bn < 31 → ∀ w, Row w A2 n2 P2 → Calls Try.prog 29 #[.slice A2 n2 c2, .int .i64 ((bn : Int) + 1), .int .i64 k2] w fun e w' => e = .returned (.tuple #[v2 (cx P2 n2 k2 (bn + 1) : Nat) (cy P2 n2 k2 (bn + 1) : Nat), .bool true]) ∧ Below w.heap.size w w' := by
          intro hlt w h
          have := hi4b w h
          rw [hq2, decide_eq_true (show (0 : Int) ≤ (bn : Int) + 1 ∧ (bn : Int) + 1 ≤ 31 by omega), decide_eq_true (show (0 : Int) ≤ k2 ∧ k2 ≤ 4 by omega)] at this
          simp only [Bool.and_self, ↓reduceIte] at this
          rw [show cutV (up P2 ((bn : Int) + 1) n2 k2) (all6 n2) = v2 (cx P2 n2 k2 (bn + 1) : Nat) (cy P2 n2 k2 (bn + 1) : Nat) from cut_cxy P2 n2 k2 (bn + 1)] at this
          exact this
        have HI4a := Lib.hid hi4a
        have HI4c := Lib.hid hi4c
        clear hi4a hi4b hi4c hno hok hbf hq2 h42 Hi4 Hf3
        generalize cx P2 n2 k2 bn = X at *
        generalize cy P2 n2 k2 bn = Y at *
        generalize cx P2 n2 k2 (bn + 1) = X' at *
        generalize cy P2 n2 k2 (bn + 1) = Y' at *
        obtain ⟨p1, p2⟩ := prod_le (M := 6480) hxy.1 (show 0 ≤ m2 by omega) hm2.2 rfl
        obtain ⟨p3, p4⟩ := prod_le (x := t2 * (Y : Int)) (M := 1296) hxy.2 ht2.1 (by omega) (Int.mul_comm _ _)
        obtain ⟨p5, p6⟩ := prod_le (M := 6480) hxy'.1 (show 0 ≤ m2 by omega) hm2.2 rfl
        obtain ⟨p7, p8⟩ := prod_le (x := t2 * (Y' : Int)) (M := 1296) hxy'.2 ht2.1 (by omega) (Int.mul_comm _ _)
        have hw1 : wrap64 ((X : Int) * m2) = (X : Int) * m2 := by unfold wrap64; omega
        have hw2 : wrap64 (t2 * (Y : Int)) = t2 * (Y : Int) := by unfold wrap64; omega
        have hw3 : wrap64 ((X' : Int) * m2) = (X' : Int) * m2 := by unfold wrap64; omega
        have hw4 : wrap64 (t2 * (Y' : Int)) = t2 * (Y' : Int) := by unfold wrap64; omega
        have hge' : decide ((X : Int) * m2 < t2 * (Y : Int)) = false := decide_eq_false (by omega)
        clear p1 p2 p3 p4 p5 p6 p7 p8 hxy hxy'
        go_wp2_with fail
        refine (HI4a.out _ hR2).mono ?_
        rintro e w10 ⟨rfl, hb⟩
        have hB := nx hB hb
        have hR := Row.up hR hb
        have hT := hT.up hb
        have hC := hC.up hb
        have hR2 := Row.up hR2 hb
        clear hb
        have hO := At.pr (X : Int) (Y : Int) w10
        have o0 : World.cell? _ ⟨w10.heap.size, 0, none⟩ = some (.int .i64 (X : Int)) := hO.cell 0 (by omega)
        have o1 : World.cell? _ ⟨w10.heap.size, 1, none⟩ = some (.int .i64 (Y : Int)) := hO.cell 1 (by omega)
        have hal : Below w10.heap.size w10 (w10.alloc (.cells #[.int .i64 (X : Int), .int .i64 (Y : Int)] 31)) := na (n0 w10) _
        have hB := na hB (.cells #[.int .i64 (X : Int), .int .i64 (Y : Int)] 31)
        have hR := Row.up hR hal
        have hT := hT.up hal
        have hC := hC.up hal
        have hR2 := Row.up hR2 hal
        clear hal
        by_cases hbl : bn < 31
        · have hblt : decide ((bn : Int) < 31) = true := decide_eq_true (by omega)
          have hi4 := HI4c.out hbl
          have HI4 := Lib.hid hi4
          have hng : decide ((X' : Int) * m2 ≥ t2 * (Y' : Int)) = false := decide_eq_false (by have := hlt' hbl; omega)
          have hng2 : decide (t2 * (Y' : Int) ≤ (X' : Int) * m2) = false := decide_eq_false (by have := hlt' hbl; omega)
          clear hi4 hlt' HI4c
          go_wp2_with fail
          refine (HI4.out _ hR2).mono ?_
          rintro e w11 ⟨rfl, hb⟩
          have hB := nx hB hb
          have hR := Row.up hR hb
          have hT := hT.up hb
          have hC := hC.up hb
          have hR2 := Row.up hR2 hb
          clear hb
          have hO := At.pr (X' : Int) (Y' : Int) w11
          have o0 : World.cell? _ ⟨w11.heap.size, 0, none⟩ = some (.int .i64 (X' : Int)) := hO.cell 0 (by omega)
          have o1 : World.cell? _ ⟨w11.heap.size, 1, none⟩ = some (.int .i64 (Y' : Int)) := hO.cell 1 (by omega)
          have hal : Below w11.heap.size w11 (w11.alloc (.cells #[.int .i64 (X' : Int), .int .i64 (Y' : Int)] 31)) := na (n0 w11) _
          have hB := na hB (.cells #[.int .i64 (X' : Int), .int .i64 (Y' : Int)] 31)
          have hR := Row.up hR hal
          have hT := hT.up hal
          have hC := hC.up hal
          have hR2 := Row.up hR2 hal
          clear hal
          go_wp2_with fail
          go_meet
          case rel => exact ⟨hB, hR, hT, hC⟩
        · have hblt : decide ((bn : Int) < 31) = false := decide_eq_false (by omega)
          go_wp2_with fail
          go_meet
          case rel => exact ⟨hB, hR, hT, hC⟩
    case rest =>
      clear hB hR hT hC
      obtain ⟨hB, hR, hT, hC⟩ := hcut
      cases hb1 : b1
      · rw [hb1] at *
        go_wp2_with fail
        go_ret
        exact ⟨rfl, hB⟩
      · obtain ⟨hfe, hq, hb0, hb31⟩ := Hf1.out.1 hb1
        rw [hb1] at *
        have h4 := (of_pool hq).2.1
        have hup : ∀ i, i ≤ 5 → 0 ≤ Hits.upto f 0 i ∧ Hits.upto f 0 i ≤ 6480 := fun i hi => by
          have := upto_bound (HT_small P b h4).nn 0 i
          rw [← hfe] at this
          have e : (i : Int) * 1296 ≤ 5 * 1296 := by omega
          omega
        have hfb : ∀ i, 0 ≤ f i ∧ f i ≤ 1296 := fun i => by rw [hfe]; exact (HT_small P b h4).nn i
        have hall := tab_all P b h4
        rw [← hfe] at hall
        have HV := Lib.hid (fun w => vSix_any n1 w (by omega))
        have h6 := all6_le h4
        have Hall := Lib.hid hall
        clear hall hfe hq Hf1 Hf2
        go_wp2_with fail
        go_loopw [26, 27, 28] (fun av mv iv wr => ∃ i : Nat, i ≤ 5 ∧ iv = .int .i64 i ∧ av = .int .i64 (Hits.upto f 0 i) ∧ mv = .int .i64 0 ∧ wr = wc) (fun _ _ iv _ => 5 - (intOf iv).toNat)
        case atStart => exact ⟨0, by omega, rfl, rfl, rfl, rfl⟩
        case round =>
          obtain ⟨i, hi, rfl, rfl, rfl, rfl⟩ := hrel
          have hui := hup i hi
          by_cases hlt : i < 5
          · have hit : decide ((i : Int) < 5) = true := decide_eq_true (by omega)
            have ci := hT.cell i hlt
            have hfi := hfb i
            have Hs := Lib.hid (upto_snoc f i)
            go_wp2_with fail
            go_roundw
            case rel => exact ⟨i + 1, by omega, by go_num, by rw [Hs.out], rfl, by first | rfl | trivial⟩
            case measure => simp [intOf]; omega
          · obtain rfl : i = 5 := by omega
            rw [Hall.out]
            go_wp2_with fail
            refine (HV.out _).mono ?_
            rintro e w20 ⟨rfl, hw20⟩
            have hw20 := hw20.symm
            subst hw20
            go_wp2_with fail
            go_ret
            exact ⟨rfl, hB⟩
  · have Hz2 := Lib.hid (Hf2.out hb2)
    have hb1 := Hz2.out.1
    have Hz1 := Lib.hid (Hf1.out.1 hb1)
    rw [hb2] at *
    rw [hb1] at *
    go_upto_if 124 with fail
    clear heq5 heq2 p0 p1 p2 p3 p4 q0 q1 q2 q3 q4 r0 r1 s0 s1
    go_cut [18, 19, 20, 21, 22, 23, 24, 25] from 31 to 167 (fun s18 s19 s20 s21 s22 s23 s24 s25 wx => Below w.heap.size w wx ∧ Row wx A1 n1 P ∧ At wx w2.heap.size 5 f ∧ At wx w4.heap.size 2 (fr x y))
    case first =>
      cases hb3 : b3
      · rw [hb3] at *
        go_wp2_with fail
        go_meet
        case rel => exact ⟨hB, hR, hT, hC⟩
      · obtain ⟨hq2, hk2, hm2, ht2, hbf⟩ := Hf3.out hb3
        obtain ⟨bn, hbn, rfl, hok, hno⟩ := bf_spec hbf
        have h42 := (of_pool hq2).2.1
        have hi4a := Hi4.out (bn : Int)
        rw [hq2, decide_eq_true (show (0 : Int) ≤ (bn : Int) ∧ (bn : Int) ≤ 31 by omega), decide_eq_true (show (0 : Int) ≤ k2 ∧ k2 ≤ 4 by omega), cut_cxy] at hi4a
        simp only [Bool.and_self, ↓reduceIte] at hi4a
        have hxy := cxy_le P2 n2 k2 bn h42
        have hge : t2 * (cy P2 n2 k2 bn : Nat) ≤ (cx P2 n2 k2 bn : Nat) * m2 := of_decide_eq_true hok
        have hi4b := Hi4.out ((bn : Int) + 1)
        have hxy' := cxy_le P2 n2 k2 (bn + 1) h42
        have hlt' : bn < 31 → ¬ t2 * (cy P2 n2 k2 (bn + 1) : Nat) ≤ (cx P2 n2 k2 (bn + 1) : Nat) * m2 := fun h => of_decide_eq_false (hno (bn + 1) (by omega) (by omega))
        have hi4c : bn < 31 → ∀ w, Row w A2 n2 P2 → Calls Try.prog 29 #[.slice A2 n2 c2, .int .i64 ((bn : Int) + 1), .int .i64 k2] w fun e w' => e = .returned (.tuple #[v2 (cx P2 n2 k2 (bn + 1) : Nat) (cy P2 n2 k2 (bn + 1) : Nat), .bool true]) ∧ Below w.heap.size w w' := by
          intro hlt w h
          have := hi4b w h
          rw [hq2, decide_eq_true (show (0 : Int) ≤ (bn : Int) + 1 ∧ (bn : Int) + 1 ≤ 31 by omega), decide_eq_true (show (0 : Int) ≤ k2 ∧ k2 ≤ 4 by omega)] at this
          simp only [Bool.and_self, ↓reduceIte] at this
          rw [show cutV (up P2 ((bn : Int) + 1) n2 k2) (all6 n2) = v2 (cx P2 n2 k2 (bn + 1) : Nat) (cy P2 n2 k2 (bn + 1) : Nat) from cut_cxy P2 n2 k2 (bn + 1)] at this
          exact this
        have HI4a := Lib.hid hi4a
        have HI4c := Lib.hid hi4c
        clear hi4a hi4b hi4c hno hok hbf hq2 h42 Hi4 Hf3
        generalize cx P2 n2 k2 bn = X at *
        generalize cy P2 n2 k2 bn = Y at *
        generalize cx P2 n2 k2 (bn + 1) = X' at *
        generalize cy P2 n2 k2 (bn + 1) = Y' at *
        obtain ⟨p1, p2⟩ := prod_le (M := 6480) hxy.1 (show 0 ≤ m2 by omega) hm2.2 rfl
        obtain ⟨p3, p4⟩ := prod_le (x := t2 * (Y : Int)) (M := 1296) hxy.2 ht2.1 (by omega) (Int.mul_comm _ _)
        obtain ⟨p5, p6⟩ := prod_le (M := 6480) hxy'.1 (show 0 ≤ m2 by omega) hm2.2 rfl
        obtain ⟨p7, p8⟩ := prod_le (x := t2 * (Y' : Int)) (M := 1296) hxy'.2 ht2.1 (by omega) (Int.mul_comm _ _)
        have hw1 : wrap64 ((X : Int) * m2) = (X : Int) * m2 := by unfold wrap64; omega
        have hw2 : wrap64 (t2 * (Y : Int)) = t2 * (Y : Int) := by unfold wrap64; omega
        have hw3 : wrap64 ((X' : Int) * m2) = (X' : Int) * m2 := by unfold wrap64; omega
        have hw4 : wrap64 (t2 * (Y' : Int)) = t2 * (Y' : Int) := by unfold wrap64; omega
        have hge' : decide ((X : Int) * m2 < t2 * (Y : Int)) = false := decide_eq_false (by omega)
        clear p1 p2 p3 p4 p5 p6 p7 p8 hxy hxy'
        go_wp2_with fail
        refine (HI4a.out _ hR2).mono ?_
        rintro e w10 ⟨rfl, hb⟩
        have hB := nx hB hb
        have hR := Row.up hR hb
        have hT := hT.up hb
        have hC := hC.up hb
        have hR2 := Row.up hR2 hb
        clear hb
        have hO := At.pr (X : Int) (Y : Int) w10
        have o0 : World.cell? _ ⟨w10.heap.size, 0, none⟩ = some (.int .i64 (X : Int)) := hO.cell 0 (by omega)
        have o1 : World.cell? _ ⟨w10.heap.size, 1, none⟩ = some (.int .i64 (Y : Int)) := hO.cell 1 (by omega)
        have hal : Below w10.heap.size w10 (w10.alloc (.cells #[.int .i64 (X : Int), .int .i64 (Y : Int)] 31)) := na (n0 w10) _
        have hB := na hB (.cells #[.int .i64 (X : Int), .int .i64 (Y : Int)] 31)
        have hR := Row.up hR hal
        have hT := hT.up hal
        have hC := hC.up hal
        have hR2 := Row.up hR2 hal
        clear hal
        by_cases hbl : bn < 31
        · have hblt : decide ((bn : Int) < 31) = true := decide_eq_true (by omega)
          have hi4 := HI4c.out hbl
          have HI4 := Lib.hid hi4
          have hng : decide ((X' : Int) * m2 ≥ t2 * (Y' : Int)) = false := decide_eq_false (by have := hlt' hbl; omega)
          have hng2 : decide (t2 * (Y' : Int) ≤ (X' : Int) * m2) = false := decide_eq_false (by have := hlt' hbl; omega)
          clear hi4 hlt' HI4c
          go_wp2_with fail
          refine (HI4.out _ hR2).mono ?_
          rintro e w11 ⟨rfl, hb⟩
          have hB := nx hB hb
          have hR := Row.up hR hb
          have hT := hT.up hb
          have hC := hC.up hb
          have hR2 := Row.up hR2 hb
          clear hb
          have hO := At.pr (X' : Int) (Y' : Int) w11
          have o0 : World.cell? _ ⟨w11.heap.size, 0, none⟩ = some (.int .i64 (X' : Int)) := hO.cell 0 (by omega)
          have o1 : World.cell? _ ⟨w11.heap.size, 1, none⟩ = some (.int .i64 (Y' : Int)) := hO.cell 1 (by omega)
          have hal : Below w11.heap.size w11 (w11.alloc (.cells #[.int .i64 (X' : Int), .int .i64 (Y' : Int)] 31)) := na (n0 w11) _
          have hB := na hB (.cells #[.int .i64 (X' : Int), .int .i64 (Y' : Int)] 31)
          have hR := Row.up hR hal
          have hT := hT.up hal
          have hC := hC.up hal
          have hR2 := Row.up hR2 hal
          clear hal
          go_wp2_with fail
          go_meet
          case rel => exact ⟨hB, hR, hT, hC⟩
        · have hblt : decide ((bn : Int) < 31) = false := decide_eq_false (by omega)
          go_wp2_with fail
          go_meet
          case rel => exact ⟨hB, hR, hT, hC⟩
    case rest =>
      clear hB hR hT hC
      obtain ⟨hB, hR, hT, hC⟩ := hcut
      obtain ⟨hfe, hq, hb0, hb31⟩ := Hz1.out
      obtain ⟨_, hk0, hk4, hx, hy⟩ := Hz2.out
      have h4 := (of_pool hq).2.1
      have hup : ∀ i, i ≤ 5 → 0 ≤ Hits.upto f 0 i ∧ Hits.upto f 0 i ≤ 6480 := fun i hi => by
        have := upto_bound (HT_small P b h4).nn 0 i
        rw [← hfe] at this
        have e : (i : Int) * 1296 ≤ 5 * 1296 := by omega
        omega
      have hfb : ∀ i, 0 ≤ f i ∧ f i ≤ 1296 := fun i => by rw [hfe]; exact (HT_small P b h4).nn i
      have hall := tab_all P b h4
      have hmany := up_val P b h4 hk0 hk4
      rw [← hfe] at hall hmany
      have HV := Lib.hid (fun w => vSix_any n1 w (by omega))
      have h6 := all6_le h4
      have hmul := cut_mul (up P b n1 k) (all6 n1) h6.2
      have hbx := Nat.div_le_self (up P b n1 k) (Nat.gcd (up P b n1 k) (all6 n1))
      have hby := Nat.div_le_self (all6 n1) (Nat.gcd (up P b n1 k) (all6 n1))
      have hul := up_le P b n1 k h4
      have hi5 : b < 31 → ∃ x' y' : Nat, (x' : Int) * y ≤ x * (y' : Int) ∧ x' ≤ 6480 ∧ y' ≤ 1296 ∧ ∀ w, Row w A1 n1 P → Calls Try.prog 29 #[.slice A1 n1 c1, .int .i64 (b + 1), .int .i64 k] w fun e w' => e = .returned (.tuple #[v2 (x' : Nat) (y' : Nat), .bool true]) ∧ Below w.heap.size w w' := by
        intro hlt
        refine ⟨up P (b + 1) n1 k / Nat.gcd (up P (b + 1) n1 k) (all6 n1), all6 n1 / Nat.gcd (up P (b + 1) n1 k) (all6 n1), ?_, Nat.le_trans (Nat.div_le_self _ _) (up_le P (b + 1) n1 k h4), Nat.le_trans (Nat.div_le_self _ _) h6.1, fun w h => ?_⟩
        · rw [hx, hy]
          have := cross h6.2 (up_mono P b h4 hk0 hk4)
          exact_mod_cast this
        · have := Hi5.out w h
          rw [hq, decide_eq_true (show (0 : Int) ≤ b + 1 ∧ b + 1 ≤ 31 by omega), decide_eq_true (show (0 : Int) ≤ k ∧ k ≤ 4 by omega)] at this
          simp only [Bool.and_self, ↓reduceIte] at this
          exact this
      have Hi5' := Lib.hid hi5
      have Hall := Lib.hid hall
      have Hmany := Lib.hid hmany
      obtain ⟨U, hU⟩ : ∃ U, U = up P b n1 k := ⟨_, rfl⟩
      obtain ⟨X, hX⟩ : ∃ X, X = up P b n1 k / Nat.gcd (up P b n1 k) (all6 n1) := ⟨_, rfl⟩
      obtain ⟨Y, hY⟩ : ∃ Y, Y = all6 n1 / Nat.gcd (up P b n1 k) (all6 n1) := ⟨_, rfl⟩
      rw [← hX, ← hY] at hmul
      rw [← hX] at hbx hx
      rw [← hY] at hby hy
      rw [← hU] at hmul hbx hul Hmany
      clear hall hmany hfe hq Hf1 Hf2 hi5 Hi5 hU hX hY
      subst hx
      subst hy
      obtain ⟨N, hN⟩ : ∃ N, N = all6 n1 := ⟨_, rfl⟩
      rw [← hN] at hmul hby Hall HV h6
      clear hN
      have p1 : (0 : Int) ≤ (U : Int) * (Y : Int) ∧ (U : Int) * (Y : Int) ≤ 6480 * 1296 := ⟨Int.mul_nonneg (by omega) (by omega), Int.mul_le_mul (by omega) (by omega) (by omega) (by omega)⟩
      have e2 : (X : Int) * (N : Int) = (U : Int) * (Y : Int) := by exact_mod_cast hmul.symm
      have hne : (wrap64 ((U : Int) * (Y : Int)) != wrap64 ((X : Int) * (N : Int))) = false := by rw [e2]; simp
      have c0 : World.cell? wc ⟨w4.heap.size, 0, none⟩ = some (.int .i64 (X : Int)) := hC.cell 0 (by omega)
      have c1 : World.cell? wc ⟨w4.heap.size, 1, none⟩ = some (.int .i64 (Y : Int)) := hC.cell 1 (by omega)
      have Hne := Lib.hid hne
      have He2 := Lib.hid e2
      have Hp1 := Lib.hid p1
      have Hbd := Lib.hid (And.intro hbx (And.intro hby hul))
      have Hb0 := Lib.hid (And.intro hb0 hb31)
      clear hne e2 hmul p1 hbx hby hul hb0 hb31
      go_wp2_with fail
      go_loopw [26, 27, 28] (fun av mv iv wr => ∃ i : Nat, i ≤ 5 ∧ iv = .int .i64 i ∧ av = .int .i64 (Hits.upto f 0 i) ∧ mv = .int .i64 (mm f k i) ∧ wr = wc) (fun _ _ iv _ => 5 - (intOf iv).toNat)
      case atStart => exact ⟨0, by omega, rfl, rfl, rfl, rfl⟩
      case round =>
        obtain ⟨i, hi, rfl, rfl, rfl, rfl⟩ := hrel
        have hui := hup i hi
        have hmi := mm_bound k hfb i
        by_cases hlt : i < 5
        · have hit : decide ((i : Int) < 5) = true := decide_eq_true (by omega)
          have ci := hT.cell i hlt
          have hfi := hfb i
          have Hs := Lib.hid (upto_snoc f i)
          by_cases hik : k ≤ (i : Int)
          · have hg1 : decide ((i : Int) ≥ k) = true := decide_eq_true hik
            have hg2 : decide (k ≤ (i : Int)) = true := decide_eq_true hik
            have Hm := Lib.hid (mm_yes (f := f) hik)
            go_wp2_with fail
            go_roundw
            case rel => exact ⟨i + 1, by omega, by go_num, by rw [Hs.out], by rw [Hm.out], by first | rfl | trivial⟩
            case measure => simp [intOf]; omega
          · have hg1 : decide ((i : Int) ≥ k) = false := decide_eq_false hik
            have hg2 : decide (k ≤ (i : Int)) = false := decide_eq_false hik
            have Hm := Lib.hid (mm_no (f := f) hik)
            go_wp2_with fail
            go_roundw
            case rel => exact ⟨i + 1, by omega, by go_num, by rw [Hs.out], by rw [Hm.out], by first | rfl | trivial⟩
            case measure => simp [intOf]; omega
        · obtain rfl : i = 5 := by omega
          rw [Hall.out, Hmany.out]
          have hne := Hne.out
          have p1 := Hp1.out
          obtain ⟨hbx, hby, hul⟩ := Hbd.out
          obtain ⟨hb0, hb31⟩ := Hb0.out
          have hwU : wrap64 ((U : Int) * (Y : Int)) = (U : Int) * (Y : Int) := wrap_id p1.1 (Int.le_trans p1.2 (by decide))
          have hwX : wrap64 ((X : Int) * (N : Int)) = (U : Int) * (Y : Int) := by rw [He2.out]; exact wrap_id p1.1 (Int.le_trans p1.2 (by decide))
          clear p1
          go_wp2_with fail
          refine (HV.out _).mono ?_
          rintro e w20 ⟨rfl, hw20⟩
          have hw20 := hw20.symm
          subst hw20
          by_cases hlb : b < 31
          · have hlbt : decide (b < 31) = true := decide_eq_true hlb
            obtain ⟨x', y', hcr, hx6, hy6, hcall⟩ := Hi5'.out hlb
            have HC := Lib.hid hcall
            have HL := Lib.hid (fun w => vLess_any (X : Int) (Y : Int) (x' : Int) (y' : Int) w ⟨Int.mul_nonneg (by omega) (by omega), Int.le_trans (Int.mul_le_mul (show (X : Int) ≤ 6480 by omega) (show (y' : Int) ≤ 1296 by omega) (by omega) (by omega)) (by omega)⟩ ⟨Int.mul_nonneg (by omega) (by omega), Int.le_trans (Int.mul_le_mul (show (x' : Int) ≤ 6480 by omega) (show (Y : Int) ≤ 1296 by omega) (by omega) (by omega)) (by omega)⟩)
            rw [decide_eq_false (show ¬ (X : Int) * (y' : Int) < (x' : Int) * (Y : Int) by omega)] at HL
            clear hcall Hi5' hcr
            go_wp2_with fail
            refine (HC.out _ hR).mono ?_
            rintro e w21 ⟨rfl, hb⟩
            have hB := nx hB hb
            have hC := hC.up hb
            clear hb
            have hO := At.pr (x' : Int) (y' : Int) w21
            have hal : Below w21.heap.size w21 (w21.alloc (.cells #[.int .i64 (x' : Int), .int .i64 (y' : Int)] 31)) := na (n0 _) _
            have hC := hC.up hal
            have hB := na hB (.cells #[.int .i64 (x' : Int), .int .i64 (y' : Int)] 31)
            have o0 : World.cell? _ ⟨w21.heap.size, 0, none⟩ = some (.int .i64 (x' : Int)) := hO.cell 0 (by omega)
            have o1 : World.cell? _ ⟨w21.heap.size, 1, none⟩ = some (.int .i64 (y' : Int)) := hO.cell 1 (by omega)
            have c0 : World.cell? _ ⟨w4.heap.size, 0, none⟩ = some (.int .i64 (X : Int)) := hC.cell 0 (by omega)
            have c1 : World.cell? _ ⟨w4.heap.size, 1, none⟩ = some (.int .i64 (Y : Int)) := hC.cell 1 (by omega)
            go_wp2_with fail
            refine (HL.out _).mono ?_
            rintro e w22 ⟨rfl, hb⟩
            have hB := nx hB hb
            go_wp2_with fail
            go_ret
            exact ⟨rfl, hB⟩
          · have hlbt : decide (b < 31) = false := decide_eq_false hlb
            go_wp2_with fail
            go_ret
            exact ⟨rfl, hB⟩

theorem laidOut : laidOutB Try.prog = true := by kernel_rfl
set_option maxRecDepth 100000 in
/-- What the walk gives, for every argument. -/
theorem contract (H : Type) (enc : TypeId × Value → H) (W : World) (base : Nat) (args : Array Value) (ds gs : List (DataW H)) (before : List MemPlace)
    (hval : ∀ (j : Nat) t v, Try.f6.params[j]? = some t → args[j]? = some v → Value.okWide Try.prog W .any base t v)
    (hW : DataW.Whole enc Try.prog Try.f6.params.toList Rows.fnHitsSpec.vars false W args.toList ds gs before) :
    Calls Try.prog 6 args W fun e W' => ∃ v, e = .returned v ∧ Rows.fnHitsSpec.post enc Try.prog Try.f6 false true false false W args v W' := by
  have hW' := hW
  obtain ⟨p, q, hA0, hV, rfl, hfz, hnd⟩ := hW
  have hA : DataW.TrodAll enc Try.prog W 0 (fun _ => true) true Try.f6.params.toList args.toList ds p := hA0
  rw [Try.params6] at hA hval
  obtain ⟨v0, vs0, d0, ds0, p0, q0, hargs, rfl, rfl, h0, r0⟩ := trodAll_cons hA
  obtain ⟨rfl, rfl, rfl⟩ := trodAll_nil r0
  obtain rfl : args = #[v0] := by cases args; simp_all
  obtain ⟨rfl, rfl⟩ := trodVars_none hV
  obtain ⟨A0, n0, c0, rfl⟩ := okWide_slice Try.underlying41 (hval 0 41 v0 rfl rfl)
  have k0 := h0
  have lt0 : ∀ x ∈ p0, x.block < W.heap.size := fun x hx => by have := hW'.lt x (by simp [hx]); simpa using this
  obtain ⟨fu0, hf0⟩ := h0
  obtain ⟨ht0, hc0, hm0⟩ := OpenN.code_of hf0 lt0
  clear hA0
  simp only [List.append_nil] at hW'
  refine (law_any A0 n0 c0 W ht0 hc0 hm0).mono fun e W' ⟨he, hg⟩ => ?_
  subst he
  exact ⟨_, rfl, _, _, _, [], (p0 ++ []), [], hW', trodAll_cons_mk (shut_bool Try.underlying4 _) trodAll_mk0, trodAll_cons_mk (Below.trod laidOut (by kernel_rfl) (of_decide_eq_true (by kernel_rfl)) k0 hg lt0) trodAll_mk0, rfl, hg.frame _, fun h => by cases h⟩

theorem own : ownKnob Try.prog.godebug = none := by kernel_rfl

set_option maxRecDepth 100000 in
theorem lifted (os : Os) (started : os.Started) (H : Type) (enc : TypeId × Value → H) :
    ReturnsInHanded {} Try.checked os 6 .any (Rows.fnHitsSpec.pre6 enc Try.prog Try.f6 Rows.fnHitsRow.domain false) (Rows.fnHitsSpec.post enc Try.prog Try.f6 false true false false) := by
  refine returnsInHanded_of_change (C := Try.checked) own started (by kernel_rfl) Try.func6
    (ChangeSpec.witness6 (enc := enc) (C := Try.checked) false ⟨#[], #[.slice none 0 0], []⟩ 8 (by kernel_rfl) (by kernel_rfl) (by kernel_rfl) (by kernel_rfl)) ?_
  intro W base args ds gs before hval hW _ _
  exact contract H enc W base args ds gs before hval hW

theorem holds : Rows.FnHitsSaid :=
  OpenClaim.holds_of_wide 6 Try.f6 rfl rfl rfl rfl rfl rfl rfl ⟨rfl, rfl, rfl, rfl, rfl⟩ rfl rfl rfl rfl rfl (by kernel_rfl) Try.func6 (by kernel_rfl)
    (of_decide_eq_true (by kernel_rfl)) (by unfold Func.isWrapper; rw [if_neg (by decide +kernel)]; exact ⟨rfl, rfl⟩)
    (fun os started H enc _ => lifted os started H enc)

end FHitP
end Go.Proofs.Ytbcaahaaaodhkaa
