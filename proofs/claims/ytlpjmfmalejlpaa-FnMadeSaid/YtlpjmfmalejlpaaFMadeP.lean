/-
  FnMade: for every code of bytes the law returns true, and the code reads afterwards as it read before. No condition.
-/
import Derived.Test.YtlpjmfmalejlpaaRows
import Derived.Test.YtlpjmfmalejlpaaOpenN
import Derived.Test.YtlpjmfmalejlpaaArr
import Derived.Test.YtlpjmfmalejlpaaDieW
import Derived.Test.YtlpjmfmalejlpaaFracW
import Derived.Test.YtlpjmfmalejlpaaFracL
import Derived.Test.YtlpjmfmalejlpaaAll6
import Derived.Test.YtlpjmfmalejlpaaAllL
import Derived.Test.YtlpjmfmalejlpaaOpenI
import Derived.Test.YtlpjmfmalejlpaaFracM
import Derived.Test.YtlpjmfmalejlpaaCutW
import Derived.Test.YtlpjmfmalejlpaaMadW
import Derived.Test.YtlpjmfmalejlpaaMadLq
import Derived.Test.YtlpjmfmalejlpaaMadCq
import Derived.Test.YtlpjmfmalejlpaaMadNq
import Derived.Test.YtlpjmfmalejlpaaMThW
import Derived.Test.YtlpjmfmalejlpaaBThS
import Derived.Test.YtlpjmfmalejlpaaBThI
import Derived.Test.YtlpjmfmalejlpaaOwnL
import Derived.Test.YtlpjmfmalejlpaaListQ
import Derived.Test.YtlpjmfmalejlpaaMakSq
import Derived.Test.YtlpjmfmalejlpaaMakIq
import Derived.Test.YtlpjmfmalejlpaaRoomW
import Derived.Test.YtlpjmfmalejlpaaCurN
import Derived.Test.YtlpjmfmalejlpaaMadD
import Derived.Test.YtlpjmfmalejlpaaMadX
import Derived.Test.YtlpjmfmalejlpaaOpenD
import Derived.WalkKit
import Derived.WalkLawsBesides
import Derived.WalkSpells
import Derived.ProofKit
import Derived.OpenShut
import Derived.Deep.RegionWith
import Derived.Deep.Cut
import Derived.Deep.CutRange
import Derived.Deep.DeepCutAuto
import Derived.Deep.QuietTactic
import Derived.BigQuiet
namespace Go.Proofs.Ytlpjmfmalejlpaa
open Go.ChangeShapes Go.WideShapes Go.ChangeAt Go.RowKit
open Go.ChangeMaps (open_string shut_string)

namespace FMadeP
open Dice Arr DieW FracW FracL All6 AllL OpenG FracM CutW MadW MadLq MadCq MadNq MThW BThS OwnL ListQ MakSq RoomW MakIq BThI MadX CurN MadD OpenN


set_option maxRecDepth 100000 in
set_option maxHeartbeats 64000000 in
theorem law_any (A : Option Addr) (n c : Nat) (w : World) (h : CurN.Code w w.heap.size A n) (hnc : n ≤ c) (hm : c ≤ maxLen) :
    Calls Try.prog 3 #[.slice A n c] w fun e w' => e = .returned (.bool true) ∧ Below w.heap.size w w' := by
  have hn : n ≤ maxLen := Nat.le_trans hnc hm
  have hrb := fun w => rBig_any A n c w
  by_cases hbig : 65536 < n
  · rw [decide_eq_true (show (65536 : Int) < (n : Int) by omega)] at hrb
    have Hrb := Lib.hid hrb; clear hrb h
    go_enter Try.func3, Try.ntmps3
    go_wp2_with fail
    refine (Hrb.out _).mono ?_
    rintro e w0 ⟨rfl, hw⟩
    have hw := hw.symm
    subst hw
    go_wp2_with fail
    go_ret
    exact ⟨rfl, n0 _⟩
  rw [decide_eq_false (show ¬ (65536 : Int) < (n : Int) by omega)] at hrb
  have Hrb := Lib.hid hrb; clear hrb
  have hB := n0 w
  have hcode := h
  clear h hnc hm hbig
  go_enter Try.func3, Try.ntmps3
  go_wp2_with fail
  refine (Hrb.out _).mono ?_
  rintro e w0 ⟨rfl, hw⟩
  have hw := hw.symm
  subst hw
  go_wp2_with fail
  refine (drawMake_any A n c _ ((hcode.below hB).mono hB.size) hn).mono ?_
  rintro e w1 ⟨⟨m1, g1, cc1, l1, f1, rfl, hl1, hcc1, hg1, hA1⟩, hb⟩
  have hB := nx hB hb
  clear hb
  have hV := fun (h : okV m1 l1 f1 = true) => of_okV h
  have hi1 := fun w h => implV_any m1 g1 l1 cc1 f1 w h (by omega)
  have hs1 := fun w h => specV_any m1 g1 l1 cc1 f1 w h (by omega)
  have hj1 := fun w h => implN_any g1 l1 cc1 f1 w h (by omega)
  have hk1 := fun w => implT_any m1 (l1 : Nat) w
  generalize mv m1 l1 f1 = x1 at *
  generalize tkn m1 l1 f1 = y1 at *
  generalize okV m1 l1 f1 = z1 at *
  generalize nv l1 f1 = p1 at *
  generalize okN l1 f1 = pz1 at *
  generalize tT m1 (l1 : Nat) = q1 at *
  generalize okT m1 (l1 : Nat) = qz1 at *
  generalize nb 6 f1 l1 = nb1 at *
  have HV := Lib.hid hV; clear hV
  have Hi1 := Lib.hid hi1; clear hi1
  have Hs1 := Lib.hid hs1; clear hs1
  have Hj1 := Lib.hid hj1; clear hj1
  have Hk1 := Lib.hid hk1; clear hk1
  clear hg1 hcc1
  go_wp2_with fail
  refine (Hi1.out _ hA1).mono ?_
  rintro e w2 ⟨rfl, hb⟩
  have hB := nx hB hb
  have hA1 := hA1.up hb
  clear hb
  go_wp2_with fail
  refine (Hs1.out _ hA1).mono ?_
  rintro e w3 ⟨rfl, hb⟩
  have hB := nx hB hb
  have hA1 := hA1.up hb
  clear hb
  go_wp2_with fail
  refine (drawNum_any A n c _ ((hcode.below hB).mono hB.size) hn).mono ?_
  rintro e w4 ⟨⟨g2, cc2, l2, f2, rfl, hl2, hcc2, hg2, hA2⟩, hb⟩
  have hB := nx hB hb
  have hA1 := hA1.up hb
  clear hb
  have hi2 := fun w h => implN_any g2 l2 cc2 f2 w h (by omega)
  have hs2 := fun w h => specN_any g2 l2 cc2 f2 w h (by omega)
  generalize nv l2 f2 = x2 at *
  generalize okN l2 f2 = z2 at *
  have Hi2 := Lib.hid hi2; clear hi2
  have Hs2 := Lib.hid hs2; clear hs2
  clear hg2 hcc2
  go_wp2_with fail
  refine (Hi2.out _ hA2).mono ?_
  rintro e w5 ⟨rfl, hb⟩
  have hB := nx hB hb
  have hA1 := hA1.up hb
  have hA2 := hA2.up hb
  clear hb
  go_wp2_with fail
  refine (Hs2.out _ hA2).mono ?_
  rintro e w6 ⟨rfl, hb⟩
  have hB := nx hB hb
  have hA1 := hA1.up hb
  have hA2 := hA2.up hb
  clear hb
  clear hA2 hl2 Hi2 Hs2
  go_wp2_with fail
  refine (drawTaken_any A n c _ ((hcode.below hB).mono hB.size) hn).mono ?_
  rintro e w7 ⟨⟨m3, q3, rfl⟩, hb⟩
  have hB := nx hB hb
  have hA1 := hA1.up hb
  clear hb
  have hT3 := fun (h : okT m3 q3 = true) => of_two h
  have hi3 := fun w => implT_any m3 q3 w
  have hs3 := fun w => specT_any m3 q3 w
  have hi4 := fun w => implM_any m3 q3 w
  have hs4 := fun w => specM_any m3 q3 w
  generalize tT m3 q3 = x3 at *
  generalize mx m3 q3 = X3 at *
  generalize my m3 q3 = Y3 at *
  generalize okT m3 q3 = z3 at *
  have HT3 := Lib.hid hT3; clear hT3
  have Hi3 := Lib.hid hi3; clear hi3
  have Hs3 := Lib.hid hs3; clear hs3
  have Hi4 := Lib.hid hi4; clear hi4
  have Hs4 := Lib.hid hs4; clear hs4
  go_wp2_with fail
  refine (Hi3.out _).mono ?_
  rintro e w8 ⟨rfl, hw⟩
  have hw := hw.symm
  subst hw
  go_wp2_with fail
  refine (Hs3.out _).mono ?_
  rintro e w8b ⟨rfl, hw⟩
  have hw := hw.symm
  subst hw
  go_wp2_with fail
  refine (Hi4.out _).mono ?_
  rintro e w9 ⟨rfl, hb⟩
  have hB := nx hB hb
  have hA1 := hA1.up hb
  clear hb
  have hM := At.newv (X3 : Nat) (Y3 : Nat) w9
  have hB := na hB (.cells #[.int .i64 (X3 : Nat), .int .i64 (Y3 : Nat)] 35)
  have hA1 := hA1.past (.cells #[.int .i64 (X3 : Nat), .int .i64 (Y3 : Nat)] 35)
  go_wp2_with fail
  refine (Hs4.out _).mono ?_
  rintro e w10 ⟨rfl, hb⟩
  have hB := nx hB hb
  have hA1 := hA1.up hb
  have hM := hM.up hb
  clear hb
  have hM2 := At.newv (X3 : Nat) (Y3 : Nat) w10
  have hB := na hB (.cells #[.int .i64 (X3 : Nat), .int .i64 (Y3 : Nat)] 35)
  have hA1 := hA1.past (.cells #[.int .i64 (X3 : Nat), .int .i64 (Y3 : Nat)] 35)
  have hM := hM.past (.cells #[.int .i64 (X3 : Nat), .int .i64 (Y3 : Nat)] 35)
  have heq3 : ∀ w, (Op.equalIn 10000 35 (v2 (X3 : Nat) (Y3 : Nat)) (v2 (X3 : Nat) (Y3 : Nat))).run Try.prog w = .ok (decide (agree (fr (X3 : Nat) (Y3 : Nat)) (fr (X3 : Nat) (Y3 : Nat)) 2)) w := fun w => run_equalIn_vals (P := Try.prog) w 9998 35 3 2 Try.underlying35 Try.underlying3 Try.sizeOf3 (fr (X3 : Nat) (Y3 : Nat)) (fr (X3 : Nat) (Y3 : Nat))
  rw [decide_eq_true (show agree _ _ 2 from fun _ _ => rfl)] at heq3
  have c0 := hM.cell 0 (by omega)
  have c1 := hM.cell 1 (by omega)
  rw [show fr ((X3 : Nat) : Int) ((Y3 : Nat) : Int) 0 = ((X3 : Nat) : Int) from rfl] at c0
  rw [show fr ((X3 : Nat) : Int) ((Y3 : Nat) : Int) 1 = ((Y3 : Nat) : Int) from rfl] at c1
  have d0 := hM2.cell 0 (by omega)
  have d1 := hM2.cell 1 (by omega)
  rw [show fr ((X3 : Nat) : Int) ((Y3 : Nat) : Int) 0 = ((X3 : Nat) : Int) from rfl] at d0
  rw [show fr ((X3 : Nat) : Int) ((Y3 : Nat) : Int) 1 = ((Y3 : Nat) : Int) from rfl] at d1
  go_wp2_with fail
  refine (drawBest_any A n c _ ((hcode.below hB).mono hB.size) hn).mono ?_
  rintro e w11 ⟨⟨o4, rfl⟩, hb⟩
  clear c0 c1 d0 d1 heq3 hM2
  have hB := nx hB hb
  have hA1 := hA1.up hb
  have hM := hM.up hb
  clear hb
  have hbest := best_all o4 7 (by omega)
  have hbl := bs_le o4 7
  have hi5 := fun w => implB_any o4 w
  have hs5 := fun w => specB_any o4 w
  unfold outB at hi5 hs5
  obtain ⟨p4, hp4⟩ : ∃ p, p = bs o4 7 := ⟨_, rfl⟩
  rw [← hp4] at hbest hbl hi5 hs5
  clear hp4
  obtain ⟨b4, X4, Y4⟩ := p4
  simp only at hbest hbl hi5 hs5
  obtain ⟨hb4, hX4, hY4⟩ := hbl
  obtain ⟨z4, hz4⟩ : ∃ z, z = decide (0 < b4) := ⟨_, rfl⟩
  rw [← hz4] at hi5 hs5
  have HZ4 := Lib.hid hz4; clear hz4
  have HBest := Lib.hid hbest; clear hbest
  have Hi5 := Lib.hid hi5; clear hi5
  have Hs5 := Lib.hid hs5; clear hs5
  have Hm4 := Lib.hid (fun (i : Nat) w => implM_any o4 (i : Nat) w)
  go_wp2_with fail
  refine (Hi5.out _).mono ?_
  rintro e w12 ⟨rfl, hb⟩
  have hB := nx hB hb
  have hA1 := hA1.up hb
  have hM := hM.up hb
  clear hb
  have hL := At.newv (X4 : Nat) (Y4 : Nat) w12
  have hB := na hB (.cells #[.int .i64 (X4 : Nat), .int .i64 (Y4 : Nat)] 35)
  have hA1 := hA1.past (.cells #[.int .i64 (X4 : Nat), .int .i64 (Y4 : Nat)] 35)
  have hM := hM.past (.cells #[.int .i64 (X4 : Nat), .int .i64 (Y4 : Nat)] 35)
  go_wp2_with fail
  refine (Hs5.out _).mono ?_
  rintro e w13 ⟨rfl, hb⟩
  have hB := nx hB hb
  have hA1 := hA1.up hb
  have hM := hM.up hb
  have hL := hL.up hb
  clear hb
  have hL2 := At.newv (X4 : Nat) (Y4 : Nat) w13
  have hB := na hB (.cells #[.int .i64 (X4 : Nat), .int .i64 (Y4 : Nat)] 35)
  have hA1 := hA1.past (.cells #[.int .i64 (X4 : Nat), .int .i64 (Y4 : Nat)] 35)
  have hM := hM.past (.cells #[.int .i64 (X4 : Nat), .int .i64 (Y4 : Nat)] 35)
  have hL := hL.past (.cells #[.int .i64 (X4 : Nat), .int .i64 (Y4 : Nat)] 35)
  have heq4 : ∀ w, (Op.equalIn 10000 35 (v2 (X4 : Nat) (Y4 : Nat)) (v2 (X4 : Nat) (Y4 : Nat))).run Try.prog w = .ok (decide (agree (fr (X4 : Nat) (Y4 : Nat)) (fr (X4 : Nat) (Y4 : Nat)) 2)) w := fun w => run_equalIn_vals (P := Try.prog) w 9998 35 3 2 Try.underlying35 Try.underlying3 Try.sizeOf3 (fr (X4 : Nat) (Y4 : Nat)) (fr (X4 : Nat) (Y4 : Nat))
  rw [decide_eq_true (show agree _ _ 2 from fun _ _ => rfl)] at heq4
  have c0 := hL.cell 0 (by omega)
  have c1 := hL.cell 1 (by omega)
  rw [show fr ((X4 : Nat) : Int) ((Y4 : Nat) : Int) 0 = ((X4 : Nat) : Int) from rfl] at c0
  rw [show fr ((X4 : Nat) : Int) ((Y4 : Nat) : Int) 1 = ((Y4 : Nat) : Int) from rfl] at c1
  have d0 := hL2.cell 0 (by omega)
  have d1 := hL2.cell 1 (by omega)
  rw [show fr ((X4 : Nat) : Int) ((Y4 : Nat) : Int) 0 = ((X4 : Nat) : Int) from rfl] at d0
  rw [show fr ((X4 : Nat) : Int) ((Y4 : Nat) : Int) 1 = ((Y4 : Nat) : Int) from rfl] at d1
  go_wp2_with fail
  refine (drawList_any A n c _ ((hcode.below hB).mono hB.size) hn).mono ?_
  rintro e w14 ⟨⟨m5, q5, g5, cc5, l5, f5, rfl, hl5, hcc5, hg5, hA5⟩, hb⟩
  clear c0 c1 d0 d1 heq4 hL2
  have hB := nx hB hb
  have hA1 := hA1.up hb
  have hM := hM.up hb
  have hL := hL.up hb
  clear hb
  have hO5 := fun (h : okL m5 q5 l5 f5 = true) => of_okL h
  have hi6 := fun w h => implML_any m5 q5 g5 l5 cc5 f5 w h (by omega)
  have hs6 := fun w h => specML_any m5 q5 g5 l5 cc5 f5 w h (by omega) hcc5
  have hlen5 := oM_len m5 q5 l5 f5
  generalize hF5 : (fun i => (oM m5 q5 l5 f5).getD i 0) = F5 at *
  have hFi : ∀ i, (oM m5 q5 l5 f5).getD i 0 = F5 i := fun i => by rw [← hF5]
  simp only [hFi] at hO5
  clear hF5 hFi
  generalize (oM m5 q5 l5 f5).length = L5 at *
  generalize nM m5 q5 l5 f5 = R5 at *
  generalize okL m5 q5 l5 f5 = z5 at *
  have HO5 := Lib.hid hO5; clear hO5
  have Hi6 := Lib.hid hi6; clear hi6
  have Hs6 := Lib.hid hs6; clear hs6
  have Hri := Lib.hid (fun (B B' : Nat) (A A' : Option Addr) (c c' : Nat) w h h' => rInts_any B B' A A' L5 c c' F5 w h h' (by unfold maxLen; omega))
  clear hg5 hcc5
  go_wp2_with fail
  refine (Hi6.out _ hA5).mono ?_
  rintro e w15 ⟨AI, cI, rfl, hI, hb⟩
  have hB := nx hB hb
  have hA1 := hA1.up hb
  have hM := hM.up hb
  have hL := hL.up hb
  have hA5 := hA5.up hb
  clear hb
  go_wp2_with fail
  refine (Hs6.out _ hA5).mono ?_
  rintro e w16 ⟨AS, cS, rfl, hS, hb⟩
  have hB := nx hB hb
  have hA1 := hA1.up hb
  have hM := hM.up hb
  have hL := hL.up hb
  have hA5 := hA5.up hb
  have hI := hI.up hb
  clear hb
  clear hA5 Hi6 Hs6
  go_wp2_with fail
  refine (Hri.out _ _ _ _ _ _ _ hI hS).mono ?_
  rintro e w17 ⟨rfl, hb⟩
  have hB := nx hB hb
  have hA1 := hA1.up hb
  have hM := hM.up hb
  have hL := hL.up hb
  have hI := hI.up hb
  have hS := hS.up hb
  clear hb
  clear hS Hri
  go_wp2_with fail
  refine (drawRoom_any A n c _ ((hcode.below hB).mono hB.size) hn).mono ?_
  rintro e w18 ⟨⟨k6, rfl⟩, hb⟩
  have hB := nx hB hb
  have hA1 := hA1.up hb
  have hM := hM.up hb
  have hL := hL.up hb
  have hI := hI.up hb
  clear hb
  have hi7 := fun w => implR_any k6 w
  have hs7 := fun w => specR_any k6 w
  generalize rb k6 = x6 at *
  generalize okR k6 = z6 at *
  have Hi7 := Lib.hid hi7; clear hi7
  have Hs7 := Lib.hid hs7; clear hs7
  go_wp2_with fail
  refine (Hi7.out _).mono ?_
  rintro e w19 ⟨rfl, hw⟩
  have hw := hw.symm
  subst hw
  go_wp2_with fail
  refine (Hs7.out _).mono ?_
  rintro e w20 ⟨rfl, hw⟩
  have hw := hw.symm
  subst hw
  have hMl := hM.lt
  have hIz : Ints 0 _ AI L5 F5 := hI.mono (Nat.zero_le _)
  clear hI
  have hI := hIz
  clear hIz Hi7 Hs7 Hi5 Hs5 Hi1 Hs1 Hi3 Hs3 Hi4 Hs4 hcode
  go_upto_if 244 with fail
  go_cut [47, 48, 49, 50] from 245 to 287 (fun s47 s48 s49 s50 wx => Below w.heap.size w wx ∧ At wx w9.heap.size 2 (fr (X3 : Nat) (Y3 : Nat)) ∧ At wx w12.heap.size 2 (fr (X4 : Nat) (Y4 : Nat)) ∧ Ints 0 wx AI L5 F5)
  case first =>
    cases z1
    · go_wp2_with fail
      go_meet
      case rel => exact ⟨hB, hM, hL, hI⟩
    · obtain ⟨rfl, rfl, a1, n1, rfl, ha1, _, hn1, ht1, rfl, rfl, hy1, hx1, hx0⟩ := HV.out rfl
      have hm0 : (a1 : Int) ≠ 0 := by omega
      have hmq : ((a1 : Int) = 0) = False := by simp; omega
      have hmod : ((n1 : Int) % (a1 : Int)) = ((n1 % a1 : Nat) : Int) := by simp
      have hmlt : n1 % a1 < a1 := Nat.mod_lt _ (by omega)
      generalize hr1 : n1 % a1 = r1 at *
      generalize tk a1 l1 = t1 at *
      clear hr1
      by_cases hl : n1 < t1
      · have hd : decide ((n1 : Int) < (t1 : Int)) = true := decide_eq_true (by omega)
        have hdN : decide (n1 < t1) = true := decide_eq_true hl
        rw [hdN] at hy1
        have hx1 := hx1 hl
        subst hy1
        subst hx1
        clear hx0 HV
        go_wp2_with fail
        refine (Hj1.out _ hA1).mono ?_
        rintro e w21 ⟨rfl, hb⟩
        have hB := nx hB hb
        have hA1 := hA1.up hb
        have hM := hM.up hb
        have hL := hL.up hb
        have hI := hI.up hb
        clear hb
        go_wp2_with fail
        refine (Hk1.out _).mono ?_
        rintro e w22 ⟨rfl, hw⟩
        have hw := hw.symm
        subst hw
        go_wp2_with fail
        go_meet
        case rel => exact ⟨hB, hM, hL, hI⟩
      · have hd : decide ((n1 : Int) < (t1 : Int)) = false := decide_eq_false (by omega)
        have hdN : decide (n1 < t1) = false := decide_eq_false hl
        rw [hdN] at hy1
        have hx0 := hx0 hl
        subst hy1
        subst hx0
        clear hx1 HV
        go_wp2_with fail
        refine (Hj1.out _ hA1).mono ?_
        rintro e w21 ⟨rfl, hb⟩
        have hB := nx hB hb
        have hA1 := hA1.up hb
        have hM := hM.up hb
        have hL := hL.up hb
        have hI := hI.up hb
        clear hb
        go_wp2_with fail
        refine (Hk1.out _).mono ?_
        rintro e w22 ⟨rfl, hw⟩
        have hw := hw.symm
        subst hw
        go_wp2_with fail
        go_meet
        case rel => exact ⟨hB, hM, hL, hI⟩
  case rest =>
    clear hB hM hL hI hA1 HV Hj1 Hk1
    obtain ⟨hB, hM, hL, hI⟩ := hcut
    go_upto_if 288 with fail
    go_cut [51, 52] from 289 to 334 (fun s51 s52 wx => Below w.heap.size w wx ∧ At wx w9.heap.size 2 (fr (X3 : Nat) (Y3 : Nat)) ∧ At wx w12.heap.size 2 (fr (X4 : Nat) (Y4 : Nat)) ∧ Ints 0 wx AI L5 F5)
    case first =>
      cases z3
      · go_wp2_with fail
        go_meet
        case rel => exact ⟨hB, hM, hL, hI⟩
      · obtain ⟨a, b, rfl, rfl, ha, hb6, rfl, hk0, hk1, hk2, hs6, hcross, hiff, hX3, hY3⟩ := HT3.out rfl
        have Ha6 := Lib.hid (fun i (h : i ≤ 6) => all6_six (n := i) h)
        have Has := Lib.hid (fun i => all6_succ i)
        generalize hT : tk a b = T at *
        clear hT HT3
        have HC := Lib.hid (And.intro hcross hiff)
        clear hcross hiff
        go_wp2_with fail
        go_loopw [51, 52] (fun pv iv wr => ∃ i : Nat, i ≤ b ∧ iv = .int .i64 i ∧ pv = .int .i64 (all6 i : Nat) ∧ wr = wc) (fun _ iv _ => b - (intOf iv).toNat)
        case atStart => exact ⟨0, by omega, rfl, rfl, rfl⟩
        case round =>
          obtain ⟨i, hi, rfl, rfl, rfl⟩ := hrel
          by_cases hlt : i < b
          · have hit : decide ((i : Int) < (b : Int)) = true := decide_eq_true (by omega)
            have hitN : decide (i < b) = true := decide_eq_true hlt
            have h6i := Ha6.out i (by omega)
            have Hs := Lib.hid (Has.out i)
            clear HC hk2 hs6
            go_wp2_with fail
            go_roundw
            case rel => exact ⟨i + 1, by omega, by go_num, by rw [Hs.out]; push_cast; rw [Int.mul_comm], by first | rfl | trivial⟩
            case measure => simp [intOf]; omega
          · obtain rfl : i = b := by omega
            have hit : decide ((i : Int) < (i : Int)) = false := decide_eq_false (by omega)
            obtain ⟨hcross, hiff⟩ := HC.out
            have hmul1 : X3 * T ≤ 279936 * 46656 := Nat.mul_le_mul hX3 (by omega)
            have hmul2 : i * all6 i ≤ 6 * 46656 := Nat.mul_le_mul (by omega) hs6
            have e1 : (X3 : Int) * (T : Int) = ((X3 * T : Nat) : Int) := by push_cast; rfl
            have e2 : (i : Int) * ((all6 i : Nat) : Int) = ((i * all6 i : Nat) : Int) := by push_cast; rfl
            have e3 : ((i * all6 i : Nat) : Int) * (Y3 : Int) = ((X3 * T : Nat) : Int) := by rw [hcross]; push_cast; rfl
            have hmod : ((T : Int) % (a : Int)) = 0 := by rw [show (T : Int) % (a : Int) = ((T % a : Nat) : Int) by simp, hk0]; rfl
            have ha0 : (a : Int) ≠ 0 := by omega
            have haq : ((a : Int) = 0) = False := by simp; omega
            generalize all6 i = s at *
            generalize X3 * T = P1 at *
            generalize i * s = P2 at *
            have d1 : decide ((s : Int) < (T : Int)) = false := decide_eq_false (by omega)
            have d1N : decide (s < T) = false := decide_eq_false (by omega)
            have d2 : decide ((T : Int) + (a : Int) ≤ (s : Int)) = false := decide_eq_false (by omega)
            have d2N : decide (T + a ≤ s) = false := decide_eq_false (by omega)
            have hag : decide (agree (fr (X3 : Nat) (Y3 : Nat)) (fr (i : Nat) (1 : Nat)) 2) = decide (T = s) := by
              refine decide_eq_decide.2 (Iff.trans ⟨fun h => ?_, fun h => ?_⟩ hiff)
              · have h0 : ((X3 : Nat) : Int) = (i : Nat) := h 0 (by omega)
                have h1 : ((Y3 : Nat) : Int) = (1 : Nat) := h 1 (by omega)
                omega
              · intro k hk
                obtain rfl | rfl : k = 0 ∨ k = 1 := by omega
                · show ((X3 : Nat) : Int) = (i : Nat); omega
                · show ((Y3 : Nat) : Int) = (1 : Nat); omega
            have heq5 : ∀ w, (Op.equalIn 10000 35 (v2 (X3 : Nat) (Y3 : Nat)) (v2 (i : Nat) (1 : Nat))).run Try.prog w = .ok (decide (agree (fr (X3 : Nat) (Y3 : Nat)) (fr (i : Nat) (1 : Nat)) 2)) w := fun w => run_equalIn_vals (P := Try.prog) w 9998 35 3 2 Try.underlying35 Try.underlying3 Try.sizeOf3 (fr (X3 : Nat) (Y3 : Nat)) (fr (i : Nat) (1 : Nat))
            rw [hag] at heq5
            have heq7 : ∀ w, (Op.equalIn 10000 35 (v2 (X3 : Nat) (Y3 : Nat)) (.agg #[.int .i64 (i : Nat), .int .i64 1])).run Try.prog w = .ok (decide (T = s)) w := heq5
            clear heq5
            have hts : ((T : Int) == (s : Int)) = decide (T = s) := by
              by_cases e : T = s
              · subst e; simp
              · rw [decide_eq_false e]; exact beq_eq_false_iff_ne.2 (by omega)
            have c0 := hM.cell 0 (by omega)
            have c1 := hM.cell 1 (by omega)
            rw [show fr ((X3 : Nat) : Int) ((Y3 : Nat) : Int) 0 = ((X3 : Nat) : Int) from rfl] at c0
            rw [show fr ((X3 : Nat) : Int) ((Y3 : Nat) : Int) 1 = ((Y3 : Nat) : Int) from rfl] at c1
            have hT6 : T ≤ 46656 := by omega
            clear HC hcross hiff hag hk0 hk1 hk2
            cases hdd : decide (T = s)
            all_goals
              rw [hdd] at heq7 hts
              go_wp2_with fail
              go_meet
              case rel => exact ⟨hB, hM, hL, hI⟩
    case rest =>
      clear hB hM hL hI HT3
      obtain ⟨hB, hM, hL, hI⟩ := hcut
      go_upto_if 335 with fail
      go_cut [53, 54, 55] from 336 to 369 (fun s53 s54 s55 wx => Below w.heap.size w wx ∧ At wx w9.heap.size 2 (fr (X3 : Nat) (Y3 : Nat)) ∧ At wx w12.heap.size 2 (fr (X4 : Nat) (Y4 : Nat)) ∧ Ints 0 wx AI L5 F5)
      case first =>
        cases z4
        · go_wp2_with fail
          go_meet
          case rel => exact ⟨hB, hM, hL, hI⟩
        · have hz4' : 0 < b4 := of_decide_eq_true HZ4.out.symm
          obtain ⟨_, hall⟩ := HBest.out
          obtain ⟨_, hall⟩ := hall (by omega)
          have Hall := Lib.hid hall
          clear hall HBest HZ4
          go_wp2_with fail
          go_loopw [53] (fun iv wr => ∃ i : Nat, 1 ≤ i ∧ i ≤ 7 ∧ iv = .int .i64 i ∧ Below w.heap.size w wr ∧ At wr w9.heap.size 2 (fr (X3 : Nat) (Y3 : Nat)) ∧ At wr w12.heap.size 2 (fr (X4 : Nat) (Y4 : Nat)) ∧ Ints 0 wr AI L5 F5) (fun iv _ => 7 - (intOf iv).toNat)
          case atStart => exact ⟨1, by omega, by omega, rfl, hB, hM, hL, hI⟩
          case round =>
            clear hB hM hL hI
            obtain ⟨i, hi1, hi7, rfl, hB, hM, hL, hI⟩ := hrel
            by_cases hlt : i < 7
            · have hit : decide ((i : Int) ≤ (6 : Int)) = true := decide_eq_true (by omega)
              have hitN : decide (i ≤ 6) = true := decide_eq_true (by omega)
              have hm4 := fun w => Hm4.out i w
              have hal := Hall.out i hi1 hlt
              have hml := m_le o4 (i : Nat)
              generalize mx o4 (i : Nat) = X at *
              generalize my o4 (i : Nat) = Y at *
              generalize okT o4 (i : Nat) = zz at *
              obtain ⟨hX, hY⟩ := hml
              have Hm4i := Lib.hid hm4; clear hm4
              cases zz
              · clear hal
                go_wp2_with fail
                refine (Hm4i.out _).mono ?_
                rintro e w31 ⟨rfl, hb⟩
                have hB := na (nx hB hb) (.cells #[.int .i64 (X : Nat), .int .i64 (Y : Nat)] 35)
                have hM := (hM.up hb).past (.cells #[.int .i64 (X : Nat), .int .i64 (Y : Nat)] 35)
                have hL := (hL.up hb).past (.cells #[.int .i64 (X : Nat), .int .i64 (Y : Nat)] 35)
                have hI := (hI.up hb).up (na (n0 w31) (.cells #[.int .i64 (X : Nat), .int .i64 (Y : Nat)] 35))
                have hX9 := At.newv (X : Nat) (Y : Nat) w31
                clear hb
                go_wp2_with fail
                go_roundw
                case rel => exact ⟨i + 1, by omega, by omega, by go_num, hB, hM, hL, hI⟩
                case measure => simp [intOf]; omega
              · obtain ⟨h1, h2⟩ := hal rfl
                have e1 : (X : Int) * (Y4 : Int) = ((X * Y4 : Nat) : Int) := by push_cast; rfl
                have e2 : (X4 : Int) * (Y : Int) = ((X4 * Y : Nat) : Int) := by push_cast; rfl
                have hP1 : X * Y4 ≤ 279936 * 46656 := Nat.mul_le_mul hX hY4
                have hag : i < b4 → ¬ agree (fr (X : Nat) (Y : Nat)) (fr (X4 : Nat) (Y4 : Nat)) 2 := fun hib hg => by
                  have g0 : ((X : Nat) : Int) = (X4 : Nat) := hg 0 (by omega)
                  have g1 : ((Y : Nat) : Int) = (Y4 : Nat) := hg 1 (by omega)
                  have := h2 hib
                  have e : X = X4 := by omega
                  have e' : Y = Y4 := by omega
                  subst e
                  subst e'
                  omega
                generalize X * Y4 = P1 at *
                generalize X4 * Y = P2 at *
                have d1 : decide ((P1 : Int) < (P2 : Int)) = false := decide_eq_false (by omega)
                have d1N : decide (P1 < P2) = false := decide_eq_false (by omega)
                clear h2
                go_wp2_with fail
                refine (Hm4i.out _).mono ?_
                rintro e w31 ⟨rfl, hb⟩
                have hB := na (nx hB hb) (.cells #[.int .i64 (X : Nat), .int .i64 (Y : Nat)] 35)
                have hM := (hM.up hb).past (.cells #[.int .i64 (X : Nat), .int .i64 (Y : Nat)] 35)
                have hL := (hL.up hb).past (.cells #[.int .i64 (X : Nat), .int .i64 (Y : Nat)] 35)
                have hI := (hI.up hb).up (na (n0 w31) (.cells #[.int .i64 (X : Nat), .int .i64 (Y : Nat)] 35))
                have hX9 := At.newv (X : Nat) (Y : Nat) w31
                clear hb
                by_cases hib : i < b4
                · have d2 : decide ((i : Int) < (b4 : Int)) = true := decide_eq_true (by omega)
                  have d2N : decide (i < b4) = true := decide_eq_true hib
                  have heq6 : ∀ w, (Op.equalIn 10000 35 (v2 (X : Nat) (Y : Nat)) (v2 (X4 : Nat) (Y4 : Nat))).run Try.prog w = .ok (decide (agree (fr (X : Nat) (Y : Nat)) (fr (X4 : Nat) (Y4 : Nat)) 2)) w := fun w => run_equalIn_vals (P := Try.prog) w 9998 35 3 2 Try.underlying35 Try.underlying3 Try.sizeOf3 (fr (X : Nat) (Y : Nat)) (fr (X4 : Nat) (Y4 : Nat))
                  have hag2 := hag hib
                  rw [decide_eq_false hag2] at heq6
                  clear hag hag2
                  have c0 := hX9.cell 0 (by omega)
                  have c1 := hX9.cell 1 (by omega)
                  rw [show fr ((X : Nat) : Int) ((Y : Nat) : Int) 0 = ((X : Nat) : Int) from rfl] at c0
                  rw [show fr ((X : Nat) : Int) ((Y : Nat) : Int) 1 = ((Y : Nat) : Int) from rfl] at c1
                  have d0 := hL.cell 0 (by omega)
                  have d1 := hL.cell 1 (by omega)
                  rw [show fr ((X4 : Nat) : Int) ((Y4 : Nat) : Int) 0 = ((X4 : Nat) : Int) from rfl] at d0
                  rw [show fr ((X4 : Nat) : Int) ((Y4 : Nat) : Int) 1 = ((Y4 : Nat) : Int) from rfl] at d1
                  go_wp2_with fail
                  go_roundw
                  case rel => exact ⟨i + 1, by omega, by omega, by go_num, hB, hM, hL, hI⟩
                  case measure => simp [intOf]; omega
                · have d2 : decide ((i : Int) < (b4 : Int)) = false := decide_eq_false (by omega)
                  have d2N : decide (i < b4) = false := decide_eq_false hib
                  clear hag
                  have c0 := hX9.cell 0 (by omega)
                  have c1 := hX9.cell 1 (by omega)
                  rw [show fr ((X : Nat) : Int) ((Y : Nat) : Int) 0 = ((X : Nat) : Int) from rfl] at c0
                  rw [show fr ((X : Nat) : Int) ((Y : Nat) : Int) 1 = ((Y : Nat) : Int) from rfl] at c1
                  have d0 := hL.cell 0 (by omega)
                  have d1 := hL.cell 1 (by omega)
                  rw [show fr ((X4 : Nat) : Int) ((Y4 : Nat) : Int) 0 = ((X4 : Nat) : Int) from rfl] at d0
                  rw [show fr ((X4 : Nat) : Int) ((Y4 : Nat) : Int) 1 = ((Y4 : Nat) : Int) from rfl] at d1
                  go_wp2_with fail
                  go_roundw
                  case rel => exact ⟨i + 1, by omega, by omega, by go_num, hB, hM, hL, hI⟩
                  case measure => simp [intOf]; omega
            · obtain rfl : i = 7 := by omega
              have hit : decide (((7 : Nat) : Int) ≤ (6 : Int)) = false := rfl
              go_wp2_with fail
              go_meet
              case rel => exact ⟨hB, hM, hL, hI⟩
      case rest =>
        clear hB hM hL hI HBest HZ4 Hm4
        obtain ⟨hB, _, _, hI⟩ := hcut
        cases z5
        · go_wp2_with fail
          go_ret
          exact ⟨rfl, hB⟩
        · obtain ⟨a, d, R, rfl, rfl, hd6, rfl, h40, hP1, hP2, hin⟩ := HO5.out rfl
          have Hin := Lib.hid hin
          clear hin HO5
          have e0 : (L5 : Int) + (R : Int) = ((L5 + R : Nat) : Int) := by push_cast; rfl
          have e1 : (d : Int) * ((L5 + R : Nat) : Int) = ((d * (L5 + R) : Nat) : Int) := by push_cast; rfl
          have e2 : (d : Int) * (((L5 + R : Nat) : Int) + 1) = ((d * (L5 + R + 1) : Nat) : Int) := by push_cast; rfl
          have hP3 : d * (L5 + R + 1) ≤ 6 * 41 := Nat.mul_le_mul hd6.2 (by omega)
          generalize hP : d * (L5 + R) = P at *
          generalize hQ : d * (L5 + R + 1) = Q at *
          generalize hK : L5 + R = K at *
          have d1 : decide ((l5 : Int) < (P : Int)) = false := decide_eq_false (by omega)
          have d1N : decide (l5 < P) = false := decide_eq_false (by omega)
          have d2 : decide ((Q : Int) ≤ (l5 : Int)) = false := decide_eq_false (by omega)
          have d2N : decide (Q ≤ l5) = false := decide_eq_false (by omega)
          clear hP hQ
          have HK := Lib.hid hK; clear hK
          go_wp2_with fail
          go_loopw [56] (fun iv wr => ∃ i : Nat, i ≤ L5 ∧ iv = .int .i64 i ∧ wr = wc) (fun iv _ => L5 - (intOf iv).toNat)
          case atStart => exact ⟨0, Nat.zero_le _, rfl, rfl⟩
          case round =>
            obtain ⟨i, hi, rfl, rfl⟩ := hrel
            by_cases hlt : i < L5
            · have hit : decide ((i : Int) < (L5 : Int)) = true := decide_eq_true (by omega)
              have hitN : decide (i < L5) = true := decide_eq_true hlt
              obtain ⟨bb, rfl, _, hAt⟩ := hI.at_ hlt
              have c0 := hAt.cell i hlt
              obtain ⟨v0, v1⟩ := Hin.out i hlt
              generalize F5 i = v at *
              have g1 : decide (v < 0) = false := decide_eq_false (by omega)
              have g2 : decide ((a : Int) ≤ v) = false := decide_eq_false (by omega)
              go_wp2_with fail
              go_roundw
              case rel => exact ⟨i + 1, by omega, by go_num, by first | rfl | trivial⟩
              case measure => simp [intOf]; omega
            · obtain rfl : i = L5 := by omega
              have hit : decide ((i : Int) < (i : Int)) = false := decide_eq_false (by omega)
              go_wp2_with fail
              go_ret
              exact ⟨rfl, hB⟩

theorem laidOut : laidOutB Try.prog = true := by kernel_rfl
set_option maxRecDepth 100000 in
/-- What the walk gives, for every argument. -/
theorem contract (H : Type) (enc : TypeId × Value → H) (W : World) (base : Nat) (args : Array Value) (ds gs : List (DataW H)) (before : List MemPlace)
    (hval : ∀ (j : Nat) t v, Try.f3.params[j]? = some t → args[j]? = some v → Value.okWide Try.prog W .any base t v)
    (hW : DataW.Whole enc Try.prog Try.f3.params.toList Rows.fnMadeSpec.vars false W args.toList ds gs before) :
    Calls Try.prog 3 args W fun e W' => ∃ v, e = .returned v ∧ Rows.fnMadeSpec.post enc Try.prog Try.f3 false true false false W args v W' := by
  have hW' := hW
  obtain ⟨p, q, hA0, hV, rfl, hfz, hnd⟩ := hW
  have hA : DataW.TrodAll enc Try.prog W 0 (fun _ => true) true Try.f3.params.toList args.toList ds p := hA0
  rw [Try.params3] at hA hval
  obtain ⟨v0, vs0, d0, ds0, p0, q0, hargs, rfl, rfl, h0, r0⟩ := trodAll_cons hA
  obtain ⟨rfl, rfl, rfl⟩ := trodAll_nil r0
  obtain rfl : args = #[v0] := by cases args; simp_all
  obtain ⟨rfl, rfl⟩ := trodVars_none hV
  obtain ⟨A0, n0, c0, rfl⟩ := okWide_slice Try.underlying22 (hval 0 22 v0 rfl rfl)
  have k0 := h0
  have lt0 : ∀ x ∈ p0, x.block < W.heap.size := fun x hx => by have := hW'.lt x (by simp [hx]); simpa using this
  obtain ⟨fu0, hf0⟩ := h0
  obtain ⟨ht0, hc0, hm0⟩ := OpenN.code_of hf0 lt0
  clear hA0
  simp only [List.append_nil] at hW'
  refine (law_any A0 n0 c0 W ht0 hc0 hm0).mono fun e W' ⟨he, hg⟩ => ?_
  subst he
  exact ⟨_, rfl, _, _, _, [], (p0 ++ []), [], hW', trodAll_cons_mk (shut_bool Try.underlying4 _) trodAll_mk0, trodAll_cons_mk (Below.trod laidOut (by kernel_rfl) (of_decide_eq_true (by kernel_rfl)) k0 hg lt0) trodAll_mk0, rfl, hg.frame _, fun h => by cases h⟩

theorem own : ownKnob Try.prog.godebug = none := by kernel_rfl

set_option maxRecDepth 100000 in
theorem lifted (os : Os) (started : os.Started) (H : Type) (enc : TypeId × Value → H) :
    ReturnsInHanded {} Try.checked os 3 .any (Rows.fnMadeSpec.pre6 enc Try.prog Try.f3 Rows.fnMadeRow.domain false) (Rows.fnMadeSpec.post enc Try.prog Try.f3 false true false false) := by
  refine returnsInHanded_of_change (C := Try.checked) own started (by kernel_rfl) Try.func3
    (ChangeSpec.witness6 (enc := enc) (C := Try.checked) false ⟨#[], #[.slice none 0 0], []⟩ 8 (by kernel_rfl) (by kernel_rfl) (by kernel_rfl) (by kernel_rfl)) ?_
  intro W base args ds gs before hval hW _ _
  exact contract H enc W base args ds gs before hval hW

theorem holds : Rows.FnMadeSaid :=
  OpenClaim.holds_of_wide 3 Try.f3 rfl rfl rfl rfl rfl rfl rfl ⟨rfl, rfl, rfl, rfl, rfl⟩ rfl rfl rfl rfl rfl (by kernel_rfl) Try.func3 (by kernel_rfl)
    (of_decide_eq_true (by kernel_rfl)) (by unfold Func.isWrapper; rw [if_neg (by decide +kernel)]; exact ⟨rfl, rfl⟩)
    (fun os started H enc _ => lifted os started H enc)

end FMadeP
end Go.Proofs.Ytlpjmfmalejlpaa
