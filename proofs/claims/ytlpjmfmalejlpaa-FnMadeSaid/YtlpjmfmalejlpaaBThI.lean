/-
  BestThrows by the program.
-/
import Derived.Test.YtlpjmfmalejlpaaRows
import Derived.Test.YtlpjmfmalejlpaaArr
import Derived.Test.YtlpjmfmalejlpaaDieW
import Derived.Test.YtlpjmfmalejlpaaFracW
import Derived.Test.YtlpjmfmalejlpaaFracL
import Derived.Test.YtlpjmfmalejlpaaAll6
import Derived.Test.YtlpjmfmalejlpaaAllL
import Derived.Test.YtlpjmfmalejlpaaFracM
import Derived.Test.YtlpjmfmalejlpaaCutW
import Derived.Test.YtlpjmfmalejlpaaMadW
import Derived.Test.YtlpjmfmalejlpaaMThW
import Derived.Test.YtlpjmfmalejlpaaBThS
import Derived.Test.YtlpjmfmalejlpaaOpenD
import Derived.WalkKit
import Derived.WalkLawsBesides
import Derived.WalkSpells
import Derived.ProofKit
import Derived.OpenShut
import Derived.Deep.RegionWith
import Derived.Deep.QuietTactic
import Derived.BigQuiet
namespace Go.Proofs.Ytlpjmfmalejlpaa
open Go.ChangeShapes Go.WideShapes Go.ChangeAt Go.RowKit
open Go.ChangeMaps (open_string shut_string)

namespace BThI
open Dice Arr DieW FracW FracL All6 AllL FracM CutW MadW MThW BThS


set_option maxRecDepth 100000 in
set_option maxHeartbeats 16000000 in
theorem implB_any (m : Int) (w : World) :
    Calls Try.prog 17 #[.int .i64 m] w fun e w' => e = .returned (outB m) ∧ Below w.heap.size w w' := by
  have Hm := Lib.hid (fun (j : Nat) w => implM_any m j w)
  have Hst := Lib.hid (fun j (h : 1 ≤ j) => bs_step m (j := j) h)
  have Hbl := Lib.hid (bs_le m)
  have Hml := Lib.hid (fun (j : Nat) => m_le m j)
  have hR0 := At.new2 w 35
  have hR0l := hR0.lt
  have hM0 := At.newv 0 0 (w.alloc (.cells #[.int .i64 0, .int .i64 0] 35))
  rw [size_alloc] at hM0
  have hR0 := hR0.past (.cells #[.int .i64 0, .int .i64 0] 35)
  have hB0 := na (na (n0 w) (.cells #[.int .i64 0, .int .i64 0] 35)) (.cells #[.int .i64 0, .int .i64 0] 35)
  go_enter Try.func17, Try.ntmps17
  go_wp2_with fail
  go_loopw [5, 7] (fun bv kv wr => ∃ j : Nat, 1 ≤ j ∧ j ≤ 7 ∧ kv = .int .i64 j ∧ bv = .int .i64 ((bs m j).1 : Nat) ∧ At wr (w.heap.size + 1) 2 (fr ((bs m j).2.1 : Nat) ((bs m j).2.2 : Nat)) ∧ At wr w.heap.size 2 (fun _ => 0) ∧ Below w.heap.size w wr) (fun _ kv _ => 7 - (intOf kv).toNat)
  case atStart => exact ⟨1, by omega, by omega, rfl, rfl, hM0, hR0, hB0⟩
  case round =>
    clear hM0 hR0 hB0 hR0l
    obtain ⟨j, hj1, hj7, rfl, rfl, hM, hR, hB⟩ := hrel
    by_cases hlt : j < 7
    · have hit : decide ((j : Int) ≤ (6 : Int)) = true := decide_eq_true (by omega)
      have hitN : decide (j ≤ 6) = true := decide_eq_true (by omega)
      have hbl := Hbl.out j
      have hml := Hml.out j
      have hst := Hst.out j hj1
      have hm := fun w => Hm.out j w
      obtain ⟨p, hp⟩ : ∃ p, p = bs m j := ⟨_, rfl⟩
      rw [← hp] at hbl hst hM ⊢
      obtain ⟨b, x1, y1⟩ := p
      generalize hx2 : mx m (j : Nat) = x2 at *
      generalize hy2 : my m (j : Nat) = y2 at *
      simp only at hbl hst hM ⊢
      clear hx2 hy2
      have Hp := Lib.hid hp; clear hp
      obtain ⟨hb1, hx1, hy1⟩ := hbl
      obtain ⟨hx2, hy2⟩ := hml
      have hP1 : x2 * y1 ≤ 279936 * 46656 := Nat.mul_le_mul hx2 hy1
      have hP2 : x1 * y2 ≤ 279936 * 46656 := Nat.mul_le_mul hx1 hy2
      cases hz : okT m (j : Nat)
      · rw [hz] at hm hst
        rw [if_neg (fun h => by cases h.1)] at hst
        have Hm1 := Lib.hid hm
        have Hst1 := Lib.hid hst
        clear hm hst hz hP1 hP2
        go_wp2_with fail
        refine (Hm1.out _).mono ?_
        rintro e w5 ⟨rfl, hb5⟩
        have hM := (hM.up hb5).past (.cells #[.int .i64 (x2 : Nat), .int .i64 (y2 : Nat)] 35)
        have hR := (hR.up hb5).past (.cells #[.int .i64 (x2 : Nat), .int .i64 (y2 : Nat)] 35)
        have hB := na (nx hB hb5) (.cells #[.int .i64 (x2 : Nat), .int .i64 (y2 : Nat)] 35)
        clear hb5
        go_wp2_with fail
        go_roundw
        case rel => exact ⟨j + 1, by omega, by omega, by go_num, by rw [Hst1.out], by rw [Hst1.out]; exact hM, hR, hB⟩
        case measure => simp [intOf]; omega
      · rw [hz] at hm hst
        have Hm1 := Lib.hid hm
        clear hm
        by_cases hb0 : b = 0
        · have hbz : ((b : Int) == 0) = true := by simp [hb0]
          have hbq : ((b : Int) = 0) = True := by simp [hb0]
          rw [if_pos ⟨rfl, .inl hb0⟩] at hst
          have Hst1 := Lib.hid hst
          clear hst hz hP1 hP2
          go_wp2_with fail
          refine (Hm1.out _).mono ?_
          rintro e w5 ⟨rfl, hb5⟩
          have hX := At.newv (x2 : Nat) (y2 : Nat) w5
          have hM1 := (hM.up hb5)
          have hMl := hM1.lt
          have hR1 := (hR.up hb5)
          have hRl := hR1.lt
          have hM := hM1.past (.cells #[.int .i64 (x2 : Nat), .int .i64 (y2 : Nat)] 35)
          have hR := hR1.past (.cells #[.int .i64 (x2 : Nat), .int .i64 (y2 : Nat)] 35)
          have hB0' := hB
          have hB := na (nx hB hb5) (.cells #[.int .i64 (x2 : Nat), .int .i64 (y2 : Nat)] 35)
          have hB1 := nx hB0' hb5
          clear hb5
          have q0 := hX.cell 0 (by omega)
          have q1 := hX.cell 1 (by omega)
          rw [show fr ((x2 : Nat) : Int) ((y2 : Nat) : Int) 0 = ((x2 : Nat) : Int) from rfl] at q0
          rw [show fr ((x2 : Nat) : Int) ((y2 : Nat) : Int) 1 = ((y2 : Nat) : Int) from rfl] at q1
          have c0 := hM1.cell 0 (by omega)
          have c1 := hM1.cell 1 (by omega)
          rw [show fr ((x1 : Nat) : Int) ((y1 : Nat) : Int) 0 = ((x1 : Nat) : Int) from rfl] at c0
          rw [show fr ((x1 : Nat) : Int) ((y1 : Nat) : Int) 1 = ((y1 : Nat) : Int) from rfl] at c1
          have z0 := hM1.free 0
          have z1 := hM1.free 1
          have hXd := hX.drew
          have r0 := hXd.cell 0 (by omega)
          have r1 := hXd.cell 1 (by omega)
          rw [show fr ((x2 : Nat) : Int) ((y2 : Nat) : Int) 0 = ((x2 : Nat) : Int) from rfl] at r0
          rw [show fr ((x2 : Nat) : Int) ((y2 : Nat) : Int) 1 = ((y2 : Nat) : Int) from rfl] at r1
          have hMd := hM1.drew
          have s0 := hMd.cell 0 (by omega)
          have s1 := hMd.cell 1 (by omega)
          rw [show fr ((x1 : Nat) : Int) ((y1 : Nat) : Int) 0 = ((x1 : Nat) : Int) from rfl] at s0
          rw [show fr ((x1 : Nat) : Int) ((y1 : Nat) : Int) 1 = ((y1 : Nat) : Int) from rfl] at s1
          have t0 := hMd.free 0
          have t1 := hMd.free 1
          go_wp2_with fail
          go_region
          all_goals
            go_wp2_with fail
            go_roundw
            case rel => exact ⟨j + 1, by omega, by omega, by go_num, by rw [Hst1.out], by rw [Hst1.out]; exact ((fin2' hM1 _ _).past _).drew, (((hR1.other (by omega) _ _).other (by omega) _ _).past _).drew, (na ((hB1.setCell (p := ⟨w.heap.size + 1, 0, none⟩) (by show w.heap.size ≤ w.heap.size + 1; omega) _).setCell (p := ⟨w.heap.size + 1, 1, none⟩) (by show w.heap.size ≤ w.heap.size + 1; omega) _) _).drew⟩
            case measure => simp [intOf]; omega
        have hbz : ((b : Int) == 0) = false := by simp; omega
        have hbq : ((b : Int) = 0) = False := by simp; omega
        by_cases hl : x2 * y1 < x1 * y2
        · rw [if_pos ⟨rfl, .inr hl⟩] at hst
          have Hst1 := Lib.hid hst
          clear hst hz
          have e1 : (x2 : Int) * (y1 : Int) = ((x2 * y1 : Nat) : Int) := by push_cast; rfl
          have e2 : (x1 : Int) * (y2 : Int) = ((x1 * y2 : Nat) : Int) := by push_cast; rfl
          generalize x2 * y1 = P1 at *
          generalize x1 * y2 = P2 at *
          have hd : decide ((P1 : Int) < (P2 : Int)) = true := decide_eq_true (by omega)
          have hdN : decide (P1 < P2) = true := decide_eq_true (by omega)
          go_wp2_with fail
          refine (Hm1.out _).mono ?_
          rintro e w5 ⟨rfl, hb5⟩
          have hX := At.newv (x2 : Nat) (y2 : Nat) w5
          have hM1 := (hM.up hb5)
          have hMl := hM1.lt
          have hR1 := (hR.up hb5)
          have hRl := hR1.lt
          have hM := hM1.past (.cells #[.int .i64 (x2 : Nat), .int .i64 (y2 : Nat)] 35)
          have hR := hR1.past (.cells #[.int .i64 (x2 : Nat), .int .i64 (y2 : Nat)] 35)
          have hB0' := hB
          have hB := na (nx hB hb5) (.cells #[.int .i64 (x2 : Nat), .int .i64 (y2 : Nat)] 35)
          have hB1 := nx hB0' hb5
          clear hb5
          have q0 := hX.cell 0 (by omega)
          have q1 := hX.cell 1 (by omega)
          rw [show fr ((x2 : Nat) : Int) ((y2 : Nat) : Int) 0 = ((x2 : Nat) : Int) from rfl] at q0
          rw [show fr ((x2 : Nat) : Int) ((y2 : Nat) : Int) 1 = ((y2 : Nat) : Int) from rfl] at q1
          have c0 := hM.cell 0 (by omega)
          have c1 := hM.cell 1 (by omega)
          rw [show fr ((x1 : Nat) : Int) ((y1 : Nat) : Int) 0 = ((x1 : Nat) : Int) from rfl] at c0
          rw [show fr ((x1 : Nat) : Int) ((y1 : Nat) : Int) 1 = ((y1 : Nat) : Int) from rfl] at c1
          have z0 := hM.free 0
          have z1 := hM.free 1
          go_wp2_with fail
          clear q0 q1 c0 c1 z0 z1
          have q0 := hX.cell 0 (by omega)
          have q1 := hX.cell 1 (by omega)
          rw [show fr ((x2 : Nat) : Int) ((y2 : Nat) : Int) 0 = ((x2 : Nat) : Int) from rfl] at q0
          rw [show fr ((x2 : Nat) : Int) ((y2 : Nat) : Int) 1 = ((y2 : Nat) : Int) from rfl] at q1
          have c0 := hM1.cell 0 (by omega)
          have c1 := hM1.cell 1 (by omega)
          rw [show fr ((x1 : Nat) : Int) ((y1 : Nat) : Int) 0 = ((x1 : Nat) : Int) from rfl] at c0
          rw [show fr ((x1 : Nat) : Int) ((y1 : Nat) : Int) 1 = ((y1 : Nat) : Int) from rfl] at c1
          have z0 := hM1.free 0
          have z1 := hM1.free 1
          have hXd := hX.drew
          have r0 := hXd.cell 0 (by omega)
          have r1 := hXd.cell 1 (by omega)
          rw [show fr ((x2 : Nat) : Int) ((y2 : Nat) : Int) 0 = ((x2 : Nat) : Int) from rfl] at r0
          rw [show fr ((x2 : Nat) : Int) ((y2 : Nat) : Int) 1 = ((y2 : Nat) : Int) from rfl] at r1
          have hMd := hM1.drew
          have s0 := hMd.cell 0 (by omega)
          have s1 := hMd.cell 1 (by omega)
          rw [show fr ((x1 : Nat) : Int) ((y1 : Nat) : Int) 0 = ((x1 : Nat) : Int) from rfl] at s0
          rw [show fr ((x1 : Nat) : Int) ((y1 : Nat) : Int) 1 = ((y1 : Nat) : Int) from rfl] at s1
          have t0 := hMd.free 0
          have t1 := hMd.free 1
          go_wp2_with fail
          go_region
          all_goals
            go_wp2_with fail
            go_roundw
            case rel => exact ⟨j + 1, by omega, by omega, by go_num, by rw [Hst1.out], by rw [Hst1.out]; exact ((fin2' hM1 _ _).past _).drew, (((hR1.other (by omega) _ _).other (by omega) _ _).past _).drew, (na ((hB1.setCell (p := ⟨w.heap.size + 1, 0, none⟩) (by show w.heap.size ≤ w.heap.size + 1; omega) _).setCell (p := ⟨w.heap.size + 1, 1, none⟩) (by show w.heap.size ≤ w.heap.size + 1; omega) _) _).drew⟩
            case measure => simp [intOf]; omega
        rw [if_neg (fun h => h.2.elim hb0 hl)] at hst
        have Hst1 := Lib.hid hst
        clear hst hz
        have e1 : (x2 : Int) * (y1 : Int) = ((x2 * y1 : Nat) : Int) := by push_cast; rfl
        have e2 : (x1 : Int) * (y2 : Int) = ((x1 * y2 : Nat) : Int) := by push_cast; rfl
        generalize x2 * y1 = P1 at *
        generalize x1 * y2 = P2 at *
        have hd : decide ((P1 : Int) < (P2 : Int)) = false := decide_eq_false (by omega)
        have hdN : decide (P1 < P2) = false := decide_eq_false (by omega)
        go_wp2_with fail
        refine (Hm1.out _).mono ?_
        rintro e w5 ⟨rfl, hb5⟩
        have hX := At.newv (x2 : Nat) (y2 : Nat) w5
        have hM1 := (hM.up hb5)
        have hMl := hM1.lt
        have hR1 := (hR.up hb5)
        have hRl := hR1.lt
        have hM := hM1.past (.cells #[.int .i64 (x2 : Nat), .int .i64 (y2 : Nat)] 35)
        have hR := hR1.past (.cells #[.int .i64 (x2 : Nat), .int .i64 (y2 : Nat)] 35)
        have hB0' := hB
        have hB := na (nx hB hb5) (.cells #[.int .i64 (x2 : Nat), .int .i64 (y2 : Nat)] 35)
        have hB1 := nx hB0' hb5
        clear hb5
        have q0 := hX.cell 0 (by omega)
        have q1 := hX.cell 1 (by omega)
        rw [show fr ((x2 : Nat) : Int) ((y2 : Nat) : Int) 0 = ((x2 : Nat) : Int) from rfl] at q0
        rw [show fr ((x2 : Nat) : Int) ((y2 : Nat) : Int) 1 = ((y2 : Nat) : Int) from rfl] at q1
        have c0 := hM.cell 0 (by omega)
        have c1 := hM.cell 1 (by omega)
        rw [show fr ((x1 : Nat) : Int) ((y1 : Nat) : Int) 0 = ((x1 : Nat) : Int) from rfl] at c0
        rw [show fr ((x1 : Nat) : Int) ((y1 : Nat) : Int) 1 = ((y1 : Nat) : Int) from rfl] at c1
        have z0 := hM.free 0
        have z1 := hM.free 1
        go_wp2_with fail
        go_roundw
        case rel => exact ⟨j + 1, by omega, by omega, by go_num, by rw [Hst1.out], by rw [Hst1.out]; exact hM, hR, hB⟩
        case measure => simp [intOf]; omega
    · obtain rfl : j = 7 := by omega
      have hit : decide (((7 : Nat) : Int) ≤ (6 : Int)) = false := rfl
      have he : outB m = .tuple #[.int .i64 ((bs m 7).1 : Nat), v2 ((bs m 7).2.1 : Nat) ((bs m 7).2.2 : Nat), .bool (decide (0 < (bs m 7).1))] := rfl
      obtain ⟨p, hp⟩ : ∃ p, p = bs m 7 := ⟨_, rfl⟩
      rw [← hp] at hM he ⊢
      clear hp
      obtain ⟨b, x1, y1⟩ := p
      simp only at hM he ⊢
      have HE := Lib.hid he; clear he
      have c0 := hM.cell 0 (by omega)
      have c1 := hM.cell 1 (by omega)
      rw [show fr ((x1 : Nat) : Int) ((y1 : Nat) : Int) 0 = ((x1 : Nat) : Int) from rfl] at c0
      rw [show fr ((x1 : Nat) : Int) ((y1 : Nat) : Int) 1 = ((y1 : Nat) : Int) from rfl] at c1
      have hMd := hM.drew
      have hR' := hR.drew
      have hB' := hB.drew
      have d0 := hMd.cell 0 (by omega)
      have d1 := hMd.cell 1 (by omega)
      rw [show fr ((x1 : Nat) : Int) ((y1 : Nat) : Int) 0 = ((x1 : Nat) : Int) from rfl] at d0
      rw [show fr ((x1 : Nat) : Int) ((y1 : Nat) : Int) 1 = ((y1 : Nat) : Int) from rfl] at d1
      have q0 := hR'.cell 0 (by omega)
      have q1 := hR'.cell 1 (by omega)
      have z0 := hR'.free 0
      have z1 := hR'.free 1
      have q0' := hR.cell 0 (by omega)
      have q1' := hR.cell 1 (by omega)
      have z0' := hR.free 0
      have z1' := hR.free 1
      have hg : decide ((0 : Int) < (b : Int)) = decide (0 < b) := by simp
      go_wp2_with fail
      go_region
      all_goals
        go_wp2_with fail
        refine ret_tct (b := w.heap.size) (n := 2) (f := fr (x1 : Nat) (y1 : Nat)) Try.results17 rfl rfl rfl Try.underlying35 (by kernel_rfl) (fin2' hR' _ _) rfl ⟨by rw [HE.out]; first | rfl | (simp only [hg]; rfl), ?_⟩
        exact (hB'.setCell (p := ⟨w.heap.size, 0, none⟩) (Nat.le_refl _) _).setCell (p := ⟨w.heap.size, 1, none⟩) (Nat.le_refl _) _


end BThI
end Go.Proofs.Ytlpjmfmalejlpaa
