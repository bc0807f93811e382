/-
  The pattern of a roll, by the model.
-/
import Derived.Test.YtbcaahaaaodhkaaRows
import Derived.Test.YtbcaahaaaodhkaaPlS
import Derived.Test.YtbcaahaaaodhkaaFour
import Derived.Test.YtbcaahaaaodhkaaPatM
import Derived.Test.YtbcaahaaaodhkaaPlaces
import Derived.Test.YtbcaahaaaodhkaaOpenD
import Derived.WalkKit
import Derived.WalkLawsBesides
import Derived.WalkSpells
import Derived.ProofKit
import Derived.OpenShut
import Derived.Deep.RegionWith
import Derived.Deep.QuietTactic
import Derived.BigQuiet
namespace Go.Proofs.Ytbcaahaaaodhkaa
open Go.ChangeShapes Go.WideShapes Go.ChangeAt Go.RowKit
open Go.ChangeMaps (open_string shut_string)

namespace PatS
open Dice Arr DieW SortW Places PlS PatM Four

theorem gt_step (p : Nat → Int) (k : Nat) : gt p (k + 1) = put (gt p k) (gi p k) (gt p k (gi p k) + 1) := rfl
/-- The group before the place k, -1 at the first place. -/
def gn (p : Nat → Int) (k : Nat) : Int := if k = 0 then -1 else (gi p (k - 1) : Nat)
theorem gn_zero (p : Nat → Int) : gn p 0 = -1 := rfl
theorem gn_succ (p : Nat → Int) (k : Nat) : gn p (k + 1) = (gi p k : Nat) := by unfold gn; rw [if_neg (by omega)]; rfl

set_option maxHeartbeats 8000000 in
theorem l4Pattern_any (b n c : Nat) (f : Nat → Int) (w : World) (h : At w b n f) (h4 : n ≤ 4) :
    Calls Try.prog 55 #[.slice (some ⟨b, 0, none⟩) n c] w fun e w' => e = .returned (v4 (pat f n)) ∧ Below w.heap.size w w' := by
  have Hpl := Lib.hid (fun w h => l4Places_any b n c f w h h4)
  have hr2 := (At.new4 w (fun _ => 0) 23 rfl).past (fourO (fun _ => 0) 23)
  have hM := At.new4 (w.alloc (fourO (fun _ => 0) 23)) (fun _ => 0) 23 (b := w.heap.size + 1) (by rw [size_alloc])
  have hB := na (na (n0 w) (fourO (fun _ => 0) 23)) (fourO (fun _ => 0) 23)
  have hH := h.below h.lt hB
  clear h
  go_enter Try.func55, Try.ntmps55
  go_wp2_with fail
  refine (Hpl.out _ hH).mono ?_
  rintro e w1 ⟨g, c', rfl, hg, hP, hb⟩
  have hB1 := nx hB hb
  have hR1 := hr2.up hb
  have hM1 := hM.up hb
  have hgl : w.heap.size + 1 < g := Nat.lt_of_lt_of_le hM.lt hg
  clear hB hr2 hM hb hH hg Hpl
  obtain ⟨p, hp⟩ : ∃ p, p = ds f n := ⟨_, rfl⟩
  have Hp := Lib.hid hp
  rw [← hp] at hP
  clear hp
  go_wp2_with fail
  go_loopw [4, 6] (fun nv iv wr => ∃ k : Nat, k ≤ n ∧ iv = .int .i64 k ∧ nv = .int .i64 (gn p k) ∧ Below w.heap.size w wr ∧ At wr w.heap.size 4 (fun _ => 0) ∧ At wr (w.heap.size + 1) 4 (gt p k) ∧ At wr g n p) (fun _ iv _ => n - (intOf iv).toNat)
  case atStart => exact ⟨0, by omega, rfl, rfl, hB1, hR1, hM1, hP⟩
  case round =>
    clear hB1 hR1 hM1 hP
    obtain ⟨k, hk, rfl, rfl, hB, hR, hM, hP⟩ := hrel
    by_cases hlt : k < n
    · have hit : decide ((k : Int) < (n : Int)) = true := decide_eq_true (by omega)
      have c1 := hP.cell k hlt
      have hgb := gt_bound p k (gi p k)
      have hgl2 := gi_le p k
      have cg := hM.cell (gi p k) (by omega)
      have zg := hM.free (gi p k)
      have hgk : gi p k < 4 := by omega
      have Hst := Lib.hid (gt_step p k)
      have e2 := gn_succ p k
      by_cases hk0 : k = 0
      · have hd0 : ((k : Int) == 0) = true := by simpa using hk0
        have hd2 : decide (k = 0) = true := decide_eq_true hk0
        have hd3 : (k == 0) = true := by simpa using hk0
        have hd0' : decide ((k : Int) = 0) = true := decide_eq_true (by omega)
        have e0 : gn p k = -1 := by rw [hk0]; rfl
        have e1 : gi p k = 0 := by rw [hk0]; rfl
        rw [e0]
        clear hk0
        rw [e1] at cg zg hgb hgk hgl2 e2
        have hMs := hM.set (i := 0) (by omega) (gt p k 0 + 1)
        have Hst' := Lib.hid (show gt p (k + 1) = put (gt p k) 0 (gt p k 0 + 1) by rw [Hst.out, e1])
        clear e1 Hst
        go_wp2_with fail
        go_quiet (fail)
        go_wp2_with fail
        go_roundw
        case rel => exact ⟨k + 1, by omega, by go_num, by rw [e2]; rfl, (below_drewN hB _).setCell (p := ⟨w.heap.size + 1, 0, none⟩) (by show w.heap.size ≤ w.heap.size + 1; omega) _, (hR.drewN _).other (by omega) _ _, by rw [Hst'.out]; exact (hM.drewN _).set (by omega) _, (hP.drewN _).other (by omega) _ _⟩
        case measure => simp [intOf]; omega
      · obtain ⟨j, rfl⟩ : ∃ j, k = j + 1 := ⟨k - 1, by omega⟩
        have hd0 : (((j + 1 : Nat) : Int) == 0) = false := by simp; omega
        have hd0' : decide (((j + 1 : Nat) : Int) = 0) = false := decide_eq_false (by omega)
        have hd4 : ((j : Int) + 1 == 0) = false := by simp; omega
        have hji : (j : Int) + 1 < (n : Int) := by omega
        have hjn : (j : Int) < (n : Int) := by omega
        have hj0 : (0 : Int) ≤ (j : Int) + 1 := by omega
        have hjt : ((j : Int) + 1).toNat = j + 1 := by omega
        have c2 := hP.cell j (by omega)
        rw [gn_succ p j]
        by_cases hs : p (j + 1) = p j
        · have e1 := gi_same hs
          rw [e1] at cg zg hgb hgk hgl2 e2
          have Hst' := Lib.hid (show gt p (j + 1 + 1) = put (gt p (j + 1)) (gi p j) (gt p (j + 1) (gi p j) + 1) by rw [Hst.out, e1])
          have hd1 : (p (j + 1) == p j) = true := by simpa using hs
          clear Hst e1
          rw [hs] at c1
          generalize gi p j = gg at *
          go_wp2_with fail
          go_quiet (fail)
          go_wp2_with fail
          go_roundw
          case rel => exact ⟨j + 1 + 1, by omega, by go_num, by rw [e2], (below_drewN hB _).setCell (p := ⟨w.heap.size + 1, gg, none⟩) (by show w.heap.size ≤ w.heap.size + 1; omega) _, (hR.drewN _).other (by omega) _ _, by rw [Hst'.out]; exact (hM.drewN _).set hgk _, (hP.drewN _).other (by omega) _ _⟩
          case measure => simp [intOf]; omega
        · have e1 := gi_next hs
          rw [e1] at cg zg hgb hgk hgl2 e2
          have Hst' := Lib.hid (show gt p (j + 1 + 1) = put (gt p (j + 1)) (gi p j + 1) (gt p (j + 1) (gi p j + 1) + 1) by rw [Hst.out, e1])
          have hd1 : (p (j + 1) == p j) = false := by simpa using hs
          clear Hst e1
          generalize gi p j = gg at *
          go_wp2_with fail
          go_quiet (fail)
          go_wp2_with fail
          go_roundw
          case rel => exact ⟨j + 1 + 1, by omega, by go_num, by rw [e2]; first | rfl | go_num, (below_drewN hB _).setCell (p := ⟨w.heap.size + 1, gg + 1, none⟩) (by show w.heap.size ≤ w.heap.size + 1; omega) _, (hR.drewN _).other (by omega) _ _, by rw [Hst'.out]; exact (hM.drewN _).set hgk _, (hP.drewN _).other (by omega) _ _⟩
          case measure => simp [intOf]; omega
    · obtain rfl : k = n := by omega
      have HE : Hid (ds (gt p k) 4 = pat f k) := by show _ = ds (gt (ds f k) k) 4; rw [Hp.out]
      have hkd : decide ((k : Int) < (k : Int)) = false := decide_eq_false (by omega)
      go_wp2_with fail
      generalize gt p k = d at *
      clear hP hkd hk hlt h4 Hp
      go_loopw [7] (fun iv wr => ∃ (i : Nat) (q : Nat → Int), i ≤ 4 ∧ iv = .int .i64 i ∧ Below w.heap.size w wr ∧ At wr w.heap.size 4 (fun _ => 0) ∧ At wr (w.heap.size + 1) 4 q ∧ Hid (PatM.Bub d q i 0)) (fun iv _ => 4 - (intOf iv).toNat)
      case atStart => exact ⟨0, d, by omega, rfl, hB, hR, hM, PatM.Bub.start d⟩
      case round =>
        clear hB hR hM
        obtain ⟨i, q0, hi, rfl, hb0, hr0, hf0, hB0⟩ := hrel
        by_cases hlt : i < 4
        · have hit : decide ((i : Int) < 4) = true := decide_eq_true (by omega)
          go_wp2_with fail
          go_loopw [8] (fun kv wr => ∃ (k : Nat) (q : Nat → Int), k ≤ 3 ∧ kv = .int .i64 k ∧ Below w.heap.size w wr ∧ At wr w.heap.size 4 (fun _ => 0) ∧ At wr (w.heap.size + 1) 4 q ∧ Hid (PatM.Bub d q i k)) (fun kv _ => 3 - (intOf kv).toNat)
          case atStart => exact ⟨0, q0, by omega, rfl, hb0, hr0, hf0, hB0⟩
          case round =>
            clear hb0 hr0 hf0 hB0
            obtain ⟨k, q, hk, rfl, hb, hr, hf, hB⟩ := hrel
            by_cases hk3 : k < 3
            · have hkt : decide ((k : Int) < 3) = true := decide_eq_true (by omega)
              have c1 := hf.cell k (by omega)
              have c2 := hf.cell (k + 1) (by omega)
              have z1 := hf.free k
              have z2 := hf.free (k + 1)
              have hB' : Hid (PatM.Bub d (PatM.swp q k) i (k + 1)) := hB.out.step hk3
              by_cases hs : q k < q (k + 1)
              · have hsd : decide (q k < q (k + 1)) = true := decide_eq_true hs
                go_wp2_with fail
                go_quiet (fail)
                go_wp2_with fail
                go_roundw
                case rel =>
                  have e : ∀ j, j < 4 → put (put q k (q (k + 1))) (k + 1) (q k) j = PatM.swp q k j := fun j _ => by
                    simp only [put, PatM.swp, hs, ↓reduceIte]
                    by_cases h1 : j = k
                    · rw [if_neg (by omega), if_pos h1, if_pos h1]
                    · rw [if_neg h1, if_neg h1]
                  exact ⟨k + 1, PatM.swp q k, by omega, by go_num, ((below_drewN hb _).setCell (p := ⟨w.heap.size + 1, k, none⟩) (by show w.heap.size ≤ w.heap.size + 1; omega) _).setCell (p := ⟨w.heap.size + 1, k + 1, none⟩) (by show w.heap.size ≤ w.heap.size + 1; omega) _, ((hr.drewN _).other (by omega) _ _).other (by omega) _ _, (((hf.drewN _).set (by omega) _).set (by omega) _).congr e, hB'⟩
                case measure => simp [intOf]; omega
              · have hsd : decide (q k < q (k + 1)) = false := decide_eq_false hs
                have e : Hid (∀ j, j < 4 → q j = PatM.swp q k j) := fun j _ => by simp only [PatM.swp, hs, ↓reduceIte]
                go_wp2_with fail
                go_quiet (fail)
                go_wp2_with fail
                go_roundw
                case rel => exact ⟨k + 1, PatM.swp q k, by omega, by go_num, below_drewN hb _, hr.drewN _, (hf.congr e.out).drewN _, hB'⟩
                case measure => simp [intOf]; omega
            · obtain rfl : k = 3 := by omega
              go_wp2_with fail
              go_roundw
              case rel => exact ⟨i + 1, q, by omega, by go_num, hb, hr, hf, hB.out.next (by omega)⟩
              case measure => simp [intOf]; omega
        · obtain rfl : i = 4 := by omega
          have hf' := hf0.congr hB0.out.sorted
          rw [HE.out] at hf'
          obtain ⟨e0, e1, e2, e3⟩ := At.four hf'
          obtain ⟨r0, r1, r2, r3⟩ := At.four hr0
          obtain ⟨z0, z1, z2, z3⟩ := At.freefour hr0
          go_wp2_with fail
          refine ret_cell (b := w.heap.size) (n := 4) (f := pat f k) Try.results55 rfl Try.underlying23 (by kernel_rfl) (hr0.stored (pat f k)) rfl ⟨rfl, ?_⟩
          exact hb0.trans (setCells_below (w := wr) (p := w.heap.size) (B := w.heap.size) (Nat.le_refl _) (vals 4 (pat f k)) 0)


end PatS
end Go.Proofs.Ytbcaahaaaodhkaa
