/-
  Races, by the specification.
-/
import Derived.Test.YtcffglnfdnanhaaRows
import Derived.Test.YtcffglnfdnanhaaArr
import Derived.Test.YtcffglnfdnanhaaAnyR
import Derived.Test.YtcffglnfdnanhaaDieW
import Derived.Test.YtcffglnfdnanhaaSortW
import Derived.Test.YtcffglnfdnanhaaFracW
import Derived.Test.YtcffglnfdnanhaaFracL
import Derived.Test.YtcffglnfdnanhaaCutW
import Derived.Test.YtcffglnfdnanhaaAll6
import Derived.Test.YtcffglnfdnanhaaAllL
import Derived.Test.YtcffglnfdnanhaaOwnL
import Derived.Test.YtcffglnfdnanhaaFracM
import Derived.Test.YtcffglnfdnanhaaStopM
import Derived.Test.YtcffglnfdnanhaaRunM
import Derived.Test.YtcffglnfdnanhaaRunI
import Derived.Test.YtcffglnfdnanhaaRunS
import Derived.Test.YtcffglnfdnanhaaRunW
import Derived.Test.YtcffglnfdnanhaaRaceM
import Derived.Test.YtcffglnfdnanhaaOpenD
import Derived.WalkKit
import Derived.OwnWalk
import Derived.Lib.AppendZeros
import Derived.Deep.WholeRow
import Derived.Deep.RegionHeld3
import Derived.Deep.AppendLies
import Derived.WalkLawsBesides
import Derived.WalkSpells
import Derived.ProofKit
import Derived.OpenShut
import Derived.Deep.RegionWith
import Derived.Deep.QuietTactic
import Derived.BigQuiet
namespace Go.Proofs.Ytcffglnfdnanhaa
open Go.ChangeShapes Go.WideShapes Go.ChangeAt Go.RowKit
open Go.ChangeMaps (open_string shut_string)

namespace RaceW
open Dice Arr DieW SortW FracW CutW All6 AllL OwnL FracM StopM RunM RunI RunS RunW RaceM Go.Deep


set_option maxRecDepth 100000 in
set_option maxHeartbeats 16000000 in
theorem race_any (a b : Nat → Int) (f h : Nat → Nat) (g : Nat) (w : World) (ha : faces a f) (hb : faces b h) (h1 : 1 ≤ g) (h8 : g ≤ 8) :
    Calls Try.prog 66 #[dv a, dv b, .int .i64 g] w fun e w' => e = .returned (.tuple #[.int .i64 (bef (part7 f g) (part7 h g) g g : Nat), .int .i64 (same (part7 f g) (part7 h g) g : Nat)]) ∧ Below w.heap.size w w' := by
  have hca := fun w => specRun_any a f g w ha h1 h8
  have hcb := fun w => specRun_any b h g w hb h1 h8
  unfold dv at hca hcb
  have Hca := Lib.hid hca; clear hca
  have Hcb := Lib.hid hcb; clear hcb ha hb
  have Hall := Lib.hid (fun n w (h : n ≤ 16) => l2AllL n w h)
  have hpg := pow_six h8
  have hsq : 6 ^ g * 6 ^ g ≤ 2821109907456 := Nat.mul_le_mul hpg.1 hpg.1
  have HiB := Lib.hid (fun p q (hp : p < g) (hq : q ≤ g) => Nat.le_trans (inB_le (a := part7 f g) (b := part7 h g) (fun n hn => part7_le f h1 hn) (fun n hn => part7_le h h1 hn) hp hq) hsq)
  have HiS := Lib.hid (fun p q (hp : p < g) => Nat.le_trans (inS_le (q := q) (a := part7 f g) (b := part7 h g) (fun n hn => part7_le f h1 hn) (fun n hn => part7_le h h1 hn) hp) hsq)
  have HpT := Lib.hid (fun p (hp : p < g) => And.intro (Nat.le_trans (T_le f h1 p) (pow_six (show p + 1 ≤ 8 by omega)).1) (Nat.le_trans (T_le h h1 p) (pow_six (show p + 1 ≤ 8 by omega)).1))
  have Hpp := Lib.hid (fun p q (hp : p < g) (hq : q < g) => Nat.le_trans (Nat.mul_le_mul (part7_one f h1 hp) (part7_one h h1 hq)) hsq)
  have Hp1 := Lib.hid (fun p (hp : p < g) => Nat.le_trans (part7_one f h1 hp) hpg.1)
  clear hpg hsq
  unfold dv
  have hB := na (na (n0 w) (sixO a 22)) (sixO b 22)
  have hDa := (At.new6 w a 22 rfl).past (sixO b 22)
  have hDb := At.new6 (w.alloc (sixO a 22)) b 22 (b := w.heap.size + 1) (by rw [size_alloc])
  go_enter Try.func66, Try.ntmps66
  go_wp2_with fail
  obtain ⟨W, hW⟩ : ∃ W, W = (w.alloc (sixO a 22)).alloc (sixO b 22) := ⟨_, rfl⟩
  rw [← hW] at hB hDa hDb ⊢
  clear hW
  obtain ⟨e0, e1, e2, e3, e4, e5⟩ := hDa.drew.six
  obtain ⟨f0, f1, f2, f3, f4, f5⟩ := hDb.drew.six
  have HDa := Lib.hid hDa.drew
  have HDb := Lib.hid hDb.drew
  have HB := Lib.hid hB.drew
  clear hDa hDb hB
  go_region_with (first | (go_at_call_of 54 (a 0); refine (Hca.out _).mono ?_; rintro e wa ⟨ba, ca, rfl, hba, hAa, hwa⟩; try (have := HDb.out.up hwa; obtain ⟨k0, k1, k2, k3, k4, k5⟩ := this.six; clear this)) | (go_at_call_of 54 (b 0); refine (Hcb.out _).mono ?_; rintro e wb ⟨bb, cb, rfl, hbb, hAb, hwb⟩; try (have := HDa.out.up hwb; obtain ⟨j0, j1, j2, j3, j4, j5⟩ := this.six; clear this)))
  all_goals
    have hZ : True := trivial
    first
      | (have hA1 := hAa.up hwb; have hA2 := hAb; have hB := nx (nx HB.out hwa) hwb; clear hwa hwb)
      | (have hA1 := hAa; have hA2 := hAb.up hwa; have hB := nx (nx HB.out hwb) hwa; clear hwa hwb)
    clear e0 e1 e2 e3 e4 e5 f0 f1 f2 f3 f4 f5 hAa hAb HB HDa HDb hba hbb hZ
    try clear j0 j1 j2 j3 j4 j5
    try clear k0 k1 k2 k3 k4 k5
    go_wp2_with fail
    go_loopw [8, 9, 12] (fun bv sv nv wr => ∃ p n : Nat, (n ≤ p + 1 ∧ p + 1 ≤ n) ∧ p ≤ g ∧ nv = .int .i64 n ∧ bv = .int .i64 (bef (part7 f g) (part7 h g) g p : Nat) ∧ sv = .int .i64 (same (part7 f g) (part7 h g) p : Nat) ∧ At wr ba (g + 1) (outF f g) ∧ At wr bb (g + 1) (outF h g) ∧ Below w.heap.size w wr) (fun _ _ nv _ => g + 1 - (intOf nv).toNat)
    case atStart => exact ⟨0, 1, by omega, by omega, rfl, rfl, rfl, hA1, hA2, hB⟩
    case round =>
      clear hA1 hA2 hB
      obtain ⟨p, n, ⟨hn1, hn2⟩, hp, rfl, rfl, rfl, hA1, hA2, hB⟩ := hrel
      by_cases hlt : p < g
      · have hit : decide ((n : Int) ≤ (g : Int)) = true := decide_eq_true (by omega)
        have hst := in_start (part7 f g) (part7 h g) g p
        rw [← hst.1, ← hst.2]
        have Hen := Lib.hid (in_end (part7 f g) (part7 h g) hlt)
        clear hst
        go_wp2_with fail
        go_loopw [8, 9, 13] (fun bv sv mv wr => ∃ q m : Nat, (m ≤ q + 1 ∧ q + 1 ≤ m) ∧ p ≤ q ∧ q ≤ g ∧ mv = .int .i64 m ∧ bv = .int .i64 (inB (part7 f g) (part7 h g) g p q : Nat) ∧ sv = .int .i64 (inS (part7 f g) (part7 h g) p q : Nat) ∧ At wr ba (g + 1) (outF f g) ∧ At wr bb (g + 1) (outF h g) ∧ Below w.heap.size w wr) (fun _ _ mv _ => g + 1 - (intOf mv).toNat)
        case atStart => exact ⟨p, n, by omega, by omega, by omega, rfl, rfl, rfl, hA1, hA2, hB⟩
        case round =>
          clear hA1 hA2 hB
          obtain ⟨q, m, ⟨hm1, hm2⟩, hpq, hq, rfl, rfl, rfl, hA1, hA2, hB⟩ := hrel
          by_cases hqg : q < g
          · have hitq : decide ((m : Int) ≤ (g : Int)) = true := decide_eq_true (by omega)
            have c1 := hA1.cell n (by omega)
            have c2 := hA2.cell m (by omega)
            have eo1 : outF f g n = ((T f g p : Nat) : Int) := by rw [show n = p + 1 by omega]; rfl
            have eo2 : outF h g m = ((T h g q : Nat) : Int) := by rw [show m = q + 1 by omega]; rfl
            rw [eo1] at c1
            rw [eo2] at c2
            clear eo1 eo2
            have hT1 := (HpT.out p hlt).1
            have hT2 := (HpT.out q hqg).2
            have hpp := Hpp.out p q hlt hqg
            have hp1 := Hp1.out p hlt
            have hB1 := HiB.out p q hlt (by omega)
            have hB2 := HiB.out p (q + 1) hlt (by omega)
            have hS1 := HiS.out p q hlt
            have hS2 := HiS.out p (q + 1) hlt
            have hd1 : Hid (part7 f g p = T f g p * 6 ^ (g - 1 - p)) := rfl
            have hd2 : Hid (part7 h g q = T h g q * 6 ^ (g - 1 - q)) := rfl
            obtain ⟨x1, hx1⟩ : ∃ e, e = g - 1 - p := ⟨_, rfl⟩
            obtain ⟨x2, hx2⟩ : ∃ e, e = g - 1 - q := ⟨_, rfl⟩
            rw [← hx1] at hd1
            rw [← hx2] at hd2
            have hsub1 := wsub (a := g) (b := n) (p := x1) (by omega) (by omega)
            have hsub2 := wsub (a := g) (b := m) (p := x2) (by omega) (by omega)
            have hx1' : x1 ≤ 16 := by omega
            have hx2' : x2 ≤ 16 := by omega
            have hw2 := (pow_six (show x2 ≤ 8 by omega)).2
            obtain ⟨u1, hu1⟩ : ∃ u, T f g p * 6 ^ x1 = u := ⟨_, rfl⟩
            rw [hu1] at hd1
            have hd1' := hd1.out
            rw [hd1'] at hpp hp1
            obtain ⟨u2, hu2⟩ : ∃ u, u1 * T h g q = u := ⟨_, rfl⟩
            obtain ⟨u3, hu3⟩ : ∃ u, u2 * 6 ^ x2 = u := ⟨_, rfl⟩
            have hu3' : u1 * part7 h g q = u3 := by rw [hd2.out, ← Nat.mul_assoc, hu2, hu3]
            rw [hu3'] at hpp
            have hu23 : u2 ≤ u3 := by rw [← hu3]; exact Nat.le_mul_of_pos_right _ hw2
            have m1 := wmul hu1 (by omega)
            have m2 := wmul hu2 (by omega)
            have m3 := wmul hu3 (by omega)
            have hsm := Lib.hid (in_same (part7 f g) (part7 h g) g p)
            have hmo := Lib.hid (fun (hpq : p < q) => in_more (part7 f g) (part7 h g) g hpq)
            rw [hd1'] at hmo hsm
            rw [hu3'] at hmo
            have Hu := Lib.hid hu3'
            clear hu1 hu2 hu3 hu3' hd1 hd2 hd1' hx1 hx2
            obtain ⟨m11, m12⟩ := m1
            obtain ⟨m21, m22⟩ := m2
            obtain ⟨m31, m32⟩ := m3
            obtain ⟨s11, s12⟩ := hsub1
            obtain ⟨s21, s22⟩ := hsub2
            generalize hz1 : inB (part7 f g) (part7 h g) g p q = z1 at *
            generalize hz2 : inS (part7 f g) (part7 h g) p q = z2 at *
            have Hz1 := Lib.hid hz1
            have Hz2 := Lib.hid hz2
            clear hz1 hz2
            have Ho1 := Lib.hid (fun w => Hall.out x1 w hx1')
            have Ho2 := Lib.hid (fun w => Hall.out x2 w hx2')
            rw [show all6 x1 = 6 ^ x1 from rfl] at Ho1
            rw [show all6 x2 = 6 ^ x2 from rfl] at Ho2
            generalize 6 ^ x1 = W1 at *
            generalize 6 ^ x2 = W2 at *
            generalize T f g p = t1 at *
            generalize T h g q = t2 at *
            have hng : (n : Int) < (g : Int) + 1 := by omega
            have hmg : (m : Int) < (g : Int) + 1 := by omega
            have HH := Lib.hid (And.intro hB1 (And.intro hB2 (And.intro hS1 (And.intro hS2 (And.intro hpp (And.intro hn1 (And.intro hn2 (And.intro hm1 hm2))))))))
            clear hB1 hB2 hS1 hS2 hpp hp1 hT1 hT2 hw2 hu23 hn1 hn2 hm1 hm2 hx1' hx2'
            clear hit hitq
            go_wp2_with fail
            go_quiet (first | (go_at_call_of 56 (Value.int .i64 (x1 : Int)); exact Calls.quiet_of_same (Ho1.out _)) | (go_at_call_of 56 (Value.int .i64 (x2 : Int)); exact Calls.quiet_of_same (Ho2.out _)))
            obtain ⟨hB1, hB2, hS1, hS2, hpp, hn1, hn2, hm1, hm2⟩ := HH.out
            have hA1' := hA1.drewN nq
            have hA2' := hA2.drewN nq
            have hB' := below_drewN hB nq
            clear hA1 hA2 hB c1 c2 m11 m21 m31 s11 s12 s21 s22 Ho1 Ho2
            by_cases hpq2 : p < q
            · have hne : ((n : Int) == (m : Int)) = false := by simp; omega
              have hmo' := hmo.out hpq2
              rw [hmo'.1] at hB2
              have Hmo := Lib.hid hmo'
              clear hmo hmo' hsm
              go_wp2_with fail
              go_roundw
              case rel => exact ⟨q + 1, m + 1, by omega, by omega, by omega, by go_num, by rw [Hmo.out.1]; go_num, by rw [Hmo.out.2], hA1', hA2', hB'⟩
              case measure => simp [intOf]; omega
            · have hqp : q = p := by omega
              have hne : ((n : Int) == (m : Int)) = true := by simp; omega
              have hsm' := hsm.out
              rw [← hqp] at hsm' hS2
              have Hsm : Hid (inB (part7 f g) (part7 h g) g p (q + 1) = z1 ∧ inS (part7 f g) (part7 h g) p (q + 1) = z2 + u3) := by
                have h1 := hsm.out
                have h2 := Hz1.out
                have h3 := Hz2.out
                have h4 := Hu.out
                rw [hqp] at h2 h3 h4 ⊢
                rw [h2, h3, h4] at h1
                exact h1
              rw [hqp] at hS2
              have hS2' := HiS.out p (q + 1) hlt
              rw [Hsm.out.2] at hS2'
              clear hmo hsm hsm' hS2 hqp
              go_wp2_with fail
              go_roundw
              case rel => exact ⟨q + 1, m + 1, by omega, by omega, by omega, by go_num, by rw [Hsm.out.1], by rw [Hsm.out.2]; go_num, hA1', hA2', hB'⟩
              case measure => simp [intOf]; omega
          · obtain rfl : q = g := by omega
            have hitq : decide ((m : Int) ≤ (q : Int)) = false := decide_eq_false (by omega)
            rw [Hen.out.1, Hen.out.2]
            go_wp2_with fail
            go_roundw
            case rel => exact ⟨p + 1, n + 1, by omega, by omega, by go_num, rfl, rfl, hA1, hA2, hB⟩
            case measure => simp [intOf]; omega
      · obtain rfl : p = g := by omega
        have hit : decide ((n : Int) ≤ (p : Int)) = false := decide_eq_false (by omega)
        go_wp2_with fail
        go_ret2
        exact ⟨rfl, hB⟩


end RaceW
end Go.Proofs.Ytcffglnfdnanhaa
