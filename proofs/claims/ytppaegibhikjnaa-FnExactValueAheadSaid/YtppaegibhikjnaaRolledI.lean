/-
  What all is worth when a set is rolled again, by the program.
-/
import Derived.Test.YtppaegibhikjnaaRows
import Derived.Test.YtppaegibhikjnaaAgainM
import Derived.Test.YtppaegibhikjnaaPowW
import Derived.Test.YtppaegibhikjnaaOwnL
import Derived.Test.YtppaegibhikjnaaAll6
import Derived.Test.YtppaegibhikjnaaAll9
import Derived.Test.YtppaegibhikjnaaSumsS
import Derived.Test.YtppaegibhikjnaaOpenD
import Derived.WalkKit
import Derived.WalkLawsBesides
import Derived.WalkSpells
import Derived.ProofKit
import Derived.OpenShut
import Derived.Deep.RegionWith
import Derived.Deep.QuietTactic
import Derived.BigQuiet
namespace Go.Proofs.Ytppaegibhikjnaa
open Go.ChangeShapes Go.WideShapes Go.ChangeAt Go.RowKit
open Go.ChangeMaps (open_string shut_string)

namespace RolledI
open Dice Arr AgainM PowW OwnL All6 All9 SumsS


set_option maxRecDepth 100000 in
set_option maxHeartbeats 8000000 in
theorem rolled_any (n s T B g c : Nat) (V : Nat → Int) (w : World) (hn : n ≤ 3) (hn1 : 1 ≤ n) (hs : s < 8) (hT : T = 6 ^ n) (hV : within n B V) (hB : B ≤ 4199040) (hA : At w g T V) :
    Calls Try.prog 106 #[.slice (some ⟨g, 0, none⟩) T c, .int .i64 n, .int .i64 s] w fun e w' => ∃ g' c', e = .returned (.slice (some ⟨g', 0, none⟩) T c') ∧ w.heap.size ≤ g' ∧ At w' g' T (sums n s V n) ∧ Below w.heap.size w w' := by
  have hT3 := (pow_three hn).1
  rw [← hT] at hT3
  have hbd := sums_bound (s := s) hn hV hB
  have hput := fun N i k (h1 : N < 6 ^ n) (h2 : i < n) (h3 : k < 6) => put_lt h1 h2 h3
  rw [← hT] at hbd hput
  have Hbd := Lib.hid hbd; clear hbd
  have Hput := Lib.hid hput; clear hput
  have Hpw := Lib.hid (fun i w (hi : i < n) => outcomes_any (n - 1 - i) w (by omega))
  have Hst := Lib.hid (fun i hi => stp_le (n := n) (i := i) hn hi)
  have Hdl := Lib.hid (fun N i => digit_le n N i)
  have Hin := Lib.hid (fun i w hi => inSet_any s i w hs hi)
  clear hV hB
  have HT := Lib.hid hT; clear hT
  go_enter Try.func106, Try.ntmps106
  go_wp2_with fail
  go_loopw [0, 15] (fun ov iv wr => ∃ i g c : Nat, i ≤ n ∧ iv = .int .i64 i ∧ ov = .slice (some ⟨g, 0, none⟩) T c ∧ (0 < i → w.heap.size ≤ g) ∧ At wr g T (sums n s V i) ∧ Below w.heap.size w wr) (fun _ iv _ => n - (intOf iv).toNat)
  case atStart => exact ⟨0, g, c, by omega, rfl, rfl, fun h => by omega, hA, n0 w⟩
  case round =>
    clear hA
    obtain ⟨i, g, c, hi, rfl, rfl, hg, hA, hb⟩ := hrel
    by_cases hlt : i < n
    · have hit : decide ((i : Int) < (n : Int)) = true := decide_eq_true (by omega)
      have Hp := Lib.hid (fun w => Hpw.out i w hlt)
      have e1 : ((n : Int) - 1 - (i : Int)) = ((n - 1 - i : Nat) : Int) := by omega
      have Hal : Hid (all6 (n - 1 - i) = stp n i) := rfl
      obtain ⟨w2, hr, hZ, hb2⟩ := make_ints wr T (by omega)
      have hb2' : Below w.heap.size w w2 := nx hb hb2
      have hA2 : At w2 g T (sums n s V i) := hA.up hb2
      have hgn : w.heap.size ≤ wr.heap.size := hb.size
      have hne : g < wr.heap.size := hA.lt
      obtain ⟨gn, hgn'⟩ : ∃ gn, gn = wr.heap.size := ⟨_, rfl⟩
      rw [← hgn'] at hZ hgn hne hr
      clear hb hA hb2 hgn' hg
      go_wp2_with fail
      refine (Hp.out _).mono ?_
      rintro e w5 ⟨rfl, hw5⟩
      have hw5 := hw5.symm
      subst hw5
      rw [Hal.out]
      go_wp2_with fail
      clear hr e1
      go_loopw [28] (fun nv wx => ∃ (N : Nat) (F : Nat → Int), N ≤ T ∧ nv = .int .i64 N ∧ At wx g T (sums n s V i) ∧ At wx gn T F ∧ Hid (∀ m, m < N → F m = sums n s V (i + 1) m) ∧ Hid (∀ m, N ≤ m → F m = 0) ∧ Below w.heap.size w wx) (fun nv _ => T - (intOf nv).toNat)
      case atStart => exact ⟨0, fun _ => 0, by omega, rfl, hA2, hZ, fun m h => by omega, fun m _ => rfl, hb2'⟩
      case round =>
        clear hA2 hZ hb2'
        obtain ⟨N, F, hN, rfl, hA, hF, hdone, hzero, hb⟩ := hrel
        by_cases hNT : N < T
        · have hnt : decide ((N : Int) < (T : Int)) = true := decide_eq_true (by omega)
          have cN := hA.cell N hNT
          have Hi1 := Lib.hid (fun w => Hin.out i w (by omega))
          have b1 := Hbd.out i (by omega) N hNT
          by_cases hbit : bit s i = 0
          · have hk1 : (((bit s i : Nat) : Int) == 1) = false := by rw [hbit]; rfl
            have fN := hF.free N
            have dN := hF.cell N hNT
            have Hks := Lib.hid (sums_kept (n := n) (V := V) hbit N)
            generalize hgx : sums n s V i N = x at *
            have hgx := Lib.hid hgx
            rw [hk1] at Hi1
            go_wp2_with fail
            refine (Hi1.out _).mono ?_
            rintro e w6 ⟨rfl, hw6⟩
            have hw6 := hw6.symm
            subst hw6
            go_wp2_with fail
            go_roundw
            case rel =>
              refine ⟨N + 1, put F N (6 * x), by omega, by go_num, hA.other (by omega) _ _, hF.set hNT _, fun m hm => ?_, fun m hm => ?_, hb.setCell (p := ⟨gn, N, none⟩) hgn _⟩
              · by_cases hmN : m = N
                · subst hmN
                  rw [put_same, Hks.out]
                · rw [put_other _ hmN]
                  exact hdone.out m (by omega)
              · rw [put_other _ (by omega)]
                exact hzero.out m (by omega)
            case measure => simp [intOf]; omega
          · have hb1 : bit s i = 1 := by have := bit_lt s i; omega
            have hk1 : (((bit s i : Nat) : Int) == 1) = true := by rw [hb1]; rfl
            rw [hk1] at Hi1
            have hdl := Hdl.out N i
            have hdv := digit_lt n N i
            have Hks := Lib.hid (sums_rolled (n := n) (V := V) hbit N)
            have Hpt := Lib.hid (fun k hk => Hput.out N i k hNT hlt hk)
            have hbs : Hid (base n N i = N - digit n N i * stp n i) := rfl
            have hst := Hst.out i hlt
            have hV := Hbd.out i (by omega)
            have hdg : digit n N i = N / stp n i % 6 := rfl
            have hql : N / stp n i ≤ N := Nat.div_le_self _ _
            generalize stp n i = st at *
            generalize base n N i = bs at *
            generalize digit n N i = dg at *
            have hq1 : ((N : Int).tdiv (st : Int)) = ((N / st : Nat) : Int) := rfl
            have hq2 : (((N / st : Nat) : Int).tmod 6) = (dg : Int) := by rw [hdg]; rfl
            generalize N / st = q at *
            obtain ⟨x, hx⟩ : ∃ x, x = dg * st := ⟨_, rfl⟩
            rw [← hx] at hdl hbs
            have hx1 : (dg : Int) * (st : Int) = (x : Int) := by rw [hx]; push_cast; rfl
            have hx2 : (N : Int) - (x : Int) = (bs : Int) := by rw [hbs.out]; omega
            have hbT : bs < T := by have := Hpt.out 0 (by omega); omega
            have hF0 : F N = 0 := hzero.out N (Nat.le_refl _)
            have Hx := Lib.hid hx; clear hx
            have Hdg := Lib.hid hdg; clear hdg
            go_wp2_with fail
            refine (Hi1.out _).mono ?_
            rintro e w6 ⟨rfl, hw6⟩
            have hw6 := hw6.symm
            subst hw6
            go_wp2_with fail
            clear cN b1
            generalize hUg : sums n s V i = U at *
            have HUg := Lib.hid hUg; clear hUg
            go_loopw [50] (fun kv wy => ∃ k : Nat, k ≤ 6 ∧ kv = .int .i64 k ∧ At wy g T U ∧ At wy gn T (put F N (psum (fun k => U (bs + k * st)) k)) ∧ Below w.heap.size w wy) (fun kv _ => 6 - (intOf kv).toNat)
            case atStart => exact ⟨0, by omega, rfl, hA, hF.congr (fun m _ => put_start hF0 m), hb⟩
            case round =>
              clear hA hF hb
              obtain ⟨k, hk, rfl, hA, hF, hb⟩ := hrel
              by_cases hk6 : k < 6
              · have hkt : decide ((k : Int) < 6) = true := decide_eq_true (by omega)
                obtain ⟨y, hy⟩ : ∃ y, y = k * st := ⟨_, rfl⟩
                have hz : bs + y < T := by rw [hy]; exact Hpt.out k hk6
                have hy1 : (k : Int) * (st : Int) = (y : Int) := by rw [hy]; push_cast; rfl
                have Hy := Lib.hid hy; clear hy
                have ps : Hid (psum (fun k => U (bs + k * st)) (k + 1) = psum (fun k => U (bs + k * st)) k + U (bs + k * st)) := rfl
                have hps := psum_bound (f := fun k => U (bs + k * st)) (B := 906992640) k (fun j hj => hV _ (Hpt.out j (by omega)))
                have hps2 := hV _ hz
                obtain ⟨z, hzz⟩ : ∃ z, z = bs + y := ⟨_, rfl⟩
                have hz1 : (bs : Int) + (y : Int) = (z : Int) := by omega
                rw [← hzz] at hz hps2
                rw [← Hy.out, ← hzz] at ps
                have Hzz := Lib.hid hzz; clear hzz
                have c1 := hA.cell z hz
                have c2 := hF.cell N hNT
                rw [put_same] at c2
                have z2 := hF.free N
                have hset := hF.set hNT
                have hAo := fun v => hA.other (b := g) (p := gn) (by omega) N v
                have hbo := fun v => hb.setCell (p := ⟨gn, N, none⟩) hgn v
                generalize psum (fun k => U (bs + k * st)) k = pk at *
                generalize U z = uz at *
                clear hA hF hb
                go_wp2_with fail
                go_region
                all_goals
                  go_wp2_with fail
                  go_roundw
                  case rel => exact ⟨k + 1, by omega, by go_num, (hAo _).drew, ((hset _).congr fun m _ => by rw [put_put, ps.out]).drew, (hbo _).drew⟩
                  case measure => simp [intOf]; omega
              · obtain rfl : k = 6 := by omega
                have hkt : decide ((6 : Int) < 6) = false := by decide
                go_wp2_with fail
                go_roundw
                case rel =>
                  refine ⟨N + 1, _, by omega, by go_num, by rw [HUg.out]; exact hA, hF, fun m hm => ?_, fun m hm => ?_, hb⟩
                  · by_cases hmN : m = N
                    · subst hmN
                      rw [put_same, Hks.out]
                    · rw [put_other _ hmN]
                      exact hdone.out m (by omega)
                  · rw [put_other _ (by omega)]
                    exact hzero.out m (by omega)
                case measure => simp [intOf]; omega
        · obtain rfl : N = T := by omega
          have hnt : decide ((N : Int) < (N : Int)) = false := decide_eq_false (by omega)
          go_wp2_with fail
          go_roundw
          case rel => exact ⟨i + 1, gn, _, by omega, by go_num, rfl, fun _ => hgn, hF.congr fun m hm => hdone.out m hm, hb⟩
          case measure => simp [intOf]; omega
    · obtain rfl : i = n := by omega
      have hit : decide ((i : Int) < (i : Int)) = false := decide_eq_false (by omega)
      have hg' := hg hn1
      go_wp2_with fail
      go_ret
      exact ⟨g, c, rfl, hg', hA, hb⟩


end RolledI
end Go.Proofs.Ytppaegibhikjnaa
