/-
  What all sets are worth with two rerolls left, by the program.
-/
import Derived.Test.YtppaegibhikjnaaRows
import Derived.Test.YtppaegibhikjnaaVFacts
import Derived.Test.YtppaegibhikjnaaAgainM
import Derived.Test.YtppaegibhikjnaaPowW
import Derived.Test.YtppaegibhikjnaaOwnL
import Derived.Test.YtppaegibhikjnaaAll6
import Derived.Test.YtppaegibhikjnaaAll9
import Derived.Test.YtppaegibhikjnaaSumsS
import Derived.Test.YtppaegibhikjnaaRolledI
import Derived.Test.YtppaegibhikjnaaArr
import Derived.Test.YtppaegibhikjnaaDieW
import Derived.Test.YtppaegibhikjnaaFracW
import Derived.Test.YtppaegibhikjnaaSortW
import Derived.Test.YtppaegibhikjnaaDicesW
import Derived.Test.YtppaegibhikjnaaPoolW
import Derived.Test.YtppaegibhikjnaaGoalW
import Derived.Test.YtppaegibhikjnaaScoreM
import Derived.Test.YtppaegibhikjnaaScoreW
import Derived.Test.YtppaegibhikjnaaIntsW
import Derived.Test.YtppaegibhikjnaaRollN
import Derived.Test.YtppaegibhikjnaaPairA
import Derived.Test.YtppaegibhikjnaaGameW
import Derived.Test.YtppaegibhikjnaaScoreI
import Derived.Test.YtppaegibhikjnaaGridL
import Derived.Test.YtppaegibhikjnaaRest0
import Derived.Test.YtppaegibhikjnaaRest1
import Derived.Test.YtppaegibhikjnaaOpenD
import Derived.WalkKit
import Derived.Deep.WholeRow
import Derived.Deep.AppendLies
import Derived.FnLit
import Derived.WalkLawsBesides
import Derived.WalkSpells
import Derived.ProofKit
import Derived.OpenShut
import Derived.Deep.RegionWith
import Derived.Deep.QuietTactic
import Derived.BigQuiet
namespace Go.Proofs.Ytppaegibhikjnaa
open Go.ChangeShapes Go.WideShapes Go.ChangeAt Go.RowKit
open Go.ChangeMaps (open_string shut_string)

namespace Sets2
open Dice Arr AgainM PowW OwnL All6 All9 SumsS RolledI FracW OpenD DieW SortW PoolW DicesW GoalW ScoreM ScoreW IntsW RollW PairA GameW ScoreI VFacts GridL Rest0 Rest1


set_option maxRecDepth 100000 in
set_option maxHeartbeats 16000000 in
theorem sets2_any (A : Option Addr) (n c : Nat) (P : Nat → Nat → Int) (k b : Int) (w : World) (h : Row w A n P) (h1 : 1 ≤ n) (hn : n ≤ 3) (hp : pooled P n) (hk : k = 1 ∨ k = 2 ∨ k = 3 ∨ k = 4 ∨ k = 5) :
    Calls Try.prog 96 #[.slice A n c, scV k b, .int .i64 2] w fun e w' => ∃ gw B v, e = .returned (.slice (some ⟨gw, 0, none⟩) (all6 n) (all6 n)) ∧ w.heap.size ≤ gw ∧ w.heap.size < B ∧ Grid w' B gw (all6 n) (fun _ => 2 ^ n) (worth n (values n (sco n P k b) 1)) v ∧ Below w.heap.size w w' := by
  have hrest := fun w h => rest1_any A n c P k b w h h1 hn hp hk
  have Hrest := Lib.hid hrest; clear hrest
  have H := Lib.hid h; clear h
  have hT : all6 n ≤ 216 := (pow_three hn).1
  have Ho := Lib.hid (fun w => outcomes_any n w (by omega))
  have Hro := Lib.hid (fun s g c w (hs : s < 8) h => rolledV_any n P k b hn h1 hp 1 (by omega) s hs g c w h)
  obtain ⟨i0, hi, hz0, hz1, hz2⟩ := info_parts OwnL.info_int
  have Hi := Lib.hid (And.intro hi (And.intro hz0 (And.intro hz1 hz2)))
  clear hi hz0 hz1 hz2
  obtain ⟨M, hM⟩ : ∃ M, M = 2 ^ n := ⟨_, rfl⟩
  obtain ⟨hsh, hM8, hM1⟩ := shl_two hn
  rw [← hM] at hsh hM8 hM1 ⊢
  clear hM
  generalize all6 n = T at *
  generalize values n (sco n P k b) 1 = V at *
  have hmf : ∀ (fn : Fn) (first cap : Array Value) (w : World), (Instr.makeFunc fn first cap).run Try.prog w = .ok (.func fn first cap) w := fun _ _ _ _ => rfl
  go_enter Try.func96, Try.ntmps96
  go_wp2_with fail
  refine (Hrest.out _ H.out).mono ?_
  rintro e w1 ⟨bw, rfl, hb1, Hcall⟩
  go_wp2_with fail
  refine (Ho.out _).mono ?_
  rintro e w5 ⟨rfl, hw5⟩
  have hw5 := hw5.symm
  subst hw5
  obtain ⟨w2, hr, hZ, hb2⟩ := make_ints w1 T (by omega)
  have hgk : w.heap.size ≤ w1.heap.size := hb1.size
  obtain ⟨gk, hgk'⟩ : ∃ gk, gk = w1.heap.size := ⟨_, rfl⟩
  rw [← hgk'] at hr hZ hb2 hgk
  have Hgk := Lib.hid hgk'; clear hgk'
  go_wp2_with fail
  clear hr
  go_loopw [25] (fun iv wr => ∃ (N : Nat) (F : Nat → Int), N ≤ T ∧ iv = .int .i64 N ∧ At wr gk T F ∧ Hid (∀ j, j < N → F j = V j) ∧ Below gk w1 wr) (fun iv _ => T - (intOf iv).toNat)
  case atStart => exact ⟨0, fun _ => 0, by omega, rfl, hZ, fun j hj => by omega, hb2⟩
  case round =>
    clear hZ hb2
    obtain ⟨N, F, hN, rfl, hA, hdone, hB⟩ := hrel
    by_cases hlt : N < T
    · have hit : decide ((N : Int) < (T : Int)) = true := decide_eq_true (by omega)
      have Hcn := Lib.hid (Hcall.out N wr hlt (by rw [← Hgk.out]; exact hB))
      go_wp2_with fail
      refine Hcn.out.mono ?_
      rintro e w6 ⟨rfl, hb6⟩
      have hA6 := hA.up hb6
      have hB6 : Below gk w1 w6 := hB.trans (hb6.mono (Nat.le_of_lt hA.lt))
      have c6 := hA6.cell N hlt
      have z6 := hA6.free N
      clear hA hB hb6
      go_wp2_with fail
      go_roundw
      case rel =>
        refine ⟨N + 1, put F N (V N), by omega, by go_num, hA6.set hlt _, fun j hj => ?_, hB6.setCell (p := ⟨gk, N, none⟩) (Nat.le_refl _) _⟩
        by_cases hjN : j = N
        · subst hjN; exact put_same _ _ _
        · rw [put_other _ hjN]; exact hdone.out j (by omega)
      case measure => simp [intOf]; omega
    · obtain rfl : N = T := by omega
      have hit : decide ((N : Int) < (N : Int)) = false := decide_eq_false (by omega)
      have hK := hA.congr hdone.out
      have hBw : Below w.heap.size w wr := hb1.trans (hB.mono hgk)
      clear hA hdone hB Hcall hlt
      obtain ⟨w3, hr3, hG, hb3, hs3⟩ := make_grid wr N (by omega) (worth n V)
      have hK3 := hK.up hb3
      have hBw3 := nx hBw hb3
      have hgw : w.heap.size ≤ wr.heap.size := hBw.size
      have hkw : gk < wr.heap.size := hK.lt
      obtain ⟨gw, hgw'⟩ : ∃ gw, gw = wr.heap.size := ⟨_, rfl⟩
      rw [← hgw'] at hr3 hG hgw hkw hs3
      clear hgw' hK hBw hb3
      go_wp2_with fail
      clear hr3
      simp only [hsh]
      go_loopw [41] (fun sv wx => ∃ (s : Nat) (v : Nat → Value), s ≤ M ∧ sv = .int .i64 s ∧ At wx gk N V ∧ Grid wx (gw + 1) gw N (fun _ => s) (worth n V) v ∧ gw + 1 ≤ wx.heap.size ∧ Below w.heap.size w wx) (fun sv _ => M - (intOf sv).toNat)
      case atStart => exact ⟨0, _, by omega, rfl, hK3, hG, hs3, hBw3⟩
      case round =>
        clear hK3 hG hBw3 hs3
        obtain ⟨s, v, hs, rfl, hK, hG, hsz, hB⟩ := hrel
        by_cases hsl : s < M
        · have hst : decide ((s : Int) < (M : Int)) = true := decide_eq_true (by omega)
          have Hrs := Lib.hid (fun g c w h => Hro.out s g c w (by omega) h)
          go_wp2_with fail
          refine (Hrs.out _ _ _ hK).mono ?_
          rintro e w7 ⟨gs, cs, rfl, hgs, hS, hb7⟩
          have hK7 := hK.up hb7
          have hG7 := hG.up hb7
          have hB7 := nx hB hb7
          have hsz7 := Nat.le_trans hsz hb7.size
          have hfar : Hid (∀ x, x < N → ∀ j, (v x).ownBlock = some j → j < gs) := fun x hx j hj => Nat.lt_of_lt_of_le ((hG.row x hx).lt j hj).2 hgs
          have hgsw : gw < gs := by omega
          have hksne : gk < gs := by omega
          clear hK hG hB hb7 hsz hgs
          go_wp2_with fail
          go_loopw [50] (fun mv wy => ∃ (m : Nat) (v : Nat → Value), m ≤ N ∧ mv = .int .i64 m ∧ At wy gk N V ∧ At wy gs N (sums n s V n) ∧ Grid wy (gw + 1) gw N (fun x => if x < m then s + 1 else s) (worth n V) v ∧ Hid (∀ x, m ≤ x → x < N → ∀ j, (v x).ownBlock = some j → j < gs) ∧ gw + 1 ≤ wy.heap.size ∧ Below w.heap.size w wy) (fun mv _ => N - (intOf mv).toNat)
          case atStart => exact ⟨0, v, by omega, rfl, hK7, hS, hG7.congr (fun x hx => by rw [if_neg (by omega)]) (fun _ _ _ _ => rfl), fun x _ hx j hj => hfar.out x hx j hj, hsz7, hB7⟩
          case round =>
            clear hK7 hS hG7 hsz7 hB7 hfar
            obtain ⟨m, v, hm, rfl, hK, hS, hG, hfar, hsz, hB⟩ := hrel
            by_cases hml : m < N
            · have hmt : decide ((m : Int) < (N : Int)) = true := decide_eq_true (by omega)
              have hrow := hG.row m hml
              simp only [Nat.lt_irrefl, if_false] at hrow
              have c1 := hS.cell m hml
              have c2 := hG.cell m hml
              have hx : worth n V m s = sums n s V n m := rfl
              generalize sums n s V n m = x at *
              have hnk : some gk ≠ (v m).ownBlock := fun e => by have := (hrow.lt gk e.symm).1; omega
              have hns : some gs ≠ (v m).ownBlock := fun e => by have := hfar.out m (Nat.le_refl _) hml gs e.symm; omega
              have hlow := fun j (e : (v m).ownBlock = some j) => (hrow.lt j e).1
              have HK := Lib.hid hK; clear hK
              have HS := Lib.hid hS; clear hS
              have HG := Lib.hid hG; clear hG
              have HB := Lib.hid hB; clear hB
              have Hrow := Lib.hid hrow; clear hrow
              generalize hvm : v m = vm at *
              have Hvm := Lib.hid hvm; clear hvm
              have Hlow := Lib.hid hlow; clear hlow
              go_wp2_with (at_builtin; refine wpList_append_lies _ rfl _ _ 28 rfl (gw + 1) 3 i0 (.int .i64 0) 1 8 Try.underlying28 Hi.out.1 Hi.out.2.1 Hi.out.2.2.1 Hi.out.2.2.2 rfl (by decide) vm s (vals s (worth n V m)) rfl (Hrow.out.alloc _) ⟨wr.heap.size, 0, none⟩ 1 1 [.int .i64 x] rfl rfl (news_one (cell_one _ _ _)) (by intro u hu; simp at hu; subst hu; rfl) (by omega) (by unfold maxLen; omega) (by omega) (by simp; omega) (wr.heap.size + 1) (by simp) ?_; intro g9 c9 w9 hO9 hg9 hat9 hlt9; obtain ⟨c3, z3⟩ := Grid.outer HG.out hml (by rw [Hvm.out]; exact hg9))
              have hK9 := At.keptO (HK.out.past (.cells #[.int .i64 x] 3)) hg9 hnk
              have hS9 := At.keptO (HS.out.past (.cells #[.int .i64 x] 3)) hg9 hns
              have hBa := na HB.out (.cells #[.int .i64 x] 3)
              have hB9 := hBa.grown hg9 hBa.size (fun k e => by have := Hlow.out k e; omega)
              have hOx : w9.ownsRow (gw + 1) 3 1 (.slice (some ⟨g9, 0, none⟩) (s + 1) c9) (s + 1) (vals (s + 1) (worth n V m)) := by rw [← vals_grow hx]; exact hO9
              have hG9 := Grid.grow HG.out hml (l := s) (by rw [if_neg (Nat.lt_irrefl m)]) (by rw [Hvm.out]; exact hg9) hOx (by rw [Hvm.out]; exact hat9)
              refine ⟨⟨m + 1, _, by omega, by go_num, hK9.other (by omega) _ _, hS9.other (by omega) _ _, hG9.congr (fun y _ => ?_) (fun _ _ _ _ => rfl), fun y hy1 hy2 j hj => ?_, ?_, hB9.setCell (p := ⟨gw, m, none⟩) hgw _⟩, ?_⟩
              · by_cases hym : y = m
                · rw [if_pos hym, if_pos (by omega)]
                · rw [if_neg hym]
                  by_cases h2 : y < m
                  · rw [if_pos h2, if_pos (by omega)]
                  · rw [if_neg h2, if_neg (by omega)]
              · rw [if_neg (by omega)] at hj
                exact hfar.out y (by omega) hy2 j hj
              · rw [World.size_setCell]
                have := hg9.size
                rw [size_alloc] at this
                omega
              · simp [intOf]
                omega
            · obtain rfl : m = N := by omega
              have hmt : decide ((m : Int) < (m : Int)) = false := decide_eq_false (by omega)
              go_wp2_with fail
              go_roundw
              case rel => exact ⟨s + 1, v, by omega, by go_num, hK, hG.congr (fun y hy => by rw [if_pos hy]) (fun _ _ _ _ => rfl), hsz, hB⟩
              case measure => simp [intOf]; omega
        · obtain rfl : s = M := by omega
          have hst : decide ((s : Int) < (s : Int)) = false := decide_eq_false (by omega)
          go_wp2_with fail
          go_ret
          exact ⟨gw, gw + 1, v, rfl, hgw, by omega, hG, hB⟩


end Sets2
end Go.Proofs.Ytppaegibhikjnaa
