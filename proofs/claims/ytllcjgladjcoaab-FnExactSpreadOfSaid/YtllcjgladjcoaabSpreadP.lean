/-
  FnExactSpreadOf: for every list of arrays of six numbers the law returns true, and the list reads afterwards as it read before. No condition.
-/
import Derived.Test.YtllcjgladjcoaabRows
import Derived.Test.YtllcjgladjcoaabSumsW
import Derived.Test.YtllcjgladjcoaabDicesW
import Derived.Test.YtllcjgladjcoaabOpenD
import Derived.WalkKit
import Derived.WalkLawsBesides
import Derived.WalkSpells
import Derived.ProofKit
import Derived.OpenShut
import Derived.Deep.RegionWith
import Derived.Deep.QuietTactic
import Derived.BigQuiet
namespace Go.Proofs.Ytllcjgladjcoaab
open Go.ChangeShapes Go.WideShapes Go.ChangeAt Go.RowKit
open Go.ChangeMaps (open_string shut_string)

namespace SpreadP
open Dice Arr OpenD DieW SortW DicesW PoolW FracW SumsW

theorem cauchy {d : Nat → Int} : 0 ≤ 6 * pre (sq d) 6 - S d * S d := by
  have e : 6 * pre (sq d) 6 - S d * S d = (d 0 - d 1) * (d 0 - d 1) + (d 0 - d 2) * (d 0 - d 2) + (d 0 - d 3) * (d 0 - d 3) + (d 0 - d 4) * (d 0 - d 4) + (d 0 - d 5) * (d 0 - d 5)
      + (d 1 - d 2) * (d 1 - d 2) + (d 1 - d 3) * (d 1 - d 3) + (d 1 - d 4) * (d 1 - d 4) + (d 1 - d 5) * (d 1 - d 5)
      + (d 2 - d 3) * (d 2 - d 3) + (d 2 - d 4) * (d 2 - d 4) + (d 2 - d 5) * (d 2 - d 5)
      + (d 3 - d 4) * (d 3 - d 4) + (d 3 - d 5) * (d 3 - d 5) + (d 4 - d 5) * (d 4 - d 5) := by
    simp only [S, pre, sq]
    generalize d 0 = a
    generalize d 1 = b
    generalize d 2 = c
    generalize d 3 = e
    generalize d 4 = f
    generalize d 5 = g
    grind
  have sqn : ∀ x : Int, 0 ≤ x * x := fun x => by
    rcases Int.le_total 0 x with h | h
    · exact Int.mul_nonneg h h
    · have := Int.mul_nonneg (show 0 ≤ -x by omega) (show 0 ≤ -x by omega)
      rwa [Int.neg_mul_neg] at this
  rw [e]
  have := sqn (d 0 - d 1)
  have := sqn (d 0 - d 2)
  have := sqn (d 0 - d 3)
  have := sqn (d 0 - d 4)
  have := sqn (d 0 - d 5)
  have := sqn (d 1 - d 2)
  have := sqn (d 1 - d 3)
  have := sqn (d 1 - d 4)
  have := sqn (d 1 - d 5)
  have := sqn (d 2 - d 3)
  have := sqn (d 2 - d 4)
  have := sqn (d 2 - d 5)
  have := sqn (d 3 - d 4)
  have := sqn (d 3 - d 5)
  have := sqn (d 4 - d 5)
  omega
theorem fin2' {w : World} {b : Nat} {f : Nat → Int} (h : At w b 2 f) (x y : Int) : At ((w.setCell ⟨b, 0, none⟩ (.int .i64 x)).setCell ⟨b, 1, none⟩ (.int .i64 y)) b 2 (fr x y) :=
  ((h.set (i := 0) (by omega) x).set (i := 1) (by omega) y).congr fun k hk => by
    obtain rfl | rfl : k = 0 ∨ k = 1 := by omega
    all_goals rfl
/-- A fraction without a common divisor. -/
def cutV (m b : Nat) : Value := v2 (m / Nat.gcd m b : Nat) (b / Nat.gcd m b : Nat)
theorem die_range {d : Nat → Int} (h : isDie d = true) : ∀ k, k < 6 → 0 ≤ d k ∧ d k ≤ 30 := fun k hk => ⟨((of_decide_eq_true h : upto d 6) k hk).1, ((of_decide_eq_true h : upto d 6) k hk).2.1⟩
theorem S_bound {d : Nat → Int} (h : isDie d = true) : 0 ≤ S d ∧ S d ≤ 100000 := by
  have : 0 ≤ S d ∧ S d ≤ (6 : Nat) * 30 := pre_bound (die_range h) 6 (Nat.le_refl _)
  omega
/-- The spread of a die in parts of 36. -/
def Sp (d : Nat → Int) : Int := 6 * pre (sq d) 6 - S d * S d
theorem F_bound {d : Nat → Int} (h : isDie d = true) : 0 ≤ Sp d ∧ Sp d ≤ 100000 := by
  unfold Sp
  have h0 := cauchy (d := d)
  have hS : 0 ≤ S d ∧ S d ≤ (6 : Nat) * 30 := pre_bound (die_range h) 6 (Nat.le_refl _)
  have hq := pre_bound (d := sq d) (fun k hk => sq_bound (die_range h k hk)) 6 (Nat.le_refl _)
  have hSS := sq_bound' hS
  omega

set_option maxHeartbeats 2000000 in
theorem impl_any (A : Option Addr) (n c : Nat) (P : Nat → Nat → Int) (w : World) (h : Row w A n P) (hn : n ≤ maxLen) :
    Calls Try.prog 31 #[.slice A n c] w fun e w' => e = .returned (.tuple (if isPool n P then #[cutV (tot (Sp) P n).toNat 36, .bool true] else #[v2 0 0, .bool false])) ∧ Below w.heap.size w w' := by
  have hp := fun w h => implIsPool_any A n c P w h hn
  cases hq : isPool n P
  · rw [hq] at hp
    simp only [Bool.false_eq_true, ↓reduceIte]
    have Hp := Lib.hid hp; clear hp hq
    go_enter Try.func31, Try.ntmps31
    go_wp2_with fail
    refine (Hp.out _ (h.up (na (n0 w) _))).mono ?_
    rintro e w1 ⟨rfl, hb⟩
    have hbl := nx (na (n0 w) _) hb
    have hA := (At.new2 w 31).up hb
    have c0 := hA.cell 0 (by omega)
    have c1 := hA.cell 1 (by omega)
    have z0 := hA.free 0
    have z1 := hA.free 1
    clear hb
    go_wp2_with fail
    refine ret_cell_tmp (b := w.heap.size) (n := 2) (f := fr 0 0) Try.results31 rfl rfl Try.underlying31 (by kernel_rfl) (fin2' hA 0 0) rfl ⟨rfl, ?_⟩
    exact (hbl.setCell (p := ⟨w.heap.size, 0, none⟩) (Nat.le_refl _) _).setCell (p := ⟨w.heap.size, 1, none⟩) (Nat.le_refl _) _
  · obtain ⟨h1, h4, hd⟩ := of_pool hq
    rw [hq] at hp
    simp only [↓reduceIte]
    have hF : ∀ i, i < n → 0 ≤ (Sp) (P i) ∧ (Sp) (P i) ≤ 100000 := fun i hi => F_bound (hd i hi)
    have hb4 := tot_bound hF n (Nat.le_refl _)
    have hu := fun w h => addUp_spreadTimes36 (Sp) A n c P w h h4 hF fun i hi w => spread_any (P i) w (die_range (hd i hi))
    obtain ⟨m, hm⟩ : ∃ m : Nat, tot (Sp) P n = m := ⟨(tot (Sp) P n).toNat, by omega⟩
    rw [hm] at hu hb4 ⊢
    have hf := fun w => fraction_any m 36 w (by omega) (by omega) (by omega)
    have Hp := Lib.hid hp; clear hp hq
    have Hu := Lib.hid hu; clear hu
    have Hf := Lib.hid hf; clear hf
    unfold cutV
    simp only [Int.toNat_natCast]
    have H := Lib.hid h; clear h
    clear hF hd hm hn
    go_enter Try.func31, Try.ntmps31
    go_wp2_with fail
    refine (Hp.out _ (H.out.up (na (n0 w) _))).mono ?_
    rintro e w1 ⟨rfl, hb1⟩
    have hbl1 := nx (na (n0 w) _) hb1
    go_wp2_with fail
    refine (Hu.out _ (H.out.up hbl1)).mono ?_
    rintro e w2 ⟨rfl, hb2⟩
    go_wp2_with fail
    refine (Hf.out _).mono ?_
    rintro e w3 ⟨rfl, hb3⟩
    have hbl := nx (nx hbl1 hb2) hb3
    have hA := (((At.new2 w 31).up hb1).up hb2).up hb3
    have c0 := hA.cell 0 (by omega)
    have c1 := hA.cell 1 (by omega)
    have z0 := hA.free 0
    have z1 := hA.free 1
    clear hb1 hb2 hb3
    go_wp2_with fail
    refine ret_cell_tmp (b := w.heap.size) (n := 2) (f := fr (m / Nat.gcd m 36 : Nat) (36 / Nat.gcd m 36 : Nat)) Try.results31 rfl rfl Try.underlying31 (by kernel_rfl) (fin2' hA _ _) rfl ⟨rfl, ?_⟩
    exact (hbl.setCell (p := ⟨w.heap.size, 0, none⟩) (Nat.le_refl _) _).setCell (p := ⟨w.heap.size, 1, none⟩) (Nat.le_refl _) _

set_option maxHeartbeats 2000000 in
theorem spec_any (A : Option Addr) (n c : Nat) (P : Nat → Nat → Int) (w : World) (h : Row w A n P) (hn : n ≤ maxLen) :
    Calls Try.prog 30 #[.slice A n c] w fun e w' => e = .returned (.tuple (if isPool n P then #[cutV (tot (Sp) P n).toNat 36, .bool true] else #[v2 0 0, .bool false])) ∧ Below w.heap.size w w' := by
  have hp := fun w h => l2Pool_any A n c P w h hn
  cases hq : isPool n P
  · rw [hq] at hp
    simp only [Bool.false_eq_true, ↓reduceIte]
    have Hp := Lib.hid hp; clear hp hq
    go_enter Try.func30, Try.ntmps30
    go_wp2_with fail
    refine (Hp.out _ (h.up (na (n0 w) _))).mono ?_
    rintro e w1 ⟨rfl, hb⟩
    have hbl := nx (na (n0 w) _) hb
    have hA := (At.new2 w 31).up hb
    have c0 := hA.cell 0 (by omega)
    have c1 := hA.cell 1 (by omega)
    have z0 := hA.free 0
    have z1 := hA.free 1
    clear hb
    go_wp2_with fail
    refine ret_cell_tmp (b := w.heap.size) (n := 2) (f := fr 0 0) Try.results30 rfl rfl Try.underlying31 (by kernel_rfl) (fin2' hA 0 0) rfl ⟨rfl, ?_⟩
    exact (hbl.setCell (p := ⟨w.heap.size, 0, none⟩) (Nat.le_refl _) _).setCell (p := ⟨w.heap.size, 1, none⟩) (Nat.le_refl _) _
  · obtain ⟨h1, h4, hd⟩ := of_pool hq
    rw [hq] at hp
    simp only [↓reduceIte]
    have hF : ∀ i, i < n → 0 ≤ (Sp) (P i) ∧ (Sp) (P i) ≤ 100000 := fun i hi => F_bound (hd i hi)
    have hb4 := tot_bound hF n (Nat.le_refl _)
    have Hb := Lib.hid (tot_bound hF)
    obtain ⟨m, hm⟩ : ∃ m : Nat, tot (Sp) P n = m := ⟨(tot (Sp) P n).toNat, by omega⟩
    rw [hm] at hb4 ⊢
    have hf := fun w => cut_any m 36 w (by omega) (by omega) (by omega)
    have Hp := Lib.hid hp; clear hp hq
    have Hf := Lib.hid hf; clear hf
    have Hm := Lib.hid hm; clear hm
    unfold cutV
    simp only [Int.toNat_natCast]
    have H := Lib.hid h; clear h
    have Hd := Lib.hid hd; clear hd
    clear hn
    go_enter Try.func30, Try.ntmps30
    go_wp2_with fail
    refine (Hp.out _ (H.out.up (na (n0 w) _))).mono ?_
    rintro e w1 ⟨rfl, hb1⟩
    have hbl1 := nx (na (n0 w) _) hb1
    have hA1 := (At.new2 w 31).up hb1
    clear hb1
    go_wp2_with fail
    go_loopw [4, 5] (fun s iv wr => ∃ i : Nat, i ≤ n ∧ iv = .int .i64 i ∧ s = .int .i64 (tot (Sp) P i) ∧ Below w.heap.size w wr ∧ At wr w.heap.size 2 (fun _ => 0)) (fun _ iv _ => n - (intOf iv).toNat)
    case atStart => exact ⟨0, by omega, rfl, rfl, hbl1, hA1⟩
    case round =>
      clear hbl1 hA1
      obtain ⟨i, hi, rfl, rfl, hb0, hA0⟩ := hrel
      by_cases hlt : i < n
      · have hit : decide ((i : Int) < (n : Int)) = true := decide_eq_true (by omega)
        have b1 := Hb.out i hi
        have hdr := die_range (Hd.out i hlt)
        have Hpre := Lib.hid (pre_bound hdr)
        have hsq : ∀ k, k < 6 → 0 ≤ sq (P i) k ∧ sq (P i) k ≤ 900 := fun k hk => sq_bound (hdr k hk)
        have Hpre2 := Lib.hid (pre_bound hsq)
        have hSS := sq_bound' (Hpre.out 6 (Nat.le_refl _))
        have hq6 := Hpre2.out 6 (Nat.le_refl _)
        have hs6 := Hpre.out 6 (Nat.le_refl _)
        have hFi : tot Sp P (i + 1) = tot Sp P i + (6 * pre (sq (P i)) 6 - pre (P i) 6 * pre (P i) 6) := rfl
        have HFi := Lib.hid hFi; clear hFi
        go_wp2_with fail
        go_loopw [6, 7, 8] (fun s q kv wr => ∃ k : Nat, k ≤ 6 ∧ kv = .int .i64 k ∧ s = .int .i64 (pre (P i) k) ∧ q = .int .i64 (pre (sq (P i)) k) ∧ Below w.heap.size w wr ∧ At wr w.heap.size 2 (fun _ => 0)) (fun _ _ kv _ => 6 - (intOf kv).toNat)
        case atStart => exact ⟨0, by omega, rfl, rfl, rfl, hb0, hA0⟩
        case round =>
          obtain ⟨k, hk, rfl, rfl, rfl, hb, hA⟩ := hrel
          by_cases hk6 : k < 6
          · obtain ⟨bk, o, rfl, hbk, hc⟩ := (H.out.below (Nat.le_refl _) hb).at_ hlt
            have ck := hc k hk6
            simp only [← Nat.add_assoc] at ck
            have b2 := Hpre.out k hk
            have b3 := hdr k hk6
            have b2' := Hpre2.out k hk
            have b3' := sq_bound b3
            have b4 : pre (P i) (k + 1) = pre (P i) k + P i k := rfl
            have B4 := Lib.hid b4; clear b4
            have b5 : pre (sq (P i)) (k + 1) = pre (sq (P i)) k + P i k * P i k := rfl
            have B5 := Lib.hid b5; clear b5
            clear hc
            go_wp2_with fail
            go_quiet (fail)
            go_wp2_with fail
            go_roundw
            case rel => exact ⟨k + 1, by omega, by go_num, by rw [B4.out], by rw [B5.out], below_drewN hb _, hA.drewN _⟩
            case measure => simp [intOf]; omega
          · obtain rfl : k = 6 := by omega
            go_wp2_with fail
            go_roundw
            case rel => exact ⟨i + 1, by omega, by go_num, by rw [HFi.out, Int.add_sub_assoc], hb, hA⟩
            case measure => simp [intOf]; omega
      · obtain rfl : i = n := by omega
        rw [Hm.out]
        go_wp2_with fail
        refine (Hf.out _).mono ?_
        rintro e w3 ⟨rfl, hb3⟩
        have hbl := nx hb0 hb3
        have hA := hA0.up hb3
        have c0 := hA.cell 0 (by omega)
        have c1 := hA.cell 1 (by omega)
        have z0 := hA.free 0
        have z1 := hA.free 1
        clear hb3
        go_wp2_with fail
        refine ret_cell_tmp (b := w.heap.size) (n := 2) (f := fr (m / Nat.gcd m 36 : Nat) (36 / Nat.gcd m 36 : Nat)) Try.results30 rfl rfl Try.underlying31 (by kernel_rfl) (fin2' hA _ _) rfl ⟨rfl, ?_⟩
        exact (hbl.setCell (p := ⟨w.heap.size, 0, none⟩) (Nat.le_refl _) _).setCell (p := ⟨w.heap.size, 1, none⟩) (Nat.le_refl _) _

theorem At.newv (x y : Int) (w : World) : At (w.alloc (.cells #[.int .i64 x, .int .i64 y] 31)) w.heap.size 2 (fr x y) :=
  At.new w _ _ 2 _ fun k hk => by
    obtain rfl | rfl : k = 0 ∨ k = 1 := by omega
    all_goals rfl

set_option maxHeartbeats 4000000 in
theorem law_any (A : Option Addr) (n c : Nat) (P : Nat → Nat → Int) (w : World) (h : Row w A n P) (hc : n ≤ c) (hm : c ≤ maxLen) (_ : ∀ i, i < n → ∀ k, k < 6 → fit (P i k)) :
    Calls Try.prog 8 #[.slice A n c] w fun e w' => e = .returned (.bool true) ∧ Below w.heap.size w w' := by
  have hn : n ≤ maxLen := Nat.le_trans hc hm
  have hsz := sz_any A n c w hn
  by_cases hbig : n ≤ 1048576
  · rw [if_pos hbig] at hsz
    have Hsz := Lib.hid hsz; clear hsz
    have Ht := Lib.hid (fun w h => toS_any A n c P w h hbig)
    have Hq := Lib.hid (fun A B c c' w h h' => eqS_any A B n c c' P w h h' hn)
    have H := Lib.hid h; clear h
    obtain ⟨x, y, b, ho⟩ : ∃ x y b, (if isPool n P then #[cutV (tot Sp P n).toNat 36, .bool true] else #[v2 0 0, .bool false] : Array Value) = #[v2 x y, .bool b] := by
      cases isPool n P
      · exact ⟨0, 0, false, rfl⟩
      · exact ⟨_, _, true, rfl⟩
    have hs := fun A c w h => spec_any A n c P w h hn
    have hi := fun A c w h => impl_any A n c P w h hn
    rw [ho] at hs hi
    have Hs := Lib.hid hs; clear hs
    have Hi := Lib.hid hi; clear hi
    clear ho
    have Hq2 := Lib.hid (fun w => eqA2_any x y w)
    clear hc hm hn
    go_enter Try.func8, Try.ntmps8
    go_wp2_with fail
    refine Hsz.out.mono ?_
    rintro e w0 ⟨rfl, rfl⟩
    go_wp2_with fail
    refine (Ht.out _ H.out).mono ?_
    rintro e w1 ⟨g1, rfl, hg1, hA1, hb1⟩
    go_wp2_with fail
    refine (Hs.out _ _ _ (row_of_at hA1)).mono ?_
    rintro e w2 ⟨rfl, hb2⟩
    have hB2 := nx hb1 hb2
    have hW2 := At.newv x y w2
    go_wp2_with fail
    refine (Ht.out _ (H.out.up (na hB2 _))).mono ?_
    rintro e w3 ⟨g3, rfl, hg3, hA3, hb3⟩
    have hB3 := nx (na hB2 _) hb3
    have hW3 := hW2.up hb3
    go_wp2_with fail
    refine (Hi.out _ _ _ (row_of_at hA3)).mono ?_
    rintro e w4 ⟨rfl, hb4⟩
    have hB4 := nx hB3 hb4
    have hA4 := hA3.up hb4
    have hW0 := hW3.up hb4
    have hlt0 := hW0.lt
    clear hA1 hb1 hb2 hb3 hb4 hB2 hB3 hA3 hW2 hW3
    have x0 := hW0.cell 0 (by omega)
    have x1 := hW0.cell 1 (by omega)
    go_wp2_with fail
    refine (Hq2.out _).mono ?_
    rintro e w5 ⟨rfl, hb5⟩
    have hBx := nx (na hB4 _) hb5
    have hAx := (hA4.past _).up hb5
    clear hb5 hB4 hA4
    cases b
    all_goals
      go_wp2_with fail
      refine (Ht.out _ (H.out.up hBx)).mono ?_
      rintro e w8 ⟨g8, rfl, hg8, hA8, hb8⟩
      have hA8' := hAx.up hb8
      go_wp2_with fail
      refine (Hq.out _ _ _ _ _ (row_of_at hA8') (row_of_at hA8)).mono ?_
      rintro e w9 ⟨rfl, hb9⟩
      go_wp2_with fail
      go_ret
      exact ⟨rfl, nx (nx hBx hb8) hb9⟩
  · rw [if_neg hbig] at hsz
    have Hsz := Lib.hid hsz; clear hsz
    clear h hbig hc hm hn
    go_enter Try.func8, Try.ntmps8
    go_wp2_with fail
    refine Hsz.out.mono ?_
    rintro e w0 ⟨rfl, rfl⟩
    go_wp2_with fail
    go_ret
    exact ⟨rfl, n0 _⟩

theorem laidOut : laidOutB Try.prog = true := by kernel_rfl
/-- What the walk gives, for every argument. -/
theorem contract (H : Type) (enc : TypeId × Value → H) (W : World) (base : Nat) (args : Array Value) (ds gs : List (DataW H)) (before : List MemPlace)
    (hval : ∀ (j : Nat) t v, Try.f8.params[j]? = some t → args[j]? = some v → Value.okWide Try.prog W .any base t v)
    (hW : DataW.Whole enc Try.prog Try.f8.params.toList Rows.fnExactSpreadOfSpec.vars false W args.toList ds gs before) :
    Calls Try.prog 8 args W fun e W' => ∃ v, e = .returned v ∧ Rows.fnExactSpreadOfSpec.post enc Try.prog Try.f8 false true false false W args v W' := by
  have hW' := hW
  obtain ⟨p, q, hA0, hV, rfl, hfz, hnd⟩ := hW
  have hA : DataW.TrodAll enc Try.prog W 0 (fun _ => true) true Try.f8.params.toList args.toList ds p := hA0
  rw [Try.params8] at hA hval
  obtain ⟨v0, vs0, d0, ds0, p0, q0, hargs, rfl, rfl, h0, r0⟩ := trodAll_cons hA
  obtain ⟨rfl, rfl, rfl⟩ := trodAll_nil r0
  obtain rfl : args = #[v0] := by cases args; simp_all
  obtain ⟨rfl, rfl⟩ := trodVars_none hV
  obtain ⟨A0, n0, c0, rfl⟩ := okWide_slice Try.underlying22 (hval 0 22 v0 rfl rfl)
  have k0 := h0
  have lt0 : ∀ x ∈ p0, x.block < W.heap.size := fun x hx => by have := hW'.lt x (by simp [hx]); simpa using this
  obtain ⟨fu0, hf0⟩ := h0
  obtain ⟨a0, ht0, hc0, hm0, w0⟩ := OpenD.dice_of hf0 lt0
  clear hA0
  simp only [List.append_nil] at hW'
  refine (law_any A0 n0 c0 a0 W ht0 hc0 hm0 w0).mono fun e W' ⟨he, hg⟩ => ?_
  subst he
  exact ⟨_, rfl, _, _, _, [], (p0 ++ []), [], hW', trodAll_cons_mk (shut_bool Try.underlying4 _) trodAll_mk0, trodAll_cons_mk (Below.trod laidOut (by kernel_rfl) (of_decide_eq_true (by kernel_rfl)) k0 hg lt0) trodAll_mk0, rfl, hg.frame _, fun h => by cases h⟩

theorem own : ownKnob Try.prog.godebug = none := by kernel_rfl

set_option maxRecDepth 100000 in
theorem lifted (os : Os) (started : os.Started) (H : Type) (enc : TypeId × Value → H) :
    ReturnsInHanded {} Try.checked os 8 .any (Rows.fnExactSpreadOfSpec.pre6 enc Try.prog Try.f8 Rows.fnExactSpreadOfRow.domain false) (Rows.fnExactSpreadOfSpec.post enc Try.prog Try.f8 false true false false) := by
  refine returnsInHanded_of_change (C := Try.checked) own started (by kernel_rfl) Try.func8
    (ChangeSpec.witness6 (enc := enc) (C := Try.checked) false ⟨#[], #[.slice none 0 0], []⟩ 8 (by kernel_rfl) (by kernel_rfl) (by kernel_rfl) (by kernel_rfl)) ?_
  intro W base args ds gs before hval hW _ _
  exact contract H enc W base args ds gs before hval hW

theorem holds : Rows.FnExactSpreadOfSaid :=
  OpenClaim.holds_of_wide 8 Try.f8 rfl rfl rfl rfl rfl rfl rfl ⟨rfl, rfl, rfl, rfl, rfl⟩ rfl rfl rfl rfl rfl (by kernel_rfl) Try.func8 (by kernel_rfl)
    (of_decide_eq_true (by kernel_rfl)) (by unfold Func.isWrapper; rw [if_neg (by decide +kernel)]; exact ⟨rfl, rfl⟩)
    (fun os started H enc _ => lifted os started H enc)

end SpreadP
end Go.Proofs.Ytllcjgladjcoaab
