/-
  chanceToCome[int] of the program, by states.
-/
import Derived.Test.YtdodokeebmdceaaRows
import Derived.Test.YtdodokeebmdceaaArr
import Derived.Test.YtdodokeebmdceaaAnyR
import Derived.Test.YtdodokeebmdceaaDieW
import Derived.Test.YtdodokeebmdceaaSortW
import Derived.Test.YtdodokeebmdceaaFracW
import Derived.Test.YtdodokeebmdceaaFracL
import Derived.Test.YtdodokeebmdceaaCutW
import Derived.Test.YtdodokeebmdceaaAll6
import Derived.Test.YtdodokeebmdceaaAllL
import Derived.Test.YtdodokeebmdceaaOwnL
import Derived.Test.YtdodokeebmdceaaFracM
import Derived.Test.YtdodokeebmdceaaWgtM
import Derived.Test.YtdodokeebmdceaaWgtW
import Derived.Test.YtdodokeebmdceaaWaitW
import Derived.Test.YtdodokeebmdceaaBurI
import Derived.Test.YtdodokeebmdceaaChM
import Derived.Test.YtdodokeebmdceaaChW
import Derived.Test.YtdodokeebmdceaaOpenD
import Derived.Maps.OwnOps
import Derived.Maps.RangeWalk
import Derived.Maps.Ext
import Derived.Maps.OwnSet
import Derived.WalkKit
import Derived.WalkLawsBesides
import Derived.WalkSpells
import Derived.ProofKit
import Derived.OpenShut
import Derived.Deep.RegionWith
import Derived.Deep.QuietTactic
import Derived.BigQuiet
namespace Go.Proofs.Ytdodokeebmdceaa
open Go.ChangeShapes Go.WideShapes Go.ChangeAt Go.RowKit
open Go.ChangeMaps (open_string shut_string)

namespace ChG
open Dice Arr DieW SortW FracW CutW All6 AllL OwnL FracM WgtM WgtW WaitW ChM


open ChW (intK wpList_insert_own grown_none zeroE)
def kz (s : Nat) : Lit := .int .i64 (s : Int)
theorem kz_ne {s t : Nat} (h : s ≠ t) : kz s ≠ kz t := fun e => by
  unfold kz at e
  injection e with _ e
  omega
theorem kz_same (s : Nat) : (kz s).sameKey (kz s) = true := by
  unfold kz
  simp [Lit.sameKey]
theorem kz_other {s t : Nat} (h : s ≠ t) : (kz s).sameKey (kz t) = false := Go.Maps.sameKey_ne (kz_ne h)
def OnlyG (D : DataW Unit) (S : Nat) : Prop := ∀ kl, Go.Maps.has D kl = true → ∃ s, s < S ∧ kl = kz s
def ReadsG (D : DataW Unit) (G : Nat → Nat) (S : Nat) : Prop := ∀ s, s < S → D.atKey (kz s) (.lit (.int .i64 0)) = .lit (.int .i64 (G s : Int))
theorem onlyG_put {D : DataW Unit} {S t : Nat} (h : OnlyG D S) (ht : t < S) (d : DataW Unit) : OnlyG (D.put (kz t) d) S := fun kl hk => by
  by_cases e : kl = kz t
  · exact ⟨t, ht, e⟩
  · rw [Go.Maps.has_put_other e] at hk
    exact h kl hk
theorem readsG_put {D : DataW Unit} {G : Nat → Nat} {S t v : Nat} (h : ReadsG D G S) (hm : Go.Maps.IsMap D) : ReadsG (D.put (kz t) (.lit (.int .i64 (v : Int)))) (fun s => if s = t then v else G s) S := fun s hs => by
  show _ = DataW.lit (.int .i64 ((if s = t then v else G s : Nat) : Int))
  by_cases e : s = t
  · subst e
    rw [if_pos rfl]
    exact Go.Maps.atKey_put_same (k := kz s) hm (by show Go.WideAt.IsKeyLit (.int .i64 _); trivial) _ _
  · rw [if_neg e, Go.Maps.atKey_put_other (kz_ne e)]
    exact h s hs
theorem readsG_no {D : DataW Unit} {G : Nat → Nat} {S s : Nat} (h : ReadsG D G S) (hs : s < S) (hn : Go.Maps.has D (kz s) = false) : G s = 0 := by
  have h1 := Go.Maps.atKey_of_not_has hn (.lit (.int .i64 0))
  have h2 := h s hs
  rw [h1] at h2
  injection h2 with h2
  injection h2 with _ h2
  omega
theorem readsG_int {D : DataW Unit} {G : Nat → Nat} {S s : Nat} {y : Int} (h : ReadsG D G S) (hs : s < S) (hy : D.atKey (kz s) (.lit (.int .i64 0)) = .lit (.int .i64 y)) : y = (G s : Int) := by
  have h2 := h s hs
  rw [h2] at hy
  injection hy with h
  injection h with _ h
  exact h.symm
theorem onlyG_empty (S : Nat) : OnlyG (.map []) S := fun kl h => by cases h
theorem readsG_empty (S : Nat) : ReadsG (.map []) (fun _ => 0) S := fun _ _ => rfl
theorem readsG_congr {D : DataW Unit} {G G' : Nat → Nat} {S : Nat} (h : ReadsG D G S) (e : ∀ s, s < S → G s = G' s) : ReadsG D G' S := fun s hs => by rw [h s hs, e s hs]
theorem kz_eq {y : Int} {s : Nat} (h : Lit.int .i64 y = kz s) : y = (s : Int) := by
  unfold kz at h
  injection h
def pl (left : Lit → Bool) (s : Nat) : Bool := !left (kz s)
theorem pl_x (left : Lit → Bool) (x : Nat) : pl (fun z => left z && !z.sameKey (kz x)) x = true := by
  unfold pl
  simp only [kz_same, Bool.not_true, Bool.and_false, Bool.not_false]
theorem pl_o (left : Lit → Bool) {x s : Nat} (h : s ≠ x) : pl (fun z => left z && !z.sameKey (kz x)) s = pl left s := by
  unfold pl
  simp only [kz_other h, Bool.not_false, Bool.and_true]
def okC (d : Nat → Int) (n : Int) : Bool := isDie d && decide (0 ≤ n ∧ n ≤ 12)
theorem c_4 {d : Nat → Int} {n : Int} (hd : isDie d = true) (h : 0 ≤ n ∧ n ≤ 12) : okC d n = true := by simp [okC, hd, h]
theorem bounds {hit : Nat → Nat → Bool} {to : Nat → Nat → Nat} {S : Nat} (hS : 0 < S) (hto : ∀ s k, s < S → hit s k = false → to s k < S) {i : Nat} (hi : i ≤ 12) :
    cm hit to S i ≤ 2176782336 ∧ (∀ s, s < S → wy hit to S i s ≤ 2176782336) ∧ 6 ^ i ≤ 2176782336 ∧ 1 ≤ 6 ^ i ∧ (∀ (p : Nat → Bool) (c : Nat → Nat), (∀ s, s < S → c s ≤ 6) → ps p (fun s => wy hit to S i s * c s) S ≤ 6 * 2176782336) := by
  have h1 := whole hS hto i
  have h2 : 6 ^ i ≤ 2176782336 := Nat.le_trans (Nat.pow_le_pow_right (by omega) hi) (by decide)
  have h3 : 1 ≤ 6 ^ i := Nat.one_le_pow _ _ (by omega)
  have h4 : ∀ s, s < S → wy hit to S i s ≤ ps (fun _ => true) (wy hit to S i) S := fun s hs => by
    have h := ps_one (p := fun t => decide (t ≠ s)) (p' := fun _ => true) (G := wy hit to S i) (x := s) (by simp) rfl (fun t ht => by simp [ht]) hs
    omega
  refine ⟨by omega, fun s hs => Nat.le_trans (h4 s hs) (by omega), h2, h3, fun p c hc => ?_⟩
  have h5 := ps_le (p := p) (G := fun s => wy hit to S i s * c s) (G' := fun s => wy hit to S i s * 6) (S := S) fun s hs => Nat.mul_le_mul_left _ (hc s hs)
  rw [ps_mul] at h5
  omega
theorem hc_le (hit : Nat → Nat → Bool) (s : Nat) : ∀ k, hc hit s k ≤ k
  | 0 => Nat.le_refl _
  | k + 1 => by
    have := hc_le hit s k
    show hc hit s k + (if hit s k then 1 else 0) ≤ k + 1
    split <;> omega
theorem tc_le (hit : Nat → Nat → Bool) (to : Nat → Nat → Nat) (s t : Nat) : ∀ k, tc hit to s t k ≤ k
  | 0 => Nat.le_refl _
  | k + 1 => by
    have := tc_le hit to s t k
    show tc hit to s t k + (if hit s k = false ∧ to s k = t then 1 else 0) ≤ k + 1
    split <;> omega

set_option maxRecDepth 100000 in
set_option maxHeartbeats 8000000 in
theorem implGen_any (d : Nat → Int) (n : Nat) (S : Nat) (hit : Nat → Nat → Bool) (to : Nat → Nat → Nat) (cap : Array Value) (w : World) (hd : isDie d = true) (hn12 : n ≤ 12) (hS : 0 < S) (hSb : S ≤ 1000) (hto : ∀ s k, s < S → hit s k = false → to s k < S)
    (hcl : ∀ w', Below w.heap.size w w' → ∀ s k, s < S → k < 6 → Calls Try.prog 80 (#[.int .i64 (s : Int), .int .i64 (d k)] ++ cap) w' fun e w2 => e = .returned (.tuple #[.int .i64 (to s k : Int), .bool (hit s k)]) ∧ Below w'.heap.size w' w2) :
    Calls Try.prog 60 #[dv d, .int .i64 n, .func (Fn.func 80) #[] cap] w fun e w' => e = .returned (.tuple #[v2 (num (cm hit to S n) (6 ^ n) : Nat) (den (cm hit to S n) (6 ^ n) : Nat), .bool true]) ∧ Below w.heap.size w w' := by
  have hc := fun w => implIsDie_any d w
  unfold dv at hc
  have Hc := Lib.hid hc; clear hc
  rw [hd] at Hc
  have hg : decide ((n : Int) < 0) = false := decide_eq_false (by omega)
  have hg3 : decide (12 < (n : Int)) = false := decide_eq_false (by omega)
  have hg3N : decide (12 < n) = false := decide_eq_false (by omega)
  have Hbd := Lib.hid (fun i (h : i ≤ 12) => bounds hS hto h)
  have hbn := Hbd.out n hn12
  have Ho := Lib.hid (fun w => outcomesL n w (by omega))
  rw [show all6 n = 6 ^ n from rfl] at Ho
  have hcut : ∀ w, Calls Try.prog 56 #[.int .i64 (cm hit to S n : Nat), .int .i64 (6 ^ n : Nat)] w fun e w' => e = .returned (v2 (num (cm hit to S n) (6 ^ n) : Nat) (den (cm hit to S n) (6 ^ n) : Nat)) ∧ Below w.heap.size w w' := fun w => FracL.fractionL _ _ w (by have := hbn.1; omega) (by have := hbn.2.2.1; omega) hbn.2.2.2.1
  have Hcut := Lib.hid hcut; clear hcut
  have hix0 := fun (w : World) (k : Nat) (hk : k < 6) => run_index_vals (P := Try.prog) w 22 3 6 Try.underlying22 Try.underlying3 Try.sizeOf3 d hk
  simp only [← dv_vals] at hix0
  unfold dv at hix0
  have Hix := Lib.hid hix0; clear hix0
  have Hcl := Lib.hid hcl; clear hcl
  clear hbn hd
  have hmm := @run_makeMap Try.prog
  unfold dv
  have hB0 := na (na (n0 w) (sixO d 22)) (.cells #[.int .i64 0, .int .i64 0] 29)
  have hD0 := (At.new6 w d 22 rfl).past (.cells #[.int .i64 0, .int .i64 0] 29)
  have hR0 := At.new2 (w.alloc (sixO d 22)) 29
  rw [size_alloc] at hR0
  obtain ⟨e0, e1, e2, e3, e4, e5⟩ := hD0.six
  go_enter Try.func60, Try.ntmps60
  go_wp2_with fail
  refine (Hc.out _).mono ?_
  rintro e w1 ⟨rfl, hb1⟩
  have hR1 := hR0.up hb1
  have hD1 := hD0.up hb1
  have hB1 := nx hB0 hb1
  clear e0 e1 e2 e3 e4 e5
  clear hb1 hB0
  obtain ⟨W, hW⟩ : ∃ W, W = w1 := ⟨_, rfl⟩
  rw [← hW] at hR1 hD1 hB1 ⊢
  clear hW hR0 hD0
  have HD := Lib.hid hD1; clear hD1
  have HR := Lib.hid hR1; clear hR1
  have HB := Lib.hid hB1; clear hB1
  have e1 : (W.alloc (.map #[] 0)).heap.size = W.heap.size + 1 := by simp
  have hmade : (W.alloc (.map #[] 0)).ownsMap Try.prog 3 (plainElem (H := Unit) Try.prog 3) W.heap.size 0 (.map []) := World.ownsMap_made _ _ _ _
  go_wp2_with (first | (refine wpList_insert_own _ rfl _ _ _ 79 rfl 3 3 intK Try.underlying79 _ W.heap.size _ _ rfl hmade (by unfold maxLen; omega) _ _ (kz 0) rfl rfl (Go.Maps.keyOf_int_mk Try.underlying3 (by decide)) _ [] (plainElem_int Try.underlying3 (by decide)) ?_; intro w2 hown2 hgrow2) | go_in)
  have hnx2 := ((Below.refl W.heap.size W).alloc (Nat.le_refl _) (.map #[] 0)).grown hgrow2 (by omega) (fun k e => by cases e; exact Nat.le_refl _)
  have hso := hown2.lt
  go_loopw [9, 10, 34] (fun mv cv iv wr => ∃ (i bo no : Nat) (D : DataW Unit), i ≤ n ∧ iv = .int .i64 i ∧ mv = .map (some bo) ∧ cv = .int .i64 (cm hit to S i : Nat) ∧ wr.ownsMap Try.prog 3 (plainElem (H := Unit) Try.prog 3) bo no D ∧ no ≤ 6 ^ i ∧ OnlyG D S ∧ ReadsG D (wy hit to S i) S ∧ W.heap.size ≤ bo ∧ Below W.heap.size W wr) (fun _ _ iv _ => n - (intOf iv).toNat)
  case atStart =>
    refine ⟨0, W.heap.size, 1, _, by omega, rfl, rfl, rfl, hown2, Nat.le_refl _, onlyG_put (onlyG_empty S) hS _, ?_, Nat.le_refl _, hnx2⟩
    exact readsG_congr (readsG_put (t := 0) (v := 1) (readsG_empty S) Go.Maps.isMap_empty) fun s _ => rfl
  case round =>
    clear hown2 hnx2 hgrow2 hso hmade e1
    obtain ⟨i, bo, no, D, hi, rfl, rfl, rfl, hown, hno, hon, hrd, hbo, hnx⟩ := hrel
    generalize wr = W2 at *
    by_cases hlt : i < n
    · have hit0 : decide ((i : Int) < (n : Int)) = true := decide_eq_true (by omega)
      have hitN : decide (i < n) = true := decide_eq_true hlt
      obtain ⟨bc, bw, bp, _, bs⟩ := Hbd.out i (by omega)
      have hcs : Hid (cm hit to S (i + 1) = 6 * cm hit to S i + ps (fun _ => true) (fun s => wy hit to S i s * hc hit s 6) S) := rfl
      have hws : Hid (∀ t, wy hit to S (i + 1) t = ps (fun _ => true) (fun s => wy hit to S i s * tc hit to s t 6) S) := fun _ => rfl
      have Bw := Lib.hid bw; clear bw
      have Bs := Lib.hid bs; clear bs
      generalize cm hit to S i = C at *
      obtain ⟨F, hF⟩ : ∃ F, F = wy hit to S i := ⟨_, rfl⟩
      rw [← hF] at hrd Bw Bs hcs hws
      clear hF
      have e1 : (W2.alloc (.map #[] 0)).heap.size = W2.heap.size + 1 := by simp
      have hbl := hown.lt
      have hsz := hnx.size
      have hsl := hown.size_le
      obtain ⟨N0, hN0⟩ : ∃ N, N = Go.Maps.size D := ⟨_, rfl⟩
      rw [← hN0] at hsl
      have hmade : (W2.alloc (.map #[] 0)).ownsMap Try.prog 3 (plainElem (H := Unit) Try.prog 3) W2.heap.size 0 (.map []) := World.ownsMap_made _ _ _ _
      go_wp2_with (first
        | (at_range; refine wpList_range_own _ rfl _ 79 rfl 3 3 intK Try.underlying79 _ bo no D rfl (hown.alloc _) ?_; intro w0 hrg0 hg0 hs0)
        | go_in)
      go_frame
      rw [e1] at hrg0 hs0 ⊢
      rw [← hN0] at hrg0
      have hm0 := hmade.kept hg0 (by simp)
      have hnx0 := (hnx.alloc (by omega) (.map #[] 0)).grown hg0 (by omega) (fun j hj => by cases hj)
      clear hmade e1 hg0 hN0
      go_loopw [10] (fun cv wr => ∃ (left : Lit → Bool) (cnt kn m : Nat) (acc : Nat → Nat) (Dn : DataW Unit), wr.ranges Try.prog 3 (plainElem (H := Unit) Try.prog 3) bo (W2.heap.size + 1) no D left cnt ∧ wr.ownsMap Try.prog 3 (plainElem (H := Unit) Try.prog 3) W2.heap.size kn Dn ∧ kn + 6 * cnt ≤ 6 * N0 ∧ OnlyG Dn S ∧ ReadsG Dn acc S ∧ Hid (∀ t, t < S → acc t = ps (pl left) (fun s => F s * tc hit to s t 6) S) ∧ cv = .int .i64 (m : Nat) ∧ Hid (m = 6 * C + ps (pl left) (fun s => F s * hc hit s 6) S) ∧ (∀ kl, left kl = true → ∃ s, s < S ∧ kl = kz s) ∧ Below W.heap.size W wr) (fun _ wr => wr.rangeLeft bo (W2.heap.size + 1))
      case atStart =>
        refine ⟨_, _, 0, 6 * C, fun _ => 0, .map [], hrg0, hm0, by omega, onlyG_empty S, readsG_empty S, ?_, by go_num, ?_, hon, hnx0⟩
        · intro t _
          refine (ps_none fun s hs hp => ?_).symm
          rw [readsG_no hrd hs (by unfold pl at hp; simpa using hp), Nat.zero_mul]
        · show 6 * C = 6 * C + ps _ _ S
          rw [ps_none fun s hs hp => by rw [readsG_no hrd hs (by unfold pl at hp; simpa using hp), Nat.zero_mul]]
          rfl
      case round =>
        clear hm0 hnx0 hrg0 hs0 hown
        obtain ⟨left, cnt, kn, m, acc, Dn, hrg, hmn, hk6, honn, hrdn, hacc, rfl, hm, hL, hnx⟩ := hrel
        go_wp2_with (first
          | (at_next; refine wpList_next_ranges_ii _ rfl _ rfl 3 3 .i64 .i64 intK Try.underlying3 Try.underlying3 bo (W2.heap.size + 1) no _ _ _ rfl hrg ?_ ?_)
          | go_in)
        · intro hc0 hl0
          have hall : ∀ s, pl left s = true := fun s => by unfold pl; rw [hl0]; rfl
          have Hm' : Hid (m = cm hit to S (i + 1)) := by
            show m = _
            rw [hm.out, hcs.out]
            congr 1
            exact ps_congr fun s _ => by rw [if_pos (hall s), if_pos rfl]
          have Hr' : Hid (∀ t, t < S → acc t = wy hit to S (i + 1) t) := fun t ht => by
            rw [hacc.out t ht, hws.out t]
            exact ps_congr fun s _ => by rw [if_pos (hall s), if_pos rfl]
          have hno1 : Hid (kn ≤ 6 ^ (i + 1)) := by
            show kn ≤ _
            rw [Nat.pow_succ]
            omega
          clear hall hm hacc
          go_wp2
          go_roundw
          case rel => exact ⟨i + 1, W2.heap.size, kn, Dn, by omega, by go_num, rfl, by rw [← Hm'.out], hmn, hno1.out, honn, readsG_congr hrdn Hr'.out, by omega, hnx⟩
          case measure => simp [intOf]; omega
        · intro y c w1 cnt1 hwy hwc hly hat hrg1 hlt1 hg1 hs1 hen
          obtain ⟨x, hxS, hx⟩ := hL _ hly
          obtain rfl := kz_eq hx
          have hat' := readsG_int hrd hxS (hat _)
          subst hat'
          have hplx : pl left x = false := by unfold pl; rw [show left (kz x) = true from hly]; rfl
          have Hplx := Lib.hid hplx; clear hplx
          have hm1 := hmn.kept hg1 (fun e => by injection e with e; omega)
          have hnx1 := hnx.grown hg1 (by have := hnx.size; omega) (fun j hj => by cases hj; omega)
          have hDc := HD.out.below HD.out.lt hnx1
          obtain ⟨e0, e1, e2, e3, e4, e5⟩ := hDc.six
          have hbF := Bw.out x hxS
          have hbm := Bs.out (pl left) (fun s => hc hit s 6) (fun s _ => hc_le hit s 6)
          have hbt : Hid (∀ t, t < S → acc t ≤ 6 * 2176782336) := fun t ht => by rw [hacc.out t ht]; exact Bs.out (pl left) (fun s => tc hit to s t 6) (fun s _ => tc_le hit to s t 6)
          have hml : m ≤ 30000000000 := by have := hm.out; omega
          clear hbm
          go_wp2_with fail
          clear e0 e1 e2 e3 e4 e5 hDc hen
          go_loopw [10, 47] (fun cv jv wr => ∃ (j kn2 cnt2 M : Nat) (ac2 : Nat → Nat) (Dn : DataW Unit), j ≤ 6 ∧ jv = .int .i64 j ∧ wr.ranges Try.prog 3 (plainElem (H := Unit) Try.prog 3) bo (W2.heap.size + 1) no D (fun z => left z && !z.sameKey (.int .i64 (x : Int))) cnt2 ∧ cnt2 ≤ cnt1 ∧ wr.ownsMap Try.prog 3 (plainElem (H := Unit) Try.prog 3) W2.heap.size kn2 Dn ∧ kn2 ≤ kn + j ∧ OnlyG Dn S ∧ ReadsG Dn ac2 S ∧ Hid (∀ t, t < S → ac2 t = acc t + F x * tc hit to x t j) ∧ cv = .int .i64 (M : Nat) ∧ Hid (M = m + F x * hc hit x j) ∧ Below W.heap.size W wr) (fun _ jv _ => 6 - (intOf jv).toNat)
          case atStart => exact ⟨0, kn, cnt1, m, acc, Dn, by omega, rfl, hrg1, Nat.le_refl _, hm1, by omega, honn, hrdn, fun t _ => by show acc t = acc t + F x * 0; rw [Nat.mul_zero]; rfl, rfl, by show m = m + F x * 0; rw [Nat.mul_zero]; rfl, hnx1⟩
          case round =>
            clear hm1 hnx1 hmn hnx hrdn honn
            obtain ⟨j, kn2, cnt2, M, ac2, Dn, hj, rfl, hrg2, hc2, hmn, hkn, honn, hrdn, hac, rfl, hM, hnx⟩ := hrel
            by_cases hj6 : j < 6
            · have hix := fun w => Hix.out w j hj6
              have hwl := hc_le hit x j
              have hFw : F x * hc hit x j ≤ F x * 6 := Nat.mul_le_mul_left _ (by omega)
              have hMl : M ≤ 60000000000 := by have := hM.out; omega
              clear hFw
              have hclw := Hcl.out wr (HB.out.trans (hnx.mono HB.out.size)) x j hxS hj6
              cases hh : hit x j
              · rw [hh] at hclw
                have Hclw := Lib.hid hclw; clear hclw
                have htS := hto x j hxS hh
                obtain ⟨t0, ht0⟩ : ∃ t, t = to x j := ⟨_, rfl⟩
                rw [← ht0] at Hclw htS
                have hal : ac2 t0 ≤ 60000000000 := by
                  have h1 := hac.out t0 htS
                  have h2 := hbt.out t0 htS
                  have h3 : F x * tc hit to x t0 j ≤ F x * 6 := Nat.mul_le_mul_left _ (Nat.le_trans (tc_le hit to x t0 j) (by omega))
                  omega
                have hac2 : Hid (∀ t, t < S → (if t = t0 then ac2 t0 + F x else ac2 t) = acc t + F x * tc hit to x t (j + 1)) := fun t ht => by
                  show _ = acc t + F x * (tc hit to x t j + if hit x j = false ∧ to x j = t then 1 else 0)
                  by_cases e : t = t0
                  · subst e
                    rw [if_pos rfl, if_pos ⟨hh, ht0.symm⟩, hac.out t ht, Nat.mul_add, Nat.mul_one, Nat.add_assoc]
                  · rw [if_neg e, if_neg (fun q => e (ht0.trans q.2).symm), hac.out t ht]; rfl
                have hM2 : Hid (M = m + F x * hc hit x (j + 1)) := by
                  show M = m + F x * (hc hit x j + if hit x j then 1 else 0)
                  rw [hh, hM.out]; rfl
                have Hh := Lib.hid hh; clear hh
                have Ht0 := Lib.hid ht0; clear ht0
                go_wp2_with fail
                refine Hclw.out.mono ?_
                rintro e w3 ⟨rfl, hb3⟩
                have hg3 := grown_none hb3
                have hrg3 := hrg2.kept hg3 (by simp) (by simp)
                have hmn3 := hmn.kept hg3 (by simp)
                have hnx3 := hnx.trans (hb3.mono hnx.size)
                clear hg3
                have hkb : kn2 < maxLen := by unfold maxLen; omega
                go_wp2_with (first
                  | (at_lookup; refine wpList_lookup_own_int _ rfl _ _ 79 rfl 3 3 .i64 intK Try.underlying79 Try.underlying3 (zeroE _) W2.heap.size kn2 Dn rfl hmn3 _ (kz t0) rfl (Go.Maps.keyOf_int_mk Try.underlying3 (WalkArith.wf_i64 (by omega))) ?_; intro c2 hat2 hwc2; obtain rfl := readsG_int hrdn htS hat2)
                  | (at_mapUpdate; refine wpList_mapUpdate_own _ rfl _ _ _ 79 rfl 3 3 intK Try.underlying79 _ W2.heap.size kn2 Dn rfl hmn3 hkb _ _ (kz t0) rfl rfl (Go.Maps.keyOf_int_mk Try.underlying3 (WalkArith.wf_i64 (by omega))) _ [] (plainElem_int Try.underlying3 (WalkArith.wf_i64 (by omega))) ?_; intro w4 hmn4 hg4; go_frame)
                  | go_in)
                have hrg4 := hrg3.kept hg4 (fun e => by have := Option.some.inj e; omega) (fun e => by have := Option.some.inj e; omega)
                have hnx4 := hnx3.grown hg4 (by have := hnx3.size; omega) (fun k e => by cases e; omega)
                have hrd4 := readsG_put (t := t0) (v := ac2 t0 + F x) hrdn hmn3.isMap
                rw [Int.natCast_add] at hrd4
                have hon4 := onlyG_put honn htS (.lit (.int .i64 ((ac2 t0 : Int) + (F x : Int))))
                go_wp2_with fail
                go_roundw
                case rel => exact ⟨j + 1, kn2 + 1, cnt2, M, _, _, by omega, by go_num, hrg4, hc2, hmn4, by omega, hon4, hrd4, hac2, rfl, hM2, hnx4⟩
                case measure => simp [intOf]; omega
              · rw [hh] at hclw
                have Hclw := Lib.hid hclw; clear hclw
                have hac2 : Hid (∀ t, t < S → ac2 t = acc t + F x * tc hit to x t (j + 1)) := fun t ht => by
                  show _ = acc t + F x * (tc hit to x t j + if hit x j = false ∧ to x j = t then 1 else 0)
                  rw [if_neg (fun q => by rw [hh] at q; exact Bool.noConfusion q.1), hac.out t ht]; rfl
                have hM2 : Hid (M + F x = m + F x * hc hit x (j + 1)) := by
                  show M + F x = m + F x * (hc hit x j + if hit x j then 1 else 0)
                  rw [hh, hM.out, if_pos rfl, Nat.mul_add, Nat.mul_one, Nat.add_assoc]
                have Hh := Lib.hid hh; clear hh
                go_wp2_with fail
                refine Hclw.out.mono ?_
                rintro e w3 ⟨rfl, hb3⟩
                have hg3 := grown_none hb3
                have hrg3 := hrg2.kept hg3 (by simp) (by simp)
                have hmn3 := hmn.kept hg3 (by simp)
                have hnx3 := hnx.trans (hb3.mono hnx.size)
                clear hg3
                go_wp2_with fail
                go_roundw
                case rel => exact ⟨j + 1, kn2, cnt2, M + F x, ac2, Dn, by omega, by go_num, hrg3, hc2, hmn3, by omega, honn, hrdn, hac2, by go_num, hM2, hnx3⟩
                case measure => simp [intOf]; omega
            · obtain rfl : j = 6 := by omega
              have hpo := fun (G : Nat → Nat) => ps_one (p := pl left) (p' := pl (fun z => left z && !z.sameKey (kz x))) (G := G) Hplx.out (pl_x left x) (fun s hs => pl_o left hs) hxS
              have Hac : Hid (∀ t, t < S → ac2 t = ps (pl (fun z => left z && !z.sameKey (kz x))) (fun s => F s * tc hit to s t 6) S) := fun t ht => by
                rw [hpo, hac.out t ht, hacc.out t ht]
              have HM2 : Hid (M = 6 * C + ps (pl (fun z => left z && !z.sameKey (kz x))) (fun s => F s * hc hit s 6) S) := by
                show M = _
                rw [hpo, hM.out, hm.out, Nat.add_assoc]
              clear hpo
              go_wp2_with fail
              go_roundw
              case rel => exact ⟨_, cnt2, kn2, M, ac2, Dn, hrg2, hmn, by omega, honn, hrdn, Hac, rfl, HM2, fun kl h => hL kl (by cases hh : left kl; (simp [hh] at h); rfl), hnx⟩
              case measure => rw [hrg2.left_eq, hrg.left_eq]; omega
    · obtain rfl : i = n := by omega
      have hit0 : decide ((i : Int) < (i : Int)) = false := decide_eq_false (by omega)
      go_wp2_with fail
      refine (Ho.out _).mono ?_
      rintro e w3 ⟨rfl, hw3⟩
      have hw3 := hw3.symm
      subst hw3
      go_wp2_with fail
      refine (Hcut.out _).mono ?_
      rintro e w4 ⟨rfl, hb4⟩
      have hRX := (HR.out.below (HR.out.lt) hnx).up hb4
      have hB4 := nx (HB.out.trans (hnx.mono HB.out.size)) hb4
      have c0 := hRX.cell 0 (by omega)
      have c1 := hRX.cell 1 (by omega)
      have z0 := hRX.free 0
      have z1 := hRX.free 1
      go_wp2_with fail
      refine ret_cell_tmp (b := w.heap.size + 1) (n := 2) (f := fr ((num (cm hit to S i) (6 ^ i) : Nat) : Int) ((den (cm hit to S i) (6 ^ i) : Nat) : Int)) Try.results60 rfl rfl Try.underlying29 (by kernel_rfl) (fin2' hRX _ _) rfl ⟨rfl, ?_⟩
      exact (hB4.setCell (p := ⟨w.heap.size + 1, 0, none⟩) (Nat.le_succ _) _).setCell (p := ⟨w.heap.size + 1, 1, none⟩) (Nat.le_succ _) _


end ChG
end Go.Proofs.Ytdodokeebmdceaa
