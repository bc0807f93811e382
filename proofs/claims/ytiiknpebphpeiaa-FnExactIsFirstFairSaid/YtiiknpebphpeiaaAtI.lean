/-
  The program's ways at a place.
-/
import Derived.Test.YtiiknpebphpeiaaRows
import Derived.Test.YtiiknpebphpeiaaArr
import Derived.Test.YtiiknpebphpeiaaDieW
import Derived.Test.YtiiknpebphpeiaaSortW
import Derived.Test.YtiiknpebphpeiaaDicesW
import Derived.Test.YtiiknpebphpeiaaPoolW
import Derived.Test.YtiiknpebphpeiaaAll6
import Derived.Test.YtiiknpebphpeiaaIntsW
import Derived.Test.YtiiknpebphpeiaaRollN
import Derived.Test.YtiiknpebphpeiaaRollS
import Derived.Test.YtiiknpebphpeiaaFour
import Derived.Test.YtiiknpebphpeiaaOrdM
import Derived.Test.YtiiknpebphpeiaaOrdT
import Derived.Test.YtiiknpebphpeiaaOrdW
import Derived.Test.YtiiknpebphpeiaaOrdO
import Derived.Test.YtiiknpebphpeiaaOrdI
import Derived.Test.YtiiknpebphpeiaaOrdK
import Derived.Test.YtiiknpebphpeiaaOrdS
import Derived.Test.YtiiknpebphpeiaaOwnL
import Derived.Test.YtiiknpebphpeiaaAnyR
import Derived.Test.YtiiknpebphpeiaaMapO
import Derived.Test.YtiiknpebphpeiaaShelfMax
import Derived.Test.YtiiknpebphpeiaaOrdN
import Derived.Test.YtiiknpebphpeiaaOrdL
import Derived.Test.YtiiknpebphpeiaaCntI
import Derived.Test.YtiiknpebphpeiaaWayI
import Derived.Test.YtiiknpebphpeiaaWayJ
import Derived.Test.YtiiknpebphpeiaaWayS
import Derived.Test.YtiiknpebphpeiaaWayT
import Derived.Test.YtiiknpebphpeiaaLevW
import Derived.Test.YtiiknpebphpeiaaAtM
import Derived.Test.YtiiknpebphpeiaaOpenD
import Derived.Maps.RangeWalk
import Derived.Maps.Ext
import Derived.WalkKit
import Derived.WalkLawsBesides
import Derived.WalkSpells
import Derived.ProofKit
import Derived.OpenShut
import Derived.Deep.RegionWith
import Derived.Deep.QuietTactic
import Derived.BigQuiet
namespace Go.Proofs.Ytiiknpebphpeiaa
open Go.ChangeShapes Go.WideShapes Go.ChangeAt Go.RowKit
open Go.ChangeMaps (open_string shut_string)

namespace AtI
open Dice Arr OpenD DieW SortW DicesW PoolW All6 IntsW RollW Four OwnL OrdM OrdT OrdW OrdO OrdI OrdK OrdS AnyR MapO OrdN OrdL CntI WayI WayJ WayS WayT LevW AtM


/-- The ways of a player at a place. -/
def wA (n : Nat) (P : Nat → Nat → Int) (p : Int) (j : Nat) : Nat := atP (gO P n) (all6 n) (ordL n) p j
def okP (n : Nat) (P : Nat → Nat → Int) (k : Int) : Bool := isPool n P && decide (0 ≤ k ∧ k < n)
def mA (n : Nat) (P : Nat → Nat → Int) (k : Int) : Nat := if okP n P k then n else 0
def fA (n : Nat) (P : Nat → Nat → Int) (k : Int) (i : Nat) : Int := (wA n P (i : Int) k.toNat : Nat)
set_option maxRecDepth 100000 in
theorem key_same {p q : Q4} (hp : fitQ p) (hq : fitQ q) : (kq p).sameKey (kq q) = decide (p = q) := by
  by_cases e : p = q
  · subst e
    rw [decide_eq_true rfl]
    exact WideAt.sameKey_self (keyed.key (key_of hp))
  · rw [decide_eq_false e]
    exact Maps.sameKey_ne (fun h => e (kq_inj hp hq h))
set_option maxRecDepth 100000 in
set_option maxHeartbeats 8000000 in
theorem implAt_any (A : Option Addr) (n c : Nat) (k : Int) (P : Nat → Nat → Int) (w : World) (h : Row w A n P) (hn : n ≤ maxLen) :
    Calls Try.prog 78 #[.slice A n c, .int .i64 k] w fun e w' => ∃ A' c', e = .returned (.tuple #[.slice A' (mA n P k) c', .bool (okP n P k)]) ∧ Ints w.heap.size w' A' (mA n P k) (fA n P k) ∧ Below w.heap.size w w' := by
  have Hp := Lib.hid (fun w h => implIsPool_any A n c P w h hn)
  cases hq : isPool n P
  · have e1 : okP n P k = false := by unfold okP; rw [hq]; rfl
    have e2 : mA n P k = 0 := by unfold mA; rw [e1]; rfl
    rw [e1, e2]
    rw [hq] at Hp
    have Hp := Lib.hid Hp
    clear hq e1 e2
    go_enter Try.func78, Try.ntmps78
    go_wp2_with fail
    refine (Hp.out _ h).mono ?_
    rintro e w1 ⟨rfl, hb⟩
    go_wp2_with fail
    go_ret2
    exact ⟨none, 0, rfl, .inl rfl, hb⟩
  rw [hq] at Hp
  have Hp := Lib.hid Hp
  by_cases hk : 0 ≤ k ∧ k < n
  case neg =>
    have e1 : okP n P k = false := by unfold okP; rw [hq, decide_eq_false hk]; rfl
    have e2 : mA n P k = 0 := by unfold mA; rw [e1]; rfl
    rw [e1, e2]
    clear hq e1 e2
    by_cases hk0 : k < 0
    · have hd : decide (k < 0) = true := decide_eq_true hk0
      clear hk
      go_enter Try.func78, Try.ntmps78
      go_wp2_with fail
      refine (Hp.out _ h).mono ?_
      rintro e w1 ⟨rfl, hb⟩
      go_wp2_with fail
      go_ret2
      exact ⟨none, 0, rfl, .inl rfl, hb⟩
    · have hd : decide (k < 0) = false := decide_eq_false hk0
      have hd2 : decide ((n : Int) ≤ k) = true := decide_eq_true (by omega)
      clear hk
      go_enter Try.func78, Try.ntmps78
      go_wp2_with fail
      refine (Hp.out _ h).mono ?_
      rintro e w1 ⟨rfl, hb⟩
      go_wp2_with fail
      go_ret2
      exact ⟨none, 0, rfl, .inl rfl, hb⟩
  obtain ⟨j, rfl⟩ : ∃ j : Nat, k = j := ⟨k.toNat, by omega⟩
  have e1 : okP n P (j : Int) = true := by unfold okP; rw [hq, decide_eq_true hk]; rfl
  have e2 : mA n P (j : Int) = n := by unfold mA; rw [e1]; rfl
  rw [e1, e2]
  have hjn : j < n := by omega
  have hd : decide ((j : Int) < 0) = false := decide_eq_false (by omega)
  have hd2 : decide ((n : Int) ≤ (j : Int)) = false := decide_eq_false (by omega)
  have hd2N : decide (n ≤ j) = false := decide_eq_false (by omega)
  obtain ⟨h1, h4, _⟩ := of_pool hq
  have Hc := Lib.hid (fun m w h hm hM => count_any A n c m 0 (fun _ => 0) P w h hm hq hM)
  have HE : Hid (∀ i : Nat, fA n P (j : Int) i = (sumL (fun q => if qa q j = (i : Int) then cnt (gO P n) (all6 n) q else 0) (ordL n) : Nat)) := fun i => rfl
  have Hmem : Hid (∀ q, cnt (gO P n) (all6 n) q ≠ 0 → q ∈ ordL n) := fun q hq => by
    obtain ⟨M, _, hM⟩ := cnt_mem hq
    exact gO_mem h1 h4 M q hM
  have Hin : Hid (∀ q ∈ ordL n, 0 ≤ qa q j ∧ qa q j < n) := fun q hq => ordL_in h4 q hq j hjn
  have Hfit : Hid (∀ q ∈ ordL n, fitQ q) := fun q hq => fit_ord h4 hq
  have Hnd := Lib.hid (ordL_nodup h4)
  have Hsm : Hid (sumL (cnt (gO P n) (all6 n)) (ordL n) ≤ 1296) := by
    have := sumL_cnt (g := gO P n) (ordL_nodup h4) (all6 n) fun M _ q hq => gO_mem h1 h4 M q hq
    have := (all6_le h4).1
    show sumL _ _ ≤ 1296
    omega
  have hmm := @run_makeMap Try.prog
  clear hq e1 e2 hk
  have H := Lib.hid h; clear h
  generalize cnt (gO P n) (all6 n) = F at *
  generalize ordL n = L at *
  go_enter Try.func78, Try.ntmps78
  go_wp2_with fail
  refine (Hp.out _ H.out).mono ?_
  rintro e w1 ⟨rfl, hb⟩
  have hR := H.out.up hb
  have hfr := fresh_row hR h1
  have hMm := Mapped.made w1
  go_wp2_with fail
  clear hmm
  refine (Hc.out _ _ (hR.up ((Below.refl _ w1).alloc (Nat.le_refl _) (.map #[] 0))) hfr hMm).mono ?_
  rintro e w2 ⟨rfl, hM2, hg⟩
  have hB2 := nx hb (below_map hg)
  have hsw := hb.size
  have hmw : w.heap.size ≤ w1.heap.size := hsw
  clear hg hMm hb hR hfr
  obtain ⟨w3, hmk, hA3, hb3⟩ := make_ints w2 n (by omega)
  obtain ⟨D, hown, hC⟩ := hM2.up hb3
  have hB3 := nx hB2 hb3
  have hml := hM2.lt
  obtain ⟨b, hb⟩ : ∃ b, b = w2.heap.size := ⟨_, rfl⟩
  have hs2 := hB2.size
  rw [← hb] at hA3 hmk hml hs2
  clear hb hb3 hB2
  go_wp2_with (first
    | (at_range; go_loud (refine wpList_range_own _ rfl _ 70 rfl 26 3 keyed underM _ w1.heap.size (all6 n) D rfl hown ?_; intro w0 hrg0 hg0 hs0))
    | go_in)
  go_frame
  have hwr : w.heap.size ≤ w3.heap.size := hB3.size
  have hbl3 := hA3.lt
  have hA0 := At.keptR hA3 (hg0.but (some w3.heap.size)) (fun e => by injection e with e; omega)
  have hB0 := hB3.grown (hg0.but (some w3.heap.size)) hwr (fun t e => by injection e with e; omega)
  obtain ⟨r, hr⟩ : ∃ r, r = w3.heap.size := ⟨_, rfl⟩
  rw [← hr] at hrg0 hwr hbl3 ⊢
  have hbr : b ≠ r := by omega
  clear hg0 hs0 hmk hown hA3 hB3 hr
  go_loopw [9] (fun _ wr => ∃ (left : Lit → Bool) (ct : Nat), wr.ranges Try.prog 26 (plainElem (H := Unit) Try.prog 3) w1.heap.size r (all6 n) D left ct ∧ Hid (∀ kl, left kl = true → Maps.has D kl = true) ∧ At wr b n (fun i => (gone F L (fun q => left (kq q)) i j : Nat)) ∧ Below w.heap.size w wr) (fun _ wr => wr.rangeLeft w1.heap.size r)
  case atStart =>
    refine ⟨_, _, hrg0, fun kl h => h, hA0.congr fun i _ => ?_, hB0⟩
    rw [gone_start fun q hq hl => ?_]
    · rfl
    · have h1 := Maps.atKey_of_not_has hl (.lit (.int .i64 0))
      rw [hC.1 q (Hfit.out q hq)] at h1
      injection h1 with h1
      injection h1 with _ h1
      omega
  case round =>
    clear hrg0 hA0 hB0
    obtain ⟨left, ct, hrg, hL, hA, hB⟩ := hrel
    go_wp2_with (first
      | (at_next; refine wpList_next_ranges _ rfl _ rfl 26 keyed (plainElem Try.prog 3) (fun x : Value => x) (fun c : Int => Value.int .i64 c) (fun key kl _ => ⟨key, rfl⟩) (fun v y hv => by obtain ⟨c, rfl, _⟩ := plainElem_int_inv Try.underlying3 hv; exact ⟨c, rfl⟩) w1.heap.size r (all6 n) _ _ _ rfl hrg ?_ ?_)
      | go_in)
    · intro hc0 hl0
      have hA9 := hA.congr (g := fA n P (j : Int)) fun i _ => by rw [gone_end fun q => hl0 (kq q), HE.out i]
      go_wp2
      go_ret2
      exact ⟨some ⟨b, 0, none⟩, n, rfl, .inr ⟨b, rfl, by omega, hA9⟩, hB⟩
    · intro x cv kl y yp w4 ct1 hkx hlx hRy hat hrg1 hlt1 hgr hsz hen
      obtain ⟨q, hfq, rfl, hFq⟩ := hC.2 kl (hL.out kl hlx)
      have hx : x = v4 (qa q) := keyed.inj hkx (key_of hfq)
      subst hx
      have hcv : cv = (F q : Nat) := by
        obtain ⟨c', e1, e2, _⟩ := plainElem_int_inv Try.underlying3 hRy
        have h1 := hat (.lit (.int .i64 0))
        have e2 := (Prod.mk.inj e2).1
        rw [hC.1 q hfq, e2] at h1
        injection h1 with h1
        injection h1 with _ h1
        injection e1 with _ e1
        rw [e1, h1]
      subst hcv
      have hqL := Hmem.out q hFq
      obtain ⟨hq0, hqn⟩ := Hin.out q hqL
      obtain ⟨p, hp⟩ : ∃ p : Nat, qa q j = p := ⟨(qa q j).toNat, by omega⟩
      have hpn : p < n := by omega
      have hstep : ∀ i, gone F L (fun z => left (kq z) && !(kq z).sameKey (kq q)) i j = gone F L (fun z => left (kq z)) i j + (if qa q j = (i : Int) then F q else 0) := fun i =>
        gone_step Hnd.out hqL hlx (by show (left (kq q) && !(kq q).sameKey (kq q)) = false; rw [key_same hfq hfq]; simp) (fun z hz hne => by
          show (left (kq z) && !(kq z).sameKey (kq q)) = left (kq z)
          rw [key_same (Hfit.out z hz) hfq, decide_eq_false hne]; simp) i j
      have hgl := gone_le F L (fun z => left (kq z)) p j
      have hFl : F q ≤ 1296 := by
        have := Hsm.out
        have h1 : sumL (fun z => if q = z then F z else 0) L ≤ sumL F L := sumL_le (fun z => by by_cases e : q = z <;> simp [e]) L
        have h2 : sumL (fun z => if q = z then F z else 0) L = F q := by
          have := sumL_upd (h := fun _ => 0) (h' := fun z => if q = z then F z else 0) Hnd.out hqL fun z _ hne => if_neg (fun e => hne e.symm)
          rw [sumL_zero (f := fun _ => 0) fun _ _ => rfl] at this
          simpa using this
        omega
      have hSl := Hsm.out
      have hAk := At.keptR hA hgr (fun e => by injection e with e; exact hbr e.symm)
      have hBk := hB.grown hgr (by have := hB.size; omega) (fun t e => by injection e with e; omega)
      have hAp := hAk.past (fourO (qa q) 26)
      have hBp := hBk.alloc hBk.size (fourO (qa q) 26)
      have hrgp := hrg1.alloc (fourO (qa q) 26)
      have hX := At.new4 w4 (qa q) 26 (b := wr.heap.size) hsz.symm
      have cx := hX.cell j (by omega)
      rw [hp] at cx
      have cb := hAp.cell p hpn
      have zb := hAp.free p
      have hsw4 := hBk.size
      have hj4 : j < 4 := by omega
      have hsm : (gone F L (fun z => left (kq z)) p j) + F q ≤ 3000 := by omega
      have Hstep := Lib.hid hstep
      have Hp1 := Lib.hid hp
      have hre := hrg.left_eq
      clear hstep hp hgl hFl hSl hAk hBk hA hB hX hrg1 hrg hFq hkx hRy hat hlx hq0 hqn
      generalize hG : gone F L (fun z => left (kq z)) p j = G at *
      have HG := Lib.hid hG; clear hG
      generalize hc : F q = cv at *
      clear hc
      go_upto_region 9 with fail
      obtain ⟨W5, hW5⟩ : ∃ W5, W5 = w4.alloc (fourO (qa q) 26) := ⟨_, rfl⟩
      rw [← hW5] at cx cb zb hAp hBp hrgp ⊢
      clear hW5
      go_wp2_with fail
      have hrgS := hrgp.kept (grown_setc W5 b p (.int .i64 ((G : Int) + (cv : Int)))) (by simp; omega) (by simp; omega)
      have hAS := hAp.set hpn ((G : Int) + (cv : Int))
      have hBS := hBp.setCell (p := ⟨b, p, none⟩) (by show w.heap.size ≤ b; omega) (.int .i64 ((G : Int) + (cv : Int)))
      have Hre := Lib.hid hre; clear hre
      go_roundw
      case rel =>
        refine ⟨_, ct1, hrgS, fun kl h => ?_, hAS.congr fun i _ => ?_, hBS⟩
        · rw [Bool.and_eq_true] at h
          exact hL.out kl h.1
        · show put (fun i => ((gone F L (fun q => left (kq q)) i j : Nat) : Int)) p _ i = ((gone F L (fun z => left (kq z) && !(kq z).sameKey (kq q)) i j : Nat) : Int)
          rw [Hstep.out i, Hp1.out]
          by_cases e : i = p
          · subst e
            rw [put_same, if_pos rfl, HG.out]
            omega
          · rw [put_other _ e, if_neg (by omega)]
            rfl
      case measure => rw [hrgS.left_eq, Hre.out]; omega


end AtI
end Go.Proofs.Ytiiknpebphpeiaa
