/-
  HoldEnds, both sides.
-/
import Derived.Test.YtcffglnfdnanhaaRows
import Derived.Test.YtcffglnfdnanhaaArr
import Derived.Test.YtcffglnfdnanhaaAnyR
import Derived.Test.YtcffglnfdnanhaaDieW
import Derived.Test.YtcffglnfdnanhaaSortW
import Derived.Test.YtcffglnfdnanhaaFracW
import Derived.Test.YtcffglnfdnanhaaFracL
import Derived.Test.YtcffglnfdnanhaaCutW
import Derived.Test.YtcffglnfdnanhaaAll6
import Derived.Test.YtcffglnfdnanhaaAllL
import Derived.Test.YtcffglnfdnanhaaOwnL
import Derived.Test.YtcffglnfdnanhaaFracM
import Derived.Test.YtcffglnfdnanhaaStopM
import Derived.Test.YtcffglnfdnanhaaRunM
import Derived.Test.YtcffglnfdnanhaaRunI
import Derived.Test.YtcffglnfdnanhaaRunS
import Derived.Test.YtcffglnfdnanhaaRunW
import Derived.Test.YtcffglnfdnanhaaHoldM
import Derived.Test.YtcffglnfdnanhaaBig40
import Derived.Test.YtcffglnfdnanhaaBig41
import Derived.Test.YtcffglnfdnanhaaHoldI
import Derived.Test.YtcffglnfdnanhaaHoldS
import Derived.Test.YtcffglnfdnanhaaHoldW
import Derived.Test.YtcffglnfdnanhaaRunW
import Derived.Test.YtcffglnfdnanhaaRunS
import Derived.Test.YtcffglnfdnanhaaEndL
import Derived.Test.YtcffglnfdnanhaaOpenD
import Derived.WalkKit
import Derived.OwnWalk
import Derived.Lib.AppendZeros
import Derived.Deep.WholeRow
import Derived.Deep.RegionHeld3
import Derived.Deep.AppendLies
import Derived.WalkLawsBesides
import Derived.WalkSpells
import Derived.ProofKit
import Derived.OpenShut
import Derived.Deep.RegionWith
import Derived.Deep.QuietTactic
import Derived.BigQuiet
namespace Go.Proofs.Ytcffglnfdnanhaa
open Go.ChangeShapes Go.WideShapes Go.ChangeAt Go.RowKit
open Go.ChangeMaps (open_string shut_string)

namespace HEnds
open Dice Arr DieW SortW FracW CutW All6 AllL OwnL FracM StopM RunM RunI RunS RunW HoldM HoldI HoldS HoldW EndL Go.Deep

/-- The list of endings, as values. -/
def xs (F X Y : Nat → Nat) : Nat → List Value
  | 0 => []
  | n + 1 => if 0 < F n then xs F X Y n ++ [.int .i64 (n : Nat), .int .i64 (X n : Nat), .int .i64 (Y n : Nat)] else xs F X Y n
def cnt (F : Nat → Nat) : Nat → Nat
  | 0 => 0
  | n + 1 => if 0 < F n then cnt F n + 1 else cnt F n
theorem xs_len (F X Y : Nat → Nat) : ∀ n, (xs F X Y n).length = cnt F n * 3
  | 0 => rfl
  | n + 1 => by
    have ih := xs_len F X Y n
    show (if 0 < F n then _ else _ : List Value).length = (if 0 < F n then _ else _) * 3
    split
    · rw [List.length_append, ih]
      show _ + 3 = _
      omega
    · exact ih
theorem cnt_le (F : Nat → Nat) : ∀ n, cnt F n ≤ n
  | 0 => Nat.le_refl _
  | n + 1 => by
    have ih := cnt_le F n
    show (if 0 < F n then _ else _) ≤ _
    split <;> omega
def intV : Value → Int
  | .int _ a => a
  | _ => 0
theorem xs_ints (F X Y : Nat → Nat) : ∀ n v, v ∈ xs F X Y n → v = .int .i64 (intV v)
  | 0, v, h => by cases h
  | n + 1, v, h => by
    have ih := xs_ints F X Y n v
    have h' : v ∈ (if 0 < F n then xs F X Y n ++ [.int .i64 (n : Nat), .int .i64 (X n : Nat), .int .i64 (Y n : Nat)] else xs F X Y n) := h
    split at h'
    · rcases List.mem_append.1 h' with h' | h'
      · exact ih h'
      · simp at h'
        rcases h' with rfl | rfl | rfl <;> rfl
    · exact ih h'
def ef (F X Y : Nat → Nat) (n : Nat) : Nat → Int := fun j => intV ((xs F X Y n).getD j (.int .i64 0))
theorem xs_vals (F X Y : Nat → Nat) (n : Nat) : xs F X Y n = vals (cnt F n * 3) (ef F X Y n) := by
  refine List.ext_getElem (by rw [vals_len, xs_len]) fun j h1 h2 => ?_
  rw [vals_len] at h2
  have e := vals_get (f := ef F X Y n) h2
  rw [List.getElem?_eq_getElem (by rw [vals_len]; exact h2)] at e
  injection e with e
  rw [e]
  unfold ef
  rw [List.getD_eq_getElem?_getD, List.getElem?_eq_getElem h1]
  exact xs_ints F X Y n _ (List.getElem_mem h1)
theorem xs_yes {F X Y : Nat → Nat} {n : Nat} (h : 0 < F n) : xs F X Y n ++ [.int .i64 (n : Nat), .int .i64 (X n : Nat), .int .i64 (Y n : Nat)] = xs F X Y (n + 1) ∧ cnt F (n + 1) = cnt F n + 1 := by
  constructor
  · show _ = if 0 < F n then _ else _
    rw [if_pos h]
  · show (if 0 < F n then _ else _) = _
    rw [if_pos h]
theorem xs_no {F X Y : Nat → Nat} {n : Nat} (h : ¬ 0 < F n) : xs F X Y (n + 1) = xs F X Y n ∧ cnt F (n + 1) = cnt F n := by
  constructor
  · show (if 0 < F n then _ else _) = _
    rw [if_neg h]
  · show (if 0 < F n then _ else _) = _
    rw [if_neg h]
def eX (f : Nat → Nat) (bad h t : Nat) : Nat := num (outS f bad h h t) (6 ^ h)
def eY (f : Nat → Nat) (bad h t : Nat) : Nat := den (outS f bad h h t) (6 ^ h)
theorem st_pos {f : Nat → Nat} {bad h : Nat} (hfp : ∀ j, j < 6 → 1 ≤ f j) (h1 : 1 ≤ h) (h10 : h ≤ 10) (t : Nat) : 0 < st f bad h t ↔ 0 < outS f bad h h t := by
  rw [st_out bad hfp h1 h10 t]
  exact ⟨fun x => Nat.pos_of_ne_zero fun e => by rw [e, Nat.mul_zero] at x; omega, fun x => Nat.mul_pos (pow_ten (show 10 - h ≤ 10 by omega)).2 x⟩
theorem news_three {w : World} {b : Nat} {x y z : Value} (h : w.cell? ⟨b, 0, none⟩ = some x ∧ w.cell? ⟨b, 1, none⟩ = some y ∧ w.cell? ⟨b, 2, none⟩ = some z) : ∀ j u, ([x, y, z] : List Value)[j]? = some u → w.cell? ((⟨b, 0, none⟩ : Addr).add j) = some u := by
  intro j u hj
  match j, hj with
  | 0, hj => simp at hj; subst hj; simpa [Addr.add] using h.1
  | 1, hj => simp at hj; subst hj; simpa [Addr.add] using h.2.1
  | 2, hj => simp at hj; subst hj; simpa [Addr.add] using h.2.2
theorem cells_three (w : World) (x y z : Value) (t : TypeId) : (w.alloc (.cells #[x, y, z] t)).cell? ⟨w.heap.size, 0, none⟩ = some x ∧ (w.alloc (.cells #[x, y, z] t)).cell? ⟨w.heap.size, 1, none⟩ = some y ∧ (w.alloc (.cells #[x, y, z] t)).cell? ⟨w.heap.size, 2, none⟩ = some z := by
  refine ⟨?_, ?_, ?_⟩
  · rw [World.cell?_alloc_at _ _ _ _ rfl]; rfl
  · rw [World.cell?_alloc_at _ _ _ _ rfl]; rfl
  · rw [World.cell?_alloc_at _ _ _ _ rfl]; rfl
def lenE (d : Nat → Int) (bad h : Int) : Nat := if okT d bad h then cnt (outS (face d) bad.toNat h.toNat h.toNat) 41 else 0
def efE (d : Nat → Int) (bad h : Int) : Nat → Int := ef (outS (face d) bad.toNat h.toNat h.toNat) (eX (face d) bad.toNat h.toNat) (eY (face d) bad.toNat h.toNat) 41
theorem lenE_no {d : Nat → Int} {bad h : Int} (x : okT d bad h = false) : lenE d bad h = 0 := by simp [lenE, x]
theorem lenE_yes {d : Nat → Int} {bad h : Nat} (x : okT d bad h = true) : lenE d bad h = cnt (outS (face d) bad h h) 41 := by simp [lenE, x]
theorem lenE_small (d : Nat → Int) (bad h : Int) : lenE d bad h ≤ 41 := by
  unfold lenE
  split
  · exact cnt_le _ _
  · omega

set_option maxRecDepth 100000 in
set_option maxHeartbeats 16000000 in
theorem implEndsL_any (d : Nat → Int) (bad h : Int) (w : World) :
    Calls Try.prog 36 #[dv d, .int .i64 bad, .int .i64 h] w fun e w' => ∃ A c, e = .returned (.tuple #[.slice A (lenE d bad h) c, .bool (okT d bad h)]) ∧ EndAt w.heap.size w' A (lenE d bad h) (efE d bad h) ∧ Below w.heap.size w w' := by
  have hc := fun w => canTurn_any d bad h w
  unfold dv at hc
  have Hc := Lib.hid hc; clear hc
  cases hok : okT d bad h
  · rw [hok] at Hc
    rw [lenE_no hok]
    clear hok
    unfold dv
    have hB := na (n0 w) (sixO d 22)
    have hD := At.new6 w d 22 rfl
    obtain ⟨e0, e1, e2, e3, e4, e5⟩ := hD.six
    go_enter Try.func36, Try.ntmps36
    go_wp2_with fail
    refine (Hc.out _).mono ?_
    rintro e w1 ⟨rfl, hb1⟩
    clear e0 e1 e2 e3 e4 e5
    go_wp2_with fail
    go_ret2
    exact ⟨_, _, rfl, .inl rfl, nx hB hb1⟩
  · rw [hok] at Hc
    obtain ⟨hr, ⟨hb1, hb2⟩, h1, h2⟩ := of_okT hok
    obtain ⟨bad, rfl⟩ : ∃ m : Nat, bad = m := ⟨bad.toNat, by omega⟩
    obtain ⟨h, rfl⟩ : ∃ m : Nat, h = m := ⟨h.toNat, by omega⟩
    rw [lenE_yes hok]
    unfold efE
    simp only [Int.toNat_natCast]
    have hd := faces_of hr
    generalize face d = f at *
    clear hok hr
    have hh1 : 1 ≤ h := by omega
    have hh2 : h ≤ 10 := by omega
    have hfp : ∀ j, j < 6 → 1 ≤ f j := fun j hj => (hd j hj).2.1
    have hf30 : ∀ j, j < 6 → f j ≤ 30 := fun j hj => (hd j hj).2.2
    obtain ⟨i3, hi3, hz0, hz1, hz2⟩ := info_parts info3
    have H3 := Lib.hid (And.intro hi3 (And.intro hz0 (And.intro hz1 hz2)))
    clear hi3 hz0 hz1 hz2
    have Hcl := Lib.hid (fun n => cnt_le (outS f bad h h) n)
    have Hlen := Lib.hid (fun n => xs_len (outS f bad h h) (eX f bad h) (eY f bad h) n)
    have Hyes := Lib.hid (fun n (x : 0 < outS f bad h h n) => xs_yes (X := eX f bad h) (Y := eY f bad h) x)
    have Hno := Lib.hid (fun n (x : ¬ 0 < outS f bad h h n) => xs_no (X := eX f bad h) (Y := eY f bad h) x)
    have h40 : cnt (outS f bad h h) 41 = cnt (outS f bad h h) 40 ∧ xs (outS f bad h h) (eX f bad h) (eY f bad h) 41 = xs (outS f bad h h) (eX f bad h) (eY f bad h) 40 := by
      have h0 : ¬ 0 < outS f bad h h 40 := by rw [outS_far bad hf30 (by omega)]; omega
      exact ⟨(xs_no (X := eX f bad h) (Y := eY f bad h) h0).2, (xs_no h0).1⟩
    have H40 := Lib.hid h40; clear h40
    have hm := fun w => implTurn_any d f bad h w hd hh2
    unfold dv at hm
    have Hm := Lib.hid hm; clear hm hd
    have Ho := Lib.hid (fun w => outcomesL 10 w (by omega))
    rw [show all6 10 = 60466176 from by decide] at Ho
    have Hix : Hid (∀ (w : World) (k : Nat), k < 40 → (Instr.index 68 (Big40.tv (zv (st f bad h))) (.int .i64 k)).run Try.prog w = .ok (.int .i64 (st f bad h k : Nat)) w) := fun w k hk => run_index_vals (P := Try.prog) w 68 3 40 Try.underlying68 Try.underlying3 Try.sizeOf3 (zv (st f bad h)) hk
    have Hst := Lib.hid (fun t => st_pos (bad := bad) hfp hh1 hh2 t)
    have hcut : ∀ t w, Calls Try.prog 59 #[.int .i64 (st f bad h t : Nat), .int .i64 60466176] w fun e w' => e = .returned (v2 (eX f bad h t : Nat) (eY f bad h t : Nat)) ∧ Below w.heap.size w w' := fun t w => by
      have x := FracL.fractionL (st f bad h t) 60466176 w (by have := st_small f bad hh2 t; omega) (by omega) (by omega)
      have e := end_cut bad hfp hh1 hh2 t
      unfold eX eY
      rw [← e.1, ← e.2]
      exact x
    have Hcut := Lib.hid hcut
    have Hxv := Lib.hid (xs_vals (outS f bad h h) (eX f bad h) (eY f bad h) 41)
    clear hcut hfp hf30
    generalize ef (outS f bad h h) (eX f bad h) (eY f bad h) 41 = E at *
    generalize eX f bad h = X at *
    generalize eY f bad h = Y at *
    generalize outS f bad h h = F at *
    generalize zv (st f bad h) = Z at *
    generalize st f bad h = S at *
    unfold dv
    have hB := na (n0 w) (sixO d 22)
    have hD := At.new6 w d 22 rfl
    obtain ⟨e0, e1, e2, e3, e4, e5⟩ := hD.six
    go_enter Try.func36, Try.ntmps36
    go_wp2_with fail
    refine (Hc.out _).mono ?_
    rintro e w1 ⟨rfl, hb1⟩
    have hD := hD.up hb1
    have hB := nx hB hb1
    clear hb1
    clear e0 e1 e2 e3 e4 e5
    obtain ⟨e0, e1, e2, e3, e4, e5⟩ := hD.six
    go_wp2_with fail
    refine (Hm.out _).mono ?_
    rintro e w2 ⟨rfl, hb2⟩
    have hB := nx hB hb2
    clear hb2 hD
    clear e0 e1 e2 e3 e4 e5
    go_wp2_with fail
    go_loopw [8, 20] (fun lv kv wr => ∃ k : Nat, k ≤ 40 ∧ kv = .int .i64 k ∧ wr.ownsRow w2.heap.size 79 3 lv (cnt F k) (xs F X Y k) ∧ Below w2.heap.size w2 wr) (fun _ kv _ => 40 - (intOf kv).toNat)
    case atStart => exact ⟨0, by omega, rfl, World.ownsRow_nil _ _ _ _, Below.refl _ _⟩
    case round =>
      obtain ⟨k, hk, rfl, hO, hB2⟩ := hrel
      by_cases hlt : k < 40
      · have hit : decide ((k : Int) < 40) = true := decide_eq_true (by omega)
        have hix := fun w => Hix.out w k hlt
        have hcl := Hcl.out k
        by_cases hp : 0 < F k
        · have hsp : 0 < S k := (Hst.out k).2 hp
          have hdp : decide ((0 : Int) < (S k : Int)) = true := decide_eq_true (by omega)
          have Hc1 := Lib.hid (Hcut.out k)
          have Hy1 := Lib.hid (Hyes.out k hp)
          generalize S k = s at *
          generalize hcx : X k = cx0 at *
          generalize hcy : Y k = cy0 at *
          have Hxy := Lib.hid (And.intro hcx hcy)
          clear hcx hcy hp
          go_wp2_with fail
          refine (Ho.out _).mono ?_
          rintro e w5 ⟨rfl, hw5⟩
          have hw5 := hw5.symm
          subst hw5
          go_wp2_with fail
          refine (Hc1.out _).mono ?_
          rintro e w6 ⟨rfl, hb6⟩
          have hB6 := nx hB2 hb6
          have hO6 := own_up hO hb6
          have hsz6 := hB6.size
          clear hB2 hb6 hO
          go_wp2_with (at_builtin; refine wpList_append_own _ rfl _ _ 43 rfl w2.heap.size 79 i3 (.agg #[.int .i64 0, .int .i64 0, .int .i64 0]) 3 24 Try.underlying43 H3.out.1 H3.out.2.1 H3.out.2.2.1 H3.out.2.2.2 rfl (by decide) _ _ _ rfl (hO6.alloc _) ⟨w6.heap.size, 0, none⟩ 1 1 [.int .i64 (k : Int), .int .i64 (cx0 : Int), .int .i64 (cy0 : Int)] rfl rfl ?c1 ?c2 ?c3 ?c4 ?c5 ?_)
          case c1 => exact news_three (cells_three _ _ _ _ _)
          case c2 => intro u hu; simp at hu; rcases hu with rfl | rfl | rfl <;> rfl
          case c3 => unfold maxLen; omega
          case c4 => omega
          case c5 => simp; omega
          · intro v' w4 hO4 hg4 _
            have hB4 := (hB6.alloc hsz6 (.cells #[.int .i64 (k : Int), .int .i64 (cx0 : Int), .int .i64 (cy0 : Int)] 79)).grown hg4 (by rw [size_alloc]; omega) (fun t e => (hO6.lt t e).1)
            rw [Hy1.out.1, ← Hy1.out.2] at hO4
            clear hg4 hO6 hB6
            go_wp2_with fail
            go_roundw
            case rel => exact ⟨k + 1, by omega, by go_num, hO4, hB4⟩
            case measure => simp [intOf]; omega
        · have hsp : ¬ 0 < S k := fun x => hp ((Hst.out k).1 x)
          have hdp : decide ((0 : Int) < (S k : Int)) = false := decide_eq_false (by omega)
          have Hn1 := Lib.hid (Hno.out k hp)
          generalize S k = s at *
          clear hp
          go_wp2_with fail
          go_roundw
          case rel => exact ⟨k + 1, by omega, by go_num, by rw [Hn1.out.1, Hn1.out.2]; exact hO, hB2⟩
          case measure => simp [intOf]; omega
      · obtain rfl : k = 40 := by omega
        have hit : decide ((40 : Int) < 40) = false := by decide
        rw [← H40.out.1, ← H40.out.2, Hxv.out] at hO
        obtain ⟨A', c', rfl, hI⟩ := ends_own hO
        go_wp2_with fail
        go_ret2
        exact ⟨_, _, rfl, hI.mono hB.size, hB.trans (hB2.mono hB.size)⟩

set_option maxRecDepth 100000 in
set_option maxHeartbeats 16000000 in
theorem specEndsL_any (d : Nat → Int) (bad h : Int) (w : World) :
    Calls Try.prog 35 #[dv d, .int .i64 bad, .int .i64 h] w fun e w' => ∃ A c, e = .returned (.tuple #[.slice A (lenE d bad h) c, .bool (okT d bad h)]) ∧ EndAt w.heap.size w' A (lenE d bad h) (efE d bad h) ∧ Below w.heap.size w w' := by
  have hc := fun w => l7Turn_any d bad h w
  unfold dv at hc
  have Hc := Lib.hid hc; clear hc
  cases hok : okT d bad h
  · rw [hok] at Hc
    rw [lenE_no hok]
    clear hok
    unfold dv
    have hB := na (na (n0 w) (sixO d 22)) (.cells #[] 79)
    have hD := (At.new6 w d 22 rfl).past (.cells #[] 79)
    have hO := World.ownsRow_made (w.alloc (sixO d 22)) (e := 79) (size := 3) #[] 0 (base := w.heap.size + 1) (by rw [size_alloc]; exact Nat.le_refl _) (by decide) rfl
    rw [size_alloc] at hO
    obtain ⟨e0, e1, e2, e3, e4, e5⟩ := hD.six
    go_enter Try.func35, Try.ntmps35
    go_wp2_with fail
    refine (Hc.out _).mono ?_
    rintro e w1 ⟨rfl, hb1⟩
    clear e0 e1 e2 e3 e4 e5
    go_wp2_with fail
    go_ret2
    exact ⟨_, _, rfl, .inl rfl, nx hB hb1⟩
  · rw [hok] at Hc
    obtain ⟨hr, ⟨hb1, hb2⟩, h1, h2⟩ := of_okT hok
    obtain ⟨bad, rfl⟩ : ∃ m : Nat, bad = m := ⟨bad.toNat, by omega⟩
    obtain ⟨h, rfl⟩ : ∃ m : Nat, h = m := ⟨h.toNat, by omega⟩
    rw [lenE_yes hok]
    unfold efE
    simp only [Int.toNat_natCast]
    have hd := faces_of hr
    generalize face d = f at *
    clear hok hr
    have hh1 : 1 ≤ h := by omega
    have hh2 : h ≤ 10 := by omega
    have hfp : ∀ j, j < 6 → 1 ≤ f j := fun j hj => (hd j hj).2.1
    have hf30 : ∀ j, j < 6 → f j ≤ 30 := fun j hj => (hd j hj).2.2
    obtain ⟨i3, hi3, hz0, hz1, hz2⟩ := info_parts info3
    have H3 := Lib.hid (And.intro hi3 (And.intro hz0 (And.intro hz1 hz2)))
    clear hi3 hz0 hz1 hz2
    have Hcl := Lib.hid (fun n => cnt_le (outS f bad h h) n)
    have Hlen := Lib.hid (fun n => xs_len (outS f bad h h) (eX f bad h) (eY f bad h) n)
    have Hyes := Lib.hid (fun n (x : 0 < outS f bad h h n) => xs_yes (X := eX f bad h) (Y := eY f bad h) x)
    have Hno := Lib.hid (fun n (x : ¬ 0 < outS f bad h h n) => xs_no (X := eX f bad h) (Y := eY f bad h) x)
    have hm := fun w => specEnds_any d f bad h w hd hh1 hh2
    unfold dv at hm
    have Hm := Lib.hid hm; clear hm hd
    have Ho := Lib.hid (fun w => l2AllL h w (by omega))
    rw [show all6 h = 6 ^ h from rfl] at Ho
    have hpw := pow_ten hh2
    have hcut : ∀ t w, Calls Try.prog 55 #[.int .i64 (outS f bad h h t : Nat), .int .i64 (6 ^ h : Nat)] w fun e w' => e = .returned (v2 (eX f bad h t : Nat) (eY f bad h t : Nat)) ∧ Below w.heap.size w w' := fun t w => FracL.cutL _ _ w (by have := out_small (f := f) (bad := bad) hh1 hh2 t; omega) (by omega) hpw.2
    have Hcut := Lib.hid hcut
    have Hxv := Lib.hid (xs_vals (outS f bad h h) (eX f bad h) (eY f bad h) 41)
    clear hcut hfp hf30 hpw
    generalize ef (outS f bad h h) (eX f bad h) (eY f bad h) 41 = E at *
    generalize eX f bad h = X at *
    generalize eY f bad h = Y at *
    generalize outS f bad h h = F at *
    generalize 6 ^ h = V at *
    unfold dv
    have hB := na (na (n0 w) (sixO d 22)) (.cells #[] 79)
    have hD := (At.new6 w d 22 rfl).past (.cells #[] 79)
    have hO := World.ownsRow_made (w.alloc (sixO d 22)) (e := 79) (size := 3) #[] 0 (base := w.heap.size + 1) (by rw [size_alloc]; exact Nat.le_refl _) (by decide) rfl
    rw [size_alloc] at hO
    obtain ⟨e0, e1, e2, e3, e4, e5⟩ := hD.six
    go_enter Try.func35, Try.ntmps35
    go_wp2_with fail
    refine (Hc.out _).mono ?_
    rintro e w1 ⟨rfl, hb1⟩
    have hDl := hD.lt
    have hO := own_up hO hb1
    have hD := hD.up hb1
    have hsz := hb1.size
    rw [size_alloc, size_alloc] at hsz
    have hB := nx hB hb1
    clear hb1
    clear e0 e1 e2 e3 e4 e5
    obtain ⟨e0, e1, e2, e3, e4, e5⟩ := hD.six
    go_wp2_with fail
    refine (Hm.out _).mono ?_
    rintro e w2 ⟨rfl, hb2⟩
    have hO := own_up hO hb2
    have hB := nx hB hb2
    have hsz2 := hb2.size
    clear hb2 hD
    clear e0 e1 e2 e3 e4 e5
    obtain ⟨w3, hst, hE3, hB3, hK3⟩ := Big41.store_ex (Big41.fresh w2 (b := w2.heap.size) rfl) (fun t => (F t : Int))
    have hO3 := own_up hO (hb := (n0 w2 |> fun z => (na z (.cells #[.int .i64 0, .int .i64 0, .int .i64 0, .int .i64 0, .int .i64 0, .int .i64 0, .int .i64 0, .int .i64 0, .int .i64 0, .int .i64 0, .int .i64 0, .int .i64 0, .int .i64 0, .int .i64 0, .int .i64 0, .int .i64 0, .int .i64 0, .int .i64 0, .int .i64 0, .int .i64 0, .int .i64 0, .int .i64 0, .int .i64 0, .int .i64 0, .int .i64 0, .int .i64 0, .int .i64 0, .int .i64 0, .int .i64 0, .int .i64 0, .int .i64 0, .int .i64 0, .int .i64 0, .int .i64 0, .int .i64 0, .int .i64 0, .int .i64 0, .int .i64 0, .int .i64 0, .int .i64 0, .int .i64 0] 76)).trans (hB3 w2.heap.size (Nat.le_refl _))))
    have hB4 := (na hB (.cells #[.int .i64 0, .int .i64 0, .int .i64 0, .int .i64 0, .int .i64 0, .int .i64 0, .int .i64 0, .int .i64 0, .int .i64 0, .int .i64 0, .int .i64 0, .int .i64 0, .int .i64 0, .int .i64 0, .int .i64 0, .int .i64 0, .int .i64 0, .int .i64 0, .int .i64 0, .int .i64 0, .int .i64 0, .int .i64 0, .int .i64 0, .int .i64 0, .int .i64 0, .int .i64 0, .int .i64 0, .int .i64 0, .int .i64 0, .int .i64 0, .int .i64 0, .int .i64 0, .int .i64 0, .int .i64 0, .int .i64 0, .int .i64 0, .int .i64 0, .int .i64 0, .int .i64 0, .int .i64 0, .int .i64 0] 76)).trans (hB3 w.heap.size hB.size)
    clear hB3 hK3 hO hB
    go_wp2_with fail
    clear hst
    have hbb : w.heap.size + 2 ≤ w2.heap.size := by omega
    have hne0 : some w2.heap.size ≠ (Value.slice (some ⟨w.heap.size + 1, 0, none⟩) 0 0).ownBlock := fun e => by simp [Value.ownBlock] at e; omega
    generalize w2.heap.size = b at *
    go_loopw [8, 10] (fun lv kv wr => ∃ k : Nat, k ≤ 41 ∧ kv = .int .i64 k ∧ wr.ownsRow (w.heap.size + 1) 79 3 lv (cnt F k) (xs F X Y k) ∧ At wr b 41 (fun t => (F t : Int)) ∧ some b ≠ lv.ownBlock ∧ Below w.heap.size w wr) (fun _ kv _ => 41 - (intOf kv).toNat)
    case atStart => exact ⟨0, by omega, rfl, hO3, hE3, hne0, hB4⟩
    case round =>
      clear hO3 hE3 hB4 hne0
      obtain ⟨k, hk, rfl, hO, hA, hne, hB⟩ := hrel
      by_cases hlt : k < 41
      · have hit : decide ((k : Int) < 41) = true := decide_eq_true (by omega)
        have hcl := Hcl.out k
        have hkl : (k : Int) < 41 := by omega
        by_cases hp : 0 < F k
        · have hdp : decide ((0 : Int) < (F k : Int)) = true := decide_eq_true (by omega)
          have hdpN : decide (0 < F k) = true := decide_eq_true hp
          have Hc1 := Lib.hid (Hcut.out k)
          have Hy1 := Lib.hid (Hyes.out k hp)
          have c0 := hA.cell k hlt
          have ck := hA.drew.cell k hlt
          have HB := Lib.hid hB.drew
          have HA := Lib.hid hA.drew
          have HO := Lib.hid hO.drew
          have HF : Hid ((fun t => (F t : Int)) k = (F k : Int)) := rfl
          clear hB hA hO hp
          generalize hcx : X k = cx0 at *
          generalize hcy : Y k = cy0 at *
          generalize hfk : F k = s at *
          have Hxy := Lib.hid (And.intro hcx (And.intro hcy hfk))
          clear hcx hcy hfk
          go_wp2_with fail
          go_region_held3 (fun w' => w'.cell? ⟨b, k, none⟩ = some (.int .i64 (s : Int))) (go_keep) (first | (go_at_call 56; refine (Ho.out _).mono ?_; rintro e w6 ⟨rfl, hw6⟩; have hw6 := hw6.symm; subst hw6) | (go_at_call 55; refine (Hc1.out _).mono ?_; rintro e w7 ⟨rfl, hb7⟩; have q4 := (HA.out.up hb7).cell k (by omega); rw [HF.out] at q4) | (refine step_append_lies _ (by rfl) _ _ 43 (by rfl) (w.heap.size + 1) 79 i3 (.agg #[.int .i64 0, .int .i64 0, .int .i64 0]) 3 24 Try.underlying43 H3.out.1 H3.out.2.1 H3.out.2.2.1 H3.out.2.2.2 rfl (by decide) _ (cnt F k) (xs F X Y k) (by rfl) ((own_up HO.out hb7).alloc _) ⟨w7.heap.size, 0, none⟩ 1 1 [.int .i64 (k : Int), .int .i64 (cx0 : Int), .int .i64 (cy0 : Int)] (by rfl) rfl (news_three (cells_three _ _ _ _ _)) (by intro u hu; simp at hu; rcases hu with rfl | rfl | rfl <;> rfl) (by omega) (by unfold maxLen; omega) (by omega) (by have := HB.out.size; have := hb7.size; have := HA.out.lt; simp; omega) (w7.heap.size + 1) (by simp) ?_; intro g9 c9 w9 hO9 hg9 hat9 hlt9; have hA9 := keptO ((HA.out.up hb7).past _) hg9 hne; have q6 := hA9.cell k (by omega); rw [HF.out] at q6))
          have hB7 := nx HB.out hb7
          have hB8 := na hB7 (.cells #[.int .i64 (k : Int), .int .i64 (cx0 : Int), .int .i64 (cy0 : Int)] 79)
          have hB9 := hB8.grown hg9 (by have := hB8.size; omega) (fun t e => by have := (HO.out.lt t e).1; omega)
          have hne9 : some b ≠ (Value.slice (some ⟨g9, 0, none⟩) (cnt F k + 1) c9).ownBlock := fun e => by
            have e : b = g9 := by simpa [Value.ownBlock] using e
            have h1 := HA.out.lt
            have h2 := hb7.size
            rcases hat9 with h | h
            · exact hne (by rw [h, e])
            · omega
          rw [Hy1.out.1, ← Hy1.out.2] at hO9
          rw [← Hy1.out.2] at hne9
          clear c0 ck q4 q6 hB7 hB8 hg9 hlt9 hb7 hat9
          rw [← Hy1.out.2]
          go_wp2_with fail
          go_roundw
          case rel => exact ⟨k + 1, by omega, by go_num, hO9, hA9, hne9, hB9⟩
          case measure => simp [intOf]; omega
        · have hdp : decide ((0 : Int) < (F k : Int)) = false := decide_eq_false (by omega)
          have hdpN : decide (0 < F k) = false := decide_eq_false hp
          have Hn1 := Lib.hid (Hno.out k hp)
          have c0 := hA.cell k hlt
          go_wp2_with fail
          go_roundw
          case rel => exact ⟨k + 1, by omega, by go_num, by rw [Hn1.out.1, Hn1.out.2]; exact hO, hA, hne, hB⟩
          case measure => simp [intOf]; omega
      · obtain rfl : k = 41 := by omega
        have hit : decide ((41 : Int) < 41) = false := by decide
        rw [Hxv.out] at hO
        obtain ⟨A', c', rfl, hI⟩ := ends_own hO
        go_wp2_with fail
        go_ret2
        exact ⟨_, _, rfl, hI.mono (by omega), hB⟩


end HEnds
end Go.Proofs.Ytcffglnfdnanhaa
