/-
  The text of dice, by the specification.
-/
import Derived.Test.YtllcjgladjcoaacDoorRows
import Derived.Test.YtllcjgladjcoaacDoorPText
import Derived.Test.YtllcjgladjcoaacDoorJoin
import Derived.Test.YtllcjgladjcoaacDoorTexts
import Derived.Test.YtllcjgladjcoaacDoorNumW
import Derived.Test.YtllcjgladjcoaacDoorDice
import Derived.Test.YtllcjgladjcoaacDoorArr
import Derived.Test.YtllcjgladjcoaacDoorDieW
import Derived.Test.YtllcjgladjcoaacDoorSortW
import Derived.Test.YtllcjgladjcoaacDoorDicesW
import Derived.Test.YtllcjgladjcoaacDoorPoolW
import Derived.Test.YtllcjgladjcoaacDoorOpenD
import Derived.WalkKit
import Derived.WalkLawsBesides
import Derived.WalkSpells
import Derived.ProofKit
import Derived.OpenShut
import Derived.Deep.RegionWith
import Derived.Deep.QuietTactic
import Derived.BigQuiet
namespace Go.Proofs.YtllcjgladjcoaacDoor
open Go.ChangeShapes Go.WideShapes Go.ChangeAt Go.RowKit
open Go.ChangeMaps (open_string shut_string)

namespace PTextS
open Texts Joined Dice Arr OpenD DieW SortW DicesW PoolW PText

theorem size_mk (l : List UInt8) : (ByteArray.mk l.toArray).size = l.length := List.size_toArray
def bN (x : Int) : ByteArray := ⟨(Lib.itoa x).toArray⟩
def bD (d : Nat → Int) (k : Nat) : ByteArray := ⟨(dt d k).toArray⟩
def bD1 (d : Nat → Int) (k : Nat) : ByteArray := ⟨(dt d k ++ [46]).toArray⟩
def bP (P : Nat → Nat → Int) (k : Nat) : ByteArray := ⟨(pt P k).toArray⟩
def bP1 (P : Nat → Nat → Int) (k : Nat) : ByteArray := ⟨(pt P k ++ [32]).toArray⟩
theorem cat_any (a b : List UInt8) (h : a.length + b.length ≤ 1048576) (w : World) : (Op.stringOp .add (ByteArray.mk a.toArray) (ByteArray.mk b.toArray)).run Tryd.prog w = .ok (.string ⟨(a ++ b).toArray⟩) w := by
  rw [run_string_add_sum w _ _ (by rw [size_mk, size_mk]; omega), ByteArray.mk_append_mk]
theorem cat_dot (d : Nat → Int) (k : Nat) (h : (dt d k).length ≤ 1000000) (w : World) : (Op.stringOp .add (bD d k) (ByteArray.mk #[46])).run Tryd.prog w = .ok (.string (bD1 d k)) w := cat_any (dt d k) [46] (by simp; omega) w
theorem cat_face (d : Nat → Int) (k : Nat) (hk : 0 < k) (h : (dt d k).length ≤ 1000000) (hn : (Lib.itoa (d k)).length ≤ 21) (w : World) : (Op.stringOp .add (bD1 d k) (bN (d k))).run Tryd.prog w = .ok (.string (bD d (k + 1))) w := by
  have := cat_any (dt d k ++ [46]) (Lib.itoa (d k)) (by simp; omega) w
  rw [List.append_assoc] at this
  unfold bD
  rw [dt_succ d hk]
  exact this
theorem cat_blank (P : Nat → Nat → Int) (k : Nat) (h : (pt P k).length ≤ 1000000) (w : World) : (Op.stringOp .add (bP P k) (ByteArray.mk #[32])).run Tryd.prog w = .ok (.string (bP1 P k)) w := cat_any (pt P k) [32] (by simp; omega) w
theorem cat_die (P : Nat → Nat → Int) (k : Nat) (hk : 0 < k) (h : (pt P k).length ≤ 1000000) (hn : (txt (P k)).length ≤ 132) (w : World) : (Op.stringOp .add (bP1 P k) (bD (P k) 6)).run Tryd.prog w = .ok (.string (bP P (k + 1))) w := by
  have := cat_any (pt P k ++ [32]) (txt (P k)) (by simp; omega) w
  rw [List.append_assoc] at this
  unfold bP
  rw [pt_succ P hk]
  exact this
theorem cat_first (P : Nat → Nat → Int) (hn : (txt (P 0)).length ≤ 132) (w : World) : (Op.stringOp .add (bP P 0) (bD (P 0) 6)).run Tryd.prog w = .ok (.string (bP P 1)) w := by
  have := cat_any (pt P 0) (txt (P 0)) (by rw [pt_zero]; simp; omega) w
  rw [pt_zero, List.nil_append] at this
  unfold bP
  rw [pt_one, pt_zero]
  exact this
theorem cat_first' (P : Nat → Nat → Int) (k : Nat) (h0 : k = 0) (hn : (txt (P k)).length ≤ 132) (w : World) : (Op.stringOp .add (bP P k) (bD (P k) 6)).run Tryd.prog w = .ok (.string (bP P (k + 1))) w := by
  subst h0
  exact cat_first P hn w
theorem num_any (n : Int) (w : World) (h0 : 0 ≤ n) (h1 : n ≤ 30) :
    Calls Tryd.prog 33 #[.int .i64 n] w fun e w' => e = .returned (.string (bN n)) ∧ Below w.heap.size w w' := by
  refine (NumW.l1Num_any n w (by omega) (by omega)).mono ?_
  rintro e w' ⟨rfl, q, rfl⟩
  exact ⟨rfl, below_drewN (Below.refl _ _) q⟩
/-- Each face is 0..30. -/
def faced (d : Nat → Int) : Prop := ∀ k, k < 6 → 0 ≤ d k ∧ d k ≤ 30
theorem faced_of {d : Nat → Int} (h : isDie d = true) : faced d := fun k hk => by
  have hu : upto d 6 := of_decide_eq_true h
  have := hu k hk
  exact ⟨this.1, this.2.1⟩

set_option maxHeartbeats 4000000 in
theorem l2Text_any (d : Nat → Int) (hd : faced d) (w : World) :
    Calls Tryd.prog 27 #[dv d] w fun e w' => e = .returned (.string (bD d 6)) ∧ Below w.heap.size w w' := by
  have hD0 := At.new6 w d 33 rfl
  have hB0 := na (n0 w) (sixO d 33)
  have hf0 : bD d 1 = bN (d 0) := by unfold bD bN; rw [dt_one]
  have Hf0 := Lib.hid hf0; clear hf0
  have Hn := Lib.hid (fun (k : Nat) (hk : k < 6) (w : World) => num_any (d k) w (hd k hk).1 (hd k hk).2)
  have Hd := Lib.hid hd; clear hd
  have c0 := hD0.cell 0 (by omega)
  unfold dv
  go_enter Tryd.func27, Tryd.ntmps27
  go_wp2_with fail
  refine (Hn.out 0 (by omega) _).mono ?_
  rintro e w1 ⟨rfl, hb1⟩
  have hB1 := nx hB0 hb1
  have hD1 := hD0.up hb1
  clear c0 hb1 hB0 hD0
  go_wp2_with fail
  go_loopw [3, 4] (fun sv kv wr => ∃ k : Nat, 1 ≤ k ∧ k ≤ 6 ∧ kv = .int .i64 k ∧ sv = .string (bD d k) ∧ Below w.heap.size w wr ∧ At wr w.heap.size 6 d) (fun _ kv _ => 6 - (intOf kv).toNat)
  case atStart => exact ⟨1, by omega, by omega, rfl, by rw [Hf0.out], hB1, hD1⟩
  case round =>
    clear hB1 hD1
    obtain ⟨k, hk1, hk, rfl, rfl, hB, hD⟩ := hrel
    by_cases hlt : k < 6
    · have hkt : decide (k < 6) = true := decide_eq_true hlt
      have hl : (dt d k).length ≤ 1000000 := by have := dt_len d Hd.out k (by omega) (by omega); omega
      have ha := fun w => cat_dot d k hl w
      have hb := fun w => cat_face d k (by omega) hl (digits_small (Hd.out k hlt).1 (Hd.out k hlt).2) w
      have ck := hD.cell k hlt
      clear hl
      go_wp2_with fail
      refine (Hn.out k hlt _).mono ?_
      rintro e w2 ⟨rfl, hb2⟩
      have hB2 := nx hB hb2
      have hD2 := hD.up hb2
      clear hb2 hB hD ck
      go_wp2_with fail
      go_roundw
      case rel => exact ⟨k + 1, by omega, by omega, by go_num, rfl, hB2, hD2⟩
      case measure => simp [intOf]; omega
    · obtain rfl : k = 6 := by omega
      go_wp2_with fail
      go_ret
      exact ⟨rfl, hB⟩

set_option maxHeartbeats 4000000 in
theorem l2Write_any (A : Option Addr) (n c : Nat) (P : Nat → Nat → Int) (w : World) (h : Row w A n P) (hn : n ≤ 4) (hf : ∀ i, i < n → faced (P i)) :
    Calls Tryd.prog 15 #[.slice A n c] w fun e w' => e = .returned (.string (bP P n)) ∧ Below w.heap.size w w' := by
  have H := Lib.hid h; clear h
  have ht := fun (i : Nat) (hi : i < n) (w : World) => l2Text_any (P i) (hf i hi) w
  unfold dv at ht
  have Ht := Lib.hid ht; clear ht
  have Hf := Lib.hid hf; clear hf
  have hz : bP P 0 = ⟨#[]⟩ := by unfold bP; rw [pt_zero]
  have Hz := Lib.hid hz; clear hz
  go_enter Tryd.func15, Tryd.ntmps15
  go_wp2_with fail
  go_loopw [3, 4] (fun sv kv wr => ∃ k : Nat, k ≤ n ∧ kv = .int .i64 k ∧ sv = .string (bP P k) ∧ Below w.heap.size w wr) (fun _ kv _ => n - (intOf kv).toNat)
  case atStart => exact ⟨0, by omega, rfl, by rw [Hz.out], Below.refl _ _⟩
  case round =>
    obtain ⟨k, hk, rfl, rfl, hB⟩ := hrel
    by_cases hlt : k < n
    · have hkt : decide (k < n) = true := decide_eq_true hlt
      obtain ⟨bk, o, rfl, hbk, hc⟩ := (H.out.below (Nat.le_refl _) hB).at_ hlt
      have c0 := hc 0 (by omega)
      have c1 := hc 1 (by omega)
      have c2 := hc 2 (by omega)
      have c3 := hc 3 (by omega)
      have c4 := hc 4 (by omega)
      have c5 := hc 5 (by omega)
      simp only [← Nat.add_assoc, Nat.add_zero] at c0 c1 c2 c3 c4 c5
      clear hc
      have hl : (pt P k).length ≤ 1000000 := by have := pt_len P k (fun i hi => Hf.out i (by omega)); omega
      have hx : (txt (P k)).length ≤ 132 := txt_len (P k) (Hf.out k hlt)
      by_cases h0 : k = 0
      · have hs := fun w => cat_first' P k h0 hx w
        have hkp : decide (0 < k) = false := decide_eq_false (by omega)
        clear hl hx h0
        go_wp2_with fail
        refine (Ht.out k hlt _).mono ?_
        rintro e w2 ⟨rfl, hb2⟩
        go_wp2_with fail
        go_roundw
        case rel => exact ⟨k + 1, by omega, by go_num, rfl, nx hB hb2⟩
        case measure => simp [intOf]; omega
      · have hs := fun w => cat_blank P k hl w
        have hs2 := fun w => cat_die P k (by omega) hl hx w
        have hkp : decide (0 < k) = true := decide_eq_true (by omega)
        clear hl hx
        go_wp2_with fail
        refine (Ht.out k hlt _).mono ?_
        rintro e w2 ⟨rfl, hb2⟩
        go_wp2_with fail
        go_roundw
        case rel => exact ⟨k + 1, by omega, by go_num, rfl, nx hB hb2⟩
        case measure => simp [intOf]; omega
    · obtain rfl : k = n := by omega
      go_wp2_with fail
      go_ret
      exact ⟨rfl, hB⟩

def outT (n : Nat) (P : Nat → Nat → Int) : ByteArray := if isPool n P then bP P n else ⟨#[]⟩
theorem specText_any (A : Option Addr) (n c : Nat) (P : Nat → Nat → Int) (w : World) (h : Row w A n P) (hn : n ≤ maxLen) :
    Calls Tryd.prog 6 #[.slice A n c] w fun e w' => e = .returned (.tuple #[.string (outT n P), .bool (isPool n P)]) ∧ Below w.heap.size w w' := by
  have hp := l2Pool_any A n c P w h hn
  unfold outT
  cases hq : isPool n P
  · rw [hq] at hp
    simp only [Bool.false_eq_true, ↓reduceIte]
    have Hp := Lib.hid hp; clear hp hq h
    go_enter Tryd.func6, Tryd.ntmps6
    go_wp2_with fail
    refine Hp.out.mono ?_
    rintro e w1 ⟨rfl, hb1⟩
    go_wp2_with fail
    go_ret2
    exact ⟨rfl, hb1⟩
  · obtain ⟨h1, h4, hd⟩ := of_pool hq
    rw [hq] at hp
    simp only [↓reduceIte]
    have Hp := Lib.hid hp; clear hp hq
    have Hw := Lib.hid (fun w h => l2Write_any A n c P w h h4 (fun i hi => faced_of (hd i hi)))
    have H := Lib.hid h; clear h hd
    go_enter Tryd.func6, Tryd.ntmps6
    go_wp2_with fail
    refine Hp.out.mono ?_
    rintro e w1 ⟨rfl, hb1⟩
    go_wp2_with fail
    refine (Hw.out _ (H.out.up hb1)).mono ?_
    rintro e w2 ⟨rfl, hb2⟩
    go_wp2_with fail
    go_ret2
    exact ⟨rfl, nx hb1 hb2⟩


end PTextS
end Go.Proofs.YtllcjgladjcoaacDoor
