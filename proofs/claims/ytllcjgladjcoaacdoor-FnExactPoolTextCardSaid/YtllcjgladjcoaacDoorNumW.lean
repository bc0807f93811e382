/-
  Contracts of the function that writes a number's decimal text by recursion, for every int.
-/
import Derived.Test.YtllcjgladjcoaacDoorRows
import Derived.WalkKit
import Derived.WalkLawsBesides
import Derived.WalkSpells
import Derived.Lib.Hide
import Derived.Lib.ItoaNum
import Derived.Lib.ItoaLen
import Derived.Lib.ItoaMem
import Derived.Deep.QuietTactic
import Derived.BigQuiet
namespace Go.Proofs.YtllcjgladjcoaacDoor
open Go.RowKit

namespace NumW

/-- The byte of a digit, under a name that simp leaves alone. -/
def digB (n : Nat) : UInt8 := UInt8.ofNat (48 + n)
theorem dig_fin : ∀ i : Fin 10, (ByteArray.mk #[48, 49, 50, 51, 52, 53, 54, 55, 56, 57]).extract i.val (i.val + 1) = ⟨#[digB i.val]⟩ := by decide +kernel
theorem dig_ext {n : Nat} (h : n < 10) : (ByteArray.mk #[48, 49, 50, 51, 52, 53, 54, 55, 56, 57]).extract n (n + 1) = ⟨#[digB n]⟩ := dig_fin ⟨n, h⟩
theorem dec_one {n : Nat} (h : n < 10) : Lib.decDigits n = [digB n] := by rw [Lib.decDigits, dif_pos h]; rfl
theorem dec_more {n : Nat} (h : ¬ n < 10) : Lib.decDigits n = Lib.decDigits (n / 10) ++ [digB (n % 10)] := by rw [Lib.decDigits, dif_neg h]; rfl
theorem append_mk (a b : List UInt8) : (ByteArray.mk a.toArray) ++ (ByteArray.mk b.toArray) = ByteArray.mk (a ++ b).toArray := by
  apply ByteArray.ext; simp

theorem dec_len (n : Nat) (h : n ≤ 9223372036854775807) : (Lib.decDigits n).length ≤ 21 := by
  have := Lib.itoa_length_le (n : Int) (by omega) (by omega)
  rwa [Lib.itoa_nonneg] at this
theorem run_more (n : Nat) (h10 : ¬ n < 10) (h : n ≤ 9223372036854775807) (w : World) :
    (Op.stringOp .add (ByteArray.mk (Lib.decDigits ((n : Int) / 10).toNat).toArray) (ByteArray.mk #[digB (n % 10)])).run Tryd.prog w = .ok (.string ⟨(Lib.decDigits n).toArray⟩) w := by
  have hl := dec_len (n / 10) (by omega)
  rw [show ((n : Int) / 10).toNat = n / 10 by omega, dec_more h10]
  rw [run_string_add_sum w _ _ (by simp [ByteArray.size]; omega)]
  rw [show (ByteArray.mk #[digB (n % 10)]) = ByteArray.mk [digB (n % 10)].toArray from rfl, ByteArray.mk_append_mk]

theorem run_dig (d : Int) (h0 : 0 ≤ d) (h1 : d < 10) (w : World) :
    (Instr.slice 9 (.string (ByteArray.mk #[48, 49, 50, 51, 52, 53, 54, 55, 56, 57])) (some (.int .i64 d)) (some (.int .i64 (d + 1))) none).run Tryd.prog w = .ok (.string ⟨#[digB d.toNat]⟩) w := by
  rw [run_slice_string w 9 _ .i64 .i64 d (d + 1) Tryd.underlying9 h0 (by omega) (by show d + 1 ≤ ((10 : Nat) : Int); omega)]
  rw [show (d + 1).toNat = d.toNat + 1 by omega, dig_ext (by omega)]

theorem l1Num_pos (k : Nat) : ∀ (n : Int) (w : World), 0 ≤ n → n ≤ k → n ≤ 9223372036854775807 →
    Calls Tryd.prog 33 #[.int .i64 n] w fun e w' => e = .returned (.string ⟨(Lib.decDigits n.toNat).toArray⟩) ∧ ∃ q, w' = w.drewN q := by
  induction k with
  | zero =>
    intro n w h0 hk _
    obtain rfl : n = ((0 : Nat) : Int) := by omega
    go_enter Tryd.func33, Tryd.ntmps33
    go_wp2_with fail
    go_ret
    exact ⟨by rw [Int.toNat_natCast, dec_one (by omega)]; exact congrArg (fun b => Ending.returned (.string b)) (dig_ext (n := 0) (by omega)), 0, rfl⟩
  | succ k ih =>
    intro n w h0 hk hb
    obtain ⟨m, rfl⟩ := Int.eq_ofNat_of_zero_le h0
    by_cases h10 : m < 10
    · go_enter Tryd.func33, Tryd.ntmps33
      go_wp2_with fail
      go_ret
      exact ⟨by rw [Int.toNat_natCast, dec_one h10]; exact congrArg (fun b => Ending.returned (.string b)) (dig_ext h10), 0, rfl⟩
    · have hc := Lib.hid (fun w => ih (↑m / 10) w (by omega) (by omega) (by omega)); clear ih
      have h10' : 10 ≤ m := by omega
      have hadd := fun w => run_more m h10 (by omega) w
      have hsl := fun w => run_dig ((m : Int) % 10) (by omega) (by omega) w
      have e1 : IntKind.i64.wrap ((m : Int) / 10) = (m : Int) / 10 := IntWalk.i64_in _ (by omega)
      have e2 : IntKind.i64.wrap ((m : Int) % 10) = (m : Int) % 10 := IntWalk.i64_in _ (by omega)
      have e3 : IntKind.i64.wrap ((m : Int) % 10 + 1) = (m : Int) % 10 + 1 := IntWalk.i64_in _ (by omega)
      have e4 : (m : Int).tmod 10 = (m : Int) % 10 := Int.tmod_eq_emod_of_nonneg h0
      have e5 : ((m : Int) % 10).toNat = m % 10 := by omega
      have e6 : ((m : Int) % 10 + 1).toNat = m % 10 + 1 := by omega
      have b1 : (0 : Int) ≤ (m : Int) % 10 := by omega
      have b2 : (m : Int) % 10 < 10 := by omega
      go_enter Tryd.func33, Tryd.ntmps33
      go_wp2_with fail
      go_quiet ((go_at_call 33; exact Calls.quiet_of (hc.out _)))
      go_wp2_with fail
      go_ret
      rw [Int.toNat_natCast]
      exact ⟨rfl, _, rfl⟩

theorem tdiv_less {n : Int} (h : n < 0) : n.tdiv 10 = -((-n) / 10) := by
  have e : (-(-n)).tdiv 10 = -((-n).tdiv 10) := Int.neg_tdiv (-n) 10
  rw [Int.neg_neg, Int.tdiv_eq_ediv_of_nonneg (by omega : 0 ≤ -n)] at e
  exact e
theorem tmod_less {n : Int} (h : n < 0) : n.tmod 10 = -((-n) % 10) := by
  have e : (-(-n)).tmod 10 = -((-n).tmod 10) := Int.neg_tmod (-n) 10
  rw [Int.neg_neg, Int.tmod_eq_emod_of_nonneg (by omega : 0 ≤ -n)] at e
  exact e
theorem itoa_small {n : Int} (h0 : n < 0) : Lib.itoa n = 45 :: Lib.decDigits (-n).toNat := by
  unfold Lib.itoa
  rw [if_pos h0, show n.natAbs = (-n).toNat by omega]
theorem itoa_more {n : Int} (h0 : ¬ -10 < n) : Lib.itoa n = Lib.itoa (n.tdiv 10) ++ Lib.decDigits (-n.tmod 10).toNat := by
  have q1 := tdiv_less (by omega : n < 0)
  have q2 := tmod_less (by omega : n < 0)
  have b1 : n.tdiv 10 < 0 := by omega
  rw [itoa_small (by omega : n < 0), itoa_small b1, dec_more (by omega : ¬ (-n).toNat < 10), dec_one (by omega : (-n.tmod 10).toNat < 10)]
  rw [show (-n.tmod 10).toNat = (-n).toNat % 10 by omega, show (-n.tdiv 10).toNat = (-n).toNat / 10 by omega]
  rfl
theorem itoa_len (n : Int) (h0 : -9223372036854775808 ≤ n) (h1 : n ≤ 9223372036854775807) : (Lib.itoa n).length ≤ 21 := Lib.itoa_length_le n h0 h1
theorem run_minus (n : Int) (h0 : n < 0) (hb : -9223372036854775808 < n) (w : World) :
    (Op.stringOp .add (ByteArray.mk #[45]) (ByteArray.mk (Lib.decDigits (-n).toNat).toArray)).run Tryd.prog w = .ok (.string ⟨(Lib.itoa n).toArray⟩) w := by
  have hl := dec_len (-n).toNat (by omega)
  rw [run_string_add_sum w _ _ (by simp [ByteArray.size]; omega), itoa_small h0]
  rw [show (ByteArray.mk #[45]) = ByteArray.mk [45].toArray from rfl, ByteArray.mk_append_mk]
  rfl
theorem run_less (n : Int) (h10 : ¬ -10 < n) (hb : -9223372036854775808 ≤ n) (w : World) :
    (Op.stringOp .add (ByteArray.mk (Lib.itoa (n.tdiv 10)).toArray) (ByteArray.mk (Lib.decDigits (-n.tmod 10).toNat).toArray)).run Tryd.prog w = .ok (.string ⟨(Lib.itoa n).toArray⟩) w := by
  have q1 := tdiv_less (by omega : n < 0)
  have q2 := tmod_less (by omega : n < 0)
  have hl := dec_len (-n.tmod 10).toNat (by omega)
  have hm := itoa_len (n.tdiv 10) (by omega) (by omega)
  rw [run_string_add_sum w _ _ (by simp [ByteArray.size]; omega), itoa_more h10, ByteArray.mk_append_mk]

theorem l1Num_neg (k : Nat) : ∀ (n : Int) (w : World), n < 0 → -(k : Int) ≤ n → -9223372036854775808 ≤ n →
    Calls Tryd.prog 33 #[.int .i64 n] w fun e w' => e = .returned (.string ⟨(Lib.itoa n).toArray⟩) ∧ ∃ q, w' = w.drewN q := by
  induction k with
  | zero => intro n w h0 hk _; omega
  | succ k ih =>
    intro n w h0 hk hb
    by_cases h10 : -10 < n
    · have hc := Lib.hid (fun w => l1Num_pos 9 (-n) w (by omega) (by omega) (by omega))
      have hadd := fun w => run_minus n h0 (by omega) w
      go_enter Tryd.func33, Tryd.ntmps33
      go_wp2_with fail
      refine (hc.out _).mono ?_
      rintro e w' ⟨rfl, q, rfl⟩
      go_wp2_with fail
      go_ret
      exact ⟨rfl, _, rfl⟩
    · have q1 := tdiv_less h0
      have q2 := tmod_less h0
      have b1 : n.tdiv 10 < 0 := by omega
      have b2 : -922337203685477580 ≤ n.tdiv 10 := by omega
      have b3 : -10 < n.tmod 10 := by omega
      have b4 : n.tmod 10 ≤ 0 := by omega
      have hc := Lib.hid (fun w => ih (n.tdiv 10) w (by omega) (by omega) (by omega)); clear ih
      have hd := Lib.hid (fun w => l1Num_pos 9 (-n.tmod 10) w (by omega) (by omega) (by omega))
      have hadd := fun w => run_less n h10 hb w
      clear q1 q2
      go_enter Tryd.func33, Tryd.ntmps33
      go_wp2_with fail
      refine (hc.out _).mono ?_
      rintro e w' ⟨rfl, q, rfl⟩
      go_wp2_with fail
      refine (hd.out _).mono ?_
      rintro e w' ⟨rfl, q', rfl⟩
      go_wp2_with fail
      go_ret
      exact ⟨rfl, _, rfl⟩

theorem l1Num_any (n : Int) (w : World) (h0 : -9223372036854775808 ≤ n) (h1 : n ≤ 9223372036854775807) :
    Calls Tryd.prog 33 #[.int .i64 n] w fun e w' => e = .returned (.string ⟨(Lib.itoa n).toArray⟩) ∧ ∃ q, w' = w.drewN q := by
  by_cases h : n < 0
  · exact l1Num_neg (-n).toNat n w h (by omega) h0
  · have := l1Num_pos n.toNat n w (by omega) (by omega) h1
    unfold Lib.itoa
    rwa [if_neg h]

end NumW
end Go.Proofs.YtllcjgladjcoaacDoor
