/-
  The contract of the model's search for a byte in a text.
-/
import Derived.Test.YthmeagmabidniaaRows
import Derived.WalkKit
import Derived.WalkLawsBesides
import Derived.Lib.Hide
namespace Go.Proofs.Ythmeagmabidniaa
open Go.RowKit

namespace StandsW

theorem mem_at (t : ByteArray) (k : Nat) (h : k < t.size) : t[k] ∈ t.data.toList := by
  show t.data[k] ∈ t.data.toList
  exact Array.mem_toList_iff.2 (Array.getElem_mem _)
theorem not_mem_of (t : ByteArray) (c : UInt8) (h : ∀ k (h : k < t.size), (t[k]).toNat ≠ c.toNat) : c ∉ t.data.toList := by
  intro hc
  obtain ⟨k, hk, e⟩ := List.getElem_of_mem hc
  have hk' : k < t.size := by simpa using hk
  exact h k hk' (by rw [← e]; rfl)

/-- The byte stands in the text. -/
theorem stands_yes (s : ByteArray) (c : UInt8) (ci : Int) (hci : ci = c.toNat) (w : World) (hs : s.size ≤ maxLen) (hc : c ∈ s.data.toList) :
    Calls Try.prog 33 #[.string s, .int .u8 ci] w fun e w' => e = .returned (.bool true) ∧ w = w' := by
  unfold maxLen at hs
  have Hc := Lib.hid hc; clear hc
  have Hci := Lib.hid hci; clear hci
  go_enter Try.func33, Try.ntmps33
  go_wp2_with fail
  go_loop [5] (fun i => ∃ k : Nat, k ≤ s.size ∧ i = .int .i64 k ∧ Hid (∀ j (h : j < s.size), j < k → (s[j]).toNat ≠ c.toNat)) (fun i => s.size - (intOf i).toNat)
  case atStart => exact ⟨0, Nat.zero_le _, rfl, fun j _ h => absurd h (Nat.not_lt_zero j)⟩
  case round =>
    obtain ⟨k, hk, rfl, hn⟩ := hrel
    by_cases hlt : k < s.size
    · by_cases heq : (s[k]).toNat = c.toNat
      · have e1 : (((s[k]).toNat : Int) == ci) = true := by rw [Hci.out, heq]; simp
        clear heq
        go_wp2_with fail
        go_ret
        exact ⟨rfl, rfl⟩
      · have e1 : (((s[k]).toNat : Int) == ci) = false := by rw [Hci.out]; simp; omega
        have hnext : Hid (∀ j (h : j < s.size), j < k + 1 → (s[j]).toNat ≠ c.toNat) := fun j h hj => by
          rcases Nat.lt_or_ge j k with h1 | h1
          · exact hn.out j h h1
          · obtain rfl : j = k := by omega
            exact heq
        clear heq hn
        go_wp2_with fail
        go_round
        case rel => exact ⟨k + 1, by omega, by go_num, hnext⟩
        case measure => simp [intOf]; omega
    · exact absurd Hc.out (not_mem_of s c fun j h => hn.out j h (by omega))

/-- The byte does not stand in the text. -/
theorem stands_no (s : ByteArray) (c : UInt8) (ci : Int) (hci : ci = c.toNat) (w : World) (hs : s.size ≤ maxLen) (hc : c ∉ s.data.toList) :
    Calls Try.prog 33 #[.string s, .int .u8 ci] w fun e w' => e = .returned (.bool false) ∧ w = w' := by
  unfold maxLen at hs
  have Hc := Lib.hid hc; clear hc
  have Hci := Lib.hid hci; clear hci
  go_enter Try.func33, Try.ntmps33
  go_wp2_with fail
  go_loop [5] (fun i => ∃ k : Nat, k ≤ s.size ∧ i = .int .i64 k) (fun i => s.size - (intOf i).toNat)
  case atStart => exact ⟨0, Nat.zero_le _, rfl⟩
  case round =>
    obtain ⟨k, hk, rfl⟩ := hrel
    by_cases hlt : k < s.size
    · have e1 : (((s[k]).toNat : Int) == ci) = false := by
        rw [Hci.out]
        have : (s[k]).toNat ≠ c.toNat := fun e => Hc.out (UInt8.toNat_inj.1 e ▸ mem_at s k hlt)
        simp; omega
      go_wp2_with fail
      go_round
      case rel => exact ⟨k + 1, by omega, by go_num⟩
      case measure => simp [intOf]; omega
    · go_wp2_with fail
      go_ret
      exact ⟨rfl, rfl⟩

theorem size_mk (l : List UInt8) : (ByteArray.mk l.toArray).size = l.length := List.size_toArray

end StandsW
end Go.Proofs.Ythmeagmabidniaa
