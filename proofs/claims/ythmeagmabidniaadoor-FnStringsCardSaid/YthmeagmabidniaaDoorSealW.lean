/-
  Contracts of the functions that look for a byte in a text and that append a checksum to it.
-/
import Derived.Test.YthmeagmabidniaaDoorRows
import Derived.Test.YthmeagmabidniaaDoorFormatW
import Derived.Test.YthmeagmabidniaaDoorSumW
import Derived.Test.YthmeagmabidniaaDoorSeal
import Derived.Test.YthmeagmabidniaaDoorShelfStr

namespace Go.Proofs.YthmeagmabidniaaDoor
open Go.RowKit

namespace SealW
open NumW FormatW Strs SumW Seal

theorem mem_at (t : ByteArray) (k : Nat) (h : k < t.size) : t[k] ∈ t.data.toList := by
  show t.data[k] ∈ t.data.toList
  exact Array.mem_toList_iff.2 (Array.getElem_mem _)
theorem not_mem_of (t : ByteArray) (c : UInt8) (h : ∀ k (h : k < t.size), (t[k]).toNat ≠ c.toNat) : c ∉ t.data.toList := by
  intro hc
  obtain ⟨k, hk, e⟩ := List.getElem_of_mem hc
  have hk' : k < t.size := by simpa using hk
  exact h k hk' (by rw [← e]; rfl)

/-- The byte stands in the text. -/
theorem stands_yes (s : ByteArray) (c : UInt8) (ci : Int) (hci : ci = c.toNat) (w : World) (hs : s.size ≤ maxLen) (hc : c ∈ s.data.toList) :
    Calls Tryd.prog 33 #[.string s, .int .u8 ci] w fun e w' => e = .returned (.bool true) ∧ w = w' := by
  unfold maxLen at hs
  have Hc := Lib.hid hc; clear hc
  have Hci := Lib.hid hci; clear hci
  go_enter Tryd.func33, Tryd.ntmps33
  go_wp2_with fail
  go_loop [5] (fun i => ∃ k : Nat, k ≤ s.size ∧ i = .int .i64 k ∧ Hid (∀ j (h : j < s.size), j < k → (s[j]).toNat ≠ c.toNat)) (fun i => s.size - (intOf i).toNat)
  case atStart => exact ⟨0, Nat.zero_le _, rfl, fun j _ h => absurd h (Nat.not_lt_zero j)⟩
  case round =>
    obtain ⟨k, hk, rfl, hn⟩ := hrel
    by_cases hlt : k < s.size
    · by_cases heq : (s[k]).toNat = c.toNat
      · have e1 : (((s[k]).toNat : Int) == ci) = true := by rw [Hci.out, heq]; simp
        clear heq
        go_wp2_with fail
        go_ret
        exact ⟨rfl, rfl⟩
      · have e1 : (((s[k]).toNat : Int) == ci) = false := by rw [Hci.out]; simp; omega
        have hnext : Hid (∀ j (h : j < s.size), j < k + 1 → (s[j]).toNat ≠ c.toNat) := fun j h hj => by
          rcases Nat.lt_or_ge j k with h1 | h1
          · exact hn.out j h h1
          · obtain rfl : j = k := by omega
            exact heq
        clear heq hn
        go_wp2_with fail
        go_round
        case rel => exact ⟨k + 1, by omega, by go_num, hnext⟩
        case measure => simp [intOf]; omega
    · exact absurd Hc.out (not_mem_of s c fun j h => hn.out j h (by omega))

/-- The byte does not stand in the text. -/
theorem stands_no (s : ByteArray) (c : UInt8) (ci : Int) (hci : ci = c.toNat) (w : World) (hs : s.size ≤ maxLen) (hc : c ∉ s.data.toList) :
    Calls Tryd.prog 33 #[.string s, .int .u8 ci] w fun e w' => e = .returned (.bool false) ∧ w = w' := by
  unfold maxLen at hs
  have Hc := Lib.hid hc; clear hc
  have Hci := Lib.hid hci; clear hci
  go_enter Tryd.func33, Tryd.ntmps33
  go_wp2_with fail
  go_loop [5] (fun i => ∃ k : Nat, k ≤ s.size ∧ i = .int .i64 k) (fun i => s.size - (intOf i).toNat)
  case atStart => exact ⟨0, Nat.zero_le _, rfl⟩
  case round =>
    obtain ⟨k, hk, rfl⟩ := hrel
    by_cases hlt : k < s.size
    · have e1 : (((s[k]).toNat : Int) == ci) = false := by
        rw [Hci.out]
        have : (s[k]).toNat ≠ c.toNat := fun e => Hc.out (UInt8.toNat_inj.1 e ▸ mem_at s k hlt)
        simp; omega
      go_wp2_with fail
      go_round
      case rel => exact ⟨k + 1, by omega, by go_num⟩
      case measure => simp [intOf]; omega
    · go_wp2_with fail
      go_ret
      exact ⟨rfl, rfl⟩

theorem size_mk (l : List UInt8) : (ByteArray.mk l.toArray).size = l.length := List.size_toArray

/-- The text with a sign; the text with a sign and its checksum. -/
def mark (s : ByteArray) : ByteArray := s ++ ⟨#[35]⟩
def sealB (s : ByteArray) : ByteArray := ⟨(sealed s.data.toList).toArray⟩
theorem mark_eq (s : ByteArray) : s ++ (ByteArray.mk #[35]) = mark s := rfl
theorem run_mark (s : ByteArray) (hs : s.size ≤ 1048576) (w : World) : (Op.stringOp .add s (ByteArray.mk #[35])).run Tryd.prog w = .ok (.string (mark s)) w := by
  rw [run_string_add_sum w _ _ (by have : (ByteArray.mk #[35]).size = 1 := rfl
                                   omega)]
  rfl
theorem run_seal (s : ByteArray) (hs : s.size ≤ 1048576) (w : World) : (Op.stringOp .add (mark s) (ByteArray.mk (Lib.itoa (chk s.data.toList)).toArray)).run Tryd.prog w = .ok (.string (sealB s)) w := by
  have hl := Seal.itoa_len s.data.toList
  have h1 : (mark s).size = s.size + 1 := by unfold mark; rw [ByteArray.size_append]; rfl
  have h2 := size_mk (Lib.itoa (chk s.data.toList))
  rw [run_string_add_sum w _ _ (by rw [h1, h2]; omega)]
  congr 2
  apply ByteArray.ext
  unfold mark sealB sealed
  simp

theorem l1Seal_any (s : ByteArray) (w : World) (hs : s.size ≤ 1048576) :
    Calls Tryd.prog 34 #[.string s] w fun e w' => e = .returned (.string (sealB s)) ∧ ∃ q, w' = w.drewN q := by
  have hb := chk_bounds s.data.toList
  have h1 := Lib.hid (fun w => l1Sum_any s w (by unfold maxLen; omega))
  have h2 := Lib.hid (fun w => l1Num_any (chk s.data.toList) w (by omega) (by omega))
  have hadd1 := fun w => run_mark s hs w
  have hadd2 := fun w => run_seal s hs w
  go_enter Tryd.func34, Tryd.ntmps34
  go_wp2_with fail
  refine (h1.out _).mono ?_
  rintro e w1 ⟨rfl, rfl⟩
  go_wp2_with fail
  refine (h2.out _).mono ?_
  rintro e w1 ⟨rfl, q, rfl⟩
  go_wp2_with fail
  go_ret
  exact ⟨rfl, _, rfl⟩

/-- What both hand back that append a checksum. -/
def appV (l : List UInt8) : Value := .tuple #[.string ⟨((appR l).getD []).toArray⟩, .bool (appR l).isSome]
theorem appV_none {l : List UInt8} (h : appR l = none) : appV l = .tuple #[.string ⟨#[]⟩, .bool false] := by unfold appV; rw [h]; rfl
theorem appV_some {l m : List UInt8} (h : appR l = some m) : appV l = .tuple #[.string ⟨m.toArray⟩, .bool true] := by unfold appV; rw [h]; rfl

/-- The project's. -/
theorem implApp_any (s : ByteArray) (w : World) (hs : s.size ≤ 1048576) (htab : Lib.TabIs Tryd.prog w "internal/strconv.uint64pow10" .u64 Lib.pow10Tab) :
    Calls Tryd.prog 16 #[.string s] w fun e w' => e = .returned (appV s.data.toList) ∧ Below w.heap.size w w' := by
  have hlen : s.data.toList.length = s.size := by simp
  have hb := chk_bounds s.data.toList
  have hsum := implSum_any s w (by unfold maxLen; omega)
  by_cases h4 : s.size ≤ 4000
  · rw [if_pos h4] at hsum
    have hc := Tryd.strings_Contains_one s 35 w
    by_cases hm : 35 ∈ s.data.toList
    · have hn : appR s.data.toList = none := by unfold appR; rw [if_neg (fun x => x.2.1 hm)]
      rw [decide_eq_true ((mem_index _ _).2 hm)] at hc
      have Hsum := Lib.hid hsum; clear hsum
      have Hc := Lib.hid hc; clear hc
      have Hn := Lib.hid hn; clear hn
      clear hm hlen htab
      go_enter Tryd.func16, Tryd.ntmps16
      go_wp2_with fail
      refine Hsum.out.mono ?_
      rintro e w1 ⟨rfl, rfl⟩
      go_wp2_with fail
      refine Hc.out.mono ?_
      rintro e w1 ⟨rfl, rfl⟩
      go_wp2_with fail
      go_ret2
      exact ⟨by rw [appV_none Hn.out]; rfl, Below.refl _ _⟩
    · rw [decide_eq_false (fun h => hm ((mem_index _ _).1 h))] at hc
      have hf := Lib.hid (implFormat_yes (chk s.data.toList) w (by omega) (by omega) htab)
      have hl := Seal.itoa_len s.data.toList
      have hsl := sealed_len s.data.toList
      rw [hlen] at hsl
      have hz := size_mk (Lib.itoa (chk s.data.toList))
      have Hsum := Lib.hid hsum; clear hsum
      have Hc := Lib.hid hc; clear hc
      by_cases hfit : s.size + 1 + (Lib.itoa (chk s.data.toList)).length ≤ 4000
      · have hn : appR s.data.toList = some (sealed s.data.toList) := by unfold appR; rw [if_pos ⟨by omega, hm, by omega⟩]
        have Hn := Lib.hid hn; clear hn
        have hadd1 := fun w => run_mark s hs w
        have hadd2 := fun w => run_seal s hs w
        have e1 : decide ((4000 : Int) < (s.size : Int) + 1 + ((Lib.itoa (chk s.data.toList)).length : Int)) = false := decide_eq_false (by omega)
        clear hm hlen htab hsl hz
        go_enter Tryd.func16, Tryd.ntmps16
        go_wp2_with fail
        refine Hsum.out.mono ?_
        rintro e w1 ⟨rfl, rfl⟩
        go_wp2_with fail
        refine Hc.out.mono ?_
        rintro e w1 ⟨rfl, rfl⟩
        go_wp2_with fail
        refine hf.out.mono ?_
        rintro e w2 ⟨rfl, hb2⟩
        go_wp2_with fail
        go_ret2
        exact ⟨by rw [appV_some Hn.out]; rfl, hb2⟩
      · have hn : appR s.data.toList = none := by unfold appR; rw [if_neg (fun x => hfit (by have := x.2.2; omega))]
        have Hn := Lib.hid hn; clear hn
        have e1 : decide ((4000 : Int) < (s.size : Int) + 1 + ((Lib.itoa (chk s.data.toList)).length : Int)) = true := decide_eq_true (by omega)
        clear hm hlen htab hsl hz
        go_enter Tryd.func16, Tryd.ntmps16
        go_wp2_with fail
        refine Hsum.out.mono ?_
        rintro e w1 ⟨rfl, rfl⟩
        go_wp2_with fail
        refine Hc.out.mono ?_
        rintro e w1 ⟨rfl, rfl⟩
        go_wp2_with fail
        refine hf.out.mono ?_
        rintro e w2 ⟨rfl, hb2⟩
        go_wp2_with fail
        go_ret2
        exact ⟨by rw [appV_none Hn.out]; rfl, hb2⟩
  · rw [if_neg h4] at hsum
    have hn : appR s.data.toList = none := by unfold appR; rw [if_neg (fun x => h4 (by have := x.1; omega))]
    have Hsum := Lib.hid hsum; clear hsum
    have Hn := Lib.hid hn; clear hn
    clear hlen htab
    go_enter Tryd.func16, Tryd.ntmps16
    go_wp2_with fail
    refine Hsum.out.mono ?_
    rintro e w1 ⟨rfl, rfl⟩
    go_wp2_with fail
    go_ret2
    exact ⟨by rw [appV_none Hn.out]; rfl, Below.refl _ _⟩

/-- The model's. -/
theorem specApp_any (s : ByteArray) (w : World) (hs : s.size ≤ 1048576) :
    Calls Tryd.prog 17 #[.string s] w fun e w' => e = .returned (appV s.data.toList) ∧ ∃ q, w' = w.drewN q := by
  have hlen : s.data.toList.length = s.size := by simp
  by_cases h4 : s.size ≤ 4000
  · have e0 : decide ((4000 : Int) < (s.size : Int)) = false := decide_eq_false (by omega)
    by_cases hm : 35 ∈ s.data.toList
    · have hn : appR s.data.toList = none := by unfold appR; rw [if_neg (fun x => x.2.1 hm)]
      have Hc := Lib.hid (stands_yes s 35 35 rfl w (by unfold maxLen; omega) hm)
      have Hn := Lib.hid hn; clear hn
      clear hm hlen
      go_enter Tryd.func17, Tryd.ntmps17
      go_wp2_with fail
      refine Hc.out.mono ?_
      rintro e w1 ⟨rfl, rfl⟩
      go_wp2_with fail
      go_ret2
      exact ⟨by rw [appV_none Hn.out]; rfl, 0, rfl⟩
    · have Hc := Lib.hid (stands_no s 35 35 rfl w (by unfold maxLen; omega) hm)
      have Hl := Lib.hid (fun w => l1Seal_any s w hs)
      have hsl := sealed_len s.data.toList
      have hl := Seal.itoa_len s.data.toList
      have hz : (sealB s).size = (sealed s.data.toList).length := size_mk _
      by_cases hfit : (sealed s.data.toList).length ≤ 4000
      · have hn : appR s.data.toList = some (sealed s.data.toList) := by unfold appR; rw [if_pos ⟨by omega, hm, hfit⟩]
        have Hn := Lib.hid hn; clear hn
        have e1 : decide ((4000 : Int) < ((sealB s).size : Int)) = false := decide_eq_false (by omega)
        clear hm hlen hsl hz hfit
        go_enter Tryd.func17, Tryd.ntmps17
        go_wp2_with fail
        refine Hc.out.mono ?_
        rintro e w1 ⟨rfl, rfl⟩
        go_wp2_with fail
        refine (Hl.out _).mono ?_
        rintro e w1 ⟨rfl, q, rfl⟩
        go_wp2_with fail
        refine (Hl.out _).mono ?_
        rintro e w1 ⟨rfl, q', rfl⟩
        go_wp2_with fail
        go_ret2
        exact ⟨by rw [appV_some Hn.out]; rfl, _, rfl⟩
      · have hn : appR s.data.toList = none := by unfold appR; rw [if_neg (fun x => hfit x.2.2)]
        have Hn := Lib.hid hn; clear hn
        have e1 : decide ((4000 : Int) < ((sealB s).size : Int)) = true := decide_eq_true (by omega)
        clear hm hlen hsl hz hfit
        go_enter Tryd.func17, Tryd.ntmps17
        go_wp2_with fail
        refine Hc.out.mono ?_
        rintro e w1 ⟨rfl, rfl⟩
        go_wp2_with fail
        refine (Hl.out _).mono ?_
        rintro e w1 ⟨rfl, q, rfl⟩
        go_wp2_with fail
        go_ret2
        exact ⟨by rw [appV_none Hn.out]; rfl, _, rfl⟩
  · have e0 : decide ((4000 : Int) < (s.size : Int)) = true := decide_eq_true (by omega)
    have hn : appR s.data.toList = none := by unfold appR; rw [if_neg (fun x => h4 (by have := x.1; omega))]
    have Hn := Lib.hid hn; clear hn
    clear hlen
    go_enter Tryd.func17, Tryd.ntmps17
    go_wp2_with fail
    go_ret2
    exact ⟨by rw [appV_none Hn.out]; rfl, 0, rfl⟩

end SealW
end Go.Proofs.YthmeagmabidniaaDoor
