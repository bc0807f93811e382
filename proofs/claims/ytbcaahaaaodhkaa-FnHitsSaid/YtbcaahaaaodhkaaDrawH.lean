/-
  The draws of chapter 4's hits.
-/
import Derived.Test.YtbcaahaaaodhkaaRows
import Derived.Test.YtbcaahaaaodhkaaPoolD
import Derived.Test.YtbcaahaaaodhkaaDieD
import Derived.Test.YtbcaahaaaodhkaaCurN
import Derived.Test.YtbcaahaaaodhkaaBubW
import Derived.Test.YtbcaahaaaodhkaaDicesW
import Derived.Test.YtbcaahaaaodhkaaSortW
import Derived.Test.YtbcaahaaaodhkaaDieW
import Derived.Test.YtbcaahaaaodhkaaOpenD
import Derived.WalkKit
import Derived.WalkLawsBesides
import Derived.WalkSpells
import Derived.ProofKit
import Derived.OpenShut
import Derived.Deep.RegionWith
import Derived.Deep.QuietTactic
import Derived.BigQuiet
namespace Go.Proofs.Ytbcaahaaaodhkaa
open Go.ChangeShapes Go.WideShapes Go.ChangeAt Go.RowKit
open Go.ChangeMaps (open_string shut_string)

namespace DrawH
open Dice Arr OpenD DieW SortW DicesW CurN BubW DieD PoolD

theorem NsB.part {w : World} {g : Nat} {zs : List Int} (h : NsB w g zs) (k : Nat) : NsB w g (zs.take k) :=
  ⟨h.1, fun j z hz => h.2 j z (by
    have hj : j < (zs.take k).length := (List.getElem?_eq_some_iff.1 hz).1
    rw [List.length_take] at hj
    rw [List.getElem?_take_of_lt (by omega)] at hz
    exact hz)⟩
def bounds : List Int := [4, 5, 3, 6, 2, 0, 9, 31, 32, -1]
def dices : List Int := [1, 2, 0, 3, 4, 5, -1]
theorem Row.but {w w' : World} {p n : Nat} {A : Option Addr} {P : Nat → Nat → Int} (h : Row w A n P) (hA : ∀ b o s, A = some ⟨b, o, s⟩ → b ≠ p) (hu : But p w w') : Row w' A n P := by
  rcases h with h | ⟨b, o, rfl, hb, hc⟩
  · exact .inl h
  · exact .inr ⟨b, o, rfl, Nat.lt_of_lt_of_le hb hu.size, fun i hi k hk => (World.cell?_of_block (w := w) (a := ⟨b, o + (i * 6 + k), none⟩) (hu.2.2.2.2 b hb (hA b o none rfl))).trans (hc i hi k hk)⟩

set_option maxRecDepth 20000 in
set_option maxHeartbeats 8000000 in
theorem drawHit_any (A : Option Addr) (n c : Nat) (w : World) (h : CurN.Code w w.heap.size A n) (hn : n ≤ maxLen) :
    Calls Try.prog 69 #[.slice A n c] w fun e w' => (∃ A' n' c' P b, e = .returned (.tuple #[.slice A' n' c', .int .i64 b]) ∧ n' ≤ 5 ∧ n' ≤ c' ∧ c' ≤ maxLen ∧ Row w' A' n' P ∧ ∀ b o s, A' = some ⟨b, o, s⟩ → w.heap.size ≤ b) ∧ Below w.heap.size w w' := by
  have hcur := cur_made w A n c 84 h
  have Hp := Lib.hid fun K (k : Nat) w' (hc : Cur w' w.heap.size K A n c) hK h0 hk => pick_any w.heap.size K A n c k w' hc hK hn h0 hk
  have Hq := Lib.hid fun K w' (hc : Cur w' w.heap.size K A n c) hK => pool_any w.heap.size K A n c w' hc hK hn
  have Ha := Lib.hid fun K g cp zs w' (hc : Cur w' w.heap.size K A n c) hK h0 hk hg ht => among_any w.heap.size K A n c g cp zs w' hc hK hn h0 hk hg ht
  have hU := But.of_below (p := w.heap.size) (na (n0 w) (.cells #[.slice A n c, .int .i64 0, .int .u64 0] 84))
  have hC := hcur
  clear h hcur
  go_enter Try.func69, Try.ntmps69
  go_wp2_with fail
  refine (Hq.out 0 _ hC (by omega)).mono ?_
  rintro e w1 ⟨⟨A1, n1, c1, P, rfl, h5, hc1, hc2, hR, hA⟩, hw⟩
  have hAB : ∀ b o s, A1 = some ⟨b, o, s⟩ → w.heap.size + 1 ≤ b := fun b o s e => by have := hA b o s e; have := hC.1; omega
  have hA : ∀ b o s, A1 = some ⟨b, o, s⟩ → b ≠ w.heap.size := fun b o s e => by have := hAB b o s e; omega
  have hU := hU.trans hw.2
  have hC := hw.1
  clear hw
  have hns := NsB.made w1 bounds 3
  have hal : Below w1.heap.size w1 (w1.alloc (.cells (bounds.map fun z => Value.int .i64 z).toArray 3)) := na (n0 _) _
  have hR := Row.up hR hal
  have hpl := hC.1
  have hC := hC.below hal
  have hU := hU.trans (But.of_below hal)
  go_wp2_with fail
  refine (Hp.out (0 + 200) 24 _ hC (by omega) (by decide) (by decide)).mono ?_
  rintro e w2 ⟨⟨m, hm, rfl⟩, hw⟩
  have hns := hns.but (Nat.ne_of_gt hpl) hw.2
  have hR := Row.but hR hA hw.2
  have hU := hU.trans hw.2
  have hC := hw.1
  clear hw hal
  have hm2 : m / 11 ≤ 2 := by omega
  have hq : Int.tdiv (m : Int) 11 = ((m / 11 : Nat) : Int) := rfl
  obtain ⟨q, hqq⟩ : ∃ q, q = m / 11 := ⟨_, rfl⟩
  rw [← hqq] at hq hm2
  clear hqq
  have hlen : (bounds.take (8 + q)).length = 8 + q := by rw [List.length_take]; show min (8 + q) 10 = _; omega
  have ha := Ha.out ((0 + 200) + 2) w1.heap.size 10 (bounds.take (8 + q)) w2 hC (by omega) (by rw [hlen]; omega) (by rw [hlen]; omega) (Nat.ne_of_gt hpl) (NsB.part hns _)
  rw [hlen] at ha
  have hA0 := Lib.hid ha
  clear ha hlen hns
  go_wp2_with fail
  refine hA0.out.mono ?_
  rintro e w3 ⟨⟨b, hin, rfl⟩, hw⟩
  have hR := Row.but hR hA hw.2
  have hU := hU.trans hw.2
  have hC := hw.1
  clear hw hA0 hq hm2 hm hpl
  go_wp2_with fail
  go_ret2
  exact ⟨⟨_, _, _, P, b, rfl, h5, hc1, hc2, hR, fun b o s e => by have := hAB b o s e; omega⟩, hU.below (Nat.le_refl _) (Nat.le_refl _)⟩

set_option maxRecDepth 20000 in
set_option maxHeartbeats 8000000 in
theorem drawChance_any (A : Option Addr) (n c : Nat) (w : World) (h : CurN.Code w w.heap.size A n) (hn : n ≤ maxLen) :
    Calls Try.prog 26 #[.slice A n c] w fun e w' => (∃ A' n' c' P b k, e = .returned (.tuple #[.slice A' n' c', .int .i64 b, .int .i64 k]) ∧ n' ≤ 5 ∧ n' ≤ c' ∧ c' ≤ maxLen ∧ Row w' A' n' P ∧ ∀ b o s, A' = some ⟨b, o, s⟩ → w.heap.size ≤ b) ∧ Below w.heap.size w w' := by
  have hcur := cur_made w A n c 84 h
  have Hp := Lib.hid fun K (k : Nat) w' (hc : Cur w' w.heap.size K A n c) hK h0 hk => pick_any w.heap.size K A n c k w' hc hK hn h0 hk
  have Hq := Lib.hid fun K w' (hc : Cur w' w.heap.size K A n c) hK => pool_any w.heap.size K A n c w' hc hK hn
  have Ha := Lib.hid fun K g cp zs w' (hc : Cur w' w.heap.size K A n c) hK h0 hk hg ht => among_any w.heap.size K A n c g cp zs w' hc hK hn h0 hk hg ht
  have hU := But.of_below (p := w.heap.size) (na (n0 w) (.cells #[.slice A n c, .int .i64 0, .int .u64 0] 84))
  have hal0 : Below w.heap.size w (w.alloc (.cells #[.slice A n c, .int .i64 0, .int .u64 0] 84)) := na (n0 w) _
  have Hd := Lib.hid (drawHit_any A n c (w.alloc (.cells #[.slice A n c, .int .i64 0, .int .u64 0] 84)) ((h.below hal0).mono (by rw [size_alloc]; omega)) hn)
  have hC := hcur
  clear h hcur hal0
  go_enter Try.func26, Try.ntmps26
  go_wp2_with fail
  refine Hd.out.mono ?_
  rintro e w1 ⟨⟨A1, n1, c1, P, b, rfl, h5, hc1, hc2, hR, hAB⟩, hb⟩
  have hAB : ∀ b o s, A1 = some ⟨b, o, s⟩ → w.heap.size + 1 ≤ b := fun b o s e => by have := hAB b o s e; rw [size_alloc] at this; omega
  have hA : ∀ b o s, A1 = some ⟨b, o, s⟩ → b ≠ w.heap.size := fun b o s e => by have := hAB b o s e; omega
  have hU := hU.trans (But.of_below hb)
  have hC := hC.below hb
  clear hb Hd
  have hns := NsB.made w1 dices 3
  have hal : Below w1.heap.size w1 (w1.alloc (.cells (dices.map fun z => Value.int .i64 z).toArray 3)) := na (n0 _) _
  have hR := Row.up hR hal
  have hpl := hC.1
  have hC := hC.below hal
  have hU := hU.trans (But.of_below hal)
  go_wp2_with fail
  refine (Hp.out 0 24 _ hC (by omega) (by decide) (by decide)).mono ?_
  rintro e w2 ⟨⟨m, hm, rfl⟩, hw⟩
  have hns := hns.but (Nat.ne_of_gt hpl) hw.2
  have hR := Row.but hR hA hw.2
  have hU := hU.trans hw.2
  have hC := hw.1
  clear hw hal
  have hm2 : m / 11 ≤ 2 := by omega
  have hq : Int.tdiv (m : Int) 11 = ((m / 11 : Nat) : Int) := rfl
  obtain ⟨q, hqq⟩ : ∃ q, q = m / 11 := ⟨_, rfl⟩
  rw [← hqq] at hq hm2
  clear hqq
  have hlen : (dices.take (5 + q)).length = 5 + q := by rw [List.length_take]; show min (5 + q) 7 = _; omega
  have ha := Ha.out (0 + 2) w1.heap.size 7 (dices.take (5 + q)) w2 hC (by omega) (by rw [hlen]; omega) (by rw [hlen]; omega) (Nat.ne_of_gt hpl) (NsB.part hns _)
  rw [hlen] at ha
  have hA0 := Lib.hid ha
  clear ha hlen hns
  go_wp2_with fail
  refine hA0.out.mono ?_
  rintro e w3 ⟨⟨k, hin, rfl⟩, hw⟩
  have hR := Row.but hR hA hw.2
  have hU := hU.trans hw.2
  have hC := hw.1
  clear hw hA0 hq hm2 hm hpl
  go_wp2_with fail
  go_ret3
  exact ⟨⟨_, _, _, P, b, k, rfl, h5, hc1, hc2, hR, fun b o s e => by have := hAB b o s e; omega⟩, hU.below (Nat.le_refl _) (Nat.le_refl _)⟩


end DrawH
end Go.Proofs.Ytbcaahaaaodhkaa
