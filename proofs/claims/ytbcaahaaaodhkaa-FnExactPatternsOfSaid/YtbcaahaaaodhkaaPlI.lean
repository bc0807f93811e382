/-
  The places of all rolls, by the program.
-/
import Derived.Test.YtbcaahaaaodhkaaRows
import Derived.Test.YtbcaahaaaodhkaaSortDn
import Derived.Test.YtbcaahaaaodhkaaPlaces
import Derived.Test.YtbcaahaaaodhkaaRollWM
import Derived.Test.YtbcaahaaaodhkaaIntsM
import Derived.Test.YtbcaahaaaodhkaaPoolW
import Derived.Test.YtbcaahaaaodhkaaAll6
import Derived.Test.YtbcaahaaaodhkaaDicesW
import Derived.Test.YtbcaahaaaodhkaaOpenD
import Derived.WalkKit
import Derived.WalkLawsBesides
import Derived.WalkSpells
import Derived.ProofKit
import Derived.OpenShut
import Derived.Deep.RegionWith
import Derived.Deep.QuietTactic
import Derived.BigQuiet
namespace Go.Proofs.Ytbcaahaaaodhkaa
open Go.ChangeShapes Go.WideShapes Go.ChangeAt Go.RowKit
open Go.ChangeMaps (open_string shut_string)

namespace PlI
open Dice Arr OpenD DieW SortW DicesW PoolW All6 IntsW RollW Places SortDn

/-- Values in an array. -/
structure Vat (w : World) (b n : Nat) (g : Nat → Value) : Prop where
  lt : b < w.heap.size
  cell : ∀ k, k < n → w.cell? ⟨b, k, none⟩ = some (g k)
  free : ∀ k, w.frozen? ⟨b, k, none⟩ = false
theorem Vat.below {w w' : World} {b n B : Nat} {g : Nat → Value} (h : Vat w b n g) (hb : b < B) (hw : Below B w w') : Vat w' b n g :=
  ⟨Nat.lt_of_lt_of_le h.lt hw.size, fun k hk => (hw.cell (p := ⟨b, k, none⟩) hb).trans (h.cell k hk), fun k => (hw.frozen (p := ⟨b, k, none⟩) hb).trans (h.free k)⟩
theorem Vat.up {w w' : World} {b n : Nat} {g : Nat → Value} (h : Vat w b n g) (hw : Below w.heap.size w w') : Vat w' b n g := h.below h.lt hw
theorem Vat.congr {w : World} {b n : Nat} {f g : Nat → Value} (h : Vat w b n f) (e : ∀ k, k < n → f k = g k) : Vat w b n g :=
  ⟨h.lt, fun k hk => by rw [h.cell k hk, e k hk], h.free⟩
theorem Vat.set {w : World} {b n : Nat} {g : Nat → Value} (h : Vat w b n g) {i : Nat} (hi : i < n) (v : Value) : Vat (w.setCell ⟨b, i, none⟩ v) b n (fun k => if k = i then v else g k) := by
  have hs : (w.setCell ⟨b, i, none⟩ v).heap.size = w.heap.size := by simp [World.setCell]
  refine ⟨by rw [hs]; exact h.lt, fun k hk => ?_, fun k => ?_⟩
  · by_cases hki : k = i
    · subst hki
      rw [if_pos rfl]
      exact World.cell?_setCell_same w _ _ (h.cell k hk)
    · rw [if_neg hki, World.cell?_setCell_other w ⟨b, i, none⟩ ⟨b, k, none⟩ _ (fun e => hki (by cases e; rfl))]
      exact h.cell k hk
  · rw [World.frozen?_setCell]
    exact h.free k
theorem Vat.other {w : World} {b n p : Nat} {g : Nat → Value} (h : Vat w b n g) (hp : b ≠ p) (i : Nat) (v : Value) : Vat (w.setCell ⟨p, i, none⟩ v) b n g := by
  have hs : (w.setCell ⟨p, i, none⟩ v).heap.size = w.heap.size := by simp [World.setCell]
  refine ⟨by rw [hs]; exact h.lt, fun k hk => ?_, fun k => ?_⟩
  · rw [World.cell?_setCell_other w ⟨p, i, none⟩ ⟨b, k, none⟩ _ (fun e => hp (by cases e; rfl))]
    exact h.cell k hk
  · rw [World.frozen?_setCell]
    exact h.free k
theorem Vat.drew {w : World} {b n : Nat} {g : Nat → Value} (h : Vat w b n g) : Vat w.drew b n g := ⟨h.lt, fun k hk => h.cell k hk, fun k => h.free k⟩
theorem Vat.keep {w : World} {b n p : Nat} {g : Nat → Value} (h : Vat w b n g) (hp : b < p) (vs : List Value) (o : Nat) : Vat (w.setCells p o vs) b n g := h.below (B := p) hp (setCells_below (Nat.le_refl _) vs o)
theorem Vat.past {w : World} {b n : Nat} {g : Nat → Value} (h : Vat w b n g) (o : Obj) : Vat (w.alloc o) b n g := h.up ((Below.refl _ _).alloc (Nat.le_refl _) o)
/-- A list of lists of numbers in memory, all parts of one array: the rolls of a pool in descending order. -/
def PlacesAt (B : Nat) (w : World) (R b N n : Nat) (P : Nat → Nat → Int) : Prop :=
  B ≤ R ∧ B ≤ b ∧ Vat w R N (fun i => .slice (some ⟨b, i * n, none⟩) n n) ∧ ∃ G, At w b (N * n) G ∧ ∀ i, i < N → ∀ j, j < n → G (i * n + j) = ds (rollF P i n) n j
theorem PlacesAt.up {B : Nat} {w w' : World} {R b N n : Nat} {P : Nat → Nat → Int} (h : PlacesAt B w R b N n P) (hb : Below w.heap.size w w') : PlacesAt B w' R b N n P := by
  obtain ⟨h1, h2, h3, G, h4, h5⟩ := h
  exact ⟨h1, h2, h3.up hb, G, h4.up hb, h5⟩
theorem PlacesAt.below {B C : Nat} {w w' : World} {R b N n : Nat} {P : Nat → Nat → Int} (h : PlacesAt B w R b N n P) (hC : w.heap.size ≤ C) (hb : Below C w w') : PlacesAt B w' R b N n P := by
  obtain ⟨h1, h2, h3, G, h4, h5⟩ := h
  exact ⟨h1, h2, h3.below (Nat.lt_of_lt_of_le h3.lt hC) hb, G, h4.below (Nat.lt_of_lt_of_le h4.lt hC) hb, h5⟩
theorem info_row : (Try.prog.info? 70).map (fun i => (i.zero, i.size, i.bytes)) = some (some (.slice none 0 0), 1, 24) := by kernel_rfl
theorem made_rows (n j : Nat) (h : j < n) : (madeCells (Value.slice none 0 0).cells n).toList[j]? = some (.slice none 0 0) := by
  have e2 : (madeCells (Value.slice none 0 0).cells n) = (Array.range n).map fun _ => Value.slice none 0 0 := by
    unfold madeCells
    congr 1
    funext k
    show (#[Value.slice none 0 0] : Array Value)[k % 1]! = _
    rw [Nat.mod_one]
    rfl
  rw [e2]
  simp [h]
theorem vals_Lf (f : Nat → Int) (n : Nat) : vals n f = (Lf f n).map (Value.int .i64) := by
  unfold vals Lf
  rw [List.map_map]
  rfl
theorem lay_in {G f : Nat → Int} {a n j : Nat} (h : j < n) : lay G a n (Lf f n) (a + j) = f j := by
  unfold lay
  rw [if_pos (by omega), Nat.add_sub_cancel_left, Lf_getD h]
theorem lay_out {G : Nat → Int} {a n j : Nat} {ys : List Int} (h : ¬ (a ≤ j ∧ j < a + n)) : lay G a n ys j = G j := by
  unfold lay
  rw [if_neg h]
/-- A copy of a list of numbers into a part of an array. -/
theorem run_cp {w : World} {b off n c b2 c2 m : Nat} {G f : Nat → Int} (hA : At w b m G) (hof : off + n ≤ m) (hS : At w b2 n f) :
    (Builtin.copy_ #[70, 70] 3 #[.slice (some ⟨b, off, none⟩) n c, .slice (some ⟨b2, 0, none⟩) n c2]).run Try.prog w = .ok (goInt n) (w.setCells b off (vals n f)) := by
  have hrun := run_copy_cells (P := Try.prog) w 70 70 3 3 b off n c ⟨b2, 0, none⟩ n c2 (vals n f) Try.underlying70 (by kernel_rfl) (by rw [vals_len]; exact (Nat.min_self n).symm)
    (fun j v hj => by
      have hlt : j < n := by rw [← vals_len n f]; exact (List.getElem?_eq_some_iff.1 hj).1
      rw [vals_get hlt] at hj
      rw [addr_add, hS.cell j hlt]
      exact hj)
    (fun j hj => by rw [vals_len] at hj; rw [hA.cell (off + j) (by omega)]; rfl) (fun j _ => hA.free _) (vals_one n f)
  rw [vals_len] at hrun
  exact hrun

set_option maxHeartbeats 2000000 in
theorem places_no (A : Option Addr) (n c : Nat) (P : Nat → Nat → Int) (w : World) (h : Row w A n P) (hn : n ≤ maxLen) (hq : isPool n P = false) :
    Calls Try.prog 103 #[.slice A n c] w fun e w' => e = .returned (.tuple #[.slice none 0 0, .bool false]) ∧ Below w.heap.size w w' := by
  have hp := fun w h => implIsPool_any A n c P w h hn
  rw [hq] at hp
  have Hp := Lib.hid hp; clear hp
  go_enter Try.func103, Try.ntmps103
  go_wp2_with fail
  refine (Hp.out _ h).mono ?_
  rintro e w1 ⟨rfl, hb⟩
  go_wp2_with fail
  go_ret2
  exact ⟨rfl, hb⟩

set_option maxRecDepth 20000 in
set_option maxHeartbeats 2000000 in
theorem places_yes (A : Option Addr) (n c : Nat) (P : Nat → Nat → Int) (w : World) (h : Row w A n P) (hn : n ≤ maxLen) (hq : isPool n P = true) :
    Calls Try.prog 103 #[.slice A n c] w fun e w' => ∃ R b, e = .returned (.tuple #[.slice (some ⟨R, 0, none⟩) (all6 n) (all6 n), .bool true]) ∧ PlacesAt w.heap.size w' R b (all6 n) n P ∧ Below w.heap.size w w' := by
  have hp := fun w h => implIsPool_any A n c P w h hn
  have hroll : ∀ (i : Nat), i < all6 n → ∀ w, Row w A n P → Calls Try.prog 85 #[.slice A n c, .int .i64 i] w fun e w' => ∃ b c', e = .returned (.tuple #[.slice (some ⟨b, 0, none⟩) n c', .bool true]) ∧ w.heap.size ≤ b ∧ At w' b n (rollF P i n) ∧ Below w.heap.size w w' := fun i hi w h => by
    have := implRoll_any A n c i P w h hn
    obtain ⟨e1, e2⟩ := yes_roll hq (k := (i : Int)) ⟨by omega, by omega⟩
    rw [e1, e2, Int.toNat_natCast] at this
    refine this.mono ?_
    rintro e w' ⟨A', c', rfl, hI, hb⟩
    obtain ⟨b, rfl, hbb, hat⟩ := hI.at_ (k := 0) (of_pool hq).1
    exact ⟨b, c', rfl, hbb, hat, hb⟩
  have Hroll := Lib.hid hroll; clear hroll
  obtain ⟨h1, h4, _⟩ := of_pool hq
  rw [hq] at hp
  have Hp := Lib.hid hp; clear hp hq
  have Ho := Lib.hid (fun w => outcomes_any n w h4)
  have h6 := all6_le h4
  have H := Lib.hid h; clear h
  generalize all6 n = N at *
  have hm1 : N * n ≤ 5184 := Nat.le_trans (Nat.mul_le_mul h6.1 h4) (by omega)
  go_enter Try.func103, Try.ntmps103
  go_wp2_with fail
  refine (Hp.out _ H.out).mono ?_
  rintro e w1 ⟨rfl, hb⟩
  go_wp2_with fail
  refine (Ho.out _).mono ?_
  rintro e w2 ⟨rfl, hw2⟩
  have hw2 := hw2.symm
  subst hw2
  obtain ⟨i0, hi, hz0, hz1, hz2⟩ := info_parts info_row
  obtain ⟨w3, hr3, hown3, hg3⟩ := run_make_full (P := Try.prog) w1 w1.heap.size 61 70 i0 _ 1 Try.underlying61 hi hz0 hz1 .i64 .i64 N (by rw [hz2]; omega) (by unfold maxLen; omega) (Nat.le_refl _)
  have hb3 : Below w1.heap.size w1 w3 := (Below.refl _ _).grown hg3 (Nat.le_refl _) (fun _ e => by cases e)
  have hV3 : Vat w3 w1.heap.size N (fun _ => .slice none 0 0) := ⟨(hown3.lt _ rfl).2, fun k hk => by rw [hown3.cellAt k (by omega)]; exact made_rows _ _ (by omega), fun k => hown3.frozenAt k⟩
  clear hi hz0 hz1 hz2 hg3 hown3
  obtain ⟨m, hm⟩ : ∃ m, m = N * n := ⟨_, rfl⟩
  have hmm : (N : Int) * (n : Int) = (m : Int) := by rw [hm]; exact (Int.natCast_mul N n).symm
  have hm2 : m ≤ 5184 := by omega
  obtain ⟨j0, hi, hz0, hz1, hz2⟩ := info_parts info_int
  obtain ⟨w4, hr4, hown4, hg4⟩ := run_make_full (P := Try.prog) w3 w3.heap.size 70 3 j0 _ 1 Try.underlying70 hi hz0 hz1 .i64 .i64 m (by rw [hz2]; omega) (by unfold maxLen; omega) (Nat.le_refl _)
  have hb4 : Below w3.heap.size w3 w4 := (Below.refl _ _).grown hg4 (Nat.le_refl _) (fun _ e => by cases e)
  have hA4 : At w4 w3.heap.size m (fun _ => 0) := ⟨(hown4.lt _ rfl).2, fun k hk => by rw [hown4.cellAt k (by omega)]; exact made_ints _ _ (by omega), fun k => hown4.frozenAt k⟩
  clear hi hz0 hz1 hz2 hg4 hown4
  have Hm := Lib.hid hm; clear hm
  have hV4 := hV3.up hb4
  have hB4 := (hb.trans (hb3.mono hb.size)).trans (hb4.mono (Nat.le_trans hb.size hb3.size))
  obtain ⟨R, hR⟩ : ∃ R, R = w1.heap.size := ⟨_, rfl⟩
  obtain ⟨b, hbb⟩ : ∃ b, b = w3.heap.size := ⟨_, rfl⟩
  have Hlt : Hid (w.heap.size ≤ R ∧ R < b) := ⟨by rw [hR]; exact hb.size, by rw [hR, hbb]; exact hV3.lt⟩
  rw [← hR] at hV4 hr3
  rw [← hbb] at hA4 hr4
  clear hV3 hb hb3 hb4 hR hbb
  go_wp2_with fail
  clear hr3 hr4
  go_loopw [25] (fun iv wr => ∃ k : Nat, k ≤ N ∧ iv = .int .i64 k ∧ Below w.heap.size w wr ∧ Vat wr R N (fun i => if i < k then .slice (some ⟨b, i * n, none⟩) n n else .slice none 0 0) ∧ ∃ G, At wr b m G ∧ Hid (∀ i, i < k → ∀ j, j < n → G (i * n + j) = ds (rollF P i n) n j)) (fun iv _ => N - (intOf iv).toNat)
  case atStart => exact ⟨0, by omega, rfl, hB4, hV4.congr fun i _ => by rw [if_neg (by omega)], _, hA4, fun i hi => by omega⟩
  case round =>
    clear hB4 hV4 hA4
    obtain ⟨k, hk, rfl, hB, hV, G, hA, hG⟩ := hrel
    by_cases hlt : k < N
    · have Hrk := Lib.hid (Hroll.out k hlt)
      obtain ⟨a, ha⟩ : ∃ a, a = k * n := ⟨_, rfl⟩
      have hka : (k : Int) * (n : Int) = (a : Int) := by rw [ha]; exact (Int.natCast_mul k n).symm
      have hkb : ((k : Int) + 1) * (n : Int) = (a : Int) + (n : Int) := by rw [Int.add_mul, hka, Int.one_mul]
      have ham : a + n ≤ m := by
        have : (k + 1) * n ≤ N * n := Nat.mul_le_mul_right _ hlt
        rw [Nat.add_mul, Nat.one_mul, ← ha, ← Hm.out] at this
        exact this
      have Ha := Lib.hid ha; clear ha
      go_wp2_with fail
      refine (Hrk.out _ (H.out.below (Nat.le_refl _) hB)).mono ?_
      rintro e w5 ⟨b5, c5, rfl, hb5, hA5, hB5⟩
      have hBx := nx hB hB5
      have hVx := hV.up hB5
      have hAx := hA.up hB5
      clear hB5
      have hcp := run_cp (c := n) (c2 := c5) hAx ham hA5
      go_wp2_with fail
      clear hcp
      have hA6 := At.lay hAx (ys := Lf (rollF P k n) n) (Lf_length _ _) ham
      rw [← vals_Lf] at hA6
      have hB6 := hBx.trans (setCells_below (p := b) (B := w.heap.size) (by have := Hlt.out; omega) (vals n (rollF P k n)) a)
      have hV6 := hVx.keep Hlt.out.2 (vals n (rollF P k n)) a
      clear hAx hBx hVx hA5
      generalize w5.setCells b a (vals n (rollF P k n)) = w6 at *
      refine (sortDown_any b a n n m _ w6 hA6 ham (by omega)).mono ?_
      rintro e w7 ⟨rfl, hA7, hB7, hK7⟩
      have hB8 := hB6.trans (hB7 w.heap.size (by have := Hlt.out; omega))
      have hV8 := hV6.below Hlt.out.2 (hB7 b (Nat.le_refl _))
      clear hA6 hB6 hV6 hB7 hK7
      have ck := hV8.cell k hlt
      have zk := hV8.free k
      rw [if_neg (by omega)] at ck
      go_wp2_with fail
      go_roundw
      case rel =>
        have hset := hV8.set hlt (.slice (some ⟨b, a, none⟩) n n)
        refine ⟨k + 1, by omega, by go_num, hB8.setCell (p := ⟨R, k, none⟩) Hlt.out.1 _, hset.congr fun i hi => ?_, _, hA7.other (by have := Hlt.out; omega) _ _, fun i hi j hj => ?_⟩
        · by_cases hik : i = k
          · subst hik
            rw [if_pos rfl, if_pos (by omega), Ha.out]
          · rw [if_neg hik]
            by_cases hik2 : i < k
            · rw [if_pos hik2, if_pos (by omega)]
            · rw [if_neg hik2, if_neg (by omega)]
        · by_cases hik : i = k
          · subst hik
            rw [← Ha.out, seg_in hj]
            exact ds_congr (fun q hq => lay_in hq) j
          · have hil : i < k := by omega
            have h8 : (i + 1) * n ≤ k * n := Nat.mul_le_mul_right _ hil
            rw [Nat.add_mul, Nat.one_mul, ← Ha.out] at h8
            rw [seg_out (by omega), lay_out (by omega)]
            exact hG.out i hil j hj
      case measure => simp [intOf]; omega
    · obtain rfl : k = N := by omega
      go_wp2_with fail
      go_ret2
      exact ⟨R, b, rfl, ⟨Hlt.out.1, by have := Hlt.out; omega, hV.congr fun i hi => by rw [if_pos hi], G, by rw [← Hm.out]; exact hA, hG.out⟩, hB⟩


end PlI
end Go.Proofs.Ytbcaahaaaodhkaa
