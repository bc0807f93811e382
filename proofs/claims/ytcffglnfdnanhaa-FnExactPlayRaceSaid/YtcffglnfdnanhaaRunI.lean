/-
  Runs to a goal, by the program: the ways to get there with each roll.
-/
import Derived.Test.YtcffglnfdnanhaaRows
import Derived.Test.YtcffglnfdnanhaaArr
import Derived.Test.YtcffglnfdnanhaaAnyR
import Derived.Test.YtcffglnfdnanhaaDieW
import Derived.Test.YtcffglnfdnanhaaSortW
import Derived.Test.YtcffglnfdnanhaaFracW
import Derived.Test.YtcffglnfdnanhaaAll6
import Derived.Test.YtcffglnfdnanhaaAllL
import Derived.Test.YtcffglnfdnanhaaOwnL
import Derived.Test.YtcffglnfdnanhaaRunM
import Derived.Test.YtcffglnfdnanhaaOpenD
import Derived.WalkKit
import Derived.WalkLawsBesides
import Derived.WalkSpells
import Derived.ProofKit
import Derived.OpenShut
import Derived.Deep.RegionWith
import Derived.Deep.QuietTactic
import Derived.BigQuiet
namespace Go.Proofs.Ytcffglnfdnanhaa
open Go.ChangeShapes Go.WideShapes Go.ChangeAt Go.RowKit
open Go.ChangeMaps (open_string shut_string)

namespace RunI
open Dice Arr DieW SortW FracW All6 AllL OwnL StopM RunM


/-- Six faces as numbers that the program has. -/
def faces (d : Nat → Int) (f : Nat → Nat) : Prop := ∀ j, j < 6 → d j = (f j : Int) ∧ 1 ≤ f j ∧ f j ≤ 30
theorem step_in {f V : Nat → Nat} {g s i : Nat} (hi : i < 6) (h : s + f i < g) : (∀ t, nxt f V (6 * s + i + 1) t = if t = s + f i then nxt f V (6 * s + i) t + V s else nxt f V (6 * s + i) t) ∧ thr f V g (6 * s + i + 1) = thr f V g (6 * s + i) := by
  have e1 : (6 * s + i) / 6 = s := by omega
  have e2 : (6 * s + i) % 6 = i := by omega
  refine ⟨fun t => ?_, ?_⟩
  · show nxt f V (6 * s + i) t + (if (6 * s + i) / 6 + f ((6 * s + i) % 6) = t then V ((6 * s + i) / 6) else 0) = _
    rw [e1, e2]
    by_cases ht : t = s + f i
    · rw [if_pos ht, if_pos ht.symm]
    · rw [if_neg ht, if_neg (fun x => ht x.symm)]; rfl
  · show thr f V g (6 * s + i) + (if g ≤ (6 * s + i) / 6 + f ((6 * s + i) % 6) then V ((6 * s + i) / 6) else 0) = _
    rw [e1, e2, if_neg (by omega)]; rfl
theorem step_out {f V : Nat → Nat} {g s i : Nat} (hi : i < 6) (h : g ≤ s + f i) : (∀ t, t < g → nxt f V (6 * s + i + 1) t = nxt f V (6 * s + i) t) ∧ thr f V g (6 * s + i + 1) = thr f V g (6 * s + i) + V s := by
  have e1 : (6 * s + i) / 6 = s := by omega
  have e2 : (6 * s + i) % 6 = i := by omega
  refine ⟨fun t ht => ?_, ?_⟩
  · show nxt f V (6 * s + i) t + (if (6 * s + i) / 6 + f ((6 * s + i) % 6) = t then V ((6 * s + i) / 6) else 0) = _
    rw [e1, e2, if_neg (by omega)]; rfl
  · show thr f V g (6 * s + i) + (if g ≤ (6 * s + i) / 6 + f ((6 * s + i) % 6) then V ((6 * s + i) / 6) else 0) = _
    rw [e1, e2, if_pos h]
theorem six_part (f : Nat → Nat) (g : Nat) {k : Nat} (s : Nat) (hk : k ≤ 7) : 6 ^ (8 - k) * P f g k s = 6 * (6 ^ (7 - k) * P f g k s) := by
  rw [show 8 - k = (7 - k) + 1 by omega, Nat.pow_succ]
  generalize 6 ^ (7 - k) = a
  generalize P f g k s = b
  grind
theorem put_nxt {f V : Nat → Nat} {m m1 x v : Nat} (h : ∀ t, nxt f V m1 t = if t = x then nxt f V m t + v else nxt f V m t) (t : Nat) : put (fun t => (nxt f V m t : Int)) x ((nxt f V m x : Int) + (v : Int)) t = (nxt f V m1 t : Int) := by
  rw [h t]
  unfold put
  by_cases ht : t = x
  · subst ht; rw [if_pos rfl, if_pos rfl, Int.natCast_add]
  · rw [if_neg ht, if_neg ht]
/-- What bounds one round of rolls. -/
def Small (f V : Nat → Nat) (g : Nat) : Prop := (∀ s, s < g → V s ≤ 1679616) ∧ (∀ m t, m ≤ 6 * g → t < g → nxt f V m t ≤ 1679616) ∧ ∀ m, m ≤ 6 * g → thr f V g m ≤ 1679616
theorem small_part (f : Nat → Nat) {g k a : Nat} (h1 : 1 ≤ g) (ha : a + k ≤ 7) : Small f (fun s => 6 ^ a * P f g k s) g := by
  have hp : 6 ^ a * 6 ^ (k + 1) ≤ 1679616 := by
    rw [← Nat.pow_add]
    exact (pow_six (show a + (k + 1) ≤ 8 by omega)).1
  have hp' : 6 ^ a * 6 ^ k ≤ 1679616 := Nat.le_trans (Nat.mul_le_mul_left _ (Nat.pow_le_pow_right (by omega) (Nat.le_succ k))) hp
  refine ⟨fun s hs => Nat.le_trans (Nat.mul_le_mul_left _ (P_le f h1 hs k)) hp', fun m t hm ht => ?_, fun m hm => ?_⟩
  · rw [nxt_mul]
    exact Nat.le_trans (Nat.mul_le_mul_left _ (Nat.le_trans (nxt_le f _ t hm) (P_le f h1 ht (k + 1)))) hp
  · rw [thr_mul]
    exact Nat.le_trans (Nat.mul_le_mul_left _ (Nat.le_trans (thr_le f _ g hm) (T_le f h1 k))) hp
def endF (f : Nat → Nat) (g k : Nat) (y : Nat) : Nat → Int := fun j => if j < k then (ends f g j : Int) else if j = k then (y : Int) else 0
theorem endF_next (f : Nat → Nat) {g k y : Nat} (h : y = ends f g k) (j : Nat) : endF f g k y j = endF f g (k + 1) 0 j := by
  unfold endF
  by_cases h1 : j < k
  · rw [if_pos h1, if_pos (by omega)]
  · by_cases h2 : j = k
    · subst h2; subst h; rw [if_neg h1, if_pos rfl, if_pos (by omega)]
    · rw [if_neg h1, if_neg h2, if_neg (by omega)]
      split <;> rfl
theorem endF_put (f : Nat → Nat) (g k y y' j : Nat) : put (endF f g k y) k (y' : Int) j = endF f g k y' j := by
  unfold put endF
  by_cases h : j = k
  · subst h; rw [if_pos rfl, if_neg (by omega), if_pos rfl]
  · rw [if_neg h]
    by_cases h1 : j < k
    · rw [if_pos h1, if_pos h1]
    · rw [if_neg h1, if_neg h1, if_neg h, if_neg h]
theorem endF_at (f : Nat → Nat) (g k y : Nat) : endF f g k y k = (y : Int) := by
  unfold endF
  rw [if_neg (by omega), if_pos rfl]

set_option maxRecDepth 100000 in
set_option maxHeartbeats 16000000 in
theorem implEnds_any (d : Nat → Int) (f : Nat → Nat) (g : Nat) (w : World) (hd : faces d f) (h1 : 1 ≤ g) (h8 : g ≤ 8) :
    Calls Try.prog 58 #[dv d, .int .i64 g] w fun e w' => ∃ b, e = .returned (.slice (some ⟨b, 0, none⟩) g g) ∧ w.heap.size ≤ b ∧ At w' b g (fun j => (ends f g j : Int)) ∧ Below w.heap.size w w' := by
  have Ho := Lib.hid (fun w => outcomesL 8 w (by omega))
  rw [show all6 8 = 1679616 from by decide] at Ho
  have hix0 := fun (w : World) (k : Nat) (hk : k < 6) => run_index_vals (P := Try.prog) w 22 3 6 Try.underlying22 Try.underlying3 Try.sizeOf3 d hk
  simp only [← dv_vals] at hix0
  unfold dv at hix0
  have Hix := Lib.hid hix0; clear hix0
  have Hd := Lib.hid hd; clear hd
  unfold dv
  have hB0 := na (n0 w) (sixO d 22)
  have hD0 := At.new6 w d 22 rfl
  obtain ⟨w1, hr1, hE1, hb1⟩ := make_ints (w.alloc (sixO d 22)) g (by omega)
  obtain ⟨w2, hr2, hR2, hb2⟩ := make_ints w1 g (by omega)
  have hB2 := nx (nx hB0 hb1) hb2
  have hD2 := (hD0.up hb1).up hb2
  have hE2 := hE1.up hb2
  have hlt1 := hD0.lt
  have hlt2 := hE1.lt
  obtain ⟨be, hbe⟩ : ∃ b, b = (w.alloc (sixO d 22)).heap.size := ⟨_, rfl⟩
  rw [← hbe] at hr1 hE1 hE2 hlt1 hlt2
  clear hbe hb1 hb2 hD0 hE1 hB0
  obtain ⟨r0, hr⟩ : ∃ r, r = w1.heap.size := ⟨_, rfl⟩
  rw [← hr] at hr2 hR2 hlt2
  clear hr
  have zr := hR2.free 0
  have cr := hR2.cell 0 (by omega)
  go_enter Try.func58, Try.ntmps58
  go_wp2_with fail
  refine (Ho.out _).mono ?_
  rintro e w3 ⟨rfl, hw3⟩
  have hw3 := hw3.symm
  subst hw3
  go_wp2_with fail
  clear hr1 hr2 zr cr Ho
  go_loopw [6, 22] (fun rv kv wr => ∃ k r : Nat, k ≤ g ∧ kv = .int .i64 k ∧ rv = .slice (some ⟨r, 0, none⟩) g g ∧ be < r ∧ At wr r g (fun s => ((6 ^ (8 - k) * P f g k s : Nat) : Int)) ∧ At wr be g (endF f g k 0) ∧ At wr w.heap.size 6 d ∧ Below w.heap.size w wr) (fun _ kv _ => g - (intOf kv).toNat)
  case atStart =>
    refine ⟨0, r0, by omega, rfl, rfl, hlt2, (hR2.set (by omega) _).congr fun s hs => ?_, (hE2.other (by omega) _ _).congr fun j hj => ?_, hD2.other (by omega) _ _, hB2.setCell (p := ⟨r0, 0, none⟩) (by show w.heap.size ≤ r0; omega) _⟩
    · unfold put
      by_cases h0 : s = 0
      · subst h0; rfl
      · rw [if_neg h0]
        show (0 : Int) = ((6 ^ (8 - 0) * (if s = 0 then 1 else 0) : Nat) : Int)
        rw [if_neg h0]; rfl
    · unfold endF
      rw [if_neg (by omega)]
      split <;> rfl
  case round =>
    clear hR2 hE2 hD2 hB2 hlt2
    obtain ⟨k, r, hk, rfl, rfl, hbr, hR, hE, hD, hB⟩ := hrel
    by_cases hlt : k < g
    · have hit : decide ((k : Int) < (g : Int)) = true := decide_eq_true (by omega)
      obtain ⟨V, hV⟩ : ∃ V : Nat → Nat, V = fun s => 6 ^ (7 - k) * P f g k s := ⟨_, rfl⟩
      have hS := small_part f (g := g) (k := k) (a := 7 - k) h1 (by omega)
      rw [← hV] at hS
      have eV : ∀ s, 6 ^ (8 - k) * P f g k s = 6 * V s := by
        intro s
        rw [hV]
        exact six_part f g s (by omega)
      replace hR : At wr r g (fun s => ((6 * V s : Nat) : Int)) := hR.congr fun s _ => by rw [← eV]
      have eN : Hid (∀ t, 6 ^ (8 - (k + 1)) * P f g (k + 1) t = nxt f V (6 * g) t) := fun t => by
        rw [hV, nxt_mul, show 8 - (k + 1) = 7 - k by omega]; rfl
      have eE : Hid (thr f V g (6 * g) = ends f g k) := by
        show thr f V g (6 * g) = ends f g k
        rw [hV, thr_mul]; rfl
      have HS := Lib.hid hS
      clear hV eV hS
      obtain ⟨w3, hr3, hN3, hb3⟩ := make_ints wr g (by omega)
      have hR3 := hR.up hb3
      have hE3 := hE.up hb3
      have hD3 := hD.up hb3
      have hB3 := nx hB hb3
      have hrq := hR.lt
      generalize hq : wr.heap.size = q at *
      clear hq hR hE hD hB hb3
      go_wp2_with fail
      clear hr3
      go_loopw [29] (fun sv wr => ∃ s : Nat, s ≤ g ∧ sv = .int .i64 s ∧ At wr q g (fun t => (nxt f V (6 * s) t : Int)) ∧ At wr be g (endF f g k (thr f V g (6 * s))) ∧ At wr r g (fun s => ((6 * V s : Nat) : Int)) ∧ At wr w.heap.size 6 d ∧ Below w.heap.size w wr) (fun sv _ => g - (intOf sv).toNat)
      case atStart => exact ⟨0, by omega, rfl, hN3.congr fun t _ => rfl, hE3, hR3, hD3, hB3⟩
      case round =>
        clear hN3 hE3 hR3 hD3 hB3
        obtain ⟨s, hs, rfl, hN, hE, hR, hD, hB⟩ := hrel
        by_cases hslt : s < g
        · have hits : decide ((s : Int) < (g : Int)) = true := decide_eq_true (by omega)
          have cs := hR.cell s hslt
          have hVs := HS.out.1 s hslt
          have hdr := hD.six
          obtain ⟨e0, e1, e2, e3, e4, e5⟩ := hdr
          go_wp2_with fail
          clear e0 e1 e2 e3 e4 e5 cs
          go_loopw [35] (fun iv wr => ∃ i : Nat, i ≤ 6 ∧ iv = .int .i64 i ∧ At wr q g (fun t => (nxt f V (6 * s + i) t : Int)) ∧ At wr be g (endF f g k (thr f V g (6 * s + i))) ∧ At wr r g (fun s => ((6 * V s : Nat) : Int)) ∧ At wr w.heap.size 6 d ∧ Below w.heap.size w wr) (fun iv _ => 6 - (intOf iv).toNat)
          case atStart => exact ⟨0, by omega, rfl, hN, hE, hR, hD, hB⟩
          case round =>
            clear hN hE hR hD hB
            obtain ⟨i, hi, rfl, hN, hE, hR, hD, hB⟩ := hrel
            by_cases hi6 : i < 6
            · have hix := fun w => Hix.out w i hi6
              obtain ⟨hdi, hf1, hf30⟩ := Hd.out i hi6
              have hm1 : 6 * s + i ≤ 6 * g := by omega
              have hm2 : 6 * s + i + 1 ≤ 6 * g := by omega
              have hq6 : ((6 * V s : Nat) : Int).tdiv 6 = (V s : Int) := by
                show ((6 * V s / 6 : Nat) : Int) = _
                rw [show 6 * V s / 6 = V s by omega]
              by_cases hge : g ≤ s + f i
              · have hst := step_out (V := V) hi6 hge
                have hdc : decide ((g : Int) ≤ (s : Int) + d i) = true := decide_eq_true (by omega)
                have hw : wrap64 ((s : Int) + d i) = (s : Int) + d i := by unfold wrap64; omega
                have ck := hE.cell k hlt
                rw [endF_at] at ck
                have zk := hE.free k
                have ht1 := HS.out.2.2 _ hm1
                have HT := Lib.hid hst.1
                have HT2 := Lib.hid hst.2
                clear hst
                go_wp2_with fail
                go_roundw
                case rel => exact ⟨i + 1, by omega, by go_num, (hN.other (by omega) _ _).congr fun t ht => by rw [show 6 * s + (i + 1) = 6 * s + i + 1 by omega, HT.out t ht], (hE.set hlt _).congr fun j _ => by rw [show 6 * s + (i + 1) = 6 * s + i + 1 by omega, HT2.out, ← endF_put f g k (thr f V g (6 * s + i)) _ j, Int.natCast_add], hR.other (by omega) _ _, hD.other (by omega) _ _, hB.setCell (p := ⟨be, k, none⟩) (by show w.heap.size ≤ be; omega) _⟩
                case measure => simp [intOf]; omega
              · have hsf : s + f i < g := by omega
                have hst := step_in (V := V) hi6 hsf
                have hdc : decide ((g : Int) ≤ (s : Int) + d i) = false := decide_eq_false (by omega)
                have hw : wrap64 ((s : Int) + d i) = (s : Int) + d i := by unfold wrap64; omega
                have hj : ((s : Int) + d i).toNat = s + f i := by omega
                have hjlt : (s : Int) + d i < (g : Int) := by omega
                have ck := hN.cell (s + f i) hsf
                have zk := hN.free (s + f i)
                have ht1 := HS.out.2.1 _ (s + f i) hm1 hsf
                have HT := Lib.hid hst.1
                have HT2 := Lib.hid hst.2
                clear hst
                go_wp2_with fail
                go_roundw
                case rel =>
                  exact ⟨i + 1, by omega, by go_num, (hN.set hsf _).congr fun t ht => put_nxt HT.out t, (hE.other (by omega) _ _).congr fun j _ => by rw [show 6 * s + (i + 1) = 6 * s + i + 1 from rfl, HT2.out], hR.other (by omega) _ _, hD.other (by omega) _ _, hB.setCell (p := ⟨q, s + f i, none⟩) (by show w.heap.size ≤ q; omega) _⟩
                case measure => simp [intOf]; omega
            · obtain rfl : i = 6 := by omega
              go_wp2_with fail
              go_roundw
              case rel => exact ⟨s + 1, by omega, by go_num, hN, hE, hR, hD, hB⟩
              case measure => simp [intOf]; omega
        · obtain rfl : s = g := by omega
          have hits : decide ((s : Int) < (s : Int)) = false := decide_eq_false (by omega)
          go_wp2_with fail
          go_roundw
          case rel => exact ⟨k + 1, q, by omega, by go_num, rfl, by omega, hN.congr fun t _ => by rw [eN.out], hE.congr fun j _ => by rw [eE.out]; exact endF_next f rfl j, hD, hB⟩
          case measure => simp [intOf]; omega
    · obtain rfl : k = g := by omega
      have hit : decide ((k : Int) < (k : Int)) = false := decide_eq_false (by omega)
      go_wp2_with fail
      go_ret
      refine ⟨be, rfl, by omega, hE.congr fun j hj => ?_, hB⟩
      unfold endF
      rw [if_pos hj]


end RunI
end Go.Proofs.Ytcffglnfdnanhaa
