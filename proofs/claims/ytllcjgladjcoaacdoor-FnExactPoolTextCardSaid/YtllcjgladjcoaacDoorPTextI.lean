/-
  The text of dice, in the program.
-/
import Derived.Test.YtllcjgladjcoaacDoorRows
import Derived.Test.YtllcjgladjcoaacDoorShelfTxt
import Derived.Test.YtllcjgladjcoaacDoorPTextS
import Derived.Test.YtllcjgladjcoaacDoorPText
import Derived.Test.YtllcjgladjcoaacDoorJoin
import Derived.Test.YtllcjgladjcoaacDoorTexts
import Derived.Test.YtllcjgladjcoaacDoorNumW
import Derived.Test.YtllcjgladjcoaacDoorDice
import Derived.Test.YtllcjgladjcoaacDoorArr
import Derived.Test.YtllcjgladjcoaacDoorDieW
import Derived.Test.YtllcjgladjcoaacDoorSortW
import Derived.Test.YtllcjgladjcoaacDoorDicesW
import Derived.Test.YtllcjgladjcoaacDoorPoolW
import Derived.Test.YtllcjgladjcoaacDoorOpenD
import Derived.WalkKit
import Derived.WalkLawsBesides
import Derived.WalkSpells
import Derived.ProofKit
import Derived.OpenShut
import Derived.Deep.RegionWith
import Derived.Deep.QuietTactic
import Derived.BigQuiet
namespace Go.Proofs.YtllcjgladjcoaacDoor
open Go.ChangeShapes Go.WideShapes Go.ChangeAt Go.RowKit
open Go.ChangeMaps (open_string shut_string)

namespace PTextI
open Texts Joined Dice Arr OpenD DieW SortW DicesW PoolW PText PTextS

theorem info_str : (Tryd.prog.info? 9).map (fun i => (i.zero, i.size, i.bytes)) = some (some (.string ByteArray.empty), 1, 16) := by kernel_rfl
theorem grown_of {w w' : World} {B : Nat} (h : Below B w w') (hB : w.heap.size ≤ B) (row : Option Nat) : w.grownBy w' row := ⟨h.os, h.tape, h.output, h.size, fun k hk _ => h.block k (by omega)⟩
theorem keep_none (v : Value) : v.ownBlock = none ∨ v.ownBlock ≠ none := by cases v.ownBlock <;> simp
/-- Texts as values. -/
def sv (l : List (List UInt8)) : List Value := l.map fun p => Value.string ⟨p.toArray⟩
theorem sv_fl (d : Nat → Int) (k : Nat) : sv (fl d (k + 1)) = sv (fl d k) ++ [.string (bN (d k))] := by rw [fl_succ]; simp [sv, bN]
theorem sv_tl (P : Nat → Nat → Int) (k : Nat) : sv (tl P (k + 1)) = sv (tl P k) ++ [.string (bD (P k) 6)] := by rw [tl_succ]; simp [sv, bD, txt]
theorem join_own {ps : List (List UInt8)} (c : UInt8) {w : World} {B : Nat} {v : Value} (h : w.ownsRow B 9 1 v ps.length (sv ps)) (h0 : 0 < ps.length) (hl : ps.length ≤ 1000) (hj : (jn c ps).length ≤ 100000) :
    Calls Tryd.prog 19 #[v, .string ⟨#[c]⟩] w fun e w' => e = .returned (.string ⟨(jn c ps).toArray⟩) ∧ Below w.heap.size w w' := by
  rcases h.2 with ⟨_, hn⟩ | ⟨g, cap, cur, hv, hb, hg, hc, _⟩
  · omega
  subst hv
  have hid : (ps.map fun p => ByteArray.mk p.toArray).map (·.data.toList) = ps := by
    rw [List.map_map]
    have : ((fun x : ByteArray => x.data.toList) ∘ fun p : List UInt8 => ByteArray.mk p.toArray) = id := by funext p; simp
    rw [this, List.map_id]
  have hq := Tryd.strings_Join g 0 cap (ps.map fun p => ByteArray.mk p.toArray) ⟨#[c]⟩ w (fun j x hx => by
    rw [List.getElem?_map, Option.map_eq_some_iff] at hx
    obtain ⟨p, hp, rfl⟩ := hx
    have hk : j < ps.length := (List.getElem?_eq_some_iff.1 hp).1
    rw [Nat.zero_add, h.cellAt j (by omega)]
    unfold sv
    rw [List.getElem?_map, hp]
    rfl) (h.lt g rfl).2 (by rw [List.length_map]; omega) (by rw [List.length_map]; omega)
  rw [hid, List.length_map] at hq
  have hsl : (ByteArray.mk #[c]).data.toList = [c] := rfl
  rw [hsl] at hq
  exact hq (by show (jn c ps).length ≤ _; omega)
theorem fmt_any (n : Int) (w : World) (h0 : 0 ≤ n) (h1 : n ≤ 30) :
    Calls Tryd.prog 29 #[.int .i64 n] w fun e w' => e = .returned (.tuple #[.string (bN n), .bool true]) ∧ w' = w := by
  obtain ⟨m, rfl⟩ := Int.eq_ofNat_of_zero_le h0
  have hb : bN (m : Int) = ⟨(Lib.decDigits m).toArray⟩ := by
    unfold bN Lib.itoa
    rw [if_neg (by omega)]
    rfl
  rw [hb]
  have hc := Lib.hid (Tryd.strconv_Itoa_small m (by omega) w)
  have e1 : decide ((m : Int) < -999999) = false := decide_eq_false (by omega)
  have e2 : decide (999999 < (m : Int)) = false := decide_eq_false (by omega)
  clear hb
  go_enter Tryd.func29, Tryd.ntmps29
  go_wp2_with fail
  refine hc.out.mono ?_
  rintro e w' ⟨rfl, rfl⟩
  go_wp2_with fail
  go_ret2
  exact ⟨rfl, rfl⟩

set_option maxHeartbeats 4000000 in
theorem dieText_any (d : Nat → Int) (hd : faced d) (w : World) :
    Calls Tryd.prog 18 #[dv d] w fun e w' => e = .returned (.string (bD d 6)) ∧ Below w.heap.size w w' := by
  have hix0 := fun (w : World) (k : Nat) (hk : k < 6) => run_index_vals (P := Tryd.prog) w 33 3 6 Tryd.underlying33 Tryd.underlying3 Tryd.sizeOf3 d hk
  simp only [← dv_vals] at hix0
  unfold dv at hix0
  have Hix := Lib.hid hix0; clear hix0
  have hJ : ∀ (W : World) (B : Nat) (v : Value), W.ownsRow B 9 1 v 6 (sv (fl d 6)) → Calls Tryd.prog 19 #[v, .string ⟨#[46]⟩] W fun e w' => e = .returned (.string (bD d 6)) ∧ Below W.heap.size W w' := fun W B v h =>
    join_own 46 (ps := fl d 6) (by rw [fl_len]; exact h) (by rw [fl_len]; omega) (by rw [fl_len]; omega) (by have := dt_len d hd 6 (by omega) (by omega); unfold dt at this; omega)
  have HJ := Lib.hid hJ; clear hJ
  have Hn := Lib.hid (fun (k : Nat) (hk : k < 6) (w : World) => fmt_any (d k) w (hd k hk).1 (hd k hk).2)
  clear hd
  have hD0 := At.new6 w d 33 rfl
  have hB0 := na (n0 w) (sixO d 33)
  obtain ⟨e0, e1, e2, e3, e4, e5⟩ := hD0.six
  obtain ⟨iS, hi, hz0, hz1, hz2⟩ := info_parts info_str
  have Hi := Lib.hid (And.intro hi (And.intro hz0 (And.intro hz1 hz2)))
  clear hi hz0 hz1 hz2
  unfold dv
  go_enter Tryd.func18, Tryd.ntmps18
  go_wp2_with fail
  clear e0 e1 e2 e3 e4 e5 hD0
  go_loopw [3, 9] (fun lv kv wr => ∃ k : Nat, k ≤ 6 ∧ kv = .int .i64 k ∧ wr.ownsRow w.heap.size 9 1 lv k (sv (fl d k)) ∧ Below w.heap.size w wr) (fun _ kv _ => 6 - (intOf kv).toNat)
  case atStart => exact ⟨0, by omega, rfl, World.ownsRow_nil _ _ _ _, hB0⟩
  case round =>
    clear hB0
    obtain ⟨k, hk, rfl, hO, hB⟩ := hrel
    by_cases hlt : k < 6
    · have hkt : decide (k < 6) = true := decide_eq_true hlt
      have hix := fun w => Hix.out w k hlt
      have hsz := hB.size
      go_wp2_with fail
      refine (Hn.out k hlt _).mono ?_
      rintro e w2 ⟨rfl, rfl⟩
      go_wp2_with (at_builtin; refine wpList_append_own _ rfl _ _ 35 rfl w.heap.size 9 iS (.string ByteArray.empty) 1 16 Tryd.underlying35 Hi.out.1 Hi.out.2.1 Hi.out.2.2.1 Hi.out.2.2.2 rfl (by decide) _ _ _ rfl (hO.alloc _) ⟨w2.heap.size, 0, none⟩ 1 1 [.string (bN (d k))] rfl rfl ?c1 ?c2 ?c3 ?c4 ?c5 ?_)
      case c1 =>
        intro t u ht
        match t, ht with
        | 0, ht => simp at ht; subst ht; simp [Addr.add]
      case c2 => intro u hu; simp at hu; subst hu; rfl
      case c3 => unfold maxLen; omega
      case c4 => omega
      case c5 => simp; omega
      · intro v' w4 hO4 hg4 _
        have hB4 := (na hB (.cells #[.string (bN (d k))] 9)).grown hg4 (by rw [size_alloc]; omega) (fun t e => (hO.lt t e).1)
        have hO5 : w4.ownsRow w.heap.size 9 1 v' (k + 1) (sv (fl d (k + 1))) := by rw [sv_fl]; exact hO4
        clear hg4 hO4 hO hB
        go_wp2_with fail
        go_roundw
        case rel => exact ⟨k + 1, by omega, by go_num, hO5, hB4⟩
        case measure => simp [intOf]; omega
    · obtain rfl : k = 6 := by omega
      go_wp2_with fail
      refine (HJ.out _ _ _ hO).mono ?_
      rintro e w2 ⟨rfl, hb2⟩
      go_wp2_with fail
      go_ret
      exact ⟨rfl, nx hB hb2⟩

set_option maxHeartbeats 4000000 in
theorem implText_any (A : Option Addr) (n c : Nat) (P : Nat → Nat → Int) (w : World) (h : Row w A n P) (hn : n ≤ maxLen) :
    Calls Tryd.prog 8 #[.slice A n c] w fun e w' => e = .returned (.tuple #[.string (outT n P), .bool (isPool n P)]) ∧ Below w.heap.size w w' := by
  have hp := implIsPool_any A n c P w h hn
  unfold outT
  cases hq : isPool n P
  · rw [hq] at hp
    simp only [Bool.false_eq_true, ↓reduceIte]
    have Hp := Lib.hid hp; clear hp hq h
    go_enter Tryd.func8, Tryd.ntmps8
    go_wp2_with fail
    refine Hp.out.mono ?_
    rintro e w1 ⟨rfl, hb1⟩
    go_wp2_with fail
    go_ret2
    exact ⟨rfl, hb1⟩
  · obtain ⟨h1, h4, hd⟩ := of_pool hq
    rw [hq] at hp
    simp only [↓reduceIte]
    have Hp := Lib.hid hp; clear hp hq
    have hf : ∀ i, i < n → faced (P i) := fun i hi => faced_of (hd i hi)
    have hJ : ∀ (W : World) (B : Nat) (v : Value), W.ownsRow B 9 1 v n (sv (tl P n)) → Calls Tryd.prog 19 #[v, .string ⟨#[32]⟩] W fun e w' => e = .returned (.string (bP P n)) ∧ Below W.heap.size W w' := fun W B v h =>
      join_own 32 (ps := tl P n) (by rw [tl_len]; exact h) (by rw [tl_len]; omega) (by rw [tl_len]; omega) (by have := pt_len P n (fun i hi => hf i hi); unfold pt at this; omega)
    have HJ := Lib.hid hJ; clear hJ
    have ht := fun (i : Nat) (hi : i < n) (w : World) => dieText_any (P i) (hf i hi) w
    unfold dv at ht
    have Ht := Lib.hid ht; clear ht hf hd
    have H := Lib.hid h; clear h
    obtain ⟨iS, hi, hz0, hz1, hz2⟩ := info_parts info_str
    have Hi := Lib.hid (And.intro hi (And.intro hz0 (And.intro hz1 hz2)))
    clear hi hz0 hz1 hz2
    go_enter Tryd.func8, Tryd.ntmps8
    go_wp2_with fail
    refine Hp.out.mono ?_
    rintro e w1 ⟨rfl, hB1⟩
    clear Hp
    go_wp2_with fail
    go_loopw [4, 12] (fun lv kv wr => ∃ k : Nat, k ≤ n ∧ kv = .int .i64 k ∧ wr.ownsRow w.heap.size 9 1 lv k (sv (tl P k)) ∧ Below w.heap.size w wr) (fun _ kv _ => n - (intOf kv).toNat)
    case atStart => exact ⟨0, by omega, rfl, World.ownsRow_nil _ _ _ _, hB1⟩
    case round =>
      clear hB1
      obtain ⟨k, hk, rfl, hO, hB⟩ := hrel
      by_cases hlt : k < n
      · have hkt : decide (k < n) = true := decide_eq_true hlt
        obtain ⟨bk, o, rfl, hbk, hc⟩ := (H.out.below (Nat.le_refl _) hB).at_ hlt
        have c0 := hc 0 (by omega)
        have c1 := hc 1 (by omega)
        have c2 := hc 2 (by omega)
        have c3 := hc 3 (by omega)
        have c4 := hc 4 (by omega)
        have c5 := hc 5 (by omega)
        simp only [← Nat.add_assoc, Nat.add_zero] at c0 c1 c2 c3 c4 c5
        clear hc
        go_wp2_with fail
        refine (Ht.out k hlt _).mono ?_
        rintro e w2 ⟨rfl, hb2⟩
        have hO1 := (hO.alloc (sixO (P k) 33)).kept (grown_of hb2 (Nat.le_refl _) none) (keep_none _)
        have hB2 := nx (na hB (sixO (P k) 33)) hb2
        have hsz := hB2.size
        clear c0 c1 c2 c3 c4 c5 hb2 hO hB
        go_wp2_with (at_builtin; refine wpList_append_own _ rfl _ _ 35 rfl w.heap.size 9 iS (.string ByteArray.empty) 1 16 Tryd.underlying35 Hi.out.1 Hi.out.2.1 Hi.out.2.2.1 Hi.out.2.2.2 rfl (by decide) _ _ _ rfl (hO1.alloc _) ⟨w2.heap.size, 0, none⟩ 1 1 [.string (bD (P k) 6)] rfl rfl ?c1 ?c2 ?c3 ?c4 ?c5 ?_)
        case c1 =>
          intro t u ht
          match t, ht with
          | 0, ht => simp at ht; subst ht; simp [Addr.add]
        case c2 => intro u hu; simp at hu; subst hu; rfl
        case c3 => unfold maxLen; omega
        case c4 => omega
        case c5 => simp; omega
        · intro v' w4 hO4 hg4 _
          have hB4 := (na hB2 (.cells #[.string (bD (P k) 6)] 9)).grown hg4 (by rw [size_alloc]; omega) (fun t e => (hO1.lt t e).1)
          have hO5 : w4.ownsRow w.heap.size 9 1 v' (k + 1) (sv (tl P (k + 1))) := by rw [sv_tl]; exact hO4
          clear hg4 hO4 hO1 hB2
          go_wp2_with fail
          go_roundw
          case rel => exact ⟨k + 1, by omega, by go_num, hO5, hB4⟩
          case measure => simp [intOf]; omega
      · obtain rfl : k = n := by omega
        go_wp2_with fail
        refine (HJ.out _ _ _ hO).mono ?_
        rintro e w2 ⟨rfl, hb2⟩
        go_wp2_with fail
        go_ret2
        exact ⟨rfl, nx hB hb2⟩


end PTextI
end Go.Proofs.YtllcjgladjcoaacDoor
