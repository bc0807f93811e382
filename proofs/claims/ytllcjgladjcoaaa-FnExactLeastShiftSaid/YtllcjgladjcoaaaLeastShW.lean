/-
  The least shift with which a die beats another one: contracts of both sides.
-/
import Derived.Test.YtllcjgladjcoaaaRows
import Derived.Test.YtllcjgladjcoaaaCompW
import Derived.Test.YtllcjgladjcoaaaCompS
import Derived.Test.YtllcjgladjcoaaaDuel
import Derived.Test.YtllcjgladjcoaaaDieW
import Derived.Test.YtllcjgladjcoaaaSortW
import Derived.Test.YtllcjgladjcoaaaOpenD
import Derived.WalkKit
import Derived.WalkLawsBesides
import Derived.WalkSpells
import Derived.ProofKit
import Derived.OpenShut
import Derived.Deep.RegionWith
import Derived.Deep.QuietTactic
import Derived.BigQuiet
namespace Go.Proofs.Ytllcjgladjcoaaa
open Go.ChangeShapes Go.WideShapes Go.ChangeAt Go.RowKit
open Go.ChangeMaps (open_string shut_string)

namespace LeastShW
open Dice Arr DieW SortW Duel CompW CompS


/-- The numbers shifted. -/
def sh (d : Nat → Int) (k : Int) (j : Nat) : Int := wrap64 (d j + k)
theorem wrap_id {x : Int} (h1 : -9223372036854775808 ≤ x) (h2 : x ≤ 9223372036854775807) : wrap64 x = x := by
  unfold wrap64
  omega
set_option maxHeartbeats 4000000 in
theorem implShift_any (d : Nat → Int) (k : Int) (w : World) : Calls Try.prog 76 #[dv d, .int .i64 k] w fun e w' => e = .returned (.tuple (if isDie d && isDie (sh d k) then #[dv (sh d k), .bool true] else #[dv fun _ => 0, .bool false])) ∧ Below w.heap.size w w' := by
  have hc := implIsDie_any d
  have hc2 := implIsDie_any (sh d k)
  unfold dv at hc hc2
  have Hc := Lib.hid hc; clear hc
  have Hc2 := Lib.hid hc2; clear hc2
  unfold dv
  cases hf : isDie d
  · rw [hf] at Hc
    simp only [Bool.false_and, Bool.false_eq_true, ↓reduceIte]
    clear hf Hc2
    go_enter Try.func76, Try.ntmps76
    go_wp2_with fail
    refine (Hc.out _).mono ?_
    rintro e w1 ⟨rfl, hb1⟩
    have hbl : Below w.heap.size w w1 := nx (na (na (n0 w) _) _) hb1
    have hr := (At.new6 (w.alloc (sixO d 22)) (fun _ => 0) 22 (b := w.heap.size + 1) (by rw [size_alloc])).up hb1
    clear hb1
    obtain ⟨r0, r1, r2, r3, r4, r5⟩ := hr.six
    obtain ⟨z0, z1, z2, z3, z4, z5⟩ := hr.free6
    go_wp2_with fail
    refine ret_cell_tmp (b := w.heap.size + 1) (n := 6) (f := fun _ => 0) Try.results76 rfl rfl Try.underlying22 (by kernel_rfl) (hr.stored (fun _ => 0)) rfl ⟨rfl, ?_⟩
    exact hbl.trans (setCells_below (w := w1) (p := w.heap.size + 1) (B := w.heap.size) (by omega) (vals 6 (fun _ => 0)) 0)

  have hu : upto d 6 := of_decide_eq_true hf
  rw [hf] at Hc
  clear hf
  cases hg : isDie (sh d k)
  · rw [hg] at Hc2
    simp only [Bool.and_false, Bool.false_eq_true, ↓reduceIte]
    clear hg
    go_enter Try.func76, Try.ntmps76
    go_wp2_with fail
    refine (Hc.out _).mono ?_
    rintro e w1 ⟨rfl, hb1⟩
    have hbl : Below w.heap.size w w1 := nx (na (na (n0 w) _) _) hb1
    have hr := (At.new6 (w.alloc (sixO d 22)) (fun _ => 0) 22 (b := w.heap.size + 1) (by rw [size_alloc])).up hb1
    have hd1 := ((At.new6 w d 22 rfl).past (sixO (fun _ => 0) 22)).up hb1
    clear hb1
    go_wp2_with fail
    go_loopw [11] (fun i wr => ∃ (j : Nat) (f : Nat → Int), j ≤ 6 ∧ i = .int .i64 j ∧ Below w.heap.size w wr ∧ At wr w.heap.size 6 f ∧ At wr (w.heap.size + 1) 6 (fun _ => 0) ∧ Hid (∀ m, m < 6 → f m = if m < j then sh d k m else d m)) (fun i _ => 6 - (intOf i).toNat)
    case atStart => exact ⟨0, d, by omega, rfl, hbl, hd1, hr, fun m hm => by rw [if_neg (by omega)]⟩
    case round =>
      clear hd1 hr
      obtain ⟨j, f, hj, rfl, hb, hf, hr, he⟩ := hrel
      by_cases hlt : j < 6
      · have cj := hf.cell j hlt
        have zj := hf.free j
        have ej := he.out j hlt
        rw [if_neg (by omega)] at ej
        rw [ej] at cj
        have bj := hu j hlt
        clear ej
        go_wp2_with fail
        go_roundw
        case rel =>
          have es : wrap64 (d j + k) = sh d k j := rfl
          refine ⟨j + 1, put f j (sh d k j), by omega, by go_num, ?_, ?_, ?_, ?_⟩
          · rw [es]; exact hb.setCell (p := ⟨w.heap.size, j, none⟩) (by show w.heap.size ≤ w.heap.size; omega) _
          · rw [es]; exact hf.set hlt _
          · rw [es]; exact hr.other (by omega) _ _
          intro m hm
          by_cases hmj : m = j
          · subst hmj
            rw [put_same, if_pos (by omega)]
          · rw [put_other _ hmj, he.out m hm]
            by_cases h1 : m < j
            · rw [if_pos h1, if_pos (by omega)]
            · rw [if_neg h1, if_neg (by omega)]
        case measure => simp [intOf]; omega
      · obtain rfl : j = 6 := by omega
        have hf' : At wr w.heap.size 6 (sh d k) := hf.congr fun m hm => by rw [he.out m hm, if_pos hm]
        obtain ⟨e0, e1, e2, e3, e4, e5⟩ := hf'.six
        go_wp2_with fail
        refine (Hc2.out _).mono ?_
        rintro e w2 ⟨rfl, hb2⟩
        have hbl2 := nx hb hb2
        have hr := hr.up hb2
        obtain ⟨r0, r1, r2, r3, r4, r5⟩ := hr.six
        obtain ⟨z0, z1, z2, z3, z4, z5⟩ := hr.free6
        go_wp2_with fail
        refine ret_cell_tmp (b := w.heap.size + 1) (n := 6) (f := fun _ => 0) Try.results76 rfl rfl Try.underlying22 (by kernel_rfl) (hr.stored (fun _ => 0)) rfl ⟨rfl, ?_⟩
        exact hbl2.trans (setCells_below (w := w2) (p := w.heap.size + 1) (B := w.heap.size) (by omega) (vals 6 (fun _ => 0)) 0)

  · rw [hg] at Hc2
    simp only [Bool.and_self, ↓reduceIte]
    clear hg
    go_enter Try.func76, Try.ntmps76
    go_wp2_with fail
    refine (Hc.out _).mono ?_
    rintro e w1 ⟨rfl, hb1⟩
    have hbl : Below w.heap.size w w1 := nx (na (na (n0 w) _) _) hb1
    have hr := (At.new6 (w.alloc (sixO d 22)) (fun _ => 0) 22 (b := w.heap.size + 1) (by rw [size_alloc])).up hb1
    have hd1 := ((At.new6 w d 22 rfl).past (sixO (fun _ => 0) 22)).up hb1
    clear hb1
    go_wp2_with fail
    go_loopw [11] (fun i wr => ∃ (j : Nat) (f : Nat → Int), j ≤ 6 ∧ i = .int .i64 j ∧ Below w.heap.size w wr ∧ At wr w.heap.size 6 f ∧ At wr (w.heap.size + 1) 6 (fun _ => 0) ∧ Hid (∀ m, m < 6 → f m = if m < j then sh d k m else d m)) (fun i _ => 6 - (intOf i).toNat)
    case atStart => exact ⟨0, d, by omega, rfl, hbl, hd1, hr, fun m hm => by rw [if_neg (by omega)]⟩
    case round =>
      clear hd1 hr
      obtain ⟨j, f, hj, rfl, hb, hf, hr, he⟩ := hrel
      by_cases hlt : j < 6
      · have cj := hf.cell j hlt
        have zj := hf.free j
        have ej := he.out j hlt
        rw [if_neg (by omega)] at ej
        rw [ej] at cj
        have bj := hu j hlt
        clear ej
        go_wp2_with fail
        go_roundw
        case rel =>
          have es : wrap64 (d j + k) = sh d k j := rfl
          refine ⟨j + 1, put f j (sh d k j), by omega, by go_num, ?_, ?_, ?_, ?_⟩
          · rw [es]; exact hb.setCell (p := ⟨w.heap.size, j, none⟩) (by show w.heap.size ≤ w.heap.size; omega) _
          · rw [es]; exact hf.set hlt _
          · rw [es]; exact hr.other (by omega) _ _
          intro m hm
          by_cases hmj : m = j
          · subst hmj
            rw [put_same, if_pos (by omega)]
          · rw [put_other _ hmj, he.out m hm]
            by_cases h1 : m < j
            · rw [if_pos h1, if_pos (by omega)]
            · rw [if_neg h1, if_neg (by omega)]
        case measure => simp [intOf]; omega
      · obtain rfl : j = 6 := by omega
        have hf' : At wr w.heap.size 6 (sh d k) := hf.congr fun m hm => by rw [he.out m hm, if_pos hm]
        obtain ⟨e0, e1, e2, e3, e4, e5⟩ := hf'.six
        go_wp2_with fail
        refine (Hc2.out _).mono ?_
        rintro e w2 ⟨rfl, hb2⟩
        have hbl2 := nx hb hb2
        have hr := hr.up hb2
        obtain ⟨r0, r1, r2, r3, r4, r5⟩ := hr.six
        obtain ⟨z0, z1, z2, z3, z4, z5⟩ := hr.free6
        obtain ⟨y0, y1, y2, y3, y4, y5⟩ := (hf'.up hb2).six
        go_wp2_with fail
        refine ret_cell_tmp (b := w.heap.size + 1) (n := 6) (f := sh d k) Try.results76 rfl rfl Try.underlying22 (by kernel_rfl) (hr.stored (sh d k)) rfl ⟨rfl, ?_⟩
        exact hbl2.trans (setCells_below (w := w2) (p := w.heap.size + 1) (B := w.heap.size) (by omega) (vals 6 (sh d k)) 0)



theorem sh_id {d : Nat → Int} (hd : isDie d = true) {k : Nat} (hk : k ≤ 31) {j : Nat} (hj : j < 6) : sh d k j = d j + k := by
  have := (of_decide_eq_true hd : upto d 6) j hj
  exact wrap_id (by omega) (by omega)
theorem die_sh {d : Nat → Int} (hd : isDie d = true) {k : Nat} (hk : k ≤ 31) : isDie (sh d k) = decide (d 5 + k ≤ 30) := by
  have hu : upto d 6 := of_decide_eq_true hd
  by_cases h : d 5 + k ≤ 30
  · rw [decide_eq_true h]
    refine decide_eq_true (fun j hj => ?_)
    have e := sh_id hd hk hj
    have hj0 := hu j hj
    have h1 := hu 1 (by omega)
    have h2 := hu 2 (by omega)
    have h3 := hu 3 (by omega)
    have h4 := hu 4 (by omega)
    have h5 := hu 5 (by omega)
    simp only [Nat.add_one_sub_one] at h1 h2 h3 h4 h5
    have hle : d j ≤ d 5 := by
      obtain rfl | rfl | rfl | rfl | rfl | rfl : j = 0 ∨ j = 1 ∨ j = 2 ∨ j = 3 ∨ j = 4 ∨ j = 5 := by omega
      all_goals omega
    refine ⟨by omega, by omega, ?_⟩
    by_cases h0 : j = 0
    · exact .inl h0
    · refine .inr ?_
      have e' := sh_id hd hk (show j - 1 < 6 by omega)
      have := hj0.2.2
      omega
  · rw [decide_eq_false h]
    refine decide_eq_false (fun hs => ?_)
    have := (hs 5 (by omega)).2.1
    have e := sh_id hd hk (show 5 < 6 by omega)
    omega
/-- The least shift from k on, if it comes within so many steps. -/
def lsGo (d g : Nat → Int) : Nat → Nat → Int × Bool
  | 0, _ => (0, false)
  | f + 1, k => if isDie (sh d k) then (if beats (sh d k) g then ((k : Int), true) else lsGo d g f (k + 1)) else (0, false)
def ls (d g : Nat → Int) : Int × Bool := lsGo d g 32 0
theorem ls_die {d g : Nat → Int} {k : Nat} (hk : k ≤ 31) (h : ls d g = lsGo d g (32 - k) k) (hd : isDie (sh d k) = false) : ls d g = (0, false) := by
  rw [h, show 32 - k = (31 - k) + 1 by omega, lsGo, hd]
  rfl
theorem ls_yes {d g : Nat → Int} {k : Nat} (hk : k ≤ 31) (h : ls d g = lsGo d g (32 - k) k) (hd : isDie (sh d k) = true) (hb : beats (sh d k) g = true) : ls d g = ((k : Int), true) := by
  rw [h, show 32 - k = (31 - k) + 1 by omega, lsGo, hd, hb]
  rfl
theorem ls_next {d g : Nat → Int} {k : Nat} (hk : k ≤ 31) (h : ls d g = lsGo d g (32 - k) k) (hd : isDie (sh d k) = true) (hb : beats (sh d k) g = false) : ls d g = lsGo d g (32 - (k + 1)) (k + 1) := by
  rw [h, show 32 - k = (31 - k) + 1 by omega, lsGo, hd, hb, show 32 - (k + 1) = 31 - k by omega]
  rfl
theorem shift_lt {d : Nat → Int} (hd : isDie d = true) {k : Nat} (hk : k ≤ 31) (h : isDie (sh d k) = true) : k ≤ 30 := by
  rw [die_sh hd hk] at h
  have h1 := of_decide_eq_true h
  have := (of_decide_eq_true hd : upto d 6) 5 (by omega)
  omega
def outL (d g : Nat → Int) : Array Value := if okD d g then #[.int .i64 (ls d g).1, .bool (ls d g).2] else #[.int .i64 0, .bool false]
theorem outB_split (d g : Nat → Int) : ∃ x, outB d g = #[.bool x, .bool (okD d g)] := by
  obtain ⟨f, _, h⟩ := outC_split d g
  exact ⟨_, h⟩
theorem shift_split (b : Bool) (f : Nat → Int) : ∃ r, (if b then #[dv f, .bool true] else #[dv fun _ => 0, .bool false] : Array Value) = #[dv r, .bool b] ∧ (b = true → r = f) := by
  cases b
  · exact ⟨fun _ => 0, rfl, fun h => by cases h⟩
  · exact ⟨f, rfl, fun _ => rfl⟩
set_option maxRecDepth 100000 in
set_option maxHeartbeats 2000000 in
theorem specLeast_any (a b : Nat → Int) (w : World) :
    Calls Try.prog 50 #[dv a, dv b] w fun e w' => e = .returned (.tuple (outL a b)) ∧ Below w.heap.size w w' := by
  have ha := l2Die_any a
  have hb := l2Die_any b
  have hd1 := (At.new6 w a 22 rfl).past (sixO b 22)
  have hd2 := At.new6 (w.alloc (sixO a 22)) b 22 (b := w.heap.size + 1) (by rw [size_alloc])
  have hB0 := na (na (n0 w) (sixO a 22)) (sixO b 22)
  unfold outL okD
  cases hqa : isDie a
  · rw [hqa] at ha
    simp only [Bool.false_and, Bool.false_eq_true, ↓reduceIte]
    unfold dv at ha
    have Ha := Lib.hid ha; clear ha hb hqa
    unfold dv
    go_enter Try.func50, Try.ntmps50
    go_wp2_with fail
    refine (Ha.out _).mono ?_
    rintro e w1 ⟨rfl, hb1⟩
    go_wp2_with fail
    go_ret2
    exact ⟨rfl, nx hB0 hb1⟩
  cases hqb : isDie b
  · rw [hqa] at ha
    rw [hqb] at hb
    simp only [Bool.and_false, Bool.false_eq_true, ↓reduceIte]
    unfold dv at ha hb
    have Ha := Lib.hid ha; clear ha hqa hqb
    have Hb := Lib.hid hb; clear hb
    unfold dv
    go_enter Try.func50, Try.ntmps50
    go_wp2_with fail
    refine (Ha.out _).mono ?_
    rintro e w1 ⟨rfl, hb1⟩
    obtain ⟨x0, x1, x2, x3, x4, x5⟩ := (hd2.up hb1).six
    go_wp2_with fail
    refine (Hb.out _).mono ?_
    rintro e w2 ⟨rfl, hb2⟩
    go_wp2_with fail
    go_ret2
    exact ⟨rfl, nx (nx hB0 hb1) hb2⟩
  · rw [hqa] at ha
    rw [hqb] at hb
    simp only [Bool.and_self, ↓reduceIte]
    have hl := fun x => l3Beats_any x b
    unfold dv at hl
    have Hl := Lib.hid hl; clear hl
    have Hda := Lib.hid hqa
    have hu0 : upto a 6 := of_decide_eq_true hqa
    have Hu := Lib.hid hu0; clear hu0
    unfold dv at ha hb
    have Ha := Lib.hid ha; clear ha hqa hqb
    have Hb := Lib.hid hb; clear hb
    unfold dv
    go_enter Try.func50, Try.ntmps50
    go_wp2_with fail
    refine (Ha.out _).mono ?_
    rintro e w1 ⟨rfl, hb1⟩
    obtain ⟨x0, x1, x2, x3, x4, x5⟩ := (hd2.up hb1).six
    go_wp2_with fail
    refine (Hb.out _).mono ?_
    rintro e w2 ⟨rfl, hb2⟩
    have hA := (hd1.up hb1).up hb2
    have hG := (hd2.up hb1).up hb2
    have hB := nx (nx hB0 hb1) hb2
    clear hb1 hb2 hd1 hd2 hB0 x0 x1 x2 x3 x4 x5
    obtain ⟨x0, x1, x2, x3, x4, x5⟩ := hA.six
    obtain ⟨y0, y1, y2, y3, y4, y5⟩ := hG.six
    clear x0 x1 x2 x3 x4 x5 y0 y1 y2 y3 y4 y5
    go_wp2_with fail
    go_loopw [6] (fun kv wr => ∃ k : Nat, k ≤ 31 ∧ kv = .int .i64 k ∧ Hid (ls a b = lsGo a b (32 - k) k) ∧ Below w.heap.size w wr ∧ At wr w.heap.size 6 a ∧ At wr (w.heap.size + 1) 6 b) (fun kv _ => 31 - (intOf kv).toNat)
    case atStart => exact ⟨0, by omega, rfl, rfl, hB, hA, hG⟩
    case round =>
      clear hA hG hB
      obtain ⟨k, hk, rfl, hls, hB, hA, hG⟩ := hrel
      have c5 := hA.cell 5 (by omega)
      have b5 := (Hu.out) 5 (by omega)
      have Hds := Lib.hid (die_sh Hda.out hk)
      by_cases hle : a 5 + k ≤ 30
      · have hk30 : k ≤ 30 := by omega
        have Hdy : Hid (isDie (sh a k) = true) := Hds.out.trans (decide_eq_true hle)
        have hled : decide (a 5 + (k : Int) ≤ 30) = true := decide_eq_true hle
        obtain ⟨x0, x1, x2, x3, x4, x5⟩ := hA.six
        have hN0 := At.new6 wr a 22 (b := wr.heap.size) rfl
        have hA0 := hA.past (sixO a 22)
        have hG0 := hG.past (sixO a 22)
        have hB0 := na hB (sixO a 22)
        have hlt0 : w.heap.size + 1 < wr.heap.size := hG.lt
        go_wp2_with fail
        clear x0 x1 x2 x3 x4 x5 c5
        generalize wr.alloc (sixO a 22) = wq at hN0 hA0 hG0 hB0 ⊢
        generalize wr.heap.size = q at hN0 hlt0 ⊢
        clear hA hG hB
        go_loopw [8] (fun iv wr => ∃ (j : Nat) (f : Nat → Int), j ≤ 6 ∧ iv = .int .i64 j ∧ Below w.heap.size w wr ∧ At wr w.heap.size 6 a ∧ At wr (w.heap.size + 1) 6 b ∧ At wr q 6 f ∧ Hid (∀ m, m < 6 → f m = if m < j then sh a k m else a m)) (fun iv _ => 6 - (intOf iv).toNat)
        case atStart => exact ⟨0, a, by omega, rfl, hB0, hA0, hG0, hN0, fun m hm => by rw [if_neg (by omega)]⟩
        case round =>
          clear hB0 hA0 hG0 hN0
          obtain ⟨j, f, hj, rfl, hB, hA, hG, hN, he⟩ := hrel
          by_cases hlt : j < 6
          · have cj := hA.cell j hlt
            have nj := hN.cell j hlt
            have zj := hN.free j
            have bj := Hu.out j hlt
            have Hsj := Lib.hid (sh_id Hda.out hk hlt)
            have hjd : decide ((j : Int) < 6) = true := decide_eq_true (by omega)
            go_wp2_with fail
            go_roundw
            case rel =>
              refine ⟨j + 1, put f j (a j + k), by omega, by go_num, hB.setCell (p := ⟨q, j, none⟩) (by show w.heap.size ≤ q; omega) _, hA.other (by omega) _ _, hG.other (by omega) _ _, hN.set hlt _, fun m hm => ?_⟩
              by_cases hmj : m = j
              · subst hmj
                rw [put_same, if_pos (by omega), Hsj.out]
              · rw [put_other _ hmj, he.out m hm]
                by_cases h1 : m < j
                · rw [if_pos h1, if_pos (by omega)]
                · rw [if_neg h1, if_neg (by omega)]
            case measure => simp [intOf]; omega
          · obtain rfl : j = 6 := by omega
            have hjd : decide (((6 : Nat) : Int) < 6) = false := rfl
            have hN' : At wr q 6 (sh a k) := hN.congr fun m hm => by rw [he.out m hm, if_pos hm]
            obtain ⟨x0, x1, x2, x3, x4, x5⟩ := hN'.six
            obtain ⟨y0, y1, y2, y3, y4, y5⟩ := hG.six
            have Hlk := Lib.hid (Hl.out (sh a k))
            cases hbt : beats (sh a k) b
            · rw [hbt] at Hlk
              have hnx : Hid (ls a b = lsGo a b (32 - (k + 1)) (k + 1)) := ls_next hk hls.out Hdy.out hbt
              clear hbt
              go_wp2_with fail
              refine (Hlk.out _).mono ?_
              rintro e w9 ⟨rfl, hb9⟩
              go_wp2_with fail
              go_roundw
              case rel => exact ⟨k + 1, by omega, by go_num, hnx, nx hB hb9, hA.up hb9, hG.up hb9⟩
              case measure => simp [intOf]; omega
            · rw [hbt] at Hlk
              have hys := Lib.hid (ls_yes hk hls.out Hdy.out hbt)
              clear hbt
              go_wp2_with fail
              refine (Hlk.out _).mono ?_
              rintro e w9 ⟨rfl, hb9⟩
              go_wp2_with fail
              go_ret2
              exact ⟨by rw [hys.out]; rfl, nx hB hb9⟩
      · have hled : decide (a 5 + (k : Int) ≤ 30) = false := decide_eq_false hle
        have hno := Lib.hid (ls_die hk hls.out (Hds.out.trans (decide_eq_false hle)))
        go_wp2_with fail
        go_ret2
        exact ⟨by rw [hno.out]; rfl, hB⟩

set_option maxHeartbeats 4000000 in
theorem implLeast_no (a b : Nat → Int) (w : World) (hno : okD a b = false) :
    Calls Try.prog 51 #[dv a, dv b] w fun e w' => e = .returned (.tuple #[.int .i64 0, .bool false]) ∧ Below w.heap.size w w' := by
  have hs := implShift_any a 0
  obtain ⟨r, hr, hr'⟩ := shift_split (isDie a && isDie (sh a 0)) (sh a 0)
  rw [hr] at hs
  obtain ⟨x, hx⟩ := outB_split r b
  have hb := implBeat_any r b
  rw [hx] at hb
  have hop : (isDie a && isDie (sh a 0)) = true → okD r b = false := fun h => by
    unfold okD at hno ⊢
    simp only [Bool.and_eq_true] at h
    rw [h.1, Bool.true_and] at hno
    rw [hno, Bool.and_false]
  generalize (isDie a && isDie (sh a 0)) = o at hs hop
  generalize okD r b = p at hb hop
  clear hr hr' hx hno
  unfold dv at hs hb
  have Hs := Lib.hid hs; clear hs
  have Hb := Lib.hid hb; clear hb
  have hA := (At.new6 w a 22 rfl).past (sixO b 22)
  have hG := At.new6 (w.alloc (sixO a 22)) b 22 (b := w.heap.size + 1) (by rw [size_alloc])
  have hB := na (na (n0 w) (sixO a 22)) (sixO b 22)
  unfold dv
  go_enter Try.func51, Try.ntmps51
  go_wp2_with fail
  generalize (w.alloc (sixO a 22)).alloc (sixO b 22) = W at hA hG hB ⊢
  go_loopw [6] (fun kv wr => kv = .int .i64 0 ∧ Below w.heap.size w wr ∧ At wr w.heap.size 6 a ∧ At wr (w.heap.size + 1) 6 b) (fun _ _ => 0)
  case atStart => exact ⟨rfl, hB, hA, hG⟩
  case round =>
    clear hA hG hB
    obtain ⟨rfl, hB, hA, hG⟩ := hrel
    obtain ⟨x0, x1, x2, x3, x4, x5⟩ := hA.six
    go_wp2_with fail
    refine (Hs.out _).mono ?_
    rintro e w1 ⟨rfl, hb1⟩
    have hB1 := na (nx hB hb1) (sixO r 22)
    have hN := At.new6 w1 r 22 (b := w1.heap.size) rfl
    have hG1 := (hG.up hb1).past (sixO r 22)
    clear hb1 x0 x1 x2 x3 x4 x5
    obtain ⟨x0, x1, x2, x3, x4, x5⟩ := hN.six
    obtain ⟨y0, y1, y2, y3, y4, y5⟩ := hG1.six
    go_wp2_with fail
    refine (Hb.out _).mono ?_
    rintro e w2 ⟨rfl, hb2⟩
    have hB2 := nx hB1 hb2
    cases o
    · go_wp2_with fail
      go_ret2
      exact ⟨rfl, hB2⟩
    · have hp := hop rfl
      subst hp
      go_wp2_with fail
      go_ret2
      exact ⟨rfl, hB2⟩

set_option maxHeartbeats 4000000 in
theorem implLeast_yes (a b : Nat → Int) (w : World) (hqa : isDie a = true) (hqb : isDie b = true) :
    Calls Try.prog 51 #[dv a, dv b] w fun e w' => e = .returned (.tuple #[.int .i64 (ls a b).1, .bool (ls a b).2]) ∧ Below w.heap.size w w' := by
  have hs := fun k => implShift_any a k
  have hb := fun x => implBeat_any x b
  rw [hqa] at hs
  simp only [Bool.true_and] at hs
  have Hda := Lib.hid hqa
  have Hdb := Lib.hid hqb
  clear hqa hqb
  have Hs := Lib.hid hs; clear hs
  have Hb := Lib.hid hb; clear hb
  have hA := (At.new6 w a 22 rfl).past (sixO b 22)
  have hG := At.new6 (w.alloc (sixO a 22)) b 22 (b := w.heap.size + 1) (by rw [size_alloc])
  have hB := na (na (n0 w) (sixO a 22)) (sixO b 22)
  unfold dv
  go_enter Try.func51, Try.ntmps51
  go_wp2_with fail
  generalize (w.alloc (sixO a 22)).alloc (sixO b 22) = W at hA hG hB ⊢
  go_loopw [6] (fun kv wr => ∃ k : Nat, k ≤ 31 ∧ kv = .int .i64 k ∧ Hid (ls a b = lsGo a b (32 - k) k) ∧ Below w.heap.size w wr ∧ At wr w.heap.size 6 a ∧ At wr (w.heap.size + 1) 6 b) (fun kv _ => 31 - (intOf kv).toNat)
  case atStart => exact ⟨0, by omega, rfl, rfl, hB, hA, hG⟩
  case round =>
    clear hA hG hB
    obtain ⟨k, hk, rfl, hls, hB, hA, hG⟩ := hrel
    obtain ⟨x0, x1, x2, x3, x4, x5⟩ := hA.six
    have hsk := Hs.out (k : Int)
    obtain ⟨r, hr, hr'⟩ := shift_split (isDie (sh a k)) (sh a k)
    rw [hr] at hsk
    obtain ⟨x, hx⟩ := outB_split r b
    have hbk := Hb.out r
    rw [hx] at hbk
    clear hr
    cases hdk : isDie (sh a k)
    · have hno := Lib.hid (ls_die hk hls.out hdk)
      rw [hdk] at hsk
      clear hr' hdk hx
      generalize okD r b = p at hbk
      unfold dv at hsk hbk
      have Hsk := Lib.hid hsk; clear hsk
      have Hbk := Lib.hid hbk; clear hbk
      go_wp2_with fail
      refine (Hsk.out _).mono ?_
      rintro e w1 ⟨rfl, hb1⟩
      have hB1 := na (nx hB hb1) (sixO r 22)
      have hN := At.new6 w1 r 22 (b := w1.heap.size) rfl
      have hG1 := (hG.up hb1).past (sixO r 22)
      clear hb1 x0 x1 x2 x3 x4 x5
      obtain ⟨x0, x1, x2, x3, x4, x5⟩ := hN.six
      obtain ⟨y0, y1, y2, y3, y4, y5⟩ := hG1.six
      go_wp2_with fail
      refine (Hbk.out _).mono ?_
      rintro e w2 ⟨rfl, hb2⟩
      have hB2 := nx hB1 hb2
      go_wp2_with fail
      go_ret2
      exact ⟨by rw [hno.out]; rfl, hB2⟩
    · have hrr := hr' hdk
      subst hrr
      have hk30 := shift_lt Hda.out hk hdk
      have hok : okD (sh a k) b = true := by unfold okD; rw [hdk, Hdb.out]; rfl
      have hxb : x = beats (sh a k) b := by
        unfold outB at hx
        rw [hok] at hx
        simp at hx
        exact hx.symm
      rw [hok] at hbk
      rw [hdk] at hsk
      subst hxb
      have Hdy := Lib.hid hdk
      clear hr' hdk hx hok
      unfold dv at hsk hbk
      have Hsk := Lib.hid hsk; clear hsk
      have Hbk := Lib.hid hbk; clear hbk
      have hA' := hA
      cases hbt : beats (sh a k) b
      · rw [hbt] at Hbk
        have hnx : Hid (ls a b = lsGo a b (32 - (k + 1)) (k + 1)) := ls_next hk hls.out Hdy.out hbt
        clear hbt
        go_wp2_with fail
        refine (Hsk.out _).mono ?_
        rintro e w1 ⟨rfl, hb1⟩
        have hB1 := na (nx hB hb1) (sixO (sh a k) 22)
        have hN := At.new6 w1 (sh a k) 22 (b := w1.heap.size) rfl
        have hG1 := (hG.up hb1).past (sixO (sh a k) 22)
        have hA1 := (hA'.up hb1).past (sixO (sh a k) 22)
        clear hb1 x0 x1 x2 x3 x4 x5
        obtain ⟨x0, x1, x2, x3, x4, x5⟩ := hN.six
        obtain ⟨y0, y1, y2, y3, y4, y5⟩ := hG1.six
        go_wp2_with fail
        refine (Hbk.out _).mono ?_
        rintro e w2 ⟨rfl, hb2⟩
        go_wp2_with fail
        go_roundw
        case rel => exact ⟨k + 1, by omega, by go_num, hnx, nx hB1 hb2, hA1.up hb2, hG1.up hb2⟩
        case measure => simp [intOf]; omega
      · rw [hbt] at Hbk
        have hys := Lib.hid (ls_yes hk hls.out Hdy.out hbt)
        clear hbt
        go_wp2_with fail
        refine (Hsk.out _).mono ?_
        rintro e w1 ⟨rfl, hb1⟩
        have hB1 := na (nx hB hb1) (sixO (sh a k) 22)
        have hN := At.new6 w1 (sh a k) 22 (b := w1.heap.size) rfl
        have hG1 := (hG.up hb1).past (sixO (sh a k) 22)
        clear hb1 x0 x1 x2 x3 x4 x5
        obtain ⟨x0, x1, x2, x3, x4, x5⟩ := hN.six
        obtain ⟨y0, y1, y2, y3, y4, y5⟩ := hG1.six
        go_wp2_with fail
        refine (Hbk.out _).mono ?_
        rintro e w2 ⟨rfl, hb2⟩
        go_wp2_with fail
        go_ret2
        exact ⟨by rw [hys.out]; rfl, nx hB1 hb2⟩

theorem implLeast_any (a b : Nat → Int) (w : World) :
    Calls Try.prog 51 #[dv a, dv b] w fun e w' => e = .returned (.tuple (outL a b)) ∧ Below w.heap.size w w' := by
  unfold outL
  cases h : okD a b
  · exact implLeast_no a b w h
  · unfold okD at h
    simp only [Bool.and_eq_true] at h
    exact implLeast_yes a b w h.1 h.2


end LeastShW
end Go.Proofs.Ytllcjgladjcoaaa
