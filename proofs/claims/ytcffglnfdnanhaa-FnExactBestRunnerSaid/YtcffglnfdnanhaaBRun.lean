/-
  BestRunner, both sides.
-/
import Derived.Test.YtcffglnfdnanhaaRows
import Derived.Test.YtcffglnfdnanhaaArr
import Derived.Test.YtcffglnfdnanhaaAnyR
import Derived.Test.YtcffglnfdnanhaaDieW
import Derived.Test.YtcffglnfdnanhaaSortW
import Derived.Test.YtcffglnfdnanhaaFracW
import Derived.Test.YtcffglnfdnanhaaFracL
import Derived.Test.YtcffglnfdnanhaaCutW
import Derived.Test.YtcffglnfdnanhaaAll6
import Derived.Test.YtcffglnfdnanhaaAllL
import Derived.Test.YtcffglnfdnanhaaOwnL
import Derived.Test.YtcffglnfdnanhaaFracM
import Derived.Test.YtcffglnfdnanhaaStopM
import Derived.Test.YtcffglnfdnanhaaRunM
import Derived.Test.YtcffglnfdnanhaaRunI
import Derived.Test.YtcffglnfdnanhaaRunS
import Derived.Test.YtcffglnfdnanhaaRunW
import Derived.Test.YtcffglnfdnanhaaManyW
import Derived.Test.YtcffglnfdnanhaaDicesW
import Derived.Test.YtcffglnfdnanhaaTopW
import Derived.Test.YtcffglnfdnanhaaRunW
import Derived.Test.YtcffglnfdnanhaaOpenD
import Derived.Test.YtcffglnfdnanhaaOpenD
import Derived.WalkKit
import Derived.OwnWalk
import Derived.Lib.AppendZeros
import Derived.WalkLawsBesides
import Derived.WalkSpells
import Derived.ProofKit
import Derived.OpenShut
import Derived.Deep.RegionWith
import Derived.Deep.QuietTactic
import Derived.BigQuiet
namespace Go.Proofs.Ytcffglnfdnanhaa
open Go.ChangeShapes Go.WideShapes Go.ChangeAt Go.RowKit
open Go.ChangeMaps (open_string shut_string)

namespace BRun
open Dice Arr DieW SortW FracW CutW All6 AllL OwnL FracM StopM RunM RunI RunS RunW DicesW ManyW TopW OpenD

/-- The first place of the least of the first n numbers, and this number. -/
def low (F : Nat → Nat) : Nat → Nat × Nat
  | 0 => (0, 0)
  | n + 1 => if n = 0 then (0, F 0) else if F n < (low F n).2 then (n, F n) else low F n
theorem low_spec (F : Nat → Nat) : ∀ n, (low F (n + 1)).1 < n + 1 ∧ F (low F (n + 1)).1 = (low F (n + 1)).2 ∧ (∀ j, j < (low F (n + 1)).1 → (low F (n + 1)).2 < F j) ∧ ∀ j, j < n + 1 → (low F (n + 1)).2 ≤ F j := by
  intro n
  induction n with
  | zero =>
    have e : low F 1 = (0, F 0) := rfl
    rw [e]
    refine ⟨by omega, rfl, fun j hj => by omega, fun j hj => ?_⟩
    obtain rfl : j = 0 := by omega
    exact Nat.le_refl _
  | succ n ih =>
    obtain ⟨h1, h2, h3, h4⟩ := ih
    have e : low F (n + 1 + 1) = if F (n + 1) < (low F (n + 1)).2 then (n + 1, F (n + 1)) else low F (n + 1) := by
      show (if n + 1 = 0 then _ else _) = _
      rw [if_neg (by omega)]
    by_cases hlt : F (n + 1) < (low F (n + 1)).2
    · rw [e, if_pos hlt]
      refine ⟨by omega, rfl, fun j hj => ?_, fun j hj => ?_⟩
      · have := h4 j hj
        show F (n + 1) < F j
        omega
      · show F (n + 1) ≤ F j
        by_cases hjn : j = n + 1
        · subst hjn; exact Nat.le_refl _
        · have := h4 j (by omega)
          omega
    · rw [e, if_neg hlt]
      refine ⟨by omega, h2, h3, fun j hj => ?_⟩
      by_cases hjn : j = n + 1
      · subst hjn; omega
      · exact h4 j (by omega)
theorem low_one (F : Nat → Nat) : low F 1 = (0, F 0) := rfl
theorem low_step (F : Nat → Nat) {n : Nat} (h : 1 ≤ n) : low F (n + 1) = if F n < (low F n).2 then (n, F n) else low F n := by
  show (if n = 0 then _ else _) = _
  rw [if_neg (by omega)]
def IF (F : Nat → Nat) (k : Nat) : Int := (F k : Int)
theorem min_low (F : Nat → Nat) (N : Nat) : ∀ n, n + 1 ≤ N → Lib.minOf ((ints (IF F) N).take (n + 1)) = ((low F (n + 1)).2 : Int) := by
  intro n
  induction n with
  | zero =>
    intro hn
    rw [Lib.minOf_one, ints_get (by omega)]
    rfl
  | succ n ih =>
    intro hn
    rw [Lib.minOf_step _ _ (by omega) (by rw [ints_len]; omega), ih (by omega), ints_get (by omega), low_step F (show 1 ≤ n + 1 by omega)]
    unfold IF
    by_cases hlt : F (n + 1) < (low F (n + 1)).2
    · rw [if_pos hlt]
      show min _ _ = ((F (n + 1) : Nat) : Int)
      omega
    · rw [if_neg hlt]
      omega
theorem idx_low (F : Nat → Nat) (n : Nat) : Lib.idxOf ((ints (IF F) (n + 1)).take (n + 1)) ((low F (n + 1)).2 : Int) = ((low F (n + 1)).1 : Int) := by
  obtain ⟨h1, h2, h3, _⟩ := low_spec F n
  exact Lib.idxOf_hit _ (n + 1) _ _ h1 (by rw [ints_len]; omega) (by rw [ints_get h1]; unfold IF; rw [h2]) (fun j hj => by rw [ints_get (by omega)]; have := h3 j hj; unfold IF; omega)
def rn (a : Nat) : Nat := num a 1679616
def rd (a : Nat) : Nat := den a 1679616
theorem At.newv (x y : Int) (w : World) : At (w.alloc (.cells #[.int .i64 x, .int .i64 y] 30)) w.heap.size 2 (fr x y) :=
  At.new w _ _ 2 _ fun k hk => by
    obtain rfl | rfl : k = 0 ∨ k = 1 := by omega
    all_goals rfl

set_option maxHeartbeats 2000000 in
theorem less_big (a b c d : Nat) (w : World) (h1 : a * d ≤ 1000000000000000000) (h2 : c * b ≤ 1000000000000000000) :
    Calls Try.prog 68 #[v2 (a : Int) (b : Int), v2 (c : Int) (d : Int)] w fun e w' => e = .returned (.bool (decide (a * d < c * b))) ∧ Below w.heap.size w w' := by
  have e1 : (a : Int) * (d : Int) = ((a * d : Nat) : Int) := by push_cast; rfl
  have e2 : (c : Int) * (b : Int) = ((c * b : Nat) : Int) := by push_cast; rfl
  generalize a * d = x at *
  generalize c * b = y at *
  have hA := (At.newv (a : Int) (b : Int) w).past (.cells #[.int .i64 (c : Int), .int .i64 (d : Int)] 30)
  have hC := At.newv (c : Int) (d : Int) (w.alloc (.cells #[.int .i64 (a : Int), .int .i64 (b : Int)] 30))
  rw [size_alloc] at hC
  have hB := na (na (n0 w) (.cells #[.int .i64 (a : Int), .int .i64 (b : Int)] 30)) (.cells #[.int .i64 (c : Int), .int .i64 (d : Int)] 30)
  go_enter Try.func68, Try.ntmps68
  go_wp2_with fail
  generalize (w.alloc (.cells #[.int .i64 (a : Int), .int .i64 (b : Int)] 30)).alloc (.cells #[.int .i64 (c : Int), .int .i64 (d : Int)] 30) = W at *
  have q0 := hA.cell 0 (by omega)
  have q1 := hA.cell 1 (by omega)
  have q2 := hC.cell 0 (by omega)
  have q3 := hC.cell 1 (by omega)
  rw [show fr (a : Int) (b : Int) 0 = a from rfl] at q0
  rw [show fr (a : Int) (b : Int) 1 = b from rfl] at q1
  rw [show fr (c : Int) (d : Int) 0 = c from rfl] at q2
  rw [show fr (c : Int) (d : Int) 1 = d from rfl] at q3
  go_wp2_with fail
  go_ret
  exact ⟨rfl, hB⟩
theorem less_runs (a b : Nat) (w : World) (ha : a ≤ 13436928) (hb : b ≤ 13436928) :
    Calls Try.prog 68 #[v2 (rn a : Nat) (rd a : Nat), v2 (rn b : Nat) (rd b : Nat)] w fun e w' => e = .returned (.bool (decide (a < b))) ∧ Below w.heap.size w w' := by
  have hh := less_cut (a := a) (b := 1679616) (c := b) (d := 1679616) (by decide) (by decide)
  have n1 := num_le a 1679616
  have n2 := den_le a 1679616
  have n3 := num_le b 1679616
  have n4 := den_le b 1679616
  have h1 : num a 1679616 * den b 1679616 ≤ 13436928 * 1679616 := Nat.mul_le_mul (by omega) n4
  have h2 : num b 1679616 * den a 1679616 ≤ 13436928 * 1679616 := Nat.mul_le_mul (by omega) n2
  have h := less_big (num a 1679616) (den a 1679616) (num b 1679616) (den b 1679616) w (Nat.le_trans h1 (by decide)) (Nat.le_trans h2 (by decide))
  have e : decide (num a 1679616 * den b 1679616 < num b 1679616 * den a 1679616) = decide (a < b) := decide_eq_decide.2 (hh.trans ⟨fun x => Nat.lt_of_mul_lt_mul_right x, fun x => Nat.mul_lt_mul_of_pos_right x (by decide)⟩)
  rw [e] at h
  exact h
theorem results_tct {fn : Func} {u p q : Tmp} {ty : TypeId} (h : fn.results = #[.tmp u, .cell p ty, .tmp q]) (tmps : Array Value) (P : Program) (w : World) :
    (results fn tmps).run P w = ((asAddr (tmps.getD p undef)).run P w).andThen fun a w₁ => ((loadVar ty a).run P w₁).andThen fun v w₂ => .ok (.tuple #[tmps.getD u undef, v, tmps.getD q undef]) w₂ := by
  simp only [results, h]
  simp [Sem.run_bind, Result.andThen]
theorem ret_tct {P : Program} {fn : Func} {R : Ending → World → Prop} {a : Act} {w : World} {u p q : Tmp} {ty e : TypeId} {b n : Nat} {f : Nat → Int} {x y : Value} (h : fn.results = #[.tmp u, .cell p ty, .tmp q]) (hp : a.tmps.getD p undef = .pointer (some ⟨b, 0, none⟩)) (hx : a.tmps.getD u undef = x) (hy : a.tmps.getD q undef = y)
    (hu : P.underlying ty = some (.array n e)) (hi : (P.info? ty).map (·.size) = some n) (hA : At w b n f) (hd : a.defers = []) (hR : R (.returned (.tuple #[x, .agg (vals n f).toArray, y])) w) : bodyPost P fn R .ret a w := by
  refine bodyPost_ret (v := .tuple #[x, .agg (vals n f).toArray, y]) ?_ hd hR
  rw [results_tct h, hp, hx, hy]
  simp [Result.andThen, asAddr, hA.loadVar hu hi]
def okBR (n : Nat) (P : Nat → Nat → Int) (g : Int) : Bool := many 6 n P && (decide (1 ≤ g ∧ g ≤ 8) && decide (∀ i, i < n → isRun (P i) = true))
def FF (P : Nat → Nat → Int) (g : Nat) (i : Nat) : Nat := rolls (face (P i)) g g
def outBR (n : Nat) (P : Nat → Nat → Int) (g : Int) : Value := if okBR n P g then .tuple #[.int .i64 ((low (FF P g.toNat) n).1 : Nat), v2 (rn (low (FF P g.toNat) n).2 : Nat) (rd (low (FF P g.toNat) n).2 : Nat), .bool true] else .tuple #[.int .i64 0, v2 0 0, .bool false]
def noBR : Value := .tuple #[.int .i64 0, v2 0 0, .bool false]
theorem out_1 {n : Nat} {P : Nat → Nat → Int} {g : Int} (h : many 6 n P = false) : outBR n P g = noBR := by
  have : okBR n P g = false := by simp only [okBR, h, Bool.false_and]
  simp [outBR, this, noBR]
theorem out_2 {n : Nat} {P : Nat → Nat → Int} {g : Int} (h : ¬ (1 ≤ g ∧ g ≤ 8)) : outBR n P g = noBR := by
  have : okBR n P g = false := by simp only [okBR, decide_eq_false h, Bool.false_and, Bool.and_false]
  simp [outBR, this, noBR]
theorem out_3 {n : Nat} {P : Nat → Nat → Int} {g : Int} {k : Nat} (hk : k < n) (h : isRun (P k) = false) : outBR n P g = noBR := by
  have : okBR n P g = false := by
    have h2 : ¬ ∀ i, i < n → isRun (P i) = true := fun x => by rw [x k hk] at h; cases h
    simp only [okBR, decide_eq_false h2, Bool.and_false]
  simp [outBR, this, noBR]
theorem out_yes {n : Nat} {P : Nat → Nat → Int} {g : Nat} (h1 : many 6 n P = true) (h2 : 1 ≤ (g : Int) ∧ (g : Int) ≤ 8) (h3 : ∀ i, i < n → isRun (P i) = true) : outBR n P g = .tuple #[.int .i64 ((low (FF P g) n).1 : Nat), v2 (rn (low (FF P g) n).2 : Nat) (rd (low (FF P g) n).2 : Nat), .bool true] := by
  have : okBR n P g = true := by simp only [okBR, h1, decide_eq_true h2, decide_eq_true h3, Bool.and_true]
  simp [outBR, this]
/-- What the mean's block holds behind k dice. -/
def MF (F : Nat → Nat) (k : Nat) : Nat → Int := if k < 1 then fr 0 0 else fr (rn (low F k).2 : Nat) (rd (low F k).2 : Nat)
theorem MF_zero (F : Nat → Nat) : MF F 0 = fr 0 0 := rfl
theorem MF_pos (F : Nat → Nat) {k : Nat} (h : 1 ≤ k) : MF F k = fr (rn (low F k).2 : Nat) (rd (low F k).2 : Nat) := if_neg (by omega)
theorem low_le {F : Nat → Nat} {B : Nat} (n : Nat) (h : ∀ i, i < n + 1 → F i ≤ B) : (low F (n + 1)).2 ≤ B := by
  obtain ⟨x1, x2, _, _⟩ := low_spec F n
  rw [← x2]
  exact h _ x1

set_option maxRecDepth 100000 in
set_option maxHeartbeats 16000000 in
theorem implBRun_any (A : Option Addr) (n c : Nat) (P : Nat → Nat → Int) (g : Int) (w : World) (h : Row w A n P) (hn : n ≤ maxLen) :
    Calls Try.prog 33 #[.slice A n c, .int .i64 g] w fun e w' => e = .returned (outBR n P g) ∧ Below w.heap.size w w' := by
  have hr := fun w h => isRow_any A n c P w h hn
  have hRX := At.new2 w 30
  have hB := na (n0 w) (.cells #[.int .i64 0, .int .i64 0] 30)
  have Hw := Lib.hid h
  have H := Lib.hid (h.up hB); clear h
  cases hq : many 6 n P
  · rw [hq] at hr
    have HE := Lib.hid (out_1 (g := g) hq)
    have Hr := Lib.hid hr; clear hr hq
    go_enter Try.func33, Try.ntmps33
    go_wp2_with fail
    refine (Hr.out _ H.out).mono ?_
    rintro e w1 ⟨rfl, hb1⟩
    have hRX := hRX.up hb1
    have hB := nx hB hb1
    clear hb1
    have c0 := hRX.cell 0 (by omega)
    have c1 := hRX.cell 1 (by omega)
    have z0 := hRX.free 0
    have z1 := hRX.free 1
    go_wp2_with fail
    refine ret_tct (b := w.heap.size) (n := 2) (f := fr 0 0) Try.results33 rfl rfl rfl Try.underlying30 (by kernel_rfl) (fin2' hRX _ _) rfl ⟨by rw [HE.out]; rfl, ?_⟩
    exact (hB.setCell (p := ⟨w.heap.size, 0, none⟩) (Nat.le_refl _) _).setCell (p := ⟨w.heap.size, 1, none⟩) (Nat.le_refl _) _
  · rw [hq] at hr
    have Hr := Lib.hid hr; clear hr
    obtain ⟨h1, h6, _⟩ := of_many hq
    have Hq := Lib.hid hq; clear hq
    have Hok := Lib.hid (fun k w => canRun_any (P k) g w)
    have Hro := Lib.hid (fun k (hk : okR (P k) g = true) w => implRolls_any (P k) (face (P k)) g.toNat w (faces_of (of_okR hk).1) (by have := of_okR hk; omega) (by have := of_okR hk; omega))
    have Hrl := Lib.hid (fun k (hk : okR (P k) g = true) => rolls_le (face (P k)) (g := g.toNat) (n := g.toNat) (by have := of_okR hk; omega) (by have := of_okR hk; omega) (Nat.le_refl _))
    obtain ⟨i0, hi, hz0, hz1, hz2⟩ := info_parts OwnL.info_int
    have Hi := Lib.hid (And.intro hi (And.intro hz0 (And.intro hz1 hz2)))
    clear hi hz0 hz1 hz2
    have Hsn : Hid (∀ k, vals k (IF (FF P g.toNat)) ++ [.int .i64 (FF P g.toNat k : Nat)] = vals (k + 1) (IF (FF P g.toNat))) := fun k => vals_snoc k _
    go_enter Try.func33, Try.ntmps33
    go_wp2_with fail
    refine (Hr.out _ H.out).mono ?_
    rintro e w1 ⟨rfl, hb1⟩
    have hRX := hRX.up hb1
    have hB := nx hB hb1
    clear hb1 H
    go_wp2_with fail
    have hsz := hRX.lt
    go_loopw [7, 17] (fun lv kv wr => ∃ k : Nat, k ≤ n ∧ kv = .int .i64 k ∧ Hid (∀ i, i < k → okR (P i) g = true) ∧ wr.ownsRow (w.heap.size + 1) 3 1 lv k (vals k (IF (FF P g.toNat))) ∧ At wr w.heap.size 2 (fun _ => 0) ∧ Below w.heap.size w wr) (fun _ kv _ => n - (intOf kv).toNat)
    case atStart => exact ⟨0, by omega, rfl, fun i hi => by omega, World.ownsRow_nil _ _ _ _, hRX, hB⟩
    case round =>
      clear hRX hB hsz
      obtain ⟨k, hk, rfl, hdone, hO, hRX, hB⟩ := hrel
      by_cases hlt : k < n
      · have hit : decide ((k : Int) < (n : Int)) = true := decide_eq_true (by omega)
        have hitN : decide (k < n) = true := decide_eq_true hlt
        have hRow := Hw.out.up hB
        obtain ⟨bk, o, rfl, hbk, hc⟩ := hRow.at_ hlt
        have c0 := hc 0 (by omega)
        have c1 := hc 1 (by omega)
        have c2 := hc 2 (by omega)
        have c3 := hc 3 (by omega)
        have c4 := hc 4 (by omega)
        have c5 := hc 5 (by omega)
        simp only [← Nat.add_assoc, Nat.add_zero] at c0 c1 c2 c3 c4 c5
        clear hRow hc
        have hD := At.new6 wr (P k) 22 rfl
        have hRXp := hRX.past (sixO (P k) 22)
        have hBp := na hB (sixO (P k) 22)
        have hOp := hO.alloc (sixO (P k) 22)
        have hok := Hok.out k
        unfold dv at hok
        obtain ⟨e0, e1, e2, e3, e4, e5⟩ := hD.six
        clear hO hRX hB
        cases hkk : okR (P k) g
        · rw [hkk] at hok
          have Hok1 := Lib.hid hok
          have HE : Hid (outBR n P g = noBR) := by
            by_cases hgg : 1 ≤ g ∧ g ≤ 8
            · refine out_3 hlt ?_
              cases hz : isRun (P k)
              · rfl
              · rw [okR_yes hz hgg.1 hgg.2] at hkk; cases hkk
            · exact out_2 hgg
          clear hok hkk
          go_wp2_with fail
          refine (Hok1.out _).mono ?_
          rintro e w5 ⟨rfl, hb5⟩
          have hRX := hRXp.up hb5
          have hB := nx hBp hb5
          clear c0 c1 c2 c3 c4 c5 e0 e1 e2 e3 e4 e5
          have c0 := hRX.cell 0 (by omega)
          have c1 := hRX.cell 1 (by omega)
          have z0 := hRX.free 0
          have z1 := hRX.free 1
          go_wp2_with fail
          refine ret_tct (b := w.heap.size) (n := 2) (f := fr 0 0) Try.results33 rfl rfl rfl Try.underlying30 (by kernel_rfl) (fin2' hRX _ _) rfl ⟨by rw [HE.out]; rfl, ?_⟩
          exact (hB.setCell (p := ⟨w.heap.size, 0, none⟩) (Nat.le_refl _) _).setCell (p := ⟨w.heap.size, 1, none⟩) (Nat.le_refl _) _
        · rw [hkk] at hok
          have Hok1 := Lib.hid hok
          have hro := Hro.out k hkk
          unfold dv at hro
          have hrl := Hrl.out k hkk
          have Hdone2 : Hid (∀ i, i < k + 1 → okR (P i) g = true) := fun i hi => by
            by_cases hik : i = k
            · subst hik; exact hkk
            · exact hdone.out i (by omega)
          obtain ⟨g, rfl⟩ : ∃ m : Nat, g = m := ⟨g.toNat, by have := of_okR hkk; omega⟩
          rw [Int.toNat_natCast] at hro
          have Hro1 := Lib.hid hro
          have Hs1 := Lib.hid (Hsn.out k)
          have HFk : Hid (FF P g k = rolls (face (P k)) g g) := rfl
          clear hok hkk hro hdone
          go_wp2_with fail
          refine (Hok1.out _).mono ?_
          rintro e w5 ⟨rfl, hb5⟩
          have hRX5 := hRXp.up hb5
          have hB5 := nx hBp hb5
          have hO5 := own_up hOp hb5
          have hD5 := hD.up hb5
          clear c0 c1 c2 c3 c4 c5 e0 e1 e2 e3 e4 e5 hD hRXp hBp hOp hb5
          obtain ⟨e0, e1, e2, e3, e4, e5⟩ := hD5.six
          go_wp2_with fail
          refine (Hro1.out _).mono ?_
          rintro e w6 ⟨rfl, hb6⟩
          have hR3 := hRX5.up hb6
          have hB3 := nx hB5 hb6
          have hO3 := own_up hO5 hb6
          clear e0 e1 e2 e3 e4 e5 hD5 hRX5 hB5 hO5 hb6
          rw [← HFk.out]
          obtain ⟨tk, htk⟩ : ∃ tk, tk = FF P g k := ⟨_, rfl⟩
          rw [← htk]
          rw [Int.toNat_natCast, ← htk] at Hs1
          have htl : tk ≤ 13436928 := by rw [htk, HFk.out]; simpa using hrl
          have Htk := Lib.hid htk
          clear htk hrl
          go_wp2_with (at_builtin; refine wpList_append_own _ rfl _ _ 51 rfl (w.heap.size + 1) 3 i0 (.int .i64 0) 1 8 Try.underlying51 Hi.out.1 Hi.out.2.1 Hi.out.2.2.1 Hi.out.2.2.2 rfl (by decide) _ _ _ rfl (hO3.alloc _) ⟨w6.heap.size, 0, none⟩ 1 1 [.int .i64 (tk : Nat)] rfl rfl ?c1 ?c2 ?c3 ?c4 ?c5 ?_)
          case c1 => exact news_one (cell_one _ _ _)
          case c2 => intro u hu; simp at hu; subst hu; rfl
          case c3 => unfold maxLen; omega
          case c4 => omega
          case c5 => have := hR3.lt; simp; omega
          · intro v' w4 hO4 hg4 _
            have hB4 := (na hB3 (.cells #[.int .i64 (tk : Nat)] 3)).grown hg4 (by rw [size_alloc]; have := hB3.size; omega) (fun t e => by have := (hO3.lt t e).1; omega)
            have hR4 := keptO (hR3.past (.cells #[.int .i64 (tk : Nat)] 3)) hg4 (fun e => by have := (hO3.lt _ e.symm).1; omega)
            rw [Hs1.out] at hO4
            clear hg4 hO3
            go_wp2_with fail
            go_roundw
            case rel => exact ⟨k + 1, by omega, by go_num, Hdone2, hO4, hR4, hB4⟩
            case measure => simp [intOf]; omega
      · obtain rfl : k = n := by omega
        have hit : decide ((k : Int) < (k : Int)) = false := decide_eq_false (by omega)
        have hok0 := of_okR (hdone.out 0 (by omega))
        obtain ⟨g, rfl⟩ : ∃ m : Nat, g = m := ⟨g.toNat, by omega⟩
        rw [Int.toNat_natCast] at hO
        have HE := Lib.hid (out_yes Hq.out ⟨hok0.2.1, hok0.2.2⟩ (fun i hi => (of_okR (hdone.out i hi)).1))
        obtain ⟨b, c', rfl, hb, hA⟩ := own_list hO (by omega)
        have hll : (low (FF P g) k).2 ≤ 13436928 := by
          obtain ⟨m, rfl⟩ : ∃ m, k = m + 1 := ⟨k - 1, by omega⟩
          obtain ⟨x1, x2, _, _⟩ := low_spec (FF P g) m
          rw [← x2]
          have := rolls_le (face (P (low (FF P g) (m + 1)).1)) (g := g) (n := g) (by omega) (by omega) (Nat.le_refl _)
          exact this
        have hcells : ∀ j, j < (ints (IF (FF P g)) k).length → wr.cell? ⟨b, 0 + j, none⟩ = some (.int .i64 ((ints (IF (FF P g)) k).getD j 0)) := fun j hj => by
          rw [ints_len] at hj
          rw [Nat.zero_add, ints_get hj]
          exact hA.cell j hj
        have hm1 := Try.slices_Min_int b 0 k c' (ints (IF (FF P g)) k) wr (by omega) (by rw [ints_len]; omega) (by omega) hcells
        have hm2 := Try.slices_Index_int b 0 k c' (ints (IF (FF P g)) k) ((low (FF P g) k).2 : Int) wr (by rw [ints_len]; omega) (by omega) hcells
        have hmm : Lib.minOf ((ints (IF (FF P g)) k).take k) = ((low (FF P g) k).2 : Int) ∧ Lib.idxOf ((ints (IF (FF P g)) k).take k) ((low (FF P g) k).2 : Int) = ((low (FF P g) k).1 : Int) := by
          obtain ⟨m, rfl⟩ : ∃ m, k = m + 1 := ⟨k - 1, by omega⟩
          exact ⟨min_low (FF P g) (m + 1) m (by omega), idx_low (FF P g) m⟩
        rw [hmm.1] at hm1
        rw [hmm.2] at hm2
        have Hm1 := Lib.hid hm1
        have Hm2 := Lib.hid hm2
        have Ho := Lib.hid (fun w => outcomesL 8 w (by omega))
        rw [show all6 8 = 1679616 from by decide] at Ho
        have Hcut : Hid (∀ w, Calls Try.prog 59 #[.int .i64 ((low (FF P g) k).2 : Nat), .int .i64 1679616] w fun e w' => e = .returned (v2 (rn (low (FF P g) k).2 : Nat) (rd (low (FF P g) k).2 : Nat)) ∧ Below w.heap.size w w') := fun w => FracL.fractionL _ 1679616 w (by omega) (by omega) (by omega)
        clear hm1 hm2 hmm hcells hO hdone hA
        go_wp2_with fail
        refine Hm1.out.mono ?_
        rintro e w5 ⟨rfl, hw5⟩
        have hw5 := hw5.symm
        subst hw5
        go_wp2_with fail
        refine Hm2.out.mono ?_
        rintro e w6 ⟨rfl, hw6⟩
        have hw6 := hw6.symm
        subst hw6
        go_wp2_with fail
        refine (Ho.out _).mono ?_
        rintro e w7 ⟨rfl, hw7⟩
        have hw7 := hw7.symm
        subst hw7
        go_wp2_with fail
        refine (Hcut.out _).mono ?_
        rintro e w8 ⟨rfl, hb8⟩
        have hRX := hRX.up hb8
        have hB := nx hB hb8
        clear hb8
        have c0 := hRX.cell 0 (by omega)
        have c1 := hRX.cell 1 (by omega)
        have z0 := hRX.free 0
        have z1 := hRX.free 1
        go_wp2_with fail
        refine ret_tct (b := w.heap.size) (n := 2) (f := fr ((rn (low (FF P g) k).2 : Nat) : Int) ((rd (low (FF P g) k).2 : Nat) : Int)) Try.results33 rfl rfl rfl Try.underlying30 (by kernel_rfl) (fin2' hRX _ _) rfl ⟨by rw [HE.out]; rfl, ?_⟩
        exact (hB.setCell (p := ⟨w.heap.size, 0, none⟩) (Nat.le_refl _) _).setCell (p := ⟨w.heap.size, 1, none⟩) (Nat.le_refl _) _

set_option maxRecDepth 100000 in
set_option maxHeartbeats 16000000 in
theorem specBRun_any (A : Option Addr) (n c : Nat) (P : Nat → Nat → Int) (g : Int) (w : World) (h : Row w A n P) (hn : n ≤ maxLen) :
    Calls Try.prog 31 #[.slice A n c, .int .i64 g] w fun e w' => e = .returned (outBR n P g) ∧ Below w.heap.size w w' := by
  have hr := fun w h => l3Row_any A n c P w h hn
  have hRX := At.new2 w 30
  have hB := na (n0 w) (.cells #[.int .i64 0, .int .i64 0] 30)
  have Hw := Lib.hid h
  have H := Lib.hid (h.up hB); clear h
  have hgo := fun w => specGoal_any g w
  cases hq : many 6 n P
  · rw [hq] at hr
    have HE := Lib.hid (out_1 (g := g) hq)
    have Hr := Lib.hid hr; clear hr hq hgo
    go_enter Try.func31, Try.ntmps31
    go_wp2_with fail
    refine (Hr.out _ H.out).mono ?_
    rintro e w1 ⟨rfl, hb1⟩
    have hRX := hRX.up hb1
    have hB := nx hB hb1
    clear hb1
    have c0 := hRX.cell 0 (by omega)
    have c1 := hRX.cell 1 (by omega)
    have z0 := hRX.free 0
    have z1 := hRX.free 1
    go_wp2_with fail
    refine ret_tct (b := w.heap.size) (n := 2) (f := fr 0 0) Try.results31 rfl rfl rfl Try.underlying30 (by kernel_rfl) (fin2' hRX _ _) rfl ⟨by rw [HE.out]; rfl, ?_⟩
    exact (hB.setCell (p := ⟨w.heap.size, 0, none⟩) (Nat.le_refl _) _).setCell (p := ⟨w.heap.size, 1, none⟩) (Nat.le_refl _) _
  · rw [hq] at hr
    have Hr := Lib.hid hr; clear hr
    by_cases hgg : 1 ≤ g ∧ g ≤ 8
    · rw [decide_eq_true hgg] at hgo
      have Hg := Lib.hid hgo; clear hgo
      obtain ⟨hg1, hg8⟩ := hgg
      obtain ⟨h1, h6, _⟩ := of_many hq
      have Hq := Lib.hid hq; clear hq
      obtain ⟨g, rfl⟩ : ∃ m : Nat, g = m := ⟨g.toNat, by omega⟩
      have Hru := Lib.hid (fun k w => specRunner_any (P k) w)
      have hme : ∀ k, isRun (P k) = true → ∀ w, Calls Try.prog 61 #[dv (P k), .int .i64 g] w fun e w' => e = .returned (v2 (rn (FF P g k) : Nat) (rd (FF P g k) : Nat)) ∧ Below w.heap.size w w' := fun k hk w => by
        have x := specMean_any (P k) (face (P k)) g w (faces_of hk) (by omega) (by omega)
        have e := mean_cut (face (P k)) (show g ≤ 8 by omega)
        rw [← e.1, ← e.2] at x
        exact x
      have Hme := Lib.hid hme
      have Hrl := Lib.hid (fun k => rolls_le (face (P k)) (g := g) (n := g) (by omega) (by omega) (Nat.le_refl _))
      have hFl : ∀ k, FF P g k ≤ 13436928 := fun k => Hrl.out k
      have Hls := Lib.hid (fun k w => less_runs (FF P g (k + 1)) (low (FF P g) (k + 1)).2 w (hFl _) (low_le k (fun i _ => hFl i)))
      have Hst := Lib.hid (fun k (hk : 1 ≤ k) => low_step (FF P g) hk)
      clear hme hFl
      go_enter Try.func31, Try.ntmps31
      go_wp2_with fail
      refine (Hr.out _ H.out).mono ?_
      rintro e w1 ⟨rfl, hb1⟩
      have hRX := hRX.up hb1
      have hB := nx hB hb1
      clear hb1
      go_wp2_with fail
      refine (Hg.out _).mono ?_
      rintro e w2 ⟨rfl, hw2⟩
      have hw2 := hw2.symm
      subst hw2
      have hM := (At.newv 0 0 w1).congr (g := MF (FF P g) 0) fun k _ => by rw [MF_zero]
      have hRX0 := hRX.lt
      have hRX := hRX.past (.cells #[.int .i64 0, .int .i64 0] 30)
      have hB := na hB (.cells #[.int .i64 0, .int .i64 0] 30)
      go_wp2_with fail
      generalize w1.heap.size = mb at *
      go_loopw [7, 9] (fun bv kv wr => ∃ k : Nat, k ≤ n ∧ kv = .int .i64 k ∧ bv = .int .i64 ((low (FF P g) k).1 : Nat) ∧ Hid (∀ i, i < k → isRun (P i) = true) ∧ At wr mb 2 (MF (FF P g) k) ∧ At wr w.heap.size 2 (fun _ => 0) ∧ Below w.heap.size w wr) (fun _ kv _ => n - (intOf kv).toNat)
      case atStart => exact ⟨0, by omega, rfl, rfl, fun i hi => by omega, hM, hRX, hB⟩
      case round =>
        clear hM hRX hB
        obtain ⟨k, hk, rfl, rfl, hdone, hM, hRX, hB⟩ := hrel
        by_cases hlt : k < n
        · have hit : decide ((k : Int) < (n : Int)) = true := decide_eq_true (by omega)
          have hitN : decide (k < n) = true := decide_eq_true hlt
          have hRow := Hw.out.up hB
          have HRow := Lib.hid hRow
          obtain ⟨bk, o, rfl, hbk, hc⟩ := hRow.at_ hlt
          have c0 := hc 0 (by omega)
          have c1 := hc 1 (by omega)
          have c2 := hc 2 (by omega)
          have c3 := hc 3 (by omega)
          have c4 := hc 4 (by omega)
          have c5 := hc 5 (by omega)
          simp only [← Nat.add_assoc, Nat.add_zero] at c0 c1 c2 c3 c4 c5
          clear hRow hc
          have hru := Hru.out k
          unfold dv at hru
          cases hkk : isRun (P k)
          · rw [hkk] at hru
            have Hru1 := Lib.hid hru
            have HE := Lib.hid (out_3 (g := (g : Int)) hlt hkk)
            clear hru hkk
            go_wp2_with fail
            refine (Hru1.out _).mono ?_
            rintro e w5 ⟨rfl, hb5⟩
            have hRX := hRX.up hb5
            have hB := nx hB hb5
            clear c0 c1 c2 c3 c4 c5
            have c0 := hRX.cell 0 (by omega)
            have c1 := hRX.cell 1 (by omega)
            have z0 := hRX.free 0
            have z1 := hRX.free 1
            go_wp2_with fail
            refine ret_tct (b := w.heap.size) (n := 2) (f := fr 0 0) Try.results31 rfl rfl rfl Try.underlying30 (by kernel_rfl) (fin2' hRX _ _) rfl ⟨by rw [HE.out]; rfl, ?_⟩
            exact (hB.setCell (p := ⟨w.heap.size, 0, none⟩) (Nat.le_refl _) _).setCell (p := ⟨w.heap.size, 1, none⟩) (Nat.le_refl _) _
          · rw [hkk] at hru
            have Hru1 := Lib.hid hru
            have hme := Hme.out k hkk
            unfold dv at hme
            have Hme1 := Lib.hid hme
            have Hdone2 : Hid (∀ i, i < k + 1 → isRun (P i) = true) := fun i hi => by
              by_cases hik : i = k
              · subst hik; exact hkk
              · exact hdone.out i (by omega)
            clear hru hme hkk hdone
            go_wp2_with fail
            refine (Hru1.out _).mono ?_
            rintro e w5 ⟨rfl, hb5⟩
            have hRX5 := hRX.up hb5
            have hB5 := nx hB hb5
            have hM5 := hM.up hb5
            have hRow5 := HRow.out.up hb5
            clear c0 c1 c2 c3 c4 c5 hRX hB hM hb5 HRow
            have hc : ∀ k', k' < 6 → w5.cell? ⟨bk, o + (k * 6 + k'), none⟩ = some (.int .i64 (P k k')) := by
              obtain ⟨b', o', e', _, hc'⟩ := hRow5.at_ hlt
              have e2 : bk = b' ∧ o = o' := by simpa using e'
              rw [e2.1, e2.2]
              exact hc'
            have c0 := hc 0 (by omega)
            have c1 := hc 1 (by omega)
            have c2 := hc 2 (by omega)
            have c3 := hc 3 (by omega)
            have c4 := hc 4 (by omega)
            have c5 := hc 5 (by omega)
            simp only [← Nat.add_assoc, Nat.add_zero] at c0 c1 c2 c3 c4 c5
            clear hc
            go_wp2_with fail
            refine (Hme1.out _).mono ?_
            rintro e w6 ⟨rfl, hb6⟩
            have hmx := (hM5.up hb6).lt
            have hM60 := hM5.up hb6
            have hR60 := hRX5.up hb6
            have hB60 := nx hB5 hb6
            have hM6 := (hM5.up hb6).past (.cells #[.int .i64 (rn (FF P g k) : Nat), .int .i64 (rd (FF P g k) : Nat)] 30)
            have hX6 := At.newv (rn (FF P g k) : Nat) (rd (FF P g k) : Nat) w6
            have hrx := (hRX5.up hb6).lt
            have hR6 := (hRX5.up hb6).past (.cells #[.int .i64 (rn (FF P g k) : Nat), .int .i64 (rd (FF P g k) : Nat)] 30)
            have hB6 := na (nx hB5 hb6) (.cells #[.int .i64 (rn (FF P g k) : Nat), .int .i64 (rd (FF P g k) : Nat)] 30)
            clear c0 c1 c2 c3 c4 c5 hRX5 hB5 hM5 hb6 hRow5
            generalize hx2 : rn (FF P g k) = x2 at *
            generalize hy2 : rd (FF P g k) = y2 at *
            have Hxy := Lib.hid (And.intro hx2 hy2)
            clear hx2 hy2
            have q0 := hX6.cell 0 (by omega)
            have q1 := hX6.cell 1 (by omega)
            rw [show fr (x2 : Int) (y2 : Int) 0 = x2 from rfl] at q0
            rw [show fr (x2 : Int) (y2 : Int) 1 = y2 from rfl] at q1
            by_cases hk0 : k < 1
            · have hk00 : k = 0 := by omega
              subst hk00
              have Hlow : Hid (low (FF P g) (0 + 1) = (0, FF P g 0)) := rfl
              clear hk0 hit hitN
              have c0 := hM60.cell 0 (by omega)
              have c1 := hM60.cell 1 (by omega)
              have z0 := hM60.free 0
              have z1 := hM60.free 1
              go_wp2_with fail
              go_roundw
              case rel => exact ⟨0 + 1, by omega, by go_num, by rw [Hlow.out]; rfl, Hdone2, by rw [MF_pos _ (by omega), Hlow.out]; show At _ mb 2 (fr ((rn (FF P g 0) : Nat) : Int) ((rd (FF P g 0) : Nat) : Int)); rw [Hxy.out.1, Hxy.out.2]; exact (fin2' hM60 _ _).past _, ((hR60.other (by omega) _ _).other (by omega) _ _).past _, na ((hB60.setCell (p := ⟨mb, 0, none⟩) (by show w.heap.size ≤ mb; omega) _).setCell (p := ⟨mb, 1, none⟩) (by show w.heap.size ≤ mb; omega) _) _⟩
              case measure => simp [intOf]; omega
            · have hz : ((k : Int) == 0) = false := by simp; omega
              obtain ⟨k1, hk1⟩ : ∃ k1, k = k1 + 1 := ⟨k - 1, by omega⟩
              have hls := Hls.out k1
              rw [← hk1] at hls
              have Hst1 := Lib.hid (Hst.out k (by omega))
              rw [MF_pos _ (show 1 ≤ k by omega)] at hM6
              obtain ⟨lo, hlo⟩ : ∃ lo, lo = low (FF P g) k := ⟨_, rfl⟩
              rw [← hlo] at hls hM6 Hst1 ⊢
              have HMFk : Hid (MF (FF P g) k = fr (rn lo.2 : Nat) (rd lo.2 : Nat)) := by rw [hlo]; exact MF_pos _ (by omega)
              clear hk1
              have hls2 : ∀ w, Calls Try.prog 68 #[v2 (x2 : Nat) (y2 : Nat), v2 (rn lo.2 : Nat) (rd lo.2 : Nat)] w fun e w' => e = .returned (.bool (decide (FF P g k < lo.2))) ∧ Below w.heap.size w w' := fun w => by
                have x := hls w
                rw [Hxy.out.1, Hxy.out.2] at x
                exact x
              have Hls1 := Lib.hid hls2
              clear hls hls2
              generalize hx1 : rn lo.2 = x1 at *
              generalize hy1 : rd lo.2 = y1 at *
              have Hxy1 := Lib.hid (And.intro hx1 (And.intro hy1 hlo))
              clear hx1 hy1 hlo
              have c0 := hM6.cell 0 (by omega)
              have c1 := hM6.cell 1 (by omega)
              rw [show fr (x1 : Int) (y1 : Int) 0 = x1 from rfl] at c0
              rw [show fr (x1 : Int) (y1 : Int) 1 = y1 from rfl] at c1
              go_wp2_with fail
              refine (Hls1.out _).mono ?_
              rintro e w7 ⟨rfl, hb7⟩
              have hM7 := hM6.up hb7
              have hX7 := hX6.up hb7
              have hR7 := hR6.up hb7
              have hB7 := nx hB6 hb7
              clear c0 c1 q0 q1 hM6 hX6 hR6 hB6 hb7 hM60 hR60 hB60
              by_cases hl : FF P g k < lo.2
              · have hdl : decide (FF P g k < lo.2) = true := decide_eq_true hl
                have hst2 := Hst1.out
                rw [if_pos hl] at hst2
                have Hst2 := Lib.hid hst2
                rw [hdl]
                clear hdl hl hst2
                have q0 := hX7.cell 0 (by omega)
                have q1 := hX7.cell 1 (by omega)
                rw [show fr (x2 : Int) (y2 : Int) 0 = x2 from rfl] at q0
                rw [show fr (x2 : Int) (y2 : Int) 1 = y2 from rfl] at q1
                have c0 := hM7.cell 0 (by omega)
                have c1 := hM7.cell 1 (by omega)
                have z0 := hM7.free 0
                have z1 := hM7.free 1
                go_wp2_with fail
                go_roundw
                case rel => exact ⟨k + 1, by omega, by go_num, by rw [Hst2.out], Hdone2, by rw [MF_pos _ (by omega), Hst2.out]; show At _ mb 2 (fr ((rn (FF P g k) : Nat) : Int) ((rd (FF P g k) : Nat) : Int)); rw [Hxy.out.1, Hxy.out.2]; exact fin2' hM7 _ _, (hR7.other (by omega) _ _).other (by omega) _ _, (hB7.setCell (p := ⟨mb, 0, none⟩) (by show w.heap.size ≤ mb; omega) _).setCell (p := ⟨mb, 1, none⟩) (by show w.heap.size ≤ mb; omega) _⟩
                case measure => simp [intOf]; omega
              · have hdl : decide (FF P g k < lo.2) = false := decide_eq_false hl
                have hst2 := Hst1.out
                rw [if_neg hl] at hst2
                have Hst2 := Lib.hid hst2
                rw [hdl]
                clear hdl hl hst2
                go_wp2_with fail
                go_roundw
                case rel => exact ⟨k + 1, by omega, by go_num, by rw [Hst2.out], Hdone2, by rw [MF_pos _ (by omega), Hst2.out, Hxy1.out.1, Hxy1.out.2.1]; exact hM7, hR7, hB7⟩
                case measure => simp [intOf]; omega
        · obtain rfl : k = n := by omega
          have hit : decide ((k : Int) < (k : Int)) = false := decide_eq_false (by omega)
          have HE := Lib.hid (out_yes Hq.out ⟨by omega, by omega⟩ (fun i hi => hdone.out i hi))
          rw [MF_pos _ (show 1 ≤ k by omega)] at hM
          have c0 := hM.drew.cell 0 (by omega)
          have c1 := hM.drew.cell 1 (by omega)
          rw [show fr ((rn (low (FF P g) k).2 : Nat) : Int) ((rd (low (FF P g) k).2 : Nat) : Int) 0 = ((rn (low (FF P g) k).2 : Nat) : Int) from rfl] at c0
          rw [show fr ((rn (low (FF P g) k).2 : Nat) : Int) ((rd (low (FF P g) k).2 : Nat) : Int) 1 = ((rd (low (FF P g) k).2 : Nat) : Int) from rfl] at c1
          have q0 := hRX.drew.cell 0 (by omega)
          have q1 := hRX.drew.cell 1 (by omega)
          have z0 := hRX.drew.free 0
          have z1 := hRX.drew.free 1
          have q0' := hRX.cell 0 (by omega)
          have q1' := hRX.cell 1 (by omega)
          have z0' := hRX.free 0
          have z1' := hRX.free 1
          have hR' := hRX.drew
          have hB' := hB.drew
          go_wp2_with fail
          go_region
          all_goals
            go_wp2_with fail
            refine ret_tct (b := w.heap.size) (n := 2) (f := fr ((rn (low (FF P g) k).2 : Nat) : Int) ((rd (low (FF P g) k).2 : Nat) : Int)) Try.results31 rfl rfl rfl Try.underlying30 (by kernel_rfl) (fin2' hR' _ _) rfl ⟨by rw [HE.out]; rfl, ?_⟩
            exact (hB'.setCell (p := ⟨w.heap.size, 0, none⟩) (Nat.le_refl _) _).setCell (p := ⟨w.heap.size, 1, none⟩) (Nat.le_refl _) _
    · rw [decide_eq_false hgg] at hgo
      have Hg := Lib.hid hgo; clear hgo
      have HE := Lib.hid (out_2 (n := n) (P := P) hgg)
      clear hq hgg
      go_enter Try.func31, Try.ntmps31
      go_wp2_with fail
      refine (Hr.out _ H.out).mono ?_
      rintro e w1 ⟨rfl, hb1⟩
      have hRX := hRX.up hb1
      have hB := nx hB hb1
      clear hb1
      go_wp2_with fail
      refine (Hg.out _).mono ?_
      rintro e w2 ⟨rfl, hw2⟩
      have hw2 := hw2.symm
      subst hw2
      have c0 := hRX.cell 0 (by omega)
      have c1 := hRX.cell 1 (by omega)
      have z0 := hRX.free 0
      have z1 := hRX.free 1
      go_wp2_with fail
      refine ret_tct (b := w.heap.size) (n := 2) (f := fr 0 0) Try.results31 rfl rfl rfl Try.underlying30 (by kernel_rfl) (fin2' hRX _ _) rfl ⟨by rw [HE.out]; rfl, ?_⟩
      exact (hB.setCell (p := ⟨w.heap.size, 0, none⟩) (Nat.le_refl _) _).setCell (p := ⟨w.heap.size, 1, none⟩) (Nat.le_refl _) _


end BRun
end Go.Proofs.Ytcffglnfdnanhaa
