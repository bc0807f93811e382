/-
  BurstTable of the model.
-/
import Derived.Test.YtdodokeebmdceaaRows
import Derived.Test.YtdodokeebmdceaaArr
import Derived.Test.YtdodokeebmdceaaAnyR
import Derived.Test.YtdodokeebmdceaaDieW
import Derived.Test.YtdodokeebmdceaaSortW
import Derived.Test.YtdodokeebmdceaaFracW
import Derived.Test.YtdodokeebmdceaaFracL
import Derived.Test.YtdodokeebmdceaaCutW
import Derived.Test.YtdodokeebmdceaaAll6
import Derived.Test.YtdodokeebmdceaaAllL
import Derived.Test.YtdodokeebmdceaaOwnL
import Derived.Test.YtdodokeebmdceaaFracM
import Derived.Test.YtdodokeebmdceaaWgtM
import Derived.Test.YtdodokeebmdceaaWgtW
import Derived.Test.YtdodokeebmdceaaWaitW
import Derived.Test.YtdodokeebmdceaaBig121
import Derived.Test.YtdodokeebmdceaaBurI
import Derived.Test.YtdodokeebmdceaaOpenD
import Derived.StillTail
import Derived.StillTactics
import Derived.StillTailTactics
import Derived.BigRegion
import Derived.WalkKit
import Derived.WalkLawsBesides
import Derived.WalkSpells
import Derived.ProofKit
import Derived.OpenShut
import Derived.Deep.RegionWith
import Derived.Deep.QuietTactic
import Derived.BigQuiet
namespace Go.Proofs.Ytdodokeebmdceaa
open Go.ChangeShapes Go.WideShapes Go.ChangeAt Go.RowKit
open Go.ChangeMaps (open_string shut_string)

namespace BurS
open Dice Arr DieW SortW FracW CutW All6 AllL OwnL FracM WgtM WgtW WaitW Big121 BurI


def one (j : Nat) : Int := if j = 0 then 1 else 0
theorem b1 {ops : Array Oper} {rest : List Oper} {o : Oper} {a : Act} {w : World} {Q : Exit → Act → World → Prop} (hgd : o.guard = none) (ho : o.op = .build 23 #[(0, .const (.int .i64 1))])
    (h : wpList Try.prog ops Q rest (a.put o.dst (tv one)) w) : wpList Try.prog ops Q (o :: rest) a w := by
  have e : Try.prog.built 23 [(0, .int .i64 1)] = some (vals 121 one).toArray := by kernel_rfl
  refine wpList_build hgd 23 #[(0, .const (.int .i64 1))] ho ?_ ?_
  · simp only [List.map_toArray, List.map_cons, List.map_nil, Act.eval, e, Option.isSome_some]
  · simp only [List.map_toArray, List.map_cons, List.map_nil, Act.eval, e, Option.getD_some]
    exact h
theorem opn_one (G W : Nat) (x : Nat) : one x = opn G W 0 x := by
  unfold one opn
  rw [Nat.zero_mul]
  rfl
theorem opn_at {G W i s : Nat} (h : s = i * G) : opn G W i s = ((W ^ i : Nat) : Int) := by
  unfold opn
  rw [if_pos h]
theorem opn_off {G W i s : Nat} (h : s ≠ i * G) : opn G W i s = 0 := by
  unfold opn
  rw [if_neg h]

set_option maxRecDepth 100000 in
set_option maxHeartbeats 8000000 in
theorem specBT_any (d : Nat → Int) (n : Int) (w : World) :
    Calls Try.prog 15 #[dv d, .int .i64 n] w fun e w' => e = .returned (.tuple #[tv (bT d n), .bool (okT d n)]) ∧ Below w.heap.size w w' := by
  have hc := fun w => l2Die_any d w
  unfold dv at hc
  have Hc := Lib.hid hc; clear hc
  have hgo := fun w => l1In_any n 0 3 w
  cases hr : isDie d
  · rw [hr] at Hc
    rw [t_1 hr, t_no (t_1 hr)]
    clear hr hgo
    unfold dv
    have hB0 := na (na (n0 w) (sixO d 22)) (.cells Try.zeroCells23 23)
    have hD0 := (At.new6 w d 22 rfl).past (.cells Try.zeroCells23 23)
    have hR0 := fresh (w.alloc (sixO d 22)) (b := w.heap.size + 1) (by rw [size_alloc])
    obtain ⟨e0, e1, e2, e3, e4, e5⟩ := hD0.six
    go_enter Try.func15, Try.ntmps15
    go_wp2_with fail
    refine (Hc.out _).mono ?_
    rintro e w1 ⟨rfl, hb1⟩
    have hB := nx hB0 hb1
    have hD := hD0.up hb1
    have hR := hR0.up hb1
    clear hB0 hD0 hR0 hb1 e0 e1 e2 e3 e4 e5
    go_wp2_with (first | refine ld rfl _ rfl rfl (by assumption) ?_ | refine st rfl _ _ rfl rfl rfl (by assumption) ?_ | refine b0 rfl rfl ?_)
    refine ret_cell_tmp (b := w.heap.size + 1) (n := 121) (f := fun _ => 0) Try.results15 rfl rfl Try.underlying23 size_run (hR.stored (fun _ => 0)) rfl ⟨rfl, ?_⟩
    exact hB.trans (setCells_below (w := w1) (p := w.heap.size + 1) (B := w.heap.size) (by omega) (vals 121 (fun _ => 0)) 0)
  rw [hr] at Hc
  by_cases hnn : 0 ≤ n ∧ n ≤ 3
  case neg =>
    rw [decide_eq_false hnn] at hgo
    rw [t_5 hnn, t_no (t_5 hnn)]
    have Hg := Lib.hid hgo; clear hgo
    clear hr hnn
    unfold dv
    have hB0 := na (na (n0 w) (sixO d 22)) (.cells Try.zeroCells23 23)
    have hD0 := (At.new6 w d 22 rfl).past (.cells Try.zeroCells23 23)
    have hR0 := fresh (w.alloc (sixO d 22)) (b := w.heap.size + 1) (by rw [size_alloc])
    obtain ⟨e0, e1, e2, e3, e4, e5⟩ := hD0.six
    go_enter Try.func15, Try.ntmps15
    go_wp2_with fail
    refine (Hc.out _).mono ?_
    rintro e w1 ⟨rfl, hb1⟩
    have hB := nx hB0 hb1
    have hD := hD0.up hb1
    have hR := hR0.up hb1
    clear hB0 hD0 hR0 hb1 e0 e1 e2 e3 e4 e5
    go_wp2_with fail
    refine (Hg.out _).mono ?_
    rintro e w2 ⟨rfl, hw2⟩
    have hw2 := hw2.symm
    subst hw2
    go_wp2_with (first | refine ld rfl _ rfl rfl (by assumption) ?_ | refine st rfl _ _ rfl rfl rfl (by assumption) ?_ | refine b0 rfl rfl ?_)
    refine ret_cell_tmp (b := w.heap.size + 1) (n := 121) (f := fun _ => 0) Try.results15 rfl rfl Try.underlying23 size_run (hR.stored (fun _ => 0)) rfl ⟨rfl, ?_⟩
    exact hB.trans (setCells_below (w := w1) (p := w.heap.size + 1) (B := w.heap.size) (by omega) (vals 121 (fun _ => 0)) 0)
  rw [decide_eq_true hnn] at hgo
  have Hg := Lib.hid hgo; clear hgo
  have hok := t_4 hr hnn
  obtain ⟨h0, h3⟩ := hnn
  obtain ⟨n, rfl⟩ : ∃ m : Nat, n = m := ⟨n.toNat, by omega⟩
  rw [hok, t_yes hok]
  have hF := faces_die hr
  have hWl := wgt_le d (d 5) 6
  have hW1 := wgt_pos (d := d) (j := 5) (k := 6) (by omega)
  have Ho := Lib.hid (fun (m : Nat) (h : m ≤ 16) w => l2AllL m w h)
  have HF := Lib.hid hF
  have hf5 := (hF 5 (by omega)).2.2
  have Htb := Lib.hid (fun m x (h : m ≤ 6 * (n + 1)) => tb_le (f := face d) (n := n) hWl (by omega) m x h)
  have Hpl := Lib.hid (fun i (hi : i ≤ n) => part_le (W := wgt d (d 5) 6) (n := n) hWl hi (by omega))
  have Hnb := Lib.hid (fun i p x (hi : i ≤ n) (hp : p ≤ 6) => nv_bound (d := d) (G := face d 5) (W := wgt d (d 5) 6) (n := n) (i := i) (p := p) (x := x) hWl hi (by omega) hp)
  have HWe : Hid (wgt d (d 5) 6 = wgt d (d 5) 6) := rfl
  obtain ⟨Wt, hWt⟩ : ∃ v, v = wgt d (d 5) 6 := ⟨_, rfl⟩
  rw [← hWt] at hWl hW1 Htb Hpl Hnb ⊢
  have HWt := Lib.hid hWt.symm; clear hWt HWe
  clear hF hok hr
  have hn3' : n ≤ 3 := by omega
  unfold dv
  have hB0 := na (na (n0 w) (sixO d 22)) (.cells Try.zeroCells23 23)
  have hD0 := (At.new6 w d 22 rfl).past (.cells Try.zeroCells23 23)
  have hR0 := fresh (w.alloc (sixO d 22)) (b := w.heap.size + 1) (by rw [size_alloc])
  obtain ⟨e0, e1, e2, e3, e4, e5⟩ := hD0.six
  go_enter Try.func15, Try.ntmps15
  go_wp2_with fail
  refine (Hc.out _).mono ?_
  rintro e w1 ⟨rfl, hb1⟩
  have hB := nx hB0 hb1
  have hD := hD0.up hb1
  have hR := hR0.up hb1
  clear hB0 hD0 hR0 hb1 e0 e1 e2 e3 e4 e5
  go_wp2_with fail
  refine (Hg.out _).mono ?_
  rintro e w2 ⟨rfl, hw2⟩
  have hw2 := hw2.symm
  subst hw2
  have hl1 := hR.lt
  obtain ⟨w3, hst3, hO3, hB3, hK3⟩ := store_ex ((fresh w1 (b := w1.heap.size) rfl).past (.cells Try.zeroCells23 23)) one
  have hT3 := hK3 (w1.heap.size + 1) 121 _ (by omega) (fresh (w1.alloc (.cells Try.zeroCells23 23)) (b := w1.heap.size + 1) (by rw [size_alloc]))
  have hR3 := hK3 (w.heap.size + 1) 121 _ (by omega) ((hR.past (.cells Try.zeroCells23 23)).past (.cells Try.zeroCells23 23))
  have hD3 := hK3 w.heap.size 6 _ (by omega) ((hD.past (.cells Try.zeroCells23 23)).past (.cells Try.zeroCells23 23))
  have hbl3 : Below w.heap.size w w3 := (na (na hB _) _).trans (hB3 _ (by omega))
  obtain ⟨w4, hst4, hT4, hB4, hK4⟩ := store_ex hT3 (fun _ => 0)
  have hO4 := hK4 w1.heap.size 121 _ (by omega) hO3
  have hR4 := hK4 (w.heap.size + 1) 121 _ (by omega) hR3
  have hD4 := hK4 w.heap.size 6 _ (by omega) hD3
  have hbl4 : Below w.heap.size w w4 := hbl3.trans (hB4 _ (by omega))
  clear hB3 hK3 hT3 hR3 hD3 hO3 hbl3 hB4 hK4 hB hD hR
  go_wp2_with (first | refine b1 rfl rfl ?_ | refine b0 rfl rfl ?_)
  clear hst3 hst4
  obtain ⟨bo, hbo⟩ : ∃ b, b = w1.heap.size := ⟨_, rfl⟩
  rw [← hbo] at hl1 hO4 hT4 ⊢
  clear hbo
  go_loopw [8] (fun iv wr => ∃ i : Nat, i ≤ n + 1 ∧ iv = .int .i64 i ∧ At wr bo 121 (fun x => if i ≤ n then opn (face d 5) Wt i x else 0) ∧ At wr (bo + 1) 121 (fun x => ((tb (face d) Wt n (6 * i) x : Nat) : Int)) ∧ At wr w.heap.size 6 d ∧ At wr (w.heap.size + 1) 121 (fun _ => 0) ∧ Below w.heap.size w wr) (fun iv _ => n + 1 - (intOf iv).toNat)
  case atStart => exact ⟨0, by omega, rfl, hO4.congr fun x _ => by rw [if_pos (by omega)]; exact opn_one _ _ x, hT4.congr fun x _ => rfl, hD4, hR4, hbl4⟩
  case round =>
    clear hO4 hT4 hD4 hR4 hbl4
    obtain ⟨i, hi, rfl, hO, hT, hD, hR, hB⟩ := hrel
    by_cases hin : i ≤ n
    · have hit : decide ((i : Int) ≤ (n : Int)) = true := decide_eq_true (by omega)
      have hitN : decide (i ≤ n) = true := decide_eq_true hin
      replace hO : At wr bo 121 (opn (face d 5) Wt i) := hO.congr fun x _ => by rw [if_pos hin]
      obtain ⟨w5, hst5, hN5, hB5, hK5⟩ := store_ex (fresh wr (b := wr.heap.size) rfl) (fun _ => 0)
      have hOl := hO.lt
      have hTl := hT.lt
      have hO5 := hK5 bo 121 _ (by omega) (hO.past _)
      have hT5 := hK5 (bo + 1) 121 _ (by omega) (hT.past _)
      have hR5 := hK5 (w.heap.size + 1) 121 _ (by omega) (hR.past _)
      have hD5 := hK5 w.heap.size 6 _ (by omega) (hD.past _)
      have hbl5 : Below w.heap.size w w5 := (na hB _).trans (hB5 _ hB.size)
      clear hB5 hK5 hO hT hR hD hB
      go_wp2_with (refine b0 rfl rfl ?_)
      clear hst5
      obtain ⟨nb, hnb⟩ : ∃ b, b = wr.heap.size := ⟨_, rfl⟩
      rw [← hnb] at hOl hTl hN5 ⊢
      clear hnb
      go_loopw [10] (fun sv wr => ∃ s : Nat, s ≤ 121 ∧ sv = .int .i64 s ∧ At wr nb 121 (nvn d (face d 5) Wt n i (pz (face d 5) i s 0)) ∧ At wr (bo + 1) 121 (fun x => ((tb (face d) Wt n (6 * i + pz (face d 5) i s 0) x : Nat) : Int)) ∧ At wr bo 121 (opn (face d 5) Wt i) ∧ At wr w.heap.size 6 d ∧ At wr (w.heap.size + 1) 121 (fun _ => 0) ∧ Below w.heap.size w wr) (fun sv _ => 121 - (intOf sv).toNat)
      case atStart => exact ⟨0, by omega, rfl, hN5.congr fun x _ => by rw [pz_start, nv_start], hT5.congr fun x _ => by rw [pz_start]; rfl, hO5, hD5, hR5, hbl5⟩
      case round =>
        clear hN5 hT5 hO5 hD5 hR5 hbl5
        obtain ⟨s, hs, rfl, hN, hT, hO, hD, hR, hB⟩ := hrel
        by_cases hs1 : s < 121
        · have hits : decide ((s : Int) < 121) = true := decide_eq_true (by omega)
          go_wp2_with fail
          go_loopw [11] (fun kv wr => ∃ k : Nat, k ≤ 6 ∧ kv = .int .i64 k ∧ At wr nb 121 (nvn d (face d 5) Wt n i (pz (face d 5) i s k)) ∧ At wr (bo + 1) 121 (fun x => ((tb (face d) Wt n (6 * i + pz (face d 5) i s k) x : Nat) : Int)) ∧ At wr bo 121 (opn (face d 5) Wt i) ∧ At wr w.heap.size 6 d ∧ At wr (w.heap.size + 1) 121 (fun _ => 0) ∧ Below w.heap.size w wr) (fun kv _ => 6 - (intOf kv).toNat)
          case atStart => exact ⟨0, by omega, rfl, hN, hT, hO, hD, hR, hB⟩
          case round =>
            clear hN hT hO hD hR hB
            obtain ⟨k, hk, rfl, hN, hT, hO, hD, hR, hB⟩ := hrel
            by_cases hk6 : k < 6
            · have co := hO.cell s hs1
              by_cases hsi : s = i * face d 5
              · rw [opn_at hsi] at co
                have hpl := Hpl.out i hin
                have h3 : 1 ≤ 6 ^ (n - i) := Nat.one_le_pow _ _ (by omega)
                have hVb := Nat.le_trans (Nat.le_mul_of_pos_right (Wt ^ i) h3) hpl
                have hVp : 1 ≤ Wt ^ i := Nat.one_le_pow _ _ hW1
                clear h3
                rw [pz_at hsi] at hN hT
                have ck := hD.cell k hk6
                have c5 := hD.cell 5 (by omega)
                have ck' := hD.drew.cell k hk6
                have c5' := hD.drew.cell 5 (by omega)
                obtain ⟨hfk, hf1, hf30⟩ := HF.out k hk6
                have hf5e := (HF.out 5 (by omega)).1
                have hs1i : (s : Int) < 121 := by omega
                have hk6i : (k : Int) < 6 := by omega
                have hs90 : s ≤ 90 := by
                  have h1 : i * face d 5 ≤ 3 * 30 := Nat.mul_le_mul (by omega) hf5
                  omega
                have hw : wrap64 ((s : Int) + d k) = (s : Int) + d k := by unfold wrap64; omega
                have hjn : ((s : Int) + d k).toNat = s + face d k := by omega
                have hjlt : (s : Int) + d k < 121 := by omega
                have hj0 : 0 ≤ (s : Int) + d k := by omega
                have hxl : s + face d k < 121 := by omega
                have hw2 : IntKind.i64.wrap ((s : Int) + d k) = (s : Int) + d k := FracL.wrap_sameL _ hj0 (by omega)
                obtain ⟨V, hV⟩ : ∃ V, V = Wt ^ i := ⟨_, rfl⟩
                by_cases hex : d k = d 5 ∧ i < n
                · have g1 : (d k == d 5) = true := by simpa using hex.1
                  have g2 : decide ((i : Int) < (n : Int)) = true := decide_eq_true (by omega)
                  have g2N : decide (i < n) = true := decide_eq_true hex.2
                  have hx1 : s + face d k = (i + 1) * face d 5 := by
                    have h1 : face d k = face d 5 := by have := hex.1; omega
                    rw [Nat.add_mul, Nat.one_mul, ← hsi, h1]
                  have hst := nv_put (d := d) (G := face d 5) (W := Wt) (n := n) (i := i) (p := k) (x := s + face d k) hex.2 hex.1 hx1
                  have hst2 := tb_stay (f := face d) (W := Wt) (n := n) (i := i) hk6 ⟨by have := hex.1; omega, hex.2⟩
                  rw [← hV] at hst co hVb hVp
                  have hnb := Hnb.out i k (s + face d k) hin hk
                  have hx0 := (opn_at (W := Wt) hsi)
                  rw [← hV] at hx0
                  have Hx0 := Lib.hid hx0; clear hx0
                  have Hst := Lib.hid hst; clear hst
                  have Hst2 := Lib.hid hst2; clear hst2
                  have Hex := Lib.hid hex; clear hex
                  have Hx1 := Lib.hid hx1; clear hx1
                  have Hfk := Lib.hid hfk
                  have Hf5 := Lib.hid hf5e; clear hf5e hfk
                  have HsI := Lib.hid hsi; clear hsi
                  have HV := Lib.hid hV; clear hV
                  have hV0 : ((V : Int) == 0) = false := by simp; omega
                  have hV1 : ¬ ((V : Int) = 0) := by omega
                  have hN' := hN.drew
                  have hT' := hT.drew
                  have hO' := hO.drew
                  have hR' := hR.drew
                  have hD' := hD.drew
                  have hB' := hB.drew
                  go_wp2_with fail
                  clear hN hT hO hR hD hB ck c5 co
                  refine wp_region_still_tail 10 (by kernel_rfl) (by kernel_rfl) ?_
                  simp only [List.take_succ_cons, List.take_zero, List.drop_succ_cons, List.drop_zero]
                  repeat still_step
                  refine wpStill_nil ?_
                  change wpList _ _ _ _ _ wr.drew
                  generalize wr.drew = W5 at *
                  clear ck' c5'
                  go_wp2_with fail
                  have cn := hN'.drew.cell (s + face d k) hxl
                  have zn := hN'.drew.free (s + face d k)
                  have co' := hO'.drew.cell s hs1
                  rw [Hx0.out] at co'
                  have ck6 := hD'.drew.cell k hk6
                  generalize nvn d (face d 5) Wt n i k (s + face d k) = nv0 at *
                  have hsum : IntKind.i64.wrap (nv0 + (V : Int)) = nv0 + (V : Int) := FracL.wrap_sameL _ (by omega) (by omega)
                  have hN6 := hN'.drew
                  have hT6 := hT'.drew
                  have hO6 := hO'.drew
                  have hR6 := hR'.drew
                  have hD6 := hD'.drew
                  have hB6 := hB'.drew
                  clear hN' hT' hO' hR' hD' hB'
                  refine wp_region_still_tail 17 (by kernel_rfl) (by kernel_rfl) ?_
                  simp only [List.take_succ_cons, List.take_zero, List.drop_succ_cons, List.drop_zero]
                  repeat still_step
                  refine wpStill_nil ?_
                  change wpList _ _ _ _ _ W5.drew
                  generalize W5.drew = W6 at *
                  go_wp2_with fail
                  go_roundw
                  case rel => exact ⟨k + 1, by omega, by go_num, by rw [pz_at HsI.out]; exact (hN6.set hxl _).congr fun x _ => Hst.out x, by rw [pz_at HsI.out]; exact (hT6.other (by omega) _ _).congr fun x _ => congrArg Int.ofNat (Hst2.out x).symm, hO6.other (by omega) _ _, hD6.other (by omega) _ _, hR6.other (by omega) _ _, hB6.setCell (p := ⟨nb, s + face d k, none⟩) (by show w.heap.size ≤ nb; omega) _⟩
                  case measure => simp [intOf]; omega
                · have hgt : (d k == d 5) = false ∨ ((d k == d 5) = true ∧ decide ((i : Int) < (n : Int)) = false ∧ decide (i < n) = false) := by
                    by_cases h : d k = d 5
                    · exact .inr ⟨by simpa using h, decide_eq_false (fun x => hex ⟨h, by omega⟩), decide_eq_false (fun x => hex ⟨h, x⟩)⟩
                    · exact .inl (by simpa using h)
                  have hst := tb_add (f := face d) (W := Wt) (n := n) (i := i) hk6 (fun h => hex ⟨by omega, h.2⟩)
                  have hst2 := nv_miss (G := face d 5) (W := Wt) hex
                  rw [← hsi, ← hV] at hst
                  rw [← hV] at co hVb hVp hpl
                  have hx0 := (opn_at (W := Wt) hsi)
                  rw [← hV] at hx0
                  have Hx0 := Lib.hid hx0; clear hx0
                  have ht := Htb.out (6 * i + k) (s + face d k) (by omega)
                  have ho := Ho.out (n - i) (by omega)
                  rw [show all6 (n - i) = 6 ^ (n - i) from rfl] at ho
                  obtain ⟨p, hp⟩ : ∃ p, p = V * 6 ^ (n - i) := ⟨_, rfl⟩
                  have hpm : (V : Int) * ((6 ^ (n - i) : Nat) : Int) = (p : Int) := by rw [hp]; push_cast; rfl
                  have Hst := Lib.hid (put_tb hst); clear hst
                  rw [← hp] at hpl Hst
                  have Hst2 := Lib.hid hst2; clear hst2
                  have Hp := Lib.hid hp; clear hp
                  have wp1 : IntKind.i64.wrap (p : Int) = (p : Int) := FracL.wrap_sameL _ (by omega) (by omega)
                  have hsub : ((n : Int) - (i : Int)) = ((n - i : Nat) : Int) := by omega
                  obtain ⟨l, hl⟩ : ∃ l, l = n - i := ⟨_, rfl⟩
                  rw [← hl] at hsub ho hpm
                  have Hl := Lib.hid hl; clear hl
                  generalize ((6 ^ l : Nat) : Int) = O at *
                  have Ho' := Lib.hid ho; clear ho
                  have hl3 : (l : Int) ≤ 3 := by omega
                  have wsb : IntKind.i64.wrap (l : Int) = (l : Int) := FracL.wrap_sameL _ (by omega) (by omega)
                  have HsI := Lib.hid hsi; clear hsi
                  have HV := Lib.hid hV; clear hV
                  have Hex := Lib.hid hex; clear hex
                  have Hfk := Lib.hid hfk
                  have Hf5 := Lib.hid hf5e; clear hf5e hfk
                  have hV0 : ((V : Int) == 0) = false := by simp; omega
                  have hV1 : ¬ ((V : Int) = 0) := by omega
                  have hN' := hN.drew
                  have hT' := hT.drew
                  have hO' := hO.drew
                  have hR' := hR.drew
                  have hD' := hD.drew
                  have hB' := hB.drew
                  obtain g1 | ⟨g1, g2, g2N⟩ := hgt
                  all_goals
                    go_wp2_with fail
                    clear hN hT hO hR hD hB ck c5 co
                    refine wp_region_still_tail 10 (by kernel_rfl) (by kernel_rfl) ?_
                    simp only [List.take_succ_cons, List.take_zero, List.drop_succ_cons, List.drop_zero]
                    repeat still_step
                    refine wpStill_nil ?_
                    change wpList _ _ _ _ _ wr.drew
                    generalize wr.drew = W5 at *
                    clear ck' c5'
                    go_wp2_with fail
                    have ct := hT'.drew.cell (s + face d k) hxl
                    have zt := hT'.drew.free (s + face d k)
                    have co' := hO'.drew.cell s hs1
                    rw [Hx0.out] at co'
                    have ck6 := hD'.drew.cell k hk6
                    generalize tb (face d) Wt n (6 * i + k) (s + face d k) = tv0 at *
                    have hsum : IntKind.i64.wrap ((tv0 : Int) + (p : Int)) = (tv0 : Int) + (p : Int) := FracL.wrap_sameL _ (by omega) (by omega)
                    have hN6 := hN'.drew
                    have hT6 := hT'.drew
                    have hO6 := hO'.drew
                    have hR6 := hR'.drew
                    have hD6 := hD'.drew
                    have hB6 := hB'.drew
                    clear hN' hT' hO' hR' hD' hB'
                    have HoD := Lib.hid (Ho'.out W5.drew)
                    refine wp_region_still_tail 22 (by kernel_rfl) (by kernel_rfl) ?_
                    simp only [List.take_succ_cons, List.take_zero, List.drop_succ_cons, List.drop_zero]
                    repeat still_step
                    still_call HoD.out
                    repeat still_step
                    refine wpStill_nil ?_
                    change wpList _ _ _ _ _ W5.drew
                    clear HoD
                    generalize W5.drew = W6 at *
                    go_wp2_with fail
                    go_roundw
                    case rel => exact ⟨k + 1, by omega, by go_num, by rw [pz_at HsI.out]; exact (hN6.other (by omega) _ _).congr fun x _ => (Hst2.out x).symm, by rw [pz_at HsI.out]; exact (hT6.set hxl _).congr fun x _ => Hst.out x, hO6.other (by omega) _ _, hD6.other (by omega) _ _, hR6.other (by omega) _ _, hB6.setCell (p := ⟨bo + 1, s + face d k, none⟩) (by show w.heap.size ≤ bo + 1; omega) _⟩
                    case measure => simp [intOf]; omega
              · rw [opn_off hsi] at co
                have hp := pz_same (G := face d 5) (k := k) hsi
                have Hp := Lib.hid hp; clear hp hsi
                go_wp2_with fail
                go_roundw
                case rel => exact ⟨k + 1, by omega, by go_num, by rw [Hp.out]; exact hN, by rw [Hp.out]; exact hT, hO, hD, hR, hB⟩
                case measure => simp [intOf]; omega
            · obtain rfl : k = 6 := by omega
              go_wp2_with fail
              go_roundw
              case rel => exact ⟨s + 1, by omega, by go_num, by rw [← pz_next]; exact hN, by rw [← pz_next]; exact hT, hO, hD, hR, hB⟩
              case measure => simp [intOf]; omega
        · obtain rfl : s = 121 := by omega
          have h121 : i * face d 5 < 121 := by
            have h1 : i * face d 5 ≤ 3 * 30 := Nat.mul_le_mul (by omega) hf5
            omega
          rw [pz_end h121] at hN hT
          have hNn : ∀ x, nvn d (face d 5) Wt n i 6 x = (fun x => if i + 1 ≤ n then opn (face d 5) Wt (i + 1) x else 0) x := fun x => by
            by_cases h : i + 1 ≤ n
            · show _ = if i + 1 ≤ n then _ else _
              rw [if_pos h]
              exact nv_end HWt.out (by omega) x
            · show _ = if i + 1 ≤ n then _ else _
              rw [if_neg h]
              unfold nvn nvw
              rw [if_neg (by omega : ¬ i < n)]
              split <;> rfl
          have HNn := Lib.hid hNn; clear hNn
          obtain ⟨w7, hst7, hO7, hB7, hK7⟩ := store_ex hO (nvn d (face d 5) Wt n i 6)
          have hT7 := hK7 (bo + 1) 121 _ (by omega) hT
          have hR7 := hK7 (w.heap.size + 1) 121 _ (by omega) hR
          have hD7 := hK7 w.heap.size 6 _ (by omega) hD
          have hB7 := hB.trans (hB7 _ (by omega))
          clear hK7 hO hT hR hD hB
          go_wp2_with (refine ld rfl _ rfl rfl hN ?_)
          clear hst7 hN
          go_roundw
          case rel => exact ⟨i + 1, by omega, by go_num, hO7.congr fun x _ => HNn.out x, hT7, hD7, hR7, hB7⟩
          case measure => simp [intOf]; omega
    · obtain rfl : i = n + 1 := by omega
      have hit : decide (((n + 1 : Nat) : Int) ≤ (n : Int)) = false := decide_eq_false (by omega)
      have hit2 : decide ((n : Int) + 1 ≤ (n : Int)) = false := decide_eq_false (by omega)
      have hit3 : decide (n + 1 ≤ n) = false := decide_eq_false (by omega)
      go_wp2_with (first | refine ld rfl _ rfl rfl hT ?_ | refine st rfl _ _ rfl rfl rfl hR ?_)
      refine ret_cell_tmp (b := w.heap.size + 1) (n := 121) (f := fun x => ((tb (face d) Wt n (6 * (n + 1)) x : Nat) : Int)) Try.results15 rfl rfl Try.underlying23 size_run (hR.stored (fun x => ((tb (face d) Wt n (6 * (n + 1)) x : Nat) : Int))) rfl ⟨rfl, ?_⟩
      exact hB.trans (setCells_below (w := wr) (p := w.heap.size + 1) (B := w.heap.size) (by omega) (vals 121 (fun x => ((tb (face d) Wt n (6 * (n + 1)) x : Nat) : Int))) 0)


end BurS
end Go.Proofs.Ytdodokeebmdceaa
