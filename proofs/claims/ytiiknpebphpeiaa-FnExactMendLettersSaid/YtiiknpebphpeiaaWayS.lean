/-
  The ways of orders of the model.
-/
import Derived.Test.YtiiknpebphpeiaaRows
import Derived.Test.YtiiknpebphpeiaaArr
import Derived.Test.YtiiknpebphpeiaaDieW
import Derived.Test.YtiiknpebphpeiaaSortW
import Derived.Test.YtiiknpebphpeiaaDicesW
import Derived.Test.YtiiknpebphpeiaaPoolW
import Derived.Test.YtiiknpebphpeiaaAll6
import Derived.Test.YtiiknpebphpeiaaIntsW
import Derived.Test.YtiiknpebphpeiaaRollN
import Derived.Test.YtiiknpebphpeiaaRollS
import Derived.Test.YtiiknpebphpeiaaFour
import Derived.Test.YtiiknpebphpeiaaOrdM
import Derived.Test.YtiiknpebphpeiaaOrdT
import Derived.Test.YtiiknpebphpeiaaOrdW
import Derived.Test.YtiiknpebphpeiaaOrdK
import Derived.Test.YtiiknpebphpeiaaOrdS
import Derived.Test.YtiiknpebphpeiaaOwnL
import Derived.Test.YtiiknpebphpeiaaCntI
import Derived.Test.YtiiknpebphpeiaaWayI
import Derived.Test.YtiiknpebphpeiaaOpenD
import Derived.WalkKit
import Derived.WalkLawsBesides
import Derived.WalkSpells
import Derived.ProofKit
import Derived.OpenShut
import Derived.Deep.RegionWith
import Derived.Deep.QuietTactic
import Derived.BigQuiet
namespace Go.Proofs.Ytiiknpebphpeiaa
open Go.ChangeShapes Go.WideShapes Go.ChangeAt Go.RowKit
open Go.ChangeMaps (open_string shut_string)

namespace WayS
open Dice Arr OpenD DieW SortW DicesW PoolW All6 IntsW RollW Four OwnL OrdM OrdT OrdW OrdK OrdS CntI WayI


theorem part4 (cs : Array Value) (off : Nat) (w : World) : (part 24 cs off).run Try.prog w = .ok (.agg (cs.extract off (off + 4))) w := by
  cases hq : Try.prog.info? 24 with
  | none =>
    have : (Try.prog.info? 24).map (·.size) = some 4 := by kernel_rfl
    simp [hq] at this
  | some i =>
    have hs : i.size = 4 := by
      have : (Try.prog.info? 24).map (·.size) = some 4 := by kernel_rfl
      simpa [hq] using this
    have hagg : (isAgg 24).run Try.prog w = .ok true w := by
      unfold isAgg
      rw [Sem.run_bind, run_underlying Try.underlying24 w]
      simp_all
    simp [part, Sem.run_bind, hagg, sizeOf, typeInfo, hq, hs]
theorem eq_q (x y : Nat → Int) : decide (q4 x = q4 y) = decide (agree x y 4) := by
  by_cases h : q4 x = q4 y
  · rw [decide_eq_true h, decide_eq_true (show agree x y 4 from fun j hj => q4_inj h j hj)]
  · rw [decide_eq_false h, decide_eq_false (fun e : agree x y 4 => h (q4_congr e))]
set_option maxRecDepth 20000 in
theorem eq4 (x y : Nat → Int) (w : World) : (Op.equalIn 10000 26 (v4 x) (v4 y)).run Try.prog w = .ok (decide (q4 x = q4 y)) w := by
  have hs : Try.prog.stoodInHeld 26 = false := by kernel_rfl
  have hf : (Try.prog.fieldsOf 26).toList.map (fun f => (f.name != "_", f.type, f.offset)) = [(true, 24, 0)] := by kernel_rfl
  rw [run_equalIn_struct w 9999 _ _ _ under hs]
  generalize (Try.prog.fieldsOf 26).toList = fs at hf
  obtain ⟨f0, rfl⟩ : ∃ f0, fs = [f0] := by
    have hl : fs.length = 1 := by have := congrArg List.length hf; simpa using this
    rcases fs with _ | ⟨f0, _ | ⟨f1, t⟩⟩
    · simp at hl
    · exact ⟨f0, rfl⟩
    · simp at hl
  simp only [List.map_cons, List.map_nil, List.cons.injEq, Prod.mk.injEq, and_true] at hf
  obtain ⟨n0, t0, o0⟩ := hf
  have n0 : f0.name ≠ "_" := by simpa using n0
  have ha := run_equalIn_vals (P := Try.prog) w 9997 24 3 4 Try.underlying24 Try.underlying3 Try.sizeOf3 x y
  rw [eq_q]
  unfold Op.eqFields
  rw [if_pos n0, t0, o0]
  simp only [Sem.run_bind, part4, Result.andThen_ok]
  refine (congrArg (fun r => Result.andThen r _) ha).trans ?_
  simp only [Result.andThen_ok]
  cases decide (agree x y 4)
  · rfl
  · simp [Op.eqFields]
section
variable {C : World → Prop} {K : Act → Prop} {a : Act} {o : Oper}
/-- An order of a list read, in every world of the class. -/
theorem quiet_ld4 (x : Operand) (ho : o.op = .load 26 x) {b off m : Nat} {f g : Nat → Int} (hx : a.eval x = .pointer (some ⟨b, off, none⟩)) (hm : off + 4 ≤ m) (hC : ∀ w, C w → At w b m f) (hg : ∀ k, k < 4 → f (off + k) = g k)
    (hk : K (a.put o.dst (v4 g))) : o.quiet Try.prog a C K :=
  ⟨v4 g, fun w hw => by
    have hld := load_off4 (hC w hw) hm
    have e : v4 (fun k => f (off + k)) = v4 g := by
      have e0 := hg 0 (by omega)
      have e1 := hg 1 (by omega)
      have e2 := hg 2 (by omega)
      have e3 := hg 3 (by omega)
      simp only [v4, e0, e1, e2, e3]
    rw [e] at hld
    unfold Oper.quietAt execOp
    simp only [ho, hx, Instr.loadAt, Instr.sureAddr, Sem.run_bind, Sem.run_pure, Result.andThen_ok, hld]
    exact ⟨rfl, rfl⟩, hk⟩
end
/-- The list of ways behind the first j orders of one more roll. -/
def wj (F G : Q4 → Nat) (L : List Q4) (j i : Nat) : Int := if i < j then wf G L i else wf F L i
theorem wj_put {F G : Q4 → Nat} {L : List Q4} {j : Nat} : ∀ i, put (wj F G L j) j (wf G L j) i = wj F G L (j + 1) i := by
  intro i
  unfold wj
  by_cases e : i = j
  · subst e; rw [put_same, if_pos (by omega)]
  · rw [put_other _ e]
    by_cases h : i < j
    · rw [if_pos h, if_pos (by omega)]
    · rw [if_neg h, if_neg (by omega)]
theorem wj_stay {F G : Q4 → Nat} {L : List Q4} {j : Nat} (h : wf F L j = wf G L j) : ∀ i, wj F G L j i = wj F G L (j + 1) i := by
  intro i
  unfold wj
  by_cases e : i = j
  · subst e; rw [if_neg (by omega), if_pos (by omega), h]
  · by_cases h : i < j
    · rw [if_pos h, if_pos (by omega)]
    · rw [if_neg h, if_neg (by omega)]
theorem wj_0 {F G : Q4 → Nat} {L : List Q4} : ∀ i, wf F L i = wj F G L 0 i := fun i => by unfold wj; rw [if_neg (by omega)]
theorem wj_all {F G : Q4 → Nat} {L : List Q4} : ∀ i, i < L.length → wj F G L L.length i = wf G L i := fun i hi => by unfold wj; rw [if_pos hi]

set_option maxRecDepth 20000 in
set_option maxHeartbeats 8000000 in
theorem specW_any (A : Option Addr) (n c : Nat) (P : Nat → Nat → Int) (w : World) (h : Row w A n P) (h1 : 1 ≤ n) (h4 : n ≤ 4) :
    Calls Try.prog 72 #[.slice A n c] w fun e w' => ∃ b, e = .returned (.slice (some ⟨b, 0, none⟩) (ordL n).length (ordL n).length) ∧ w.heap.size ≤ b ∧ At w' b (ordL n).length (wf (cnt (gO P n) (all6 n)) (ordL n)) ∧ Below w.heap.size w w' := by
  have Hs := Lib.hid (fun w => specOrders_any n w h1 h4)
  have Ha := Lib.hid (fun w => l2All_any n w h4)
  have h6 := all6_le h4
  have Hr := Lib.hid (fun (k : Nat) (hk : k < all6 n) w h => l2Roll_any A n c k P w h h4 (by omega))
  have Ho := Lib.hid (fun (k g c : Nat) w h => specOrd_any g n c (rollF P k n) w h h4)
  have hl24 : (ordL n).length ≤ 24 := (ordI_len h1 h4 n (Nat.le_refl _)).1
  have hl1 : 1 ≤ (ordL n).length := (ordI_len h1 h4 n (Nat.le_refl _)).2
  have H := Lib.hid h; clear h
  obtain ⟨T6, hT⟩ : ∃ T6, T6 = all6 n := ⟨_, rfl⟩
  rw [← hT] at h6 Ha Hr ⊢
  clear hT
  generalize ordL n = L at *
  obtain ⟨m, hm⟩ : ∃ m, m = L.length := ⟨_, rfl⟩
  rw [← hm] at Hs hl24 hl1 ⊢
  have Hm := Lib.hid hm; clear hm
  go_enter Try.func72, Try.ntmps72
  go_wp2_with fail
  refine (Hs.out _).mono ?_
  rintro e w2 ⟨A2, c2, rfl, hO, hb⟩
  obtain ⟨bL, rfl, hbL, hL0⟩ := hO.at_ (by omega)
  obtain ⟨w3, hmk, hW0, hb3⟩ := make_ints w2 m (by omega)
  have hlt0 := hL0.lt
  obtain ⟨bW, hbW⟩ : ∃ bW, bW = w2.heap.size := ⟨_, rfl⟩
  rw [← hbW] at hW0 hmk hlt0
  have hL1 := hL0.up hb3
  have hB3 := nx hb hb3
  have hbs := hb.size
  have hwb : w.heap.size ≤ bW := by omega
  clear hb hb3 hL0 hO hbW
  go_wp2_with fail
  clear hmk
  go_loopw [5] (fun iv wr => ∃ k : Nat, k ≤ T6 ∧ iv = .int .i64 k ∧ At wr bW m (wf (cnt (gO P n) k) L) ∧ At wr bL (m * 4) (ofL L) ∧ Below w.heap.size w wr) (fun iv _ => T6 - (intOf iv).toNat)
  case atStart => exact ⟨0, Nat.zero_le _, rfl, hW0, hL1, hB3⟩
  case round =>
    clear hW0 hL1 hB3
    obtain ⟨k, hk, rfl, hW, hL, hB⟩ := hrel
    by_cases hlt : k < T6
    · have hit : decide ((k : Int) < (T6 : Int)) = true := decide_eq_true (by omega)
      have hitN : decide (k < T6) = true := decide_eq_true hlt
      go_wp2_with fail
      refine (Ha.out _).mono ?_
      rintro e w4 ⟨rfl, rfl⟩
      go_wp2_with fail
      refine (Hr.out k hlt _ (H.out.up hB)).mono ?_
      rintro e w5 ⟨g, rfl, hg, hG, hb⟩
      have hW := hW.up hb
      have hL := hL.up hb
      have hB := nx hB hb
      clear hb hg
      go_wp2_with fail
      refine (Ho.out k _ _ _ hG).mono ?_
      rintro e w6 ⟨rfl, hb⟩
      have hW := hW.up hb
      have hL := hL.up hb
      have hB := nx hB hb
      have hst : ∀ q, cnt (gO P n) (k + 1) q = if gO P n k = some q then cnt (gO P n) k q + 1 else cnt (gO P n) k q := fun q => rfl
      have hcl := fun q => cnt_le (gO P n) q k
      clear hb hG
      cases hbk : okb (rollF P k n) n
      · rw [gO_no hbk] at hst
        have hsame : ∀ i, wf (cnt (gO P n) k) L i = wf (cnt (gO P n) (k + 1)) L i := fun i => by unfold wf; rw [hst]; rfl
        have Hsame := Lib.hid hsame; clear hsame hst hbk hcl
        generalize ordF (rollF P k n) n = q at *
        have hW := hW.past (fourO q 26)
        have hL := hL.past (fourO q 26)
        have hB := na hB (fourO q 26)
        go_wp2_with fail
        obtain ⟨W7, hW7⟩ : ∃ W7, W7 = w6.alloc (fourO q 26) := ⟨_, rfl⟩
        rw [← hW7] at hW hL hB ⊢
        clear hW7
        go_loopw [8] (fun jv wr => ∃ j : Nat, j ≤ m ∧ jv = .int .i64 j ∧ At wr bW m (wf (cnt (gO P n) k) L) ∧ At wr bL (m * 4) (ofL L) ∧ Below w.heap.size w wr) (fun jv _ => m - (intOf jv).toNat)
        case atStart => exact ⟨0, Nat.zero_le _, rfl, hW, hL, hB⟩
        case round =>
          clear hW hL hB
          obtain ⟨j, hj, rfl, hW, hL, hB⟩ := hrel
          by_cases hlj : j < m
          · have hjt : decide ((j : Int) < (m : Int)) = true := decide_eq_true (by omega)
            have hjtN : decide (j < m) = true := decide_eq_true hlj
            go_wp2_with fail
            go_quiet (fail)
            go_wp2_with fail
            go_roundw
            case rel => exact ⟨j + 1, by omega, by go_num, hW.drewN _, hL.drewN _, belowN hB _⟩
            case measure => simp [intOf]; omega
          · have hjt : decide ((j : Int) < (m : Int)) = false := decide_eq_false (by omega)
            have hjtN : decide (j < m) = false := decide_eq_false (by omega)
            go_wp2_with fail
            go_roundw
            case rel => exact ⟨k + 1, by omega, by go_num, hW.congr fun i _ => Hsame.out i, hL, hB⟩
            case measure => simp [intOf]; omega
      · rw [gO_yes hbk] at hst
        have Hst := Lib.hid hst; clear hst hbk
        generalize ordF (rollF P k n) n = q at *
        have hX := At.new4 w6 q 26 rfl
        have hWl := hW.lt
        have hW := hW.past (fourO q 26)
        have hL := hL.past (fourO q 26)
        have hB := na hB (fourO q 26)
        have hxs := hX.lt
        have hsz := hB.size
        have hbne : bW ≠ w6.heap.size := by omega
        go_wp2_with fail
        obtain ⟨o, ho⟩ : ∃ o, o = w6.heap.size := ⟨_, rfl⟩
        obtain ⟨W7, hW7⟩ : ∃ W7, W7 = w6.alloc (fourO q 26) := ⟨_, rfl⟩
        rw [← hW7] at hW hL hB hX ⊢
        rw [← ho] at hX hbne ⊢
        clear hW7 ho hxs hWl hsz
        go_loopw [8] (fun jv wr => ∃ j : Nat, j ≤ m ∧ jv = .int .i64 j ∧ At wr bW m (wj (cnt (gO P n) k) (cnt (gO P n) (k + 1)) L j) ∧ At wr bL (m * 4) (ofL L) ∧ At wr o 4 q ∧ Below w.heap.size w wr) (fun jv _ => m - (intOf jv).toNat)
        case atStart => exact ⟨0, Nat.zero_le _, rfl, hW.congr fun i _ => wj_0 i, hL, hX, hB⟩
        case round =>
          clear hW hL hB hX
          obtain ⟨j, hj, rfl, hW, hL, hX, hB⟩ := hrel
          by_cases hlj : j < m
          · have hjt : decide ((j : Int) < (m : Int)) = true := decide_eq_true (by omega)
            have hjtN : decide (j < m) = true := decide_eq_true hlj
            have hcj := hcl (L.getD j (0, 0, 0, 0))
            have hcw := hW.cell j hlj
            have hzw := hW.free j
            have hwj : wj (cnt (gO P n) k) (cnt (gO P n) (k + 1)) L j j = (cnt (gO P n) k (L.getD j (0, 0, 0, 0)) : Nat) := by unfold wj wf; rw [if_neg (by omega)]
            have hgj : wf (cnt (gO P n) (k + 1)) L j = ((if some (q4 q) = some (L.getD j (0, 0, 0, 0)) then cnt (gO P n) k (L.getD j (0, 0, 0, 0)) + 1 else cnt (gO P n) k (L.getD j (0, 0, 0, 0))) : Nat) := by unfold wf; rw [Hst.out]
            have hat := fun k (hk : k < 4) => ofL_at L j hk
            rw [hwj] at hcw
            have heq := fun w => eq4 (qa (L.getD j (0, 0, 0, 0))) q w
            have hput := Lib.hid (@wj_put (cnt (gO P n) k) (cnt (gO P n) (k + 1)) L j)
            have hstay := Lib.hid (@wj_stay (cnt (gO P n) k) (cnt (gO P n) (k + 1)) L j)
            have hwfj : wf (cnt (gO P n) k) L j = (cnt (gO P n) k (L.getD j (0, 0, 0, 0)) : Nat) := rfl
            have Hat := Lib.hid hat; clear hat
            have Hwfj := Lib.hid hwfj; clear hwfj
            rw [q4_qa] at heq
            obtain ⟨y0, y1, y2, y3⟩ := At.from4 hL (j * 4) (by omega)
            rw [show ofL L (j * 4) = qa (L.getD j (0, 0, 0, 0)) 0 from Hat.out 0 (by omega)] at y0
            rw [Hat.out 1 (by omega)] at y1
            rw [Hat.out 2 (by omega)] at y2
            rw [Hat.out 3 (by omega)] at y3
            obtain ⟨x0, x1, x2, x3⟩ := At.four hX
            clear Hat
            generalize L.getD j (0, 0, 0, 0) = p at *
            generalize hC : cnt (gO P n) k p = C at *
            clear hC
            by_cases hqp : p = q4 q
            · rw [if_pos (by rw [hqp])] at hgj
              have hd : decide (p = q4 q) = true := decide_eq_true hqp
              rw [hd] at heq
              clear hd hqp
              have hgj2 : wf (cnt (gO P n) (k + 1)) L j = ((C + 1 : Nat) : Int) := hgj
              have Hgj := Lib.hid hgj2; clear hgj hgj2 hstay
              go_wp2_with fail
              go_quiet (fail)
              rename_i nq
              have hcw := (hW.drewN nq).cell j hlj
              rw [hwj] at hcw
              have hzw := (hW.drewN nq).free j
              have HP := Lib.hid hput; clear hput
              go_wp2_with fail
              go_roundw
              case rel => exact ⟨j + 1, by omega, by go_num, ((hW.drewN nq).set hlj ((C : Int) + 1)).congr fun i _ => by rw [← HP.out i, Hgj.out]; rfl, (hL.drewN nq).other (by omega) _ _, (hX.drewN nq).other (fun e => hbne e.symm) _ _, (belowN hB nq).setCell (p := ⟨bW, j, none⟩) hwb _⟩
              case measure => simp [intOf]; omega
            · rw [if_neg (by intro e; injection e with e; exact hqp e.symm)] at hgj
              have hd : decide (p = q4 q) = false := decide_eq_false hqp
              rw [hd] at heq
              clear hd hqp
              have HS := Lib.hid (hstay (by rw [Hwfj.out, hgj])); clear hstay hput hgj
              go_wp2_with fail
              go_quiet (fail)
              go_wp2_with fail
              go_roundw
              case rel => exact ⟨j + 1, by omega, by go_num, (hW.drewN _).congr fun i _ => HS.out i, hL.drewN _, hX.drewN _, belowN hB _⟩
              case measure => simp [intOf]; omega
          · have hjm : j = m := by omega
            have hjt : decide ((j : Int) < (m : Int)) = false := decide_eq_false (by omega)
            have hjtN : decide (j < m) = false := decide_eq_false (by omega)
            go_wp2_with fail
            go_roundw
            case rel => exact ⟨k + 1, by omega, by go_num, hW.congr fun i hi => by rw [hjm, Hm.out]; exact wj_all i (by rw [← Hm.out]; exact hi), hL, hB⟩
            case measure => simp [intOf]; omega
    · obtain rfl : k = T6 := by omega
      have hit : decide ((k : Int) < (k : Int)) = false := decide_eq_false (by omega)
      have hitN : decide (k < k) = false := decide_eq_false (by omega)
      go_wp2_with fail
      refine (Ha.out _).mono ?_
      rintro e w4 ⟨rfl, rfl⟩
      go_wp2_with fail
      go_ret
      exact ⟨bW, rfl, hwb, hW, hB⟩


end WayS
end Go.Proofs.Ytiiknpebphpeiaa
