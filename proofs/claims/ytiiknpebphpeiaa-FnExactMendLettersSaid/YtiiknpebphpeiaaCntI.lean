/-
  The program's count of orders.
-/
import Derived.Test.YtiiknpebphpeiaaRows
import Derived.Test.YtiiknpebphpeiaaArr
import Derived.Test.YtiiknpebphpeiaaDieW
import Derived.Test.YtiiknpebphpeiaaSortW
import Derived.Test.YtiiknpebphpeiaaDicesW
import Derived.Test.YtiiknpebphpeiaaPoolW
import Derived.Test.YtiiknpebphpeiaaAll6
import Derived.Test.YtiiknpebphpeiaaIntsW
import Derived.Test.YtiiknpebphpeiaaRollN
import Derived.Test.YtiiknpebphpeiaaRollS
import Derived.Test.YtiiknpebphpeiaaFour
import Derived.Test.YtiiknpebphpeiaaOrdM
import Derived.Test.YtiiknpebphpeiaaOrdT
import Derived.Test.YtiiknpebphpeiaaOrdW
import Derived.Test.YtiiknpebphpeiaaOrdO
import Derived.Test.YtiiknpebphpeiaaOrdI
import Derived.Test.YtiiknpebphpeiaaOrdK
import Derived.Test.YtiiknpebphpeiaaAnyR
import Derived.Test.YtiiknpebphpeiaaMapO
import Derived.Test.YtiiknpebphpeiaaOpenD
import Derived.WalkKit
import Derived.WalkLawsBesides
import Derived.WalkSpells
import Derived.ProofKit
import Derived.OpenShut
import Derived.Deep.RegionWith
import Derived.Deep.QuietTactic
import Derived.BigQuiet
namespace Go.Proofs.Ytiiknpebphpeiaa
open Go.ChangeShapes Go.WideShapes Go.ChangeAt Go.RowKit
open Go.ChangeMaps (open_string shut_string)

namespace CntI
open Dice Arr OpenD DieW SortW DicesW PoolW All6 IntsW RollW Four OrdM OrdT OrdW OrdO OrdI OrdK AnyR MapO


/-- The order that the roll with a number gives, if it gives one. -/
def gO (P : Nat → Nat → Int) (n N : Nat) : Option Q4 := if okb (rollF P N n) n then some (q4 (ordF (rollF P N n) n)) else none
theorem gO_yes {P : Nat → Nat → Int} {n N : Nat} (h : okb (rollF P N n) n = true) : gO P n N = some (q4 (ordF (rollF P N n) n)) := if_pos h
theorem gO_no {P : Nat → Nat → Int} {n N : Nat} (h : okb (rollF P N n) n = false) : gO P n N = none := if_neg (by rw [h]; simp)
theorem okb_tie {f : Nat → Int} {n : Nat} (h : okb f n = true) : tieb f n n = false := by unfold okb at h; simpa using h
theorem gO_mem {P : Nat → Nat → Int} {n : Nat} (h1 : 1 ≤ n) (h4 : n ≤ 4) : ∀ N q, gO P n N = some q → q ∈ ordL n := by
  intro N q h
  cases hb : okb (rollF P N n) n
  · rw [gO_no hb] at h; cases h
  · rw [gO_yes hb] at h
    injection h with h
    rw [← h, ordF_no (okb_tie hb)]
    exact pl_mem h1 h4 (okb_tie hb)
theorem ordL_fit {n : Nat} (h4 : n ≤ 4) : ∀ q ∈ ordL n, ∀ j, j < 4 → -1 ≤ qa q j ∧ qa q j ≤ 4 := by
  obtain rfl | rfl | rfl | rfl | rfl : n = 0 ∨ n = 1 ∨ n = 2 ∨ n = 3 ∨ n = 4 := by omega
  all_goals decide +kernel
theorem fit_ord {n : Nat} (h4 : n ≤ 4) {q : Q4} (h : q ∈ ordL n) : fitQ q := fun j hj => by
  have := ordL_fit h4 q h j hj
  unfold fit
  omega
theorem grown_below {w a b : World} {row : Option Nat} (h : w.grownBy a row) (hb : Below a.heap.size a b) : w.grownBy b row :=
  ⟨hb.os.trans h.os, hb.tape.trans h.tape, hb.output.trans h.output, Nat.le_trans h.size hb.size, fun i hi hne => (hb.block i (Nat.lt_of_lt_of_le hi h.size)).trans (h.block i hi hne)⟩
theorem grown_block {w a : World} {m : Nat} {x : Obj} {es : Array MapEntry} {clock : Nat} (h : w.grownBy a (some m)) (hb : a.heap[m]? = some (.map es clock)) : w.grownBy (ChangeMaps.setBlock a m x) (some m) :=
  ⟨h.os, h.tape, h.output, by simp [ChangeMaps.setBlock]; exact h.size, fun i hi hne => (ChangeMaps.heap_setBlock_other hb _ (fun e => hne (by rw [e]))).trans (h.block i hi hne)⟩
theorem Row.kept {w w' : World} {A : Option Addr} {n m : Nat} {P : Nat → Nat → Int} (h : Row w A n P) (hm : ∀ b o, A = some ⟨b, o, none⟩ → b ≠ m) (hg : w.grownBy w' (some m)) : Row w' A n P := by
  rcases h with h | ⟨b, o, hA, hb, hc⟩
  · exact .inl h
  · refine .inr ⟨b, o, hA, Nat.lt_of_lt_of_le hb hg.size, fun i hi k hk => ?_⟩
    have e := hg.block b hb (fun e => by injection e with e; exact hm b o hA e)
    exact (World.cell?_of_block (a := ⟨b, _, none⟩) e).trans (hc i hi k hk)

theorem quiet_ldS {C : World → Prop} {K : Act → Prop} {a : Act} {o : Oper} (x : Operand) (ho : o.op = .load 26 x) {b : Nat} {f : Nat → Int} (hx : a.eval x = .pointer (some ⟨b, 0, none⟩)) (hC : ∀ w, C w → At w b 4 f)
    (hk : K (a.put o.dst (v4 f))) : o.quiet Try.prog a C K :=
  ⟨v4 f, fun w hw => by
    have hld := At.loadVarS (hC w hw) under size4
    unfold Oper.quietAt execOp
    simp only [ho, hx, Instr.loadAt, Instr.sureAddr, Sem.run_bind, Sem.run_pure, Result.andThen_ok, hld]
    exact ⟨rfl, rfl⟩, hk⟩
theorem olook {o : Oper} {a : Act} {w w1 : World} {K : Act → World → Prop} {Q : Exit → Act → World → Prop} (t : TypeId) (x y : Operand) (ho : o.op = .lookup t x y false) {xv yv v : Value} (hx : a.eval x = xv) (hy : a.eval y = yv)
    (hr : (Instr.lookup t xv yv false).run Try.prog w = .ok v w1) (h : K (a.put o.dst v) w1) : o.wp Try.prog a w K Q := by
  unfold Oper.wp execOp
  simp only [ho, hx, hy, Sem.run_bind, hr, Result.andThen_ok]
  exact h
theorem oentry {o : Oper} {a : Act} {w w1 : World} {K : Act → World → Prop} {Q : Exit → Act → World → Prop} (t : TypeId) (x y : Operand) (ho : o.op = .mapEntry t x y) {xv yv v : Value} (hx : a.eval x = xv) (hy : a.eval y = yv)
    (hr : (Instr.mapEntry t xv yv).run Try.prog w = .ok v w1) (h : K (a.put o.dst v) w1) : o.wp Try.prog a w K Q := by
  unfold Oper.wp execOp
  simp only [ho, hx, hy, Sem.run_bind, hr, Result.andThen_ok]
  exact h
theorem oestore {o : Oper} {a : Act} {w w1 : World} {K : Act → World → Prop} {Q : Exit → Act → World → Prop} (t : TypeId) (x y z : Operand) (ho : o.op = .entryStore t x y z) {xv yv zv : Value} (hx : a.eval x = xv) (hy : a.eval y = yv) (hz : a.eval z = zv)
    (hr : (Instr.entryStore t xv yv zv).run Try.prog w = .ok () w1) (h : K (a.put o.dst undef) w1) : o.wp Try.prog a w K Q := by
  unfold Oper.wp execOp
  simp only [ho, hx, hy, hz, Sem.run_bind, hr, Result.andThen_ok]
  exact h
def frC (A : Option Addr) (n c m k T6 g N : Nat) (q : Nat → Int) (u23 u24 u25 u26 u27 u28 u29 u30 u31 : Value) : Act :=
  ⟨#[.map (some m), .slice A n c, undef, undef, .int .i64 0, .int .i64 N, .int .i64 k, .pointer (some ⟨g, 0, none⟩), .bool true, .map (some m), .slice A n c, .int .i64 n, .int .i64 T6, .int .i64 k, .bool true, .int .i64 k, .tuple #[v4 q, .bool true], .slice A n c, .int .i64 k, .tuple #[v4 q, .bool true], v4 q, .bool true, .bool true, u23, u24, u25, u26, u27, u28, u29, u30, u31, undef], []⟩

set_option maxRecDepth 20000 in
set_option maxHeartbeats 8000000 in
theorem count_any (A : Option Addr) (n c m k0 : Nat) (F0 : Q4 → Nat) (P : Nat → Nat → Int) (w : World) (h : Row w A n P) (hm : ∀ b o, A = some ⟨b, o, none⟩ → b ≠ m) (hp : isPool n P = true) (hM : Mapped w m k0 F0) :
    Calls Try.prog 74 #[.map (some m), .slice A n c] w fun e w' => e = .returned (.int .i64 (nos (gO P n) (all6 n) : Nat)) ∧ Mapped w' m (all6 n) (cnt (gO P n) (all6 n)) ∧ w.grownBy w' (some m) := by
  obtain ⟨h1, h4, _⟩ := of_pool hp
  have h6 := all6_le h4
  have Ho := Lib.hid (fun w => outcomes_any n w h4)
  have Hf := Lib.hid (fun (k : Nat) (hk : k < all6 n) w h => implOrderOf_any A n c (k : Int) P w h (by unfold maxLen; omega))
  have Hk := Lib.hid (fun (k : Nat) (hk : k < all6 n) => okO_yes (yes_roll hp (k := (k : Int)) ⟨by omega, by omega⟩).1)
  obtain ⟨w1, hcl, hM1, hg1⟩ := hM.clear 0
  have H := Lib.hid h; clear h
  have Hm := Lib.hid hm; clear hm
  have Hmem := Lib.hid (gO_mem (P := P) h1 h4)
  clear hM hp
  obtain ⟨T6, hT⟩ : ∃ T6, T6 = all6 n := ⟨_, rfl⟩
  rw [← hT] at h6 Ho Hf Hk ⊢
  clear hT
  go_enter Try.func74, Try.ntmps74
  go_wp2_with fail
  refine (Ho.out _).mono ?_
  rintro e w2 ⟨rfl, rfl⟩
  go_wp2_with fail
  go_loopw [5, 13] (fun tv iv wr => ∃ k : Nat, k ≤ T6 ∧ iv = .int .i64 k ∧ tv = .int .i64 (nos (gO P n) k : Nat) ∧ Mapped wr m k (cnt (gO P n) k) ∧ w.grownBy wr (some m)) (fun _ iv _ => T6 - (intOf iv).toNat)
  case atStart => exact ⟨0, Nat.zero_le _, rfl, rfl, hM1, hg1⟩
  case round =>
    clear hM1 hg1 hcl
    obtain ⟨k, hk, rfl, rfl, hM, hG⟩ := hrel
    by_cases hlt : k < T6
    · have hit : decide ((k : Int) < (T6 : Int)) = true := decide_eq_true (by omega)
      have hitN : decide (k < T6) = true := decide_eq_true hlt
      have hR := Row.kept H.out Hm.out hG
      obtain ⟨e1, e2⟩ := Hk.out k hlt
      rw [Int.toNat_natCast] at e1 e2
      have hf := Hf.out k hlt
      rw [e1, e2] at hf
      have Hfk := Lib.hid hf; clear hf e1 e2
      have hnl := nos_le (gO P n) k
      have hcl := fun q => cnt_le (gO P n) q k
      have hst : ∀ q, cnt (gO P n) (k + 1) q = if gO P n k = some q then cnt (gO P n) k q + 1 else cnt (gO P n) k q := fun q => rfl
      have hsn : nos (gO P n) (k + 1) = if gO P n k = none then nos (gO P n) k + 1 else nos (gO P n) k := rfl
      have hgm := Hmem.out k
      cases hb : okb (rollF P k n) n
      · rw [gO_no hb] at hst hsn
        rw [hb] at Hfk
        have Hst := Lib.hid hst; clear hst
        have Hsn := Lib.hid hsn; clear hsn
        clear hb hgm hcl
        generalize ordF (rollF P k n) n = q at *
        go_wp2_with fail
        refine (Hfk.out _ hR).mono ?_
        rintro e w3 ⟨rfl, hb⟩
        have hM3 := (hM.up hb).up ((Below.refl _ w3).alloc (Nat.le_refl _) (fourO q 26))
        have hG3 := grown_below (grown_below hG hb) ((Below.refl _ w3).alloc (Nat.le_refl _) (fourO q 26))
        clear hM hG hb hR
        go_wp2_with fail
        go_roundw
        case rel => exact ⟨k + 1, by omega, by go_num, by rw [Hsn.out]; go_num, (hM3.mono (by omega)).congr fun q => by rw [Hst.out]; rfl, hG3⟩
        case measure => simp [intOf]; omega
      · rw [gO_yes hb] at hst hsn hgm
        rw [hb] at Hfk
        have hq : fitQ (q4 (ordF (rollF P k n) n)) := fit_ord h4 (hgm _ rfl)
        have Hst := Lib.hid hst; clear hst
        have Hsn := Lib.hid hsn; clear hsn
        clear hb hgm
        generalize ordF (rollF P k n) n = q at *
        go_wp2_with fail
        refine (Hfk.out _ hR).mono ?_
        rintro e w3 ⟨rfl, hb⟩
        have hM3 := (hM.up hb).up ((Below.refl _ w3).alloc (Nat.le_refl _) (fourO q 26))
        have hG3 := grown_below (grown_below hG hb) ((Below.refl _ w3).alloc (Nat.le_refl _) (fourO q 26))
        have hX := At.new4 w3 q 26 rfl
        have hmlt := hM.lt
        have hbs := hb.size
        clear hM hG hb hR
        go_wp2_with fail
        obtain ⟨W4, hW4⟩ : ∃ W4, W4 = w3.alloc (fourO q 26) := ⟨_, rfl⟩
        rw [← hW4] at hM3 hG3 hX ⊢
        clear hW4
        have hca : cnt (gO P n) k (q4 q) ≤ k := hcl _
        obtain ⟨C, hC⟩ : ∃ C, C = cnt (gO P n) k (q4 q) := ⟨_, rfl⟩
        obtain ⟨g, hg⟩ : ∃ g, g = w3.heap.size := ⟨_, rfl⟩
        rw [← hg] at hX ⊢
        obtain ⟨N, hN⟩ : ∃ N, N = nos (gO P n) k := ⟨_, rfl⟩
        rw [← hN]
        have hgm : g ≠ m := by have := hmlt; omega
        have hent := fun (wz : World) (hz : wz.heap[m]? = W4.heap[m]?) => (hM3.same hz).entry (by unfold maxLen; omega) hq (show cnt (gO P n) k (q4 q) ≤ 1000000 by omega)
        have hlk := fun (wz : World) (hz : wz.heap[m]? = W4.heap[m]?) => (hM3.same hz).look hq
        obtain ⟨F', hF'⟩ : ∃ F' : Q4 → Nat, F' = fun p => if q4 q = p then cnt (gO P n) k p + 1 else cnt (gO P n) k p := ⟨_, rfl⟩
        rw [← hF', ← hC] at hent
        rw [← hC] at hlk
        have hC6 : C ≤ 1296 := by omega
        have hadd : IntKind.i64.wrap ((C : Int) + 1) = (C : Int) + 1 := by simp [IntKind.wrap, IntKind.signed, IntKind.bits]; omega
        change Code.wp _ _ _ (frC A n c m k T6 g N q u23 u24 u25 u26 u27 u28 u29 u30 u31) _
        refine wp_region_inc (I := fun L az w' => ∃ (u23 u24 u25 u26 u27 u28 v0 : Value) (st : Nat) (es1 : Array MapEntry) (c1 : Nat), az = (frC A n c m k T6 g N q u23 u24 u25 u26 u27 u28 u29 u30 u31) ∧ (L 0 = true → u23 = .map (some m)) ∧ (L 1 = true → u24 = v4 q) ∧ (L 2 = true → u25 = .int .i64 (C : Nat)) ∧ (L 3 = true → u26 = .int .i64 ((C : Nat) + 1 : Int)) ∧ (L 4 = true → u27 = .tuple #[v0, goInt st]) ∧ (L 5 = true → u28 = goInt st) ∧ w.grownBy w' (some m) ∧ At w' g 4 q ∧ (L 4 = false → w'.heap[m]? = W4.heap[m]?) ∧ (L 4 = true → L 6 = false → w'.heap[m]? = some (.map es1 c1)) ∧ (L 4 = true → (∀ w2 : World, w2.heap[m]? = some (.map es1 c1) → (Instr.lookup 70 (.map (some m)) (v4 q) false).run Try.prog w2 = .ok (.int .i64 (C : Nat)) w2) ∧ ∀ w2 : World, w2.heap[m]? = some (.map es1 c1) → ∃ es' clock', (Instr.entryStore 70 (.map (some m)) (goInt st) (.int .i64 ((C : Nat) + 1 : Int))).run Try.prog w2 = .ok () (ChangeMaps.setBlock w2 m (.map es' clock')) ∧ ∀ w3 : World, w3.heap[m]? = some (.map es' clock') → Mapped w3 m (k + 1) F') ∧ (L 6 = true → Mapped w' m (k + 1) F')) (by kernel_rfl) (by kernel_rfl) ?_ ?_ ?_
        · exact ⟨_, _, _, _, _, _, undef, 0, #[], 0, rfl, (fun h => by cases h), (fun h => by cases h), (fun h => by cases h), (fun h => by cases h), (fun h => by cases h), (fun h => by cases h), grown_below hG3 ((Below.refl _ W4).drew), hX.drew, fun _ => rfl, (fun h => by cases h), (fun h => by cases h), (fun h => by cases h)⟩
        · intro L az wz i hi hL hdep hcl2 hI
          obtain ⟨u23, u24, u25, u26, u27, u28, v0, st, es1, c1, rfl, k0, k1, k2, k3, k4, k5, hG, hA, h4f, h46, h4t, h6m⟩ := hI
          have hi' : i < 7 := hi
          clear hi
          obtain rfl | rfl | rfl | rfl | rfl | rfl | rfl : i = 0 ∨ i = 1 ∨ i = 2 ∨ i = 3 ∨ i = 4 ∨ i = 5 ∨ i = 6 := by omega
          · refine wpOp_want rfl rfl (Oper.wp_of_quiet (C := fun w' => w' = wz) (K := fun a' => a' = (frC A n c m k T6 g N q (.map (some m)) (u24) (u25) (u26) (u27) (u28) u29 u30 u31)) rfl ?_ ?_)
            · intro a' w' hC' hK
              subst hK
              subst hC'
              exact ⟨.map (some m), u24, u25, u26, u27, u28, v0, st, es1, c1, rfl, fun _ => rfl, k1, k2, k3, k4, k5, hG, hA, h4f, h46, h4t, h6m⟩
            · exact BigFrame.quiet_move _ rfl rfl
          · refine wpOp_want rfl rfl (Oper.wp_of_quiet (C := fun w' => w' = wz) (K := fun a' => a' = (frC A n c m k T6 g N q (u23) (v4 q) (u25) (u26) (u27) (u28) u29 u30 u31)) rfl ?_ ?_)
            · intro a' w' hC' hK
              subst hK
              subst hC'
              exact ⟨u23, (v4 q), u25, u26, u27, u28, v0, st, es1, c1, rfl, k0, fun _ => rfl, k2, k3, k4, k5, hG, hA, h4f, h46, h4t, h6m⟩
            · exact quiet_ldS _ rfl rfl (fun w' hw' => by subst hw'; exact hA) rfl
          · obtain rfl := k0 (hdep 0 (by kernel_rfl))
            obtain rfl := k1 (hdep 1 (by kernel_rfl))
            have hr : (Instr.lookup 70 (.map (some m)) (v4 q) false).run Try.prog wz = .ok (.int .i64 (C : Nat)) wz := by
              cases h4 : L 4
              · exact hlk wz (h4f h4)
              · have h6 : L 6 = false := by cases h : L 6; rfl; exact absurd (hcl2 6 3 h (by kernel_rfl)) (by
                  intro h3; have := hcl2 3 2 h3 (by kernel_rfl); rw [hL] at this; cases this)
                exact (h4t h4).1 wz (h46 h4 h6)
            refine wpOp_want rfl rfl (olook _ _ _ rfl rfl rfl hr ?_)
            exact ⟨_, _, _, u26, u27, u28, v0, st, es1, c1, rfl, fun _ => rfl, fun _ => rfl, fun _ => rfl, k3, k4, k5, hG, hA, h4f, h46, h4t, h6m⟩
          · obtain rfl := k2 (hdep 2 (by kernel_rfl))
            refine wpOp_want rfl rfl (Oper.wp_of_quiet (C := fun w' => w' = wz) (K := fun a' => a' = (frC A n c m k T6 g N q (u23) (u24) (.int .i64 (C : Nat)) (.int .i64 (IntKind.i64.wrap ((C : Int) + 1))) (u27) (u28) u29 u30 u31)) rfl ?_ ?_)
            · intro a' w' hC' hK
              subst hK
              subst hC'
              exact ⟨u23, u24, _, _, u27, u28, v0, st, es1, c1, rfl, k0, k1, fun _ => rfl, fun _ => by rw [hadd], k4, k5, hG, hA, h4f, h46, h4t, h6m⟩
            · exact ⟨.int .i64 (IntKind.i64.wrap ((C : Int) + 1)), fun w' hw' => ⟨rfl, rfl⟩, rfl⟩
          · obtain rfl := k0 (hdep 0 (by kernel_rfl))
            obtain rfl := k1 (hdep 1 (by kernel_rfl))
            obtain ⟨v0', st', es1', c1', hr, hlo, hst⟩ := hent wz (h4f hL)
            obtain ⟨D0, ⟨es0, c0, hb0, _⟩, _⟩ := hM3.same (h4f hL)
            have h6 : L 6 = false := by cases h : L 6; rfl; exact absurd (hcl2 6 4 h (by kernel_rfl)) (by rw [hL]; decide)
            have h5 : L 5 = false := by cases h : L 5; rfl; exact absurd (hcl2 5 4 h (by kernel_rfl)) (by rw [hL]; decide)
            refine wpOp_want rfl rfl (oentry _ _ _ rfl rfl rfl hr ?_)
            exact ⟨_, _, u25, u26, _, u28, v0', st', es1', c1', rfl, fun _ => rfl, fun _ => rfl, k2, k3, fun _ => rfl, (fun h => absurd (show L 5 = true from h) (by rw [h5]; decide)), grown_block hG hb0, At.keptR hA (grown_block (World.grownBy.refl wz _) hb0) (fun e => by injection e with e; exact hgm e.symm), (fun h => by cases h), fun _ _ => ChangeMaps.heap_setBlock_same hb0 _, fun _ => ⟨hlo, hst⟩, fun h => absurd (show L 6 = true from h) (by rw [h6]; decide)⟩
          · obtain rfl := k4 (hdep 4 (by kernel_rfl))
            refine wpOp_want rfl rfl (Oper.wp_of_quiet (C := fun w' => w' = wz) (K := fun a' => a' = (frC A n c m k T6 g N q (u23) (u24) (u25) (u26) (.tuple #[v0, goInt st]) (goInt st) u29 u30 u31)) rfl ?_ ?_)
            · intro a' w' hC' hK
              subst hK
              subst hC'
              exact ⟨u23, u24, u25, u26, _, _, v0, st, es1, c1, rfl, k0, k1, k2, k3, fun _ => rfl, fun _ => rfl, hG, hA, h4f, h46, h4t, h6m⟩
            · exact ⟨goInt st, fun w' hw' => ⟨rfl, rfl⟩, rfl⟩
          · obtain rfl := k0 (hdep 0 (by kernel_rfl))
            obtain rfl := k5 (hdep 5 (by kernel_rfl))
            obtain rfl := k3 (hdep 3 (by kernel_rfl))
            have h4 := hdep 4 (by kernel_rfl)
            have hb1 := h46 h4 hL
            obtain ⟨es', clock', hr, hfin⟩ := (h4t h4).2 wz hb1
            refine wpOp_want rfl rfl (oestore _ _ _ _ rfl rfl rfl rfl hr ?_)
            exact ⟨_, u24, u25, _, u27, _, v0, st, es1, c1, rfl, fun _ => rfl, k1, k2, fun _ => rfl, k4, fun _ => rfl, grown_block hG hb1, At.keptR hA (grown_block (World.grownBy.refl wz _) hb1) (fun e => by injection e with e; exact hgm e.symm), fun h => absurd h4 (by rw [show L 4 = false from h]; decide), (fun _ h => by cases h), h4t, fun _ => hfin _ (ChangeMaps.heap_setBlock_same hb1 _)⟩
        · intro L az wz hL hcl2 hI
          obtain ⟨u23, u24, u25, u26, u27, u28, v0, st, es1, c1, rfl, k0, k1, k2, k3, k4, k5, hG, hA, h4f, h46, h4t, h6m⟩ := hI
          have hM9 := h6m (hL 6 (by decide))
          clear k0 k1 k2 k3 k4 k5 h4f h46 h4t h6m hL hcl2 hent hlk hA hX hM3 hG3
          have HF := Lib.hid hF'; clear hF'
          have HN := Lib.hid hN; clear hN
          unfold frC
          go_wp2_with fail
          go_roundw
          case rel => exact ⟨k + 1, by omega, by go_num, by rw [HN.out, Hsn.out]; rfl, hM9.congr fun p => by rw [Hst.out, HF.out]; simp, hG⟩
          case measure => simp [intOf]; omega
    · obtain rfl : k = T6 := by omega
      have hit : decide ((k : Int) < (k : Int)) = false := decide_eq_false (by omega)
      have hitN : decide (k < k) = false := decide_eq_false (by omega)
      go_wp2_with fail
      go_ret
      exact ⟨rfl, hM, hG⟩


end CntI
end Go.Proofs.Ytiiknpebphpeiaa
