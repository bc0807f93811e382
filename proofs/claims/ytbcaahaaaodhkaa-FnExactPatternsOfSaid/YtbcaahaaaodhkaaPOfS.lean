/-
  PatternsOf, by the specification.
-/
import Derived.Test.YtbcaahaaaodhkaaRows
import Derived.Test.YtbcaahaaaodhkaaPOfI
import Derived.Test.YtbcaahaaaodhkaaFoursW
import Derived.Test.YtbcaahaaaodhkaaKeysW
import Derived.Test.YtbcaahaaaodhkaaPKey
import Derived.Test.YtbcaahaaaodhkaaShelfS4
import Derived.Test.YtbcaahaaaodhkaaAnyR
import Derived.Test.YtbcaahaaaodhkaaPatC
import Derived.Test.YtbcaahaaaodhkaaPatS
import Derived.Test.YtbcaahaaaodhkaaPatsI
import Derived.Test.YtbcaahaaaodhkaaPlS
import Derived.Test.YtbcaahaaaodhkaaPatI
import Derived.Test.YtbcaahaaaodhkaaPlI
import Derived.Test.YtbcaahaaaodhkaaFour
import Derived.Test.YtbcaahaaaodhkaaPatM
import Derived.Test.YtbcaahaaaodhkaaSortDn
import Derived.Test.YtbcaahaaaodhkaaPlaces
import Derived.Test.YtbcaahaaaodhkaaRollWM
import Derived.Test.YtbcaahaaaodhkaaIntsM
import Derived.Test.YtbcaahaaaodhkaaPoolW
import Derived.Test.YtbcaahaaaodhkaaAll6
import Derived.Test.YtbcaahaaaodhkaaDicesW
import Derived.Test.YtbcaahaaaodhkaaOpenD
import Derived.WalkKit
import Derived.WalkLawsBesides
import Derived.WalkSpells
import Derived.ProofKit
import Derived.OpenShut
import Derived.Deep.RegionWith
import Derived.Deep.QuietTactic
import Derived.BigQuiet
namespace Go.Proofs.Ytbcaahaaaodhkaa
open Go.ChangeShapes Go.WideShapes Go.ChangeAt Go.RowKit
open Go.ChangeMaps (open_string shut_string)

namespace POfS
open Dice Arr OpenD DieW SortW DicesW PoolW All6 IntsW RollW Places PatM SortDn PlI Four PatI PatsI PlS PatS PatC PKey KeysW FoursW POfI AnyR

/-- An array variable of four read, in every world of the class. -/
theorem four_size : (Try.prog.info? 23).map (·.size) = some 4 := by kernel_rfl
section
variable {C : World → Prop} {K : Act → Prop} {a : Act} {o : Oper}
theorem quiet_ldz (x : Operand) (ho : o.op = .load 23 x) {b : Nat} {f : Nat → Int} (hx : a.eval x = .pointer (some ⟨b, 0, none⟩)) (hC : ∀ w, C w → At w b 4 f)
    (hk : K (a.put o.dst (v4 f))) : o.quiet Try.prog a C K :=
  ⟨v4 f, fun w hw => by
    unfold Oper.quietAt execOp
    simp only [ho, hx, Instr.loadAt, Instr.sureAddr, Sem.run_bind, Sem.run_pure, Result.andThen_ok, (hC w hw).loadVar Try.underlying23 four_size]
    exact ⟨rfl, rfl⟩, hk⟩
end
theorem own_some {w : World} {B : Nat} {v : Value} {L : List Key} (h : w.ownsRow B 23 4 v L.length (kc L)) (hv : v ≠ .slice none 0 0) : ∃ g c, v = .slice (some ⟨g, 0, none⟩) L.length c ∧ B ≤ g ∧ At w g (L.length * 4) (kf L) ∧ L.length ≤ c := by
  rcases h.2 with ⟨hv', _⟩ | ⟨g, cap, cur, rfl, hb, hg, hnc, hcm, hcs, htake⟩
  · exact absurd hv' hv
  · exact ⟨g, cap, rfl, hb, ⟨(Array.getElem?_eq_some_iff.1 hg).1, fun k hk => (h.cellAt k hk).trans (kc_get L k hk), fun k => h.frozenAt k⟩, hnc⟩
theorem bef_list (x : Key) (L : List Key) (j : Nat) : bef (dec x) (fun q => kf L (j * 4 + q)) = decide (x < L.getD j 0) := by
  rw [← bef_dec]
  exact bef_congr (fun _ _ => rfl) (fun q hq => kf_at L j hq)
theorem agree_list (x : Key) (L : List Key) (j : Nat) : decide (agree (fun q => kf L (j * 4 + q)) (dec x) 4) = decide (L.getD j 0 = x) := by
  by_cases h : L.getD j 0 = x
  · rw [decide_eq_true h, decide_eq_true]
    intro q hq
    show kf L (j * 4 + q) = dec x q
    rw [kf_at L j hq, h]
  · rw [decide_eq_false h, decide_eq_false]
    intro e
    exact h (dec_inj fun q hq => by rw [← kf_at L j hq]; exact e q hq)
theorem getD_some {L : List Key} {j : Nat} {y : Key} (h : L[j]? = some y) : L.getD j 0 = y := by
  rw [List.getD_eq_getElem?_getD, h]; rfl
theorem ins_new {x : Key} {L : List Key} {j : Nat} (hj : j ≤ L.length) (h : ∀ q, q < j → x < L.getD q 0) (h2 : j < L.length → ¬ x < L.getD j 0 ∧ ¬ L.getD j 0 = x) : insd x L = L.take j ++ x :: L.drop j :=
  insd_new x L j hj (fun q hq y hy => getD_some hy ▸ h q hq) (fun y hy => by
    have hl := (List.getElem?_eq_some_iff.1 hy).1
    have h3 := h2 hl
    rw [getD_some hy] at h3
    have h4 : ¬ x.val < y.val := h3.1
    have h5 : y.val ≠ x.val := fun e => h3.2 (Fin.ext e)
    show y.val < x.val
    omega)
theorem ins_old {x : Key} {L : List Key} {j : Nat} (hj : j < L.length) (h : ∀ q, q < j → x < L.getD q 0) (h2 : L.getD j 0 = x) : insd x L = L :=
  insd_old x L j (fun q hq y hy => getD_some hy ▸ h q hq) (by rw [List.getElem?_eq_getElem hj]; rw [← h2]; simp [hj])

/-- Where a list cut at j begins: a list without room stays where it is. -/
def o10 (j cp : Nat) : Nat := if cp = j then 0 else j * 4
theorem own_base {w : World} {B B' : Nat} {e : TypeId} {s n : Nat} {v : Value} {xs : List Value} (h : w.ownsRow B e s v n xs) (hB : B' ≤ B) : w.ownsRow B' e s v n xs := by
  refine ⟨h.1, ?_⟩
  rcases h.2 with hn | ⟨g, cap, cur, rfl, hb, hg, rest⟩
  · exact .inl hn
  · exact .inr ⟨g, cap, cur, rfl, by omega, hg, rest⟩
def fr11 (A : Option Addr) (n c h0 i N g6 bx j : Nat) (x : Key) (p18 p19 p24 p25 p26 p27 p28 p29 p30 p31 p32 p33 p34 p35 p36 p37 p38 p39 p40 p41 p42 p43 p44 p45 p46 p47 p48 p49 : Value) (u4 u50 u51 u52 u53 u54 u55 u56 u57 u58 u59 u60 u61 : Value) : Act := ⟨#[.slice A n c, undef, .slice none 0 0, .bool false, u4, .int .i64 (i : Int), .pointer (some ⟨bx, 0, none⟩), .int .i64 (j : Int), .slice (some ⟨h0, 0, none⟩) 0 0, .slice A n c, .bool true, .bool false, undef, .int .i64 (i : Int), .slice A n c, .int .i64 (n : Int), .int .i64 (N : Int), .bool true, p18, p19, .slice A n c, .int .i64 (i : Int), .slice (some ⟨g6, 0, none⟩) n n, v4 (dec x), p24, p25, p26, p27, p28, p29, p30, p31, p32, p33, p34, p35, p36, p37, p38, p39, p40, p41, p42, p43, p44, p45, p46, p47, p48, p49, u50, u51, u52, u53, u54, u55, u56, u57, u58, u59, u60, u61, undef], []⟩
/-- What the region that puts a pattern in its place keeps. -/
structure Cl (W : World) (x : Key) (L : List Key) (j m : Nat) (u50 u54 u56 u57 u61 : Value) (D : Nat → Bool) (w : World) : Prop where
  old : Below W.heap.size W w
  c4 : D 4 = true → D 0 = true
  c7 : D 7 = true → D 4 = true ∧ D 6 = true
  c11 : D 11 = true → D 7 = true
  r0 : D 0 = true → D 4 = false → w.ownsRow W.heap.size 23 4 u50 0 []
  r4 : D 4 = true → D 7 = false → w.ownsRow W.heap.size 23 4 u54 j (kc (L.take j))
  r6 : D 6 = true → D 7 = false → ∃ b, u56 = .slice (some ⟨b, 0, none⟩) 1 1 ∧ At w b 4 (dec x) ∧ (D 0 = true → D 4 = false → u50.ownBlock ≠ some b)
  r7 : D 7 = true → D 11 = false → w.ownsRow W.heap.size 23 4 u57 (j + 1) (kc (L.take j ++ [x]))
  r11 : D 11 = true → w.ownsRow W.heap.size 23 4 u61 (m + 1) (kc (L.take j ++ x :: L.drop j))
section
variable {W w : World} {x : Key} {L : List Key} {j m : Nat} {u50 u54 u56 u57 u61 : Value} {D : Nat → Bool}
theorem Cl.start (W : World) (x : Key) (L : List Key) (j m : Nat) (u50 u54 u56 u57 u61 : Value) : Cl W x L j m u50 u54 u56 u57 u61 (fun _ => false) W :=
  ⟨Below.refl _ _, (fun h => by cases h), (fun h => by cases h), (fun h => by cases h), (fun h => by cases h), (fun h => by cases h), (fun h => by cases h), (fun h => by cases h), (fun h => by cases h)⟩
/-- An operation that is none of these. -/
theorem Cl.quiet {q : Nat} (h : Cl W x L j m u50 u54 u56 u57 u61 D w) (h0 : q ≠ 0) (h4 : q ≠ 4) (h6 : q ≠ 6) (h7 : q ≠ 7) (h11 : q ≠ 11) : Cl W x L j m u50 u54 u56 u57 u61 (done D q) w := by
  have e0 : done D q 0 = D 0 := if_neg (Ne.symm h0)
  have e4 : done D q 4 = D 4 := if_neg (Ne.symm h4)
  have e6 : done D q 6 = D 6 := if_neg (Ne.symm h6)
  have e7 : done D q 7 = D 7 := if_neg (Ne.symm h7)
  have e11 : done D q 11 = D 11 := if_neg (Ne.symm h11)
  refine ⟨h.old, ?_, ?_, ?_, ?_, ?_, ?_, ?_, ?_⟩
  · rw [e4, e0]; exact h.c4
  · rw [e7, e4, e6]; exact h.c7
  · rw [e11, e7]; exact h.c11
  · rw [e0, e4]; exact h.r0
  · rw [e4, e7]; exact h.r4
  · rw [e6, e7, e0, e4]; exact h.r6
  · rw [e7, e11]; exact h.r7
  · rw [e11]; exact h.r11
theorem no_of {a b : Bool} (h : b = true → a = true) (ha : a = false) : b = false := by
  cases b
  · rfl
  · rw [h rfl] at ha; cases ha
theorem Cl.op0 (h : Cl W x L j m u50 u54 u56 u57 u61 D w) (h0 : D 0 = false) : Cl W x L j m (.slice (some ⟨w.heap.size, 0, none⟩) 0 0) u54 u56 u57 u61 (done D 0) (w.alloc (.cells #[] 23)) := by
  have h4 : D 4 = false := no_of h.c4 h0
  have h7 : D 7 = false := no_of (fun e => (h.c7 e).1) h4
  have h11 : D 11 = false := no_of h.c11 h7
  refine ⟨h.old.alloc h.old.size _, fun _ => rfl, h.c7, h.c11, fun _ _ => World.ownsRow_made w #[] 0 h.old.size (by decide) rfl, fun h => absurd (h4.symm.trans h) (by decide), fun h6 _ => ?_, fun h => absurd (h7.symm.trans h) (by decide), fun h => absurd (h11.symm.trans h) (by decide)⟩
  obtain ⟨b, e, hA, _⟩ := h.r6 h6 h7
  refine ⟨b, e, hA.past _, fun _ _ e => ?_⟩
  have e : w.heap.size = b := by simpa [Value.ownBlock] using e
  have := hA.lt
  omega
theorem Cl.op6 (h : Cl W x L j m u50 u54 u56 u57 u61 D w) (h6 : D 6 = false) : Cl W x L j m u50 u54 (.slice (some ⟨w.heap.size, 0, none⟩) 1 1) u57 u61 (done D 6) (w.alloc (fourO (dec x) 23)) := by
  have h7 : D 7 = false := no_of (fun e => (h.c7 e).2) h6
  have h11 : D 11 = false := no_of h.c11 h7
  refine ⟨h.old.alloc h.old.size _, h.c4, fun h => absurd (h7.symm.trans h) (by decide), h.c11, fun a b => (h.r0 a b).alloc _, fun a b => (h.r4 a b).alloc _, fun _ _ => ⟨_, rfl, At.new4 w (dec x) 23 rfl, fun a b e => ?_⟩, fun h => absurd (h7.symm.trans h) (by decide), fun h => absurd (h11.symm.trans h) (by decide)⟩
  have := ((h.r0 a b).lt _ e).2
  omega
theorem Cl.op4 {w' : World} {v : Value} (h : Cl W x L j m u50 u54 u56 u57 u61 D w) (h4 : D 4 = false) (h0 : D 0 = true) (hO : w'.ownsRow W.heap.size 23 4 v j (kc (L.take j))) (hg : w.grownBy w' u50.ownBlock) : Cl W x L j m u50 v u56 u57 u61 (done D 4) w' := by
  have h7 : D 7 = false := no_of (fun e => (h.c7 e).1) h4
  have h11 : D 11 = false := no_of h.c11 h7
  have hR := h.r0 h0 h4
  refine ⟨h.old.grown hg h.old.size (fun k e => (hR.lt k e).1), fun _ => h0, fun h => absurd (h7.symm.trans h) (by decide), h.c11, fun _ h => (by cases h), fun _ _ => hO, fun h6 _ => ?_, fun h => absurd (h7.symm.trans h) (by decide), fun h => absurd (h11.symm.trans h) (by decide)⟩
  obtain ⟨b, e, hA, hne⟩ := h.r6 h6 h7
  exact ⟨b, e, FoursW.At.same hA hg.size (hg.block b hA.lt (fun e => hne h0 h4 e.symm)), fun _ h => (by cases h)⟩
theorem Cl.op7 {w' : World} {v : Value} (h : Cl W x L j m u50 u54 u56 u57 u61 D w) (h7 : D 7 = false) (h4 : D 4 = true) (h6 : D 6 = true) (hO : w'.ownsRow W.heap.size 23 4 v (j + 1) (kc (L.take j ++ [x]))) (hg : w.grownBy w' u54.ownBlock) : Cl W x L j m u50 u54 u56 v u61 (done D 7) w' := by
  have h11 : D 11 = false := no_of h.c11 h7
  have hR := h.r4 h4 h7
  refine ⟨h.old.grown hg h.old.size (fun k e => (hR.lt k e).1), h.c4, fun _ => ⟨h4, h6⟩, fun _ => rfl, fun _ h => absurd (h4.symm.trans h) (by decide), fun _ h => (by cases h), fun _ h => (by cases h), fun _ _ => hO, fun h => absurd (h11.symm.trans h) (by decide)⟩
theorem Cl.op11 {w' : World} {v : Value} (h : Cl W x L j m u50 u54 u56 u57 u61 D w) (h11 : D 11 = false) (h7 : D 7 = true) (hO : w'.ownsRow W.heap.size 23 4 v (m + 1) (kc (L.take j ++ x :: L.drop j))) (hg : w.grownBy w' u57.ownBlock) : Cl W x L j m u50 u54 u56 u57 v (done D 11) w' := by
  have hR := h.r7 h7 h11
  refine ⟨h.old.grown hg h.old.size (fun k e => (hR.lt k e).1), h.c4, h.c7, fun _ => h7, fun a b => absurd ((h.c7 h7).1.symm.trans b) (by decide), fun _ h => absurd (h7.symm.trans h) (by decide), fun _ h => absurd (h7.symm.trans h) (by decide), fun _ h => (by cases h), fun _ => hO⟩
end
theorem cells_part {w : World} {g : Nat} {L M1 M2 M3 : List Key} (hA : At w g (L.length * 4) (kf L)) (hL : L = M1 ++ M2 ++ M3) : ∀ t u, (kc M2)[t]? = some u → w.cell? ((⟨g, M1.length * 4, none⟩ : Addr).add t) = some u := by
  intro t u ht
  have htl : t < M2.length * 4 := by
    have := (List.getElem?_eq_some_iff.1 ht).1
    rwa [kc_len] at this
  have hlen : L.length = M1.length + M2.length + M3.length := by rw [hL, List.length_append, List.length_append]
  have e : (kc L)[M1.length * 4 + t]? = some u := by
    rw [hL, kc_append, kc_append, List.getElem?_append_left (by rw [List.length_append, kc_len, kc_len]; omega), List.getElem?_append_right (by rw [kc_len]; omega), kc_len, Nat.add_sub_cancel_left]
    exact ht
  rw [kc_get L _ (by omega)] at e
  rw [add_plain, hA.cell _ (by omega), e]
theorem kc_one (L : List Key) : ∀ u ∈ kc L, u.oneCell' = true := by
  intro u hu
  obtain ⟨y, _, hy⟩ := List.mem_flatMap.1 hu
  exact enc_one y u hy

set_option maxRecDepth 20000 in
set_option maxHeartbeats 8000000 in
theorem specP_any (A : Option Addr) (n c : Nat) (P : Nat → Nat → Int) (w : World) (h : Row w A n P) (hn : n ≤ maxLen) :
    Calls Try.prog 19 #[.slice A n c] w fun e w' => ∃ A' c', e = .returned (.tuple #[.slice A' (outP n P).length c', .bool (isPool n P)]) ∧ Fours w.heap.size w' A' (outP n P).length (kf (outP n P)) ∧ Below w.heap.size w w' := by
  have hp := fun w h => l2Pool_any A n c P w h hn
  have H := Lib.hid h; clear h
  unfold outP
  have hB := na (n0 w) (.cells #[] 23)
  have hO0 : (w.alloc (.cells #[] 23)).ownsRow w.heap.size 23 4 (.slice (some ⟨w.heap.size, 0, none⟩) 0 0) 0 [] := World.ownsRow_made w #[] 0 (Nat.le_refl _) (by decide) rfl
  cases hq : isPool n P
  · rw [hq] at hp
    simp only [Bool.false_eq_true, ↓reduceIte]
    have Hp := Lib.hid hp; clear hp hq hO0
    go_enter Try.func19, Try.ntmps19
    go_wp2_with fail
    refine (Hp.out _ (H.out.up hB)).mono ?_
    rintro e w1 ⟨rfl, hb1⟩
    go_wp2_with fail
    go_ret2
    exact ⟨_, _, rfl, .inl rfl, nx hB hb1⟩
  rw [hq] at hp
  simp only [↓reduceIte]
  have Hp := Lib.hid hp; clear hp
  have h4 := (of_pool hq).2.1
  have h6 := all6_le h4
  clear hq
  have Hrl := Lib.hid (fun i w h hi => l2Roll_any A n c i P w h h4 hi)
  have Ho := Lib.hid (fun w => l2All_any n w h4)
  have hpat : ∀ i b c w, At w b n (rollF P i n) → Calls Try.prog 55 #[.slice (some ⟨b, 0, none⟩) n c] w fun e w' => e = .returned (v4 (dec (kk P n i))) ∧ Below w.heap.size w w' := by
    intro i b c w h
    have e : v4 (dec (kk P n i)) = v4 (pat (rollF P i n) n) := by
      have := dec_kk P h4 i
      unfold v4
      rw [this 0 (by omega), this 1 (by omega), this 2 (by omega), this 3 (by omega)]
    rw [e]
    exact l4Pattern_any b n c (rollF P i n) w h h4
  have Hpat0 := Lib.hid hpat; clear hpat
  have Hl0 := Lib.hid (fun a b w => l4Less_any a b w)
  generalize kk P n = κ at *
  generalize all6 n = N at *
  obtain ⟨i4, hi, hz0, hz1, hz2⟩ := info_parts info4
  have H4 := Lib.hid (And.intro hi (And.intro hz0 (And.intro hz1 hz2)))
  clear hi hz0 hz1 hz2
  go_enter Try.func19, Try.ntmps19
  go_wp2_with fail
  refine (Hp.out _ (H.out.up hB)).mono ?_
  rintro e w1 ⟨rfl, hb1⟩
  have hB1 := nx hB hb1
  have hO1 := hO0.kept (grown_of hb1 (Nat.le_refl _) none) (keep_none _)
  clear hb1 hB hO0
  go_wp2_with fail
  go_loopw [4, 5] (fun v kv wr => ∃ i : Nat, i ≤ N ∧ kv = .int .i64 i ∧ wr.ownsRow w.heap.size 23 4 v (iss κ i).length (kc (iss κ i)) ∧ v ≠ .slice none 0 0 ∧ Below w.heap.size w wr) (fun _ kv _ => N - (intOf kv).toNat)
  case atStart => exact ⟨0, by omega, rfl, hO1, by simp, hB1⟩
  case round =>
    clear hB1 hO1
    obtain ⟨i, hi, rfl, hO, hv, hB⟩ := hrel
    by_cases hlt : i < N
    · have hit : decide ((i : Int) < (N : Int)) = true := decide_eq_true (by omega)
      have Hri := Lib.hid (fun w h => Hrl.out i w h (by omega))
      have Hpat := Lib.hid (Hpat0.out i)
      have hln := iss_len κ i
      have Hnext := Lib.hid (show iss κ (i + 1) = insd (κ i) (iss κ i) from rfl)
      generalize κ i = x at *
      generalize hLL : iss κ i = L at *
      clear hLL
      go_wp2_with fail
      refine (Ho.out _).mono ?_
      rintro e w5 ⟨rfl, hw5⟩
      have hw5 := hw5.symm
      subst hw5
      go_wp2_with fail
      refine (Hri.out _ (H.out.up hB)).mono ?_
      rintro e w6 ⟨g6, rfl, hg6, hG6, hb6⟩
      have hB6 := nx hB hb6
      have hO6 := hO.kept (grown_of hb6 (Nat.le_refl _) none) (keep_none _)
      clear hb6 hB hO
      go_wp2_with fail
      refine (Hpat.out _ _ _ hG6).mono ?_
      rintro e w7 ⟨rfl, hb7⟩
      have hB7 := nx hB6 hb7
      have hO7 := hO6.kept (grown_of hb7 (Nat.le_refl _) none) (keep_none _)
      clear hb7 hB6 hO6 hG6
      have hX := At.new4 w7 (dec x) 23 rfl
      have hO := hO7.alloc (fourO (dec x) 23)
      have hBw := na hB7 (fourO (dec x) 23)
      clear hO7 hB7
      obtain ⟨g, cp, rfl, hgB, hA, hcp⟩ := own_some hO hv
      obtain ⟨m, hm⟩ : ∃ m, m = L.length := ⟨_, rfl⟩
      rw [← hm] at hA hO hcp ⊢
      have hmb : m ≤ 1296 := by omega
      have Hm := Lib.hid hm; clear hm
      have hbl : ∀ j, bef (dec x) (fun q => kf L (j * 4 + q)) = decide (x < L.getD j 0) := bef_list x L
      have hag := agree_list x L
      have Hbl := Lib.hid hbl; clear hbl
      have Hag := Lib.hid hag; clear hag
      have hszw := hBw.size
      have HO := Lib.hid hO; clear hO
      go_wp2_with fail
      obtain ⟨bx, hbx⟩ : ∃ bx, bx = w7.heap.size := ⟨_, rfl⟩
      rw [← hbx] at hX ⊢
      have Hbx := Lib.hid hbx; clear hbx
      generalize w7.alloc (fourO (dec x) 23) = W0 at *
      go_loopw [7] (fun jv wx => ∃ j : Nat, j ≤ m ∧ jv = .int .i64 j ∧ Below W0.heap.size W0 wx ∧ Hid (∀ q, q < j → x < L.getD q 0)) (fun jv _ => m - (intOf jv).toNat)
      case atStart => exact ⟨0, Nat.zero_le _, rfl, Below.refl _ _, fun q hq => by omega⟩
      case round =>
        obtain ⟨j, hj, rfl, hB, hgt⟩ := hrel
        by_cases hjm : j < m
        · have hjt : decide (j < m) = true := decide_eq_true hjm
          have hl := fun w => Hl0.out (dec x) (fun q => kf L (j * 4 + q)) w
          rw [Hbl.out j] at hl
          by_cases hlt2 : x < L.getD j 0
          · rw [decide_eq_true hlt2] at hl
            have Hl := Lib.hid hl; clear hl
            have Hlt2 := Lib.hid hlt2; clear hlt2
            go_wp2_with fail
            refine wp_region_quiet (C := fun w' => Below W0.heap.size W0 w') (by kernel_rfl) (by kernel_rfl) hB.drew ?_
            clear hB
            refine BigFrame.wpQuiet_want rfl (fun K hK => BigFrame.quiet_move _ rfl (hK _ ?_)); clear hK K; go_simp
            go_big_quiet_want; go_big_quiet_op; first | go_big_quiet_on | (rename_i K hK; refine ⟨_, by intros; rfl, hK _ ?_⟩; clear hK K; go_simp)
            go_big_quiet_want; go_big_quiet_op; first | go_big_quiet_on | (rename_i K hK; refine ⟨_, by intros; rfl, hK _ ?_⟩; clear hK K; go_simp)
            go_big_quiet_want; go_big_quiet_op; first | go_big_quiet_on | (rename_i K hK; refine ⟨_, by intros; rfl, hK _ ?_⟩; clear hK K; go_simp)
            go_big_quiet_want; go_big_quiet_op; first | go_big_quiet_on | (rename_i K hK; refine ⟨_, by intros; rfl, hK _ ?_⟩; clear hK K; go_simp)
            go_big_quiet_want; rename_i K hK; refine quiet_ldz _ rfl rfl (fun _ h => hX.up h) (hK _ ?_); clear hK K; go_simp
            go_big_quiet_want; go_big_quiet_op; first | go_big_quiet_on | (rename_i K hK; refine ⟨_, by intros; rfl, hK _ ?_⟩; clear hK K; go_simp)
            go_big_quiet_want; go_big_quiet_op; first | go_big_quiet_on | (rename_i K hK; refine ⟨_, by intros; rfl, hK _ ?_⟩; clear hK K; go_simp)
            go_big_quiet_want; go_big_quiet_op; first | go_big_quiet_on | (rename_i K hK; refine ⟨_, by intros; rfl, hK _ ?_⟩; clear hK K; go_simp)
            go_big_quiet_want; rename_i K hK; refine quiet_ld4 _ rfl rfl (show j * 4 + 4 ≤ m * 4 by omega) (fun _ h => hA.up h) (hK _ ?_); clear hK K; go_simp
            go_big_quiet_want; rename_i K hK; refine ⟨.bool true, fun w' hw' => ?_, hK _ ?_⟩
            · clear hK K
              have Hw := Lib.hid hw'; clear hw'
              go_simp
              refine (Hl.out _).mono ?_
              rintro e w5 ⟨rfl, hb⟩
              exact ⟨rfl, nx Hw.out hb⟩
            clear hK K; go_simp
            go_big_quiet_want; go_big_quiet_op; first | go_big_quiet_on | (rename_i K hK; refine ⟨_, by intros; rfl, hK _ ?_⟩; clear hK K; go_simp)
            refine wpQuiet_nil ?_
            intro w3 hB
            go_wp2_with fail
            go_roundw
            case rel =>
              refine ⟨j + 1, by omega, by go_num, hB, fun q hq => ?_⟩
              by_cases hqj : q = j
              · subst hqj; exact Hlt2.out
              · exact hgt.out q (by omega)
            case measure => simp [intOf]; omega
          · rw [decide_eq_false hlt2] at hl
            have Hl := Lib.hid hl; clear hl
            have Hlt2 := Lib.hid hlt2; clear hlt2
            go_wp2_with fail
            refine wp_region_quiet (C := fun w' => Below W0.heap.size W0 w') (by kernel_rfl) (by kernel_rfl) hB.drew ?_
            clear hB
            refine BigFrame.wpQuiet_want rfl (fun K hK => BigFrame.quiet_move _ rfl (hK _ ?_)); clear hK K; go_simp
            go_big_quiet_want; go_big_quiet_op; first | go_big_quiet_on | (rename_i K hK; refine ⟨_, by intros; rfl, hK _ ?_⟩; clear hK K; go_simp)
            go_big_quiet_want; go_big_quiet_op; first | go_big_quiet_on | (rename_i K hK; refine ⟨_, by intros; rfl, hK _ ?_⟩; clear hK K; go_simp)
            go_big_quiet_want; go_big_quiet_op; first | go_big_quiet_on | (rename_i K hK; refine ⟨_, by intros; rfl, hK _ ?_⟩; clear hK K; go_simp)
            go_big_quiet_want; go_big_quiet_op; first | go_big_quiet_on | (rename_i K hK; refine ⟨_, by intros; rfl, hK _ ?_⟩; clear hK K; go_simp)
            go_big_quiet_want; rename_i K hK; refine quiet_ldz _ rfl rfl (fun _ h => hX.up h) (hK _ ?_); clear hK K; go_simp
            go_big_quiet_want; go_big_quiet_op; first | go_big_quiet_on | (rename_i K hK; refine ⟨_, by intros; rfl, hK _ ?_⟩; clear hK K; go_simp)
            go_big_quiet_want; go_big_quiet_op; first | go_big_quiet_on | (rename_i K hK; refine ⟨_, by intros; rfl, hK _ ?_⟩; clear hK K; go_simp)
            go_big_quiet_want; go_big_quiet_op; first | go_big_quiet_on | (rename_i K hK; refine ⟨_, by intros; rfl, hK _ ?_⟩; clear hK K; go_simp)
            go_big_quiet_want; rename_i K hK; refine quiet_ld4 _ rfl rfl (show j * 4 + 4 ≤ m * 4 by omega) (fun _ h => hA.up h) (hK _ ?_); clear hK K; go_simp
            go_big_quiet_want; rename_i K hK; refine ⟨.bool false, fun w' hw' => ?_, hK _ ?_⟩
            · clear hK K
              have Hw := Lib.hid hw'; clear hw'
              go_simp
              refine (Hl.out _).mono ?_
              rintro e w5 ⟨rfl, hb⟩
              exact ⟨rfl, nx Hw.out hb⟩
            clear hK K; go_simp
            go_big_quiet_want; go_big_quiet_op; first | go_big_quiet_on | (rename_i K hK; refine ⟨_, by intros; rfl, hK _ ?_⟩; clear hK K; go_simp)
            refine wpQuiet_nil ?_
            intro w3 hB
            have hjn : ((j : Int) == (m : Int)) = false := by simp; omega
            obtain ⟨y0, y1, y2, y3⟩ := from4 (hA.up hB) (j * 4) (by omega)
            obtain ⟨x0, x1, x2, x3⟩ := At.four (hX.up hB)
            have heq : ∀ w, (Op.equalIn 10000 23 (.agg #[.int .i64 (kf L (j * 4)), .int .i64 (kf L (j * 4 + 1)), .int .i64 (kf L (j * 4 + 2)), .int .i64 (kf L (j * 4 + 3))]) (v4 (dec x))).run Try.prog w = .ok (decide (L.getD j 0 = x)) w := fun w => by
              rw [← Hag.out j]
              exact run_equalIn_vals (P := Try.prog) w 9998 23 3 4 Try.underlying23 Try.underlying3 Try.sizeOf3 (fun q => kf L (j * 4 + q)) (dec x)
            by_cases he : L.getD j 0 = x
            · rw [decide_eq_true he] at heq
              have He := Lib.hid he; clear he
              go_wp2_with fail
              go_quiet (fail)
              go_wp2_with fail
              have hU := below_drewN hB nq
              have hO2 := HO.out.kept (grown_of hU (Nat.le_refl _) none) (keep_none _)
              go_roundw
              case rel =>
                refine ⟨i + 1, by omega, by go_num, ?_, by simp, hBw.trans (hU.mono hszw)⟩
                rw [Hnext.out, ins_old (by rw [← Hm.out]; exact hjm) hgt.out He.out, ← Hm.out]
                exact hO2
              case measure => simp [intOf]; omega
            · rw [decide_eq_false he] at heq
              have hnew := ins_new (by rw [← Hm.out]; exact hj) hgt.out (fun _ => ⟨Hlt2.out, he⟩)
              have Hnew := Lib.hid hnew; clear hnew he
              go_wp2_with fail
              go_quiet (fail)
              go_wp2_with fail
              clear y0 y1 y2 y3 x0 x1 x2 x3 heq hjn
              have hU := (below_drewN hB nq).drew
              refine wp_region_inv (I := fun D a w' => ∃ u4 u50 u51 u52 u53 u54 u55 u56 u57 u58 u59 u60 u61 : Value, a = fr11 A n c w.heap.size i N g6 bx j x u18 u19 (.int .i64 (j : Int)) (.slice (some ⟨g, 0, none⟩) m cp) (.int .i64 (m : Int)) (.bool true) (.bool true) (v4 (dec x)) (.slice (some ⟨g, 0, none⟩) m cp) (.int .i64 (j : Int)) (.pointer (some ⟨g, j * 4, none⟩)) (v4 fun k => kf L (j * 4 + k)) (.bool false) (.bool false) u36 u37 (.int .i64 (j : Int)) (.slice (some ⟨g, 0, none⟩) m cp) (.int .i64 (m : Int)) (.bool false) (.bool false) (.slice (some ⟨g, 0, none⟩) m cp) (.int .i64 (j : Int)) (.pointer (some ⟨g, j * 4, none⟩)) (.agg #[.int .i64 (kf L (j * 4)), .int .i64 (kf L (j * 4 + 1)), .int .i64 (kf L (j * 4 + 2)), .int .i64 (kf L (j * 4 + 3))]) (v4 (dec x)) (.bool true) (.bool true) u4 u50 u51 u52 u53 u54 u55 u56 u57 u58 u59 u60 u61 ∧ (D 1 = true → u51 = (.slice (some ⟨g, 0, none⟩) m cp)) ∧ (D 2 = true → u52 = (.int .i64 (j : Int))) ∧ (D 3 = true → u53 = (.slice (some ⟨g, 0, none⟩) j cp)) ∧ (D 5 = true → u55 = (v4 (dec x))) ∧ (D 8 = true → u58 = (.slice (some ⟨g, 0, none⟩) m cp)) ∧ (D 9 = true → u59 = (.int .i64 (j : Int))) ∧ (D 10 = true → u60 = (.slice (some ⟨g, o10 j cp, none⟩) (m - j) (cp - j))) ∧ (D 12 = false → u4 = (.slice (some ⟨g, 0, none⟩) m cp)) ∧ (D 12 = true → u4 = u61) ∧ (D 12 = true → ∀ k, k < 12 → D k = true) ∧ Cl (w3.drewN nq).drew x L j m u50 u54 u56 u57 u61 D w') (by kernel_rfl) (by kernel_rfl) ?_ ?_ ?_
              · exact ⟨_, _, _, _, _, _, _, _, _, _, _, _, _, rfl, (fun h => by cases h), (fun h => by cases h), (fun h => by cases h), (fun h => by cases h), (fun h => by cases h), (fun h => by cases h), (fun h => by cases h), (fun _ => rfl), (fun h => by cases h), (fun h => by cases h), Cl.start (w3.drewN nq).drew _ _ _ _ _ _ _ _ _⟩
              · intro D a wz ix hix hL hdep hI
                obtain ⟨u4, u50, u51, u52, u53, u54, u55, u56, u57, u58, u59, u60, u61, rfl, e1, e2, e3, e5, e8, e9, e10, h12, h13, hcl, hC⟩ := hI
                have hi' : ix < 13 := hix
                clear hix
                obtain rfl | rfl | rfl | rfl | rfl | rfl | rfl | rfl | rfl | rfl | rfl | rfl | rfl : ix = 0 ∨ ix = 1 ∨ ix = 2 ∨ ix = 3 ∨ ix = 4 ∨ ix = 5 ∨ ix = 6 ∨ ix = 7 ∨ ix = 8 ∨ ix = 9 ∨ ix = 10 ∨ ix = 11 ∨ ix = 12 := by omega
                · have h120 : Hid (D 12 = false) := no_of (fun e => hcl e 0 (by decide)) hL
                  have Hx := Lib.hid (hC.op0 hL); clear hC
                  refine wpOp_want rfl rfl ?_
                  unfold fr11
                  go_simp
                  exact ⟨u4, .slice (some ⟨wz.heap.size, 0, none⟩) 0 0, u51, u52, u53, u54, u55, u56, u57, u58, u59, u60, u61, by first | rfl | simp, e1, e2, e3, e5, e8, e9, e10, h12, (fun h => absurd (h120.out.symm.trans h) (by decide)), (fun h => absurd (h120.out.symm.trans h) (by decide)), Hx.out⟩
                · have h120 : Hid (D 12 = false) := no_of (fun e => hcl e 1 (by decide)) hL
                  obtain rfl := h12 h120.out
                  have Hx := Lib.hid (hC.quiet (q := 1) (by decide) (by decide) (by decide) (by decide) (by decide)); clear hC
                  refine wpOp_want rfl rfl ?_
                  unfold fr11
                  go_simp
                  exact ⟨(.slice (some ⟨g, 0, none⟩) m cp), u50, (.slice (some ⟨g, 0, none⟩) m cp), u52, u53, u54, u55, u56, u57, u58, u59, u60, u61, by first | rfl | simp, fun _ => rfl, e2, e3, e5, e8, e9, e10, fun _ => rfl, (fun h => absurd (h120.out.symm.trans h) (by decide)), (fun h => absurd (h120.out.symm.trans h) (by decide)), Hx.out⟩
                · have h120 : Hid (D 12 = false) := no_of (fun e => hcl e 2 (by decide)) hL
                  have Hx := Lib.hid (hC.quiet (q := 2) (by decide) (by decide) (by decide) (by decide) (by decide)); clear hC
                  refine wpOp_want rfl rfl ?_
                  unfold fr11
                  go_simp
                  exact ⟨u4, u50, u51, (.int .i64 (j : Int)), u53, u54, u55, u56, u57, u58, u59, u60, u61, by first | rfl | simp, e1, fun _ => rfl, e3, e5, e8, e9, e10, h12, (fun h => absurd (h120.out.symm.trans h) (by decide)), (fun h => absurd (h120.out.symm.trans h) (by decide)), Hx.out⟩
                · have h120 : Hid (D 12 = false) := no_of (fun e => hcl e 3 (by decide)) hL
                  obtain rfl := e1 (hdep 1 (by kernel_rfl))
                  obtain rfl := e2 (hdep 2 (by kernel_rfl))
                  have Hx := Lib.hid (hC.quiet (q := 3) (by decide) (by decide) (by decide) (by decide) (by decide)); clear hC
                  refine wpOp_want rfl rfl ?_
                  have hjc : j ≤ cp := by omega
                  unfold fr11
                  go_simp
                  exact ⟨u4, u50, (.slice (some ⟨g, 0, none⟩) m cp), (.int .i64 (j : Int)), (.slice (some ⟨g, 0, none⟩) j cp), u54, u55, u56, u57, u58, u59, u60, u61, by first | rfl | simp, fun _ => rfl, fun _ => rfl, fun _ => rfl, e5, e8, e9, e10, h12, (fun h => absurd (h120.out.symm.trans h) (by decide)), (fun h => absurd (h120.out.symm.trans h) (by decide)), Hx.out⟩
                · have h120 : Hid (D 12 = false) := no_of (fun e => hcl e 4 (by decide)) hL
                  obtain rfl := e3 (hdep 3 (by kernel_rfl))
                  have hAz : At wz g (L.length * 4) (kf L) := by rw [← Hm.out]; exact hA.up (hU.trans (hC.old.mono hU.size))
                  have hjl : (L.take j).length = j := by rw [List.length_take, ← Hm.out]; omega
                  have hRow := hC.r0 (hdep 0 (by kernel_rfl)) (no_of (fun e => e) hL)
                  refine wpOp_want rfl rfl ?_
                  unfold fr11
                  refine wp_append_own _ _ _ 35 rfl (w3.drewN nq).drew.heap.size 23 i4 (.agg #[.int .i64 0, .int .i64 0, .int .i64 0, .int .i64 0]) 4 32 Try.underlying35 H4.out.1 H4.out.2.1 H4.out.2.2.1 H4.out.2.2.2 rfl (by decide) _ _ _ rfl hRow ⟨g, 0, none⟩ j cp (kc (L.take j)) rfl (by rw [kc_len, hjl]) (by have := cells_part (w := wz) (g := g) (M1 := []) (M2 := L.take j) (M3 := L.drop j) hAz (by simp); simpa using this) (kc_one _) (by unfold maxLen; omega) (by omega) hC.old.size ?_
                  intro v' w4 hO hg _
                  exact ⟨u4, u50, u51, u52, (.slice (some ⟨g, 0, none⟩) j cp), v', u55, u56, u57, u58, u59, u60, u61, by first | rfl | simp, e1, e2, fun _ => rfl, e5, e8, e9, e10, h12, (fun h => absurd (h120.out.symm.trans h) (by decide)), (fun h => absurd (h120.out.symm.trans h) (by decide)), hC.op4 hL (hdep 0 (by kernel_rfl)) (by rw [Nat.zero_add, List.nil_append] at hO; exact hO) hg⟩
                · have h120 : Hid (D 12 = false) := no_of (fun e => hcl e 5 (by decide)) hL
                  have Hx := Lib.hid (hC.quiet (q := 5) (by decide) (by decide) (by decide) (by decide) (by decide)); clear hC
                  refine wpOp_want rfl rfl ?_
                  obtain ⟨x0, x1, x2, x3⟩ := At.four (hX.up (hU.trans (Hx.out.old.mono hU.size)))
                  unfold fr11
                  go_simp
                  exact ⟨u4, u50, u51, u52, u53, u54, (v4 (dec x)), u56, u57, u58, u59, u60, u61, by first | rfl | simp, e1, e2, e3, fun _ => rfl, e8, e9, e10, h12, (fun h => absurd (h120.out.symm.trans h) (by decide)), (fun h => absurd (h120.out.symm.trans h) (by decide)), Hx.out⟩
                · have h120 : Hid (D 12 = false) := no_of (fun e => hcl e 6 (by decide)) hL
                  obtain rfl := e5 (hdep 5 (by kernel_rfl))
                  have Hx := Lib.hid (hC.op6 hL); clear hC
                  refine wpOp_want rfl rfl ?_
                  unfold fr11
                  go_simp
                  exact ⟨u4, u50, u51, u52, u53, u54, (v4 (dec x)), .slice (some ⟨wz.heap.size, 0, none⟩) 1 1, u57, u58, u59, u60, u61, by first | rfl | simp, e1, e2, e3, fun _ => rfl, e8, e9, e10, h12, (fun h => absurd (h120.out.symm.trans h) (by decide)), (fun h => absurd (h120.out.symm.trans h) (by decide)), Hx.out⟩
                · have h120 : Hid (D 12 = false) := no_of (fun e => hcl e 7 (by decide)) hL
                  obtain ⟨b, rfl, hb, _⟩ := hC.r6 (hdep 6 (by kernel_rfl)) hL
                  have hRow := hC.r4 (hdep 4 (by kernel_rfl)) hL
                  refine wpOp_want rfl rfl ?_
                  unfold fr11
                  refine wp_append_own _ _ _ 35 rfl (w3.drewN nq).drew.heap.size 23 i4 (.agg #[.int .i64 0, .int .i64 0, .int .i64 0, .int .i64 0]) 4 32 Try.underlying35 H4.out.1 H4.out.2.1 H4.out.2.2.1 H4.out.2.2.2 rfl (by decide) _ _ _ rfl hRow ⟨b, 0, none⟩ 1 1 (enc x) rfl (by rw [enc_len]) (by intro t u ht; have h4 : t < 4 := (by have := (List.getElem?_eq_some_iff.1 ht).1; rwa [enc_len] at this); rw [add_plain, Nat.zero_add, hb.cell t h4, ← ht, enc_get x h4]) (enc_one x) (by unfold maxLen; omega) (by omega) hC.old.size ?_
                  intro v' w4 hO hg _
                  exact ⟨u4, u50, u51, u52, u53, u54, u55, .slice (some ⟨b, 0, none⟩) 1 1, v', u58, u59, u60, u61, by first | rfl | simp, e1, e2, e3, e5, e8, e9, e10, h12, (fun h => absurd (h120.out.symm.trans h) (by decide)), (fun h => absurd (h120.out.symm.trans h) (by decide)), hC.op7 hL (hdep 4 (by kernel_rfl)) (hdep 6 (by kernel_rfl)) (by rw [kc_snoc]; exact hO) hg⟩
                · have h120 : Hid (D 12 = false) := no_of (fun e => hcl e 8 (by decide)) hL
                  obtain rfl := h12 h120.out
                  have Hx := Lib.hid (hC.quiet (q := 8) (by decide) (by decide) (by decide) (by decide) (by decide)); clear hC
                  refine wpOp_want rfl rfl ?_
                  unfold fr11
                  go_simp
                  exact ⟨(.slice (some ⟨g, 0, none⟩) m cp), u50, u51, u52, u53, u54, u55, u56, u57, (.slice (some ⟨g, 0, none⟩) m cp), u59, u60, u61, by first | rfl | simp, e1, e2, e3, e5, fun _ => rfl, e9, e10, fun _ => rfl, (fun h => absurd (h120.out.symm.trans h) (by decide)), (fun h => absurd (h120.out.symm.trans h) (by decide)), Hx.out⟩
                · have h120 : Hid (D 12 = false) := no_of (fun e => hcl e 9 (by decide)) hL
                  have Hx := Lib.hid (hC.quiet (q := 9) (by decide) (by decide) (by decide) (by decide) (by decide)); clear hC
                  refine wpOp_want rfl rfl ?_
                  unfold fr11
                  go_simp
                  exact ⟨u4, u50, u51, u52, u53, u54, u55, u56, u57, u58, (.int .i64 (j : Int)), u60, u61, by first | rfl | simp, e1, e2, e3, e5, e8, fun _ => rfl, e10, h12, (fun h => absurd (h120.out.symm.trans h) (by decide)), (fun h => absurd (h120.out.symm.trans h) (by decide)), Hx.out⟩
                · have h120 : Hid (D 12 = false) := no_of (fun e => hcl e 10 (by decide)) hL
                  obtain rfl := e8 (hdep 8 (by kernel_rfl))
                  obtain rfl := e9 (hdep 9 (by kernel_rfl))
                  have Hx := Lib.hid (hC.quiet (q := 10) (by decide) (by decide) (by decide) (by decide) (by decide)); clear hC
                  refine wpOp_want rfl rfl ?_
                  have hjc : j ≤ cp := by omega
                  by_cases hcj : cp = j
                  · have hcj2 : j = cp := hcj.symm
                    subst hcj2
                    unfold fr11
                    go_simp
                    exact ⟨u4, u50, u51, u52, u53, u54, u55, u56, u57, (.slice (some ⟨g, 0, none⟩) m j), (.int .i64 (j : Int)), (.slice (some ⟨g, o10 j j, none⟩) 0 0), u61, by simp [o10], e1, e2, e3, e5, fun _ => rfl, fun _ => rfl, fun _ => rfl, h12, (fun h => absurd (h120.out.symm.trans h) (by decide)), (fun h => absurd (h120.out.symm.trans h) (by decide)), Hx.out⟩
                  · unfold fr11
                    go_simp
                    exact ⟨u4, u50, u51, u52, u53, u54, u55, u56, u57, (.slice (some ⟨g, 0, none⟩) m cp), (.int .i64 (j : Int)), (.slice (some ⟨g, o10 j cp, none⟩) (m - j) (cp - j)), u61, by simp [o10, hcj], e1, e2, e3, e5, fun _ => rfl, fun _ => rfl, fun _ => rfl, h12, (fun h => absurd (h120.out.symm.trans h) (by decide)), (fun h => absurd (h120.out.symm.trans h) (by decide)), Hx.out⟩
                · have h120 : Hid (D 12 = false) := no_of (fun e => hcl e 11 (by decide)) hL
                  obtain rfl := e10 (hdep 10 (by kernel_rfl))
                  have hAz : At wz g (L.length * 4) (kf L) := by rw [← Hm.out]; exact hA.up (hU.trans (hC.old.mono hU.size))
                  have hjl : (L.take j).length = j := by rw [List.length_take, ← Hm.out]; omega
                  have hRow := hC.r7 (hdep 7 (by kernel_rfl)) hL
                  have hcl10 : ∀ t u, (kc (L.drop j))[t]? = some u → wz.cell? ((⟨g, o10 j cp, none⟩ : Addr).add t) = some u := by
                    by_cases hcj : cp = j
                    · intro t u ht
                      have := (List.getElem?_eq_some_iff.1 ht).1
                      rw [kc_len, List.length_drop, ← Hm.out] at this
                      omega
                    · have := cells_part (w := wz) (g := g) (M1 := L.take j) (M2 := L.drop j) (M3 := []) hAz (by simp)
                      rw [hjl] at this
                      rw [show o10 j cp = j * 4 from if_neg hcj]
                      exact this
                  refine wpOp_want rfl rfl ?_
                  unfold fr11
                  refine wp_append_own _ _ _ 35 rfl (w3.drewN nq).drew.heap.size 23 i4 (.agg #[.int .i64 0, .int .i64 0, .int .i64 0, .int .i64 0]) 4 32 Try.underlying35 H4.out.1 H4.out.2.1 H4.out.2.2.1 H4.out.2.2.2 rfl (by decide) _ _ _ rfl hRow ⟨g, o10 j cp, none⟩ (m - j) (cp - j) (kc (L.drop j)) rfl (by rw [kc_len, List.length_drop, ← Hm.out]) (hcl10) (kc_one _) (by unfold maxLen; omega) (by omega) hC.old.size ?_
                  intro v' w4 hO hg _
                  exact ⟨u4, u50, u51, u52, u53, u54, u55, u56, u57, u58, u59, (.slice (some ⟨g, o10 j cp, none⟩) (m - j) (cp - j)), v', by first | rfl | simp, e1, e2, e3, e5, e8, e9, fun _ => rfl, h12, (fun h => absurd (h120.out.symm.trans h) (by decide)), (fun h => absurd (h120.out.symm.trans h) (by decide)), hC.op11 hL (hdep 7 (by kernel_rfl)) (by rw [show j + 1 + (m - j) = m + 1 by omega, ← kc_append, List.append_assoc] at hO; exact hO) hg⟩
                · have hall : ∀ p, p < 12 → done D 12 p = true := by
                    intro p hp
                    obtain rfl | rfl | rfl | rfl | rfl | rfl | rfl | rfl | rfl | rfl | rfl | rfl : p = 0 ∨ p = 1 ∨ p = 2 ∨ p = 3 ∨ p = 4 ∨ p = 5 ∨ p = 6 ∨ p = 7 ∨ p = 8 ∨ p = 9 ∨ p = 10 ∨ p = 11 := by omega
                    all_goals exact hdep _ (by kernel_rfl)
                  have Hx := Lib.hid (hC.quiet (q := 12) (by decide) (by decide) (by decide) (by decide) (by decide)); clear hC
                  refine wpOp_want rfl rfl ?_
                  unfold fr11
                  go_simp
                  exact ⟨u61, u50, u51, u52, u53, u54, u55, u56, u57, u58, u59, u60, u61, by first | rfl | simp, (by first | exact e1 | exact e1 (hdep 1 (by kernel_rfl))), (by first | exact e2 | exact e2 (hdep 2 (by kernel_rfl))), (by first | exact e3 | exact e3 (hdep 3 (by kernel_rfl))), (by first | exact e5 | exact e5 (hdep 5 (by kernel_rfl))), (by first | exact e8 | exact e8 (hdep 8 (by kernel_rfl))), (by first | exact e9 | exact e9 (hdep 9 (by kernel_rfl))), (by first | exact e10 | exact e10 (hdep 10 (by kernel_rfl))), (fun h => by cases h), fun _ => rfl, fun _ p hp => hall p hp, Hx.out⟩
              · intro D a wz hL hI
                obtain ⟨u4, u50, u51, u52, u53, u54, u55, u56, u57, u58, u59, u60, u61, rfl, _, _, _, _, _, _, _, _, h13, _, hC⟩ := hI
                obtain rfl := h13 (hL 12 (by decide))
                have hOn := hC.r11 (hL 11 (by decide))
                have hUz := hU.trans (hC.old.mono hU.size)
                clear hC
                unfold fr11
                have hsz3 := hUz.size
                go_wp2_with fail
                go_roundw
                case rel =>
                  refine ⟨i + 1, by omega, by go_num, ?_, ?_, hBw.trans (hUz.mono hszw)⟩
                  · rw [Hnext.out, Hnew.out, show (L.take j ++ x :: L.drop j).length = m + 1 by rw [List.length_append, List.length_cons, List.length_take, List.length_drop, ← Hm.out]; omega]
                    exact own_base hOn (Nat.le_trans hszw hU.size)
                  · intro e
                    rw [e] at hOn
                    rcases hOn.2 with ⟨_, h⟩ | ⟨_, _, _, h, _⟩
                    · omega
                    · cases h
                case measure => simp [intOf]; omega
        · have hjm' : j = m := by omega
          have hjt : decide (j < m) = false := decide_eq_false hjm
          have hjn : ((j : Int) == (m : Int)) = true := by simp; omega
          have hnew := ins_new (by rw [← Hm.out]; exact hj) hgt.out (fun h => absurd h (by rw [← Hm.out]; exact hjm))
          have Hnew := Lib.hid hnew; clear hnew
          have Hjm := Lib.hid hjm'; clear hjm'
          go_wp2_with fail
          go_quiet (fail)
          have hB3 := below_drewN hB nq
          generalize wr.drewN nq = w3 at *
          clear hB
          go_wp2_with fail
          go_quiet (fail)
          go_wp2_with fail
          have hU := (below_drewN hB3 nq).drew
          refine wp_region_inv (I := fun D a w' => ∃ u4 u50 u51 u52 u53 u54 u55 u56 u57 u58 u59 u60 u61 : Value, a = fr11 A n c w.heap.size i N g6 bx j x u18 u19 (.int .i64 (j : Int)) (.slice (some ⟨g, 0, none⟩) m cp) (.int .i64 (m : Int)) (.bool false) (.bool false) undef undef undef undef undef undef (.bool false) u36 u37 (.int .i64 (j : Int)) (.slice (some ⟨g, 0, none⟩) m cp) (.int .i64 (m : Int)) (.bool true) (.bool true) undef undef undef undef undef undef (.bool true) u4 u50 u51 u52 u53 u54 u55 u56 u57 u58 u59 u60 u61 ∧ (D 1 = true → u51 = (.slice (some ⟨g, 0, none⟩) m cp)) ∧ (D 2 = true → u52 = (.int .i64 (j : Int))) ∧ (D 3 = true → u53 = (.slice (some ⟨g, 0, none⟩) j cp)) ∧ (D 5 = true → u55 = (v4 (dec x))) ∧ (D 8 = true → u58 = (.slice (some ⟨g, 0, none⟩) m cp)) ∧ (D 9 = true → u59 = (.int .i64 (j : Int))) ∧ (D 10 = true → u60 = (.slice (some ⟨g, o10 j cp, none⟩) (m - j) (cp - j))) ∧ (D 12 = false → u4 = (.slice (some ⟨g, 0, none⟩) m cp)) ∧ (D 12 = true → u4 = u61) ∧ (D 12 = true → ∀ k, k < 12 → D k = true) ∧ Cl (w3.drewN nq).drew x L j m u50 u54 u56 u57 u61 D w') (by kernel_rfl) (by kernel_rfl) ?_ ?_ ?_
          · exact ⟨_, _, _, _, _, _, _, _, _, _, _, _, _, rfl, (fun h => by cases h), (fun h => by cases h), (fun h => by cases h), (fun h => by cases h), (fun h => by cases h), (fun h => by cases h), (fun h => by cases h), (fun _ => rfl), (fun h => by cases h), (fun h => by cases h), Cl.start (w3.drewN nq).drew _ _ _ _ _ _ _ _ _⟩
          · intro D a wz ix hix hL hdep hI
            obtain ⟨u4, u50, u51, u52, u53, u54, u55, u56, u57, u58, u59, u60, u61, rfl, e1, e2, e3, e5, e8, e9, e10, h12, h13, hcl, hC⟩ := hI
            have hi' : ix < 13 := hix
            clear hix
            obtain rfl | rfl | rfl | rfl | rfl | rfl | rfl | rfl | rfl | rfl | rfl | rfl | rfl : ix = 0 ∨ ix = 1 ∨ ix = 2 ∨ ix = 3 ∨ ix = 4 ∨ ix = 5 ∨ ix = 6 ∨ ix = 7 ∨ ix = 8 ∨ ix = 9 ∨ ix = 10 ∨ ix = 11 ∨ ix = 12 := by omega
            · have h120 : Hid (D 12 = false) := no_of (fun e => hcl e 0 (by decide)) hL
              have Hx := Lib.hid (hC.op0 hL); clear hC
              refine wpOp_want rfl rfl ?_
              unfold fr11
              go_simp
              exact ⟨u4, .slice (some ⟨wz.heap.size, 0, none⟩) 0 0, u51, u52, u53, u54, u55, u56, u57, u58, u59, u60, u61, by first | rfl | simp, e1, e2, e3, e5, e8, e9, e10, h12, (fun h => absurd (h120.out.symm.trans h) (by decide)), (fun h => absurd (h120.out.symm.trans h) (by decide)), Hx.out⟩
            · have h120 : Hid (D 12 = false) := no_of (fun e => hcl e 1 (by decide)) hL
              obtain rfl := h12 h120.out
              have Hx := Lib.hid (hC.quiet (q := 1) (by decide) (by decide) (by decide) (by decide) (by decide)); clear hC
              refine wpOp_want rfl rfl ?_
              unfold fr11
              go_simp
              exact ⟨(.slice (some ⟨g, 0, none⟩) m cp), u50, (.slice (some ⟨g, 0, none⟩) m cp), u52, u53, u54, u55, u56, u57, u58, u59, u60, u61, by first | rfl | simp, fun _ => rfl, e2, e3, e5, e8, e9, e10, fun _ => rfl, (fun h => absurd (h120.out.symm.trans h) (by decide)), (fun h => absurd (h120.out.symm.trans h) (by decide)), Hx.out⟩
            · have h120 : Hid (D 12 = false) := no_of (fun e => hcl e 2 (by decide)) hL
              have Hx := Lib.hid (hC.quiet (q := 2) (by decide) (by decide) (by decide) (by decide) (by decide)); clear hC
              refine wpOp_want rfl rfl ?_
              unfold fr11
              go_simp
              exact ⟨u4, u50, u51, (.int .i64 (j : Int)), u53, u54, u55, u56, u57, u58, u59, u60, u61, by first | rfl | simp, e1, fun _ => rfl, e3, e5, e8, e9, e10, h12, (fun h => absurd (h120.out.symm.trans h) (by decide)), (fun h => absurd (h120.out.symm.trans h) (by decide)), Hx.out⟩
            · have h120 : Hid (D 12 = false) := no_of (fun e => hcl e 3 (by decide)) hL
              obtain rfl := e1 (hdep 1 (by kernel_rfl))
              obtain rfl := e2 (hdep 2 (by kernel_rfl))
              have Hx := Lib.hid (hC.quiet (q := 3) (by decide) (by decide) (by decide) (by decide) (by decide)); clear hC
              refine wpOp_want rfl rfl ?_
              have hjc : j ≤ cp := by omega
              unfold fr11
              go_simp
              exact ⟨u4, u50, (.slice (some ⟨g, 0, none⟩) m cp), (.int .i64 (j : Int)), (.slice (some ⟨g, 0, none⟩) j cp), u54, u55, u56, u57, u58, u59, u60, u61, by first | rfl | simp, fun _ => rfl, fun _ => rfl, fun _ => rfl, e5, e8, e9, e10, h12, (fun h => absurd (h120.out.symm.trans h) (by decide)), (fun h => absurd (h120.out.symm.trans h) (by decide)), Hx.out⟩
            · have h120 : Hid (D 12 = false) := no_of (fun e => hcl e 4 (by decide)) hL
              obtain rfl := e3 (hdep 3 (by kernel_rfl))
              have hAz : At wz g (L.length * 4) (kf L) := by rw [← Hm.out]; exact hA.up (hU.trans (hC.old.mono hU.size))
              have hjl : (L.take j).length = j := by rw [List.length_take, ← Hm.out]; omega
              have hRow := hC.r0 (hdep 0 (by kernel_rfl)) (no_of (fun e => e) hL)
              refine wpOp_want rfl rfl ?_
              unfold fr11
              refine wp_append_own _ _ _ 35 rfl (w3.drewN nq).drew.heap.size 23 i4 (.agg #[.int .i64 0, .int .i64 0, .int .i64 0, .int .i64 0]) 4 32 Try.underlying35 H4.out.1 H4.out.2.1 H4.out.2.2.1 H4.out.2.2.2 rfl (by decide) _ _ _ rfl hRow ⟨g, 0, none⟩ j cp (kc (L.take j)) rfl (by rw [kc_len, hjl]) (by have := cells_part (w := wz) (g := g) (M1 := []) (M2 := L.take j) (M3 := L.drop j) hAz (by simp); simpa using this) (kc_one _) (by unfold maxLen; omega) (by omega) hC.old.size ?_
              intro v' w4 hO hg _
              exact ⟨u4, u50, u51, u52, (.slice (some ⟨g, 0, none⟩) j cp), v', u55, u56, u57, u58, u59, u60, u61, by first | rfl | simp, e1, e2, fun _ => rfl, e5, e8, e9, e10, h12, (fun h => absurd (h120.out.symm.trans h) (by decide)), (fun h => absurd (h120.out.symm.trans h) (by decide)), hC.op4 hL (hdep 0 (by kernel_rfl)) (by rw [Nat.zero_add, List.nil_append] at hO; exact hO) hg⟩
            · have h120 : Hid (D 12 = false) := no_of (fun e => hcl e 5 (by decide)) hL
              have Hx := Lib.hid (hC.quiet (q := 5) (by decide) (by decide) (by decide) (by decide) (by decide)); clear hC
              refine wpOp_want rfl rfl ?_
              obtain ⟨x0, x1, x2, x3⟩ := At.four (hX.up (hU.trans (Hx.out.old.mono hU.size)))
              unfold fr11
              go_simp
              exact ⟨u4, u50, u51, u52, u53, u54, (v4 (dec x)), u56, u57, u58, u59, u60, u61, by first | rfl | simp, e1, e2, e3, fun _ => rfl, e8, e9, e10, h12, (fun h => absurd (h120.out.symm.trans h) (by decide)), (fun h => absurd (h120.out.symm.trans h) (by decide)), Hx.out⟩
            · have h120 : Hid (D 12 = false) := no_of (fun e => hcl e 6 (by decide)) hL
              obtain rfl := e5 (hdep 5 (by kernel_rfl))
              have Hx := Lib.hid (hC.op6 hL); clear hC
              refine wpOp_want rfl rfl ?_
              unfold fr11
              go_simp
              exact ⟨u4, u50, u51, u52, u53, u54, (v4 (dec x)), .slice (some ⟨wz.heap.size, 0, none⟩) 1 1, u57, u58, u59, u60, u61, by first | rfl | simp, e1, e2, e3, fun _ => rfl, e8, e9, e10, h12, (fun h => absurd (h120.out.symm.trans h) (by decide)), (fun h => absurd (h120.out.symm.trans h) (by decide)), Hx.out⟩
            · have h120 : Hid (D 12 = false) := no_of (fun e => hcl e 7 (by decide)) hL
              obtain ⟨b, rfl, hb, _⟩ := hC.r6 (hdep 6 (by kernel_rfl)) hL
              have hRow := hC.r4 (hdep 4 (by kernel_rfl)) hL
              refine wpOp_want rfl rfl ?_
              unfold fr11
              refine wp_append_own _ _ _ 35 rfl (w3.drewN nq).drew.heap.size 23 i4 (.agg #[.int .i64 0, .int .i64 0, .int .i64 0, .int .i64 0]) 4 32 Try.underlying35 H4.out.1 H4.out.2.1 H4.out.2.2.1 H4.out.2.2.2 rfl (by decide) _ _ _ rfl hRow ⟨b, 0, none⟩ 1 1 (enc x) rfl (by rw [enc_len]) (by intro t u ht; have h4 : t < 4 := (by have := (List.getElem?_eq_some_iff.1 ht).1; rwa [enc_len] at this); rw [add_plain, Nat.zero_add, hb.cell t h4, ← ht, enc_get x h4]) (enc_one x) (by unfold maxLen; omega) (by omega) hC.old.size ?_
              intro v' w4 hO hg _
              exact ⟨u4, u50, u51, u52, u53, u54, u55, .slice (some ⟨b, 0, none⟩) 1 1, v', u58, u59, u60, u61, by first | rfl | simp, e1, e2, e3, e5, e8, e9, e10, h12, (fun h => absurd (h120.out.symm.trans h) (by decide)), (fun h => absurd (h120.out.symm.trans h) (by decide)), hC.op7 hL (hdep 4 (by kernel_rfl)) (hdep 6 (by kernel_rfl)) (by rw [kc_snoc]; exact hO) hg⟩
            · have h120 : Hid (D 12 = false) := no_of (fun e => hcl e 8 (by decide)) hL
              obtain rfl := h12 h120.out
              have Hx := Lib.hid (hC.quiet (q := 8) (by decide) (by decide) (by decide) (by decide) (by decide)); clear hC
              refine wpOp_want rfl rfl ?_
              unfold fr11
              go_simp
              exact ⟨(.slice (some ⟨g, 0, none⟩) m cp), u50, u51, u52, u53, u54, u55, u56, u57, (.slice (some ⟨g, 0, none⟩) m cp), u59, u60, u61, by first | rfl | simp, e1, e2, e3, e5, fun _ => rfl, e9, e10, fun _ => rfl, (fun h => absurd (h120.out.symm.trans h) (by decide)), (fun h => absurd (h120.out.symm.trans h) (by decide)), Hx.out⟩
            · have h120 : Hid (D 12 = false) := no_of (fun e => hcl e 9 (by decide)) hL
              have Hx := Lib.hid (hC.quiet (q := 9) (by decide) (by decide) (by decide) (by decide) (by decide)); clear hC
              refine wpOp_want rfl rfl ?_
              unfold fr11
              go_simp
              exact ⟨u4, u50, u51, u52, u53, u54, u55, u56, u57, u58, (.int .i64 (j : Int)), u60, u61, by first | rfl | simp, e1, e2, e3, e5, e8, fun _ => rfl, e10, h12, (fun h => absurd (h120.out.symm.trans h) (by decide)), (fun h => absurd (h120.out.symm.trans h) (by decide)), Hx.out⟩
            · have h120 : Hid (D 12 = false) := no_of (fun e => hcl e 10 (by decide)) hL
              obtain rfl := e8 (hdep 8 (by kernel_rfl))
              obtain rfl := e9 (hdep 9 (by kernel_rfl))
              have Hx := Lib.hid (hC.quiet (q := 10) (by decide) (by decide) (by decide) (by decide) (by decide)); clear hC
              refine wpOp_want rfl rfl ?_
              have hjc : j ≤ cp := by omega
              by_cases hcj : cp = j
              · have hcj2 : j = cp := hcj.symm
                subst hcj2
                unfold fr11
                go_simp
                exact ⟨u4, u50, u51, u52, u53, u54, u55, u56, u57, (.slice (some ⟨g, 0, none⟩) m j), (.int .i64 (j : Int)), (.slice (some ⟨g, o10 j j, none⟩) 0 0), u61, by simp [o10], e1, e2, e3, e5, fun _ => rfl, fun _ => rfl, fun _ => rfl, h12, (fun h => absurd (h120.out.symm.trans h) (by decide)), (fun h => absurd (h120.out.symm.trans h) (by decide)), Hx.out⟩
              · unfold fr11
                go_simp
                exact ⟨u4, u50, u51, u52, u53, u54, u55, u56, u57, (.slice (some ⟨g, 0, none⟩) m cp), (.int .i64 (j : Int)), (.slice (some ⟨g, o10 j cp, none⟩) (m - j) (cp - j)), u61, by simp [o10, hcj], e1, e2, e3, e5, fun _ => rfl, fun _ => rfl, fun _ => rfl, h12, (fun h => absurd (h120.out.symm.trans h) (by decide)), (fun h => absurd (h120.out.symm.trans h) (by decide)), Hx.out⟩
            · have h120 : Hid (D 12 = false) := no_of (fun e => hcl e 11 (by decide)) hL
              obtain rfl := e10 (hdep 10 (by kernel_rfl))
              have hAz : At wz g (L.length * 4) (kf L) := by rw [← Hm.out]; exact hA.up (hU.trans (hC.old.mono hU.size))
              have hjl : (L.take j).length = j := by rw [List.length_take, ← Hm.out]; omega
              have hRow := hC.r7 (hdep 7 (by kernel_rfl)) hL
              have hcl10 : ∀ t u, (kc (L.drop j))[t]? = some u → wz.cell? ((⟨g, o10 j cp, none⟩ : Addr).add t) = some u := by
                by_cases hcj : cp = j
                · intro t u ht
                  have := (List.getElem?_eq_some_iff.1 ht).1
                  rw [kc_len, List.length_drop, ← Hm.out] at this
                  omega
                · have := cells_part (w := wz) (g := g) (M1 := L.take j) (M2 := L.drop j) (M3 := []) hAz (by simp)
                  rw [hjl] at this
                  rw [show o10 j cp = j * 4 from if_neg hcj]
                  exact this
              refine wpOp_want rfl rfl ?_
              unfold fr11
              refine wp_append_own _ _ _ 35 rfl (w3.drewN nq).drew.heap.size 23 i4 (.agg #[.int .i64 0, .int .i64 0, .int .i64 0, .int .i64 0]) 4 32 Try.underlying35 H4.out.1 H4.out.2.1 H4.out.2.2.1 H4.out.2.2.2 rfl (by decide) _ _ _ rfl hRow ⟨g, o10 j cp, none⟩ (m - j) (cp - j) (kc (L.drop j)) rfl (by rw [kc_len, List.length_drop, ← Hm.out]) (hcl10) (kc_one _) (by unfold maxLen; omega) (by omega) hC.old.size ?_
              intro v' w4 hO hg _
              exact ⟨u4, u50, u51, u52, u53, u54, u55, u56, u57, u58, u59, (.slice (some ⟨g, o10 j cp, none⟩) (m - j) (cp - j)), v', by first | rfl | simp, e1, e2, e3, e5, e8, e9, fun _ => rfl, h12, (fun h => absurd (h120.out.symm.trans h) (by decide)), (fun h => absurd (h120.out.symm.trans h) (by decide)), hC.op11 hL (hdep 7 (by kernel_rfl)) (by rw [show j + 1 + (m - j) = m + 1 by omega, ← kc_append, List.append_assoc] at hO; exact hO) hg⟩
            · have hall : ∀ p, p < 12 → done D 12 p = true := by
                intro p hp
                obtain rfl | rfl | rfl | rfl | rfl | rfl | rfl | rfl | rfl | rfl | rfl | rfl : p = 0 ∨ p = 1 ∨ p = 2 ∨ p = 3 ∨ p = 4 ∨ p = 5 ∨ p = 6 ∨ p = 7 ∨ p = 8 ∨ p = 9 ∨ p = 10 ∨ p = 11 := by omega
                all_goals exact hdep _ (by kernel_rfl)
              have Hx := Lib.hid (hC.quiet (q := 12) (by decide) (by decide) (by decide) (by decide) (by decide)); clear hC
              refine wpOp_want rfl rfl ?_
              unfold fr11
              go_simp
              exact ⟨u61, u50, u51, u52, u53, u54, u55, u56, u57, u58, u59, u60, u61, by first | rfl | simp, (by first | exact e1 | exact e1 (hdep 1 (by kernel_rfl))), (by first | exact e2 | exact e2 (hdep 2 (by kernel_rfl))), (by first | exact e3 | exact e3 (hdep 3 (by kernel_rfl))), (by first | exact e5 | exact e5 (hdep 5 (by kernel_rfl))), (by first | exact e8 | exact e8 (hdep 8 (by kernel_rfl))), (by first | exact e9 | exact e9 (hdep 9 (by kernel_rfl))), (by first | exact e10 | exact e10 (hdep 10 (by kernel_rfl))), (fun h => by cases h), fun _ => rfl, fun _ p hp => hall p hp, Hx.out⟩
          · intro D a wz hL hI
            obtain ⟨u4, u50, u51, u52, u53, u54, u55, u56, u57, u58, u59, u60, u61, rfl, _, _, _, _, _, _, _, _, h13, _, hC⟩ := hI
            obtain rfl := h13 (hL 12 (by decide))
            have hOn := hC.r11 (hL 11 (by decide))
            have hUz := hU.trans (hC.old.mono hU.size)
            clear hC
            unfold fr11
            have hsz3 := hUz.size
            go_wp2_with fail
            go_roundw
            case rel =>
              refine ⟨i + 1, by omega, by go_num, ?_, ?_, hBw.trans (hUz.mono hszw)⟩
              · rw [Hnext.out, Hnew.out, show (L.take j ++ x :: L.drop j).length = m + 1 by rw [List.length_append, List.length_cons, List.length_take, List.length_drop, ← Hm.out]; omega]
                exact own_base hOn (Nat.le_trans hszw hU.size)
              · intro e
                rw [e] at hOn
                rcases hOn.2 with ⟨_, h⟩ | ⟨_, _, _, h, _⟩
                · omega
                · cases h
            case measure => simp [intOf]; omega
    · obtain rfl : i = N := by omega
      have hit : decide ((i : Int) < (i : Int)) = false := decide_eq_false (by omega)
      obtain ⟨A', c', rfl, hF⟩ := keys_own hO
      go_wp2_with fail
      refine (Ho.out _).mono ?_
      rintro e w5 ⟨rfl, hw5⟩
      have hw5 := hw5.symm
      subst hw5
      go_wp2_with fail
      go_ret2
      exact ⟨_, _, rfl, hF, hB⟩


end POfS
end Go.Proofs.Ytbcaahaaaodhkaa
