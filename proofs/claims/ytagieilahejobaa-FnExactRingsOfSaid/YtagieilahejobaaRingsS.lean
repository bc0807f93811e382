/-
  Rings by the specification.
-/
import Derived.Test.YtagieilahejobaaRows
import Derived.Test.YtagieilahejobaaRagL
import Derived.Test.YtagieilahejobaaRingW
import Derived.Test.YtagieilahejobaaRingM
import Derived.Test.YtagieilahejobaaPairsW
import Derived.Test.YtagieilahejobaaGridW
import Derived.Test.YtagieilahejobaaTableS2
import Derived.Test.YtagieilahejobaaRingI
import Derived.Test.YtagieilahejobaaRingS
import Derived.Test.YtagieilahejobaaManyI
import Derived.Test.YtagieilahejobaaManyS
import Derived.Test.YtagieilahejobaaAnyR
import Derived.Test.YtagieilahejobaaBeatI
import Derived.Test.YtagieilahejobaaIntsW
import Derived.Test.YtagieilahejobaaSafeI
import Derived.Test.YtagieilahejobaaSafeS
import Derived.Test.YtagieilahejobaaRowW
import Derived.Test.YtagieilahejobaaRowsL
import Derived.Test.YtagieilahejobaaQuietR
import Derived.Test.YtagieilahejobaaQuietD
import Derived.Test.YtagieilahejobaaBestI
import Derived.Test.YtagieilahejobaaBestS
import Derived.Test.YtagieilahejobaaShelfMax
import Derived.Test.YtagieilahejobaaTopW
import Derived.Test.YtagieilahejobaaManyW
import Derived.Test.YtagieilahejobaaDicesW
import Derived.Test.YtagieilahejobaaWaysW
import Derived.Test.YtagieilahejobaaKnow
import Derived.Test.YtagieilahejobaaCmpW
import Derived.Test.YtagieilahejobaaCompW
import Derived.Test.YtagieilahejobaaCompS
import Derived.Test.YtagieilahejobaaDuel
import Derived.Test.YtagieilahejobaaDieW
import Derived.Test.YtagieilahejobaaSortW
import Derived.Test.YtagieilahejobaaOpenD
import Derived.WalkKit
import Derived.WalkLawsBesides
import Derived.WalkSpells
import Derived.ProofKit
import Derived.OpenShut
import Derived.Deep.RegionWith
import Derived.Deep.QuietTactic
import Derived.BigQuiet
namespace Go.Proofs.Ytagieilahejobaa
open Go.ChangeShapes Go.WideShapes Go.ChangeAt Go.RowKit
open Go.ChangeMaps (open_string shut_string)

namespace RingsS
open Dice Arr OpenD DieW SortW Duel CmpW Know WaysW CompS CompW ManyW QuietD QuietR TopW DicesW BestS BestI RowsL RowW SafeS SafeI BeatI IntsW ManyS ManyI RingS RingI AnyR TableS2 GridW PairsW RingM RingW RagL

def bt (P : Nat → Nat → Int) (i k : Nat) : Bool := beats (P i) (P k)
section
variable {b : Nat → Nat → Bool} {n : Nat}
/-- What the places below k give. -/
def part (b : Nat → Nat → Bool) (n r : Nat) (p : List Nat) (k : Nat) : List (List Nat) := (((List.range k).filter (goes b p)).map fun x => p ++ [x]).flatMap (dfs b n r)
theorem part_yes {r k : Nat} {p : List Nat} (h : goes b p k = true) : part b n r p (k + 1) = part b n r p k ++ dfs b n r (p ++ [k]) := by
  unfold part
  rw [List.range_succ, List.filter_append, List.filter_cons_of_pos h]
  simp
theorem part_no {r k : Nat} {p : List Nat} (h : goes b p k = false) : part b n r p (k + 1) = part b n r p k := by
  unfold part
  rw [List.range_succ, List.filter_append, List.filter_cons_of_neg (by rw [h]; decide)]
  simp
theorem part_nil {r : Nat} {p : List Nat} : ∀ k, k ≤ hd p + 1 → part b n r p k = [] := by
  intro k
  induction k with
  | zero => intro _; rfl
  | succ k ih =>
    intro hk
    have : goes b p k = false := by unfold goes; rw [decide_eq_false (by omega), Bool.false_and]
    rw [part_no this]
    exact ih (by omega)
theorem part_all (r : Nat) (p : List Nat) : part b n r p n = dfs b n (r + 1) p := rfl
theorem flat_le {M : Nat} (f : List Nat → List (List Nat)) (hf : ∀ p, (f p).length ≤ M) : ∀ l : List (List Nat), (l.flatMap f).length ≤ l.length * M := by
  intro l
  induction l with
  | nil => exact Nat.zero_le _
  | cons p l ih =>
    have := hf p
    rw [List.flatMap_cons, List.length_append, List.length_cons, Nat.add_mul]
    omega
theorem dfs_len (r : Nat) : ∀ p, (dfs b n r p).length ≤ n ^ r := by
  induction r with
  | zero =>
    intro p
    show (if closes b p then [p] else []).length ≤ 1
    cases closes b p <;> simp
  | succ r ih =>
    intro p
    have h1 := flat_le (dfs b n r) ih (ext b n p)
    have h2 := Nat.mul_le_mul_right (n ^ r) (ext_len (b := b) (n := n) p)
    rw [Nat.pow_succ, Nat.mul_comm]
    exact Nat.le_trans h1 h2
theorem part_len (r k : Nat) (p : List Nat) : (part b n r p k).length ≤ k * n ^ r := by
  have h1 := flat_le (dfs b n r) (dfs_len r) (((List.range k).filter (goes b p)).map fun x => p ++ [x])
  refine Nat.le_trans h1 (Nat.mul_le_mul_right _ ?_)
  rw [List.length_map]
  exact Nat.le_trans (List.length_filter_le _ _) (by rw [List.length_range]; exact Nat.le_refl _)
theorem pow6 {n r : Nat} (hn : n ≤ 6) (hr : r ≤ 6) : n ^ r ≤ 46656 := Nat.le_trans (Nat.pow_le_pow_left hn r) (Nat.le_trans (Nat.pow_le_pow_right (by decide) hr) (by decide))
theorem dfs_yes {p : List Nat} (h : closes b p = true) : dfs b n 0 p = [p] := by show (if closes b p then [p] else []) = _; rw [h]; rfl
theorem dfs_no {p : List Nat} (h : closes b p = false) : dfs b n 0 p = [] := by show (if closes b p then [p] else []) = _; rw [h]; rfl
theorem la_get {p : List Nat} (h : p.length - 1 < p.length) : la p = p[p.length - 1] := by
  unfold la
  rw [List.getLastD_eq_getLast?, List.getLast?_eq_getElem?, List.getElem?_eq_getElem h]
  rfl
theorem hd_get {p : List Nat} (h : 0 < p.length) : hd p = p[0] := by
  cases p with
  | nil => exact absurd h (Nat.lt_irrefl 0)
  | cons x p => rfl
end
section
variable {C : World → Prop} {K : Act → Prop} {a : Act} {o : Oper}
/-- A number read, in every world of the class. -/
theorem quiet_ldi (x : Operand) (ho : o.op = .load 3 x) {b off : Nat} {u : Int} (hx : a.eval x = .pointer (some ⟨b, off, none⟩)) (hC : ∀ w, C w → w.cell? ⟨b, off, none⟩ = some (.int .i64 u))
    (hk : K (a.put o.dst (.int .i64 u))) : o.quiet Try.prog a C K :=
  ⟨.int .i64 u, fun w hw => by
    have hcell := hC w hw
    clear hC hw
    have hld : (loadVar 3 ⟨b, off, none⟩).run Try.prog w = .ok (.int .i64 u) w := by simp [go_sem, hcell]
    unfold Oper.quietAt execOp
    simp only [ho, hx, Instr.loadAt, Instr.sureAddr, Sem.run_bind, Sem.run_pure, Result.andThen_ok, hld]
    exact ⟨rfl, rfl⟩, hk⟩
end
set_option maxRecDepth 100000 in
set_option maxHeartbeats 16000000 in
theorem l3Rings_zero (A : Option Addr) (n c : Nat) (P : Nat → Nat → Int) (B : Nat) (v : Value) (p : List Nat) (w : World) (h : Row w A n P) (hp : PathAt B w v p) (hp0 : 0 < p.length) (hx : ∀ x ∈ p, x < n) (hl : p.length ≤ 6) :
    Calls Try.prog 62 #[.slice A n c, v, .int .i64 (p.length : Int)] w fun e w' => ∃ g c' gs cs, e = .returned (.slice (some ⟨g, 0, none⟩) (dfs (bt P) n 0 p).length c') ∧ RagAt w' w.heap.size (.slice (some ⟨g, 0, none⟩) (dfs (bt P) n 0 p).length c') (dfs (bt P) n 0 p) gs cs ∧ Below w.heap.size w w' := by
  obtain ⟨g, cp, rfl, hg, hgl, hcp, hcells⟩ := path_form hp hp0
  have h1 : 0 < n := Nat.lt_of_le_of_lt (Nat.zero_le _) (hx _ (List.getElem_mem hp0))
  obtain ⟨bk, o, rfl, hbk, hcw⟩ := row_cells h h1
  have Hcw := Lib.hid hcw; clear hcw h
  have hlm : p.length - 1 < p.length := by omega
  have hla : la p < n := by rw [la_get hlm]; exact hx _ (List.getElem_mem _)
  have hhd : hd p < n := by rw [hd_get hp0]; exact hx _ (List.getElem_mem _)
  have cl := hcells _ hlm
  rw [← la_get hlm] at cl
  have hc0 := hcells 0 hp0
  rw [← hd_get hp0] at hc0
  have hlc : ((p.length - 1 : Nat) : Int) = (p.length : Int) - 1 := by omega
  have Hown := Lib.hid (fun w h => l1Own_any B (.slice (some ⟨g, 0, none⟩) p.length cp) p w h hp0 (by omega))
  have HP := Lib.hid hp; clear hp hcells hx
  obtain ⟨iS, hi, hz0, hz1, hz2⟩ := info_parts infoL
  have HS := Lib.hid (And.intro hi (And.intro hz0 (And.intro hz1 hz2)))
  clear hi hz0 hz1 hz2
  have hB := na (n0 w) (.cells #[] 51)
  have hO0 : (w.alloc (.cells #[] 51)).ownsRow w.heap.size 51 1 (.slice (some ⟨w.heap.size, 0, none⟩) 0 0) 0 [] := World.ownsRow_made w #[] 0 (Nat.le_refl _) (by decide) rfl
  have hb0 := fun w => l3Beats_any (P (la p)) (P (hd p)) w
  cases hq : closes (bt P) p
  · rw [dfs_no hq]
    have hbb : beats (P (la p)) (P (hd p)) = false := hq
    rw [hbb] at hb0
    have Hl := Lib.hid hb0; clear hb0 hq hbb
    go_enter Try.func62, Try.ntmps62
    go_wp2_with fail
    obtain ⟨W0, hW0⟩ : ∃ W0, W0 = w.alloc (.cells #[] 51) := ⟨_, rfl⟩
    rw [← hW0] at hO0 hB ⊢
    clear hW0
    refine wp_region_quiet (C := fun w' => Below W0.heap.size W0 w' ∧ Below w.heap.size w w') (by kernel_rfl) (by kernel_rfl) ⟨(n0 W0).drew, hB.drew⟩ ?_
    clear hB
    refine BigFrame.wpQuiet_want rfl (fun K hK => BigFrame.quiet_move _ rfl (hK _ ?_)); clear hK K; go_simp
    go_big_quiet_want; go_big_quiet_op; go_big_quiet_on
    go_big_quiet_want; go_big_quiet_op; first | go_big_quiet_on | (rename_i K hK; refine ⟨_, by intros; rfl, hK _ ?_⟩; clear hK K; go_simp)
    go_big_quiet_want; rename_i K hK; refine quiet_ldo _ rfl rfl (fun _ h => at_row (fun t hk => Hcw.out (la p) hla t hk) hbk h.2) (hK _ ?_); clear hK K; go_simp
    go_big_quiet_want; go_big_quiet_op; go_big_quiet_on
    go_big_quiet_want; go_big_quiet_op; go_big_quiet_on
    go_big_quiet_want; go_big_quiet_op; first | go_big_quiet_on | (rename_i K hK; refine ⟨_, by intros; rfl, hK _ ?_⟩; clear hK K; go_simp)
    go_big_quiet_want; rename_i K hK; refine quiet_ldi _ rfl rfl (fun _ h => (h.2.cell (p := ⟨g, 0, none⟩) hgl).trans hc0) (hK _ ?_); clear hK K; go_simp
    go_big_quiet_want; go_big_quiet_op; first | go_big_quiet_on | (rename_i K hK; refine ⟨_, by intros; rfl, hK _ ?_⟩; clear hK K; go_simp)
    go_big_quiet_want; rename_i K hK; refine quiet_ldo _ rfl rfl (fun _ h => at_row (fun t hk => Hcw.out (hd p) hhd t hk) hbk h.2) (hK _ ?_); clear hK K; go_simp
    go_big_quiet_want; rename_i K hK; refine ⟨.bool false, fun w' hw' => ?_, hK _ ?_⟩
    · clear hK K
      have Hw := Lib.hid hw'; clear hw'
      go_simp
      refine (Hl.out _).mono ?_
      rintro e w5 ⟨rfl, hb⟩
      exact ⟨rfl, nx Hw.out.1 hb, nx Hw.out.2 hb⟩
    clear hK K; go_simp
    refine wpQuiet_nil ?_
    intro w3 hU hB
    have hO3 := hO0.kept (grown_of hU (Nat.le_refl _) none) (keep_none _)
    clear hO0 hU
    go_wp2_with fail
    go_ret
    exact ⟨_, _, fun _ => 0, fun _ => 0, rfl, ⟨hO3, fun _ hi => absurd hi (Nat.not_lt_zero _), fun _ _ _ hj => absurd hj (Nat.not_lt_zero _)⟩, hB⟩
  · rw [dfs_yes hq]
    have hbb : beats (P (la p)) (P (hd p)) = true := hq
    rw [hbb] at hb0
    have Hl := Lib.hid hb0; clear hb0 hq hbb
    go_enter Try.func62, Try.ntmps62
    go_wp2_with fail
    obtain ⟨W0, hW0⟩ : ∃ W0, W0 = w.alloc (.cells #[] 51) := ⟨_, rfl⟩
    rw [← hW0] at hO0 hB ⊢
    clear hW0
    refine wp_region_quiet (C := fun w' => Below W0.heap.size W0 w' ∧ Below w.heap.size w w') (by kernel_rfl) (by kernel_rfl) ⟨(n0 W0).drew, hB.drew⟩ ?_
    clear hB
    refine BigFrame.wpQuiet_want rfl (fun K hK => BigFrame.quiet_move _ rfl (hK _ ?_)); clear hK K; go_simp
    go_big_quiet_want; go_big_quiet_op; go_big_quiet_on
    go_big_quiet_want; go_big_quiet_op; first | go_big_quiet_on | (rename_i K hK; refine ⟨_, by intros; rfl, hK _ ?_⟩; clear hK K; go_simp)
    go_big_quiet_want; rename_i K hK; refine quiet_ldo _ rfl rfl (fun _ h => at_row (fun t hk => Hcw.out (la p) hla t hk) hbk h.2) (hK _ ?_); clear hK K; go_simp
    go_big_quiet_want; go_big_quiet_op; go_big_quiet_on
    go_big_quiet_want; go_big_quiet_op; go_big_quiet_on
    go_big_quiet_want; go_big_quiet_op; first | go_big_quiet_on | (rename_i K hK; refine ⟨_, by intros; rfl, hK _ ?_⟩; clear hK K; go_simp)
    go_big_quiet_want; rename_i K hK; refine quiet_ldi _ rfl rfl (fun _ h => (h.2.cell (p := ⟨g, 0, none⟩) hgl).trans hc0) (hK _ ?_); clear hK K; go_simp
    go_big_quiet_want; go_big_quiet_op; first | go_big_quiet_on | (rename_i K hK; refine ⟨_, by intros; rfl, hK _ ?_⟩; clear hK K; go_simp)
    go_big_quiet_want; rename_i K hK; refine quiet_ldo _ rfl rfl (fun _ h => at_row (fun t hk => Hcw.out (hd p) hhd t hk) hbk h.2) (hK _ ?_); clear hK K; go_simp
    go_big_quiet_want; rename_i K hK; refine ⟨.bool true, fun w' hw' => ?_, hK _ ?_⟩
    · clear hK K
      have Hw := Lib.hid hw'; clear hw'
      go_simp
      refine (Hl.out _).mono ?_
      rintro e w5 ⟨rfl, hb⟩
      exact ⟨rfl, nx Hw.out.1 hb, nx Hw.out.2 hb⟩
    clear hK K; go_simp
    refine wpQuiet_nil ?_
    intro w3 hU hB
    have hO3 := hO0.kept (grown_of hU (Nat.le_refl _) none) (keep_none _)
    clear hO0 hU
    have hP3 : PathAt B w3 (.slice (some ⟨g, 0, none⟩) p.length cp) p := World.ownsRow.kept HP.out (grown_of hB (Nat.le_refl _) none) (keep_none _)
    go_wp2_with fail
    refine (Hown.out _ hP3).mono ?_
    rintro e w4 ⟨v4, rfl, hP4, hb4⟩
    obtain ⟨g4, c4, rfl, hg4, hgl4, hc4, _⟩ := path_form hP4 hp0
    have hB4 := nx hB hb4
    have hO4 := hO3.kept (grown_of hb4 (Nat.le_refl _) none) (keep_none _)
    have hsz4 := hB4.size
    have hsz3 := hB.size
    go_wp2_with (at_builtin; refine wpList_append_own _ rfl _ _ 33 rfl w.heap.size 51 iS (.slice none 0 0) 1 24 Try.underlying33 HS.out.1 HS.out.2.1 HS.out.2.2.1 HS.out.2.2.2 rfl (by decide) _ _ _ rfl (hO4.alloc _) ⟨w4.heap.size, 0, none⟩ 1 1 [.slice (some ⟨g4, 0, none⟩) p.length c4] rfl rfl ?c1 ?c2 ?c3 ?c4 ?c5 ?_)
    case c1 =>
      intro t u ht
      match t, ht with
      | 0, ht => simp at ht; subst ht; simp [Addr.add]
    case c2 => intro u hu; simp at hu; subst hu; rfl
    case c3 => unfold maxLen; omega
    case c4 => omega
    case c5 => first | (simp; omega) | simp
    · intro v5 w5 hO5 hg5 _
      have hR0 : RagAt (w4.alloc (.cells #[.slice (some ⟨g4, 0, none⟩) p.length c4] 51)) w.heap.size (.slice (some ⟨w.heap.size, 0, none⟩) 0 0) [] (fun _ => 0) (fun _ => 0) := ⟨hO4.alloc _, fun _ hi => absurd hi (Nat.not_lt_zero _), fun _ _ _ hj => absurd hj (Nat.not_lt_zero _)⟩
      have hR := hR0.snoc (p := p) (g2 := g4) (c2 := c4) (own_base (World.ownsRow.alloc hP4 _) (by omega)) (fun _ hi => absurd hi (Nat.not_lt_zero _)) hg5 hO5
      obtain ⟨g6, c6, rfl, _, _, _, _⟩ := hR.head (Nat.succ_pos _)
      have hB5 := (na hB4 (.cells #[.slice (some ⟨g4, 0, none⟩) p.length c4] 51)).grown hg5 (by rw [size_alloc]; omega) (fun t e => (hO4.lt t e).1)
      clear hO5 hg5 hR0
      go_wp2_with fail
      go_ret
      exact ⟨_, _, rfl, ⟨_, _, hR⟩, hB5⟩

theorem form_of {w : World} {B : Nat} {v : Value} {ps : List (List Nat)} {gs cs : Nat → Nat} (h : RagAt w B v ps gs cs) (hne : v ≠ .slice none 0 0) : ∃ g c, v = .slice (some ⟨g, 0, none⟩) ps.length c := by
  rcases h.out.2 with ⟨he, _⟩ | ⟨g, cap, cur, he, _⟩
  · exact absurd he hne
  · exact ⟨g, cap, he⟩
theorem words_of {w : World} {B g c : Nat} {ps : List (List Nat)} {gs cs : Nat → Nat} (h : RagAt w B (.slice (some ⟨g, 0, none⟩) ps.length c) ps gs cs) : ∀ t u, (wd ps gs cs)[t]? = some u → w.cell? ((⟨g, 0, none⟩ : Addr).add t) = some u := by
  intro t u ht
  have hlt : t < ps.length := by rw [← wd_len ps gs cs]; exact (List.getElem?_eq_some_iff.1 ht).1
  rw [addr_add, ← ht]
  exact h.out.cellAt t (by omega)
set_option maxRecDepth 100000 in
set_option maxHeartbeats 16000000 in
theorem l3Rings_any (A : Option Addr) (n c : Nat) (P : Nat → Nat → Int) (hn : n ≤ 6) (r : Nat) : ∀ (B : Nat) (v : Value) (p : List Nat) (w : World), Row w A n P → PathAt B w v p → 0 < p.length → (∀ x ∈ p, x < n) → p.length + r ≤ 6 → ∀ L : Nat, L = p.length + r →
    Calls Try.prog 62 #[.slice A n c, v, .int .i64 (L : Int)] w fun e w' => ∃ g c' gs cs, e = .returned (.slice (some ⟨g, 0, none⟩) (dfs (bt P) n r p).length c') ∧ RagAt w' w.heap.size (.slice (some ⟨g, 0, none⟩) (dfs (bt P) n r p).length c') (dfs (bt P) n r p) gs cs ∧ Below w.heap.size w w' := by
  induction r with
  | zero =>
    intro B v p w h hp hp0 hx hl L hL
    rw [hL]
    exact l3Rings_zero A n c P B v p w h hp hp0 hx (by omega)
  | succ r ih =>
    intro B v p w h hp hp0 hx hl L hL
    have Hih := Lib.hid ih; clear ih
    obtain ⟨g, cp, rfl, hg, hgl, hcp, hcells⟩ := path_form hp hp0
    have h1 : 0 < n := Nat.lt_of_le_of_lt (Nat.zero_le _) (hx _ (List.getElem_mem hp0))
    have H := Lib.hid h
    obtain ⟨bk, o, rfl, hbk, hcw⟩ := row_cells h h1
    have Hcw := Lib.hid hcw; clear hcw h
    have hlm : p.length - 1 < p.length := by omega
    have hla : la p < n := by rw [la_get hlm]; exact hx _ (List.getElem_mem _)
    have hhd : hd p < n := by rw [hd_get hp0]; exact hx _ (List.getElem_mem _)
    have cl := hcells _ hlm
    rw [← la_get hlm] at cl
    have hc0 := hcells 0 hp0
    rw [← hd_get hp0] at hc0
    have hlc : ((p.length - 1 : Nat) : Int) = (p.length : Int) - 1 := by omega
    have heq : ((p.length : Int) == (L : Int)) = false := by
      rw [Bool.eq_false_iff]
      intro e
      have := eq_of_beq e
      omega
    have Hown := Lib.hid (fun w h => l1Own_any B (.slice (some ⟨g, 0, none⟩) p.length cp) p w h hp0 (by omega))
    have HP := Lib.hid hp
    have Hx := Lib.hid hx
    clear hp hcells hx
    have Hha := Lib.hid (fun (k : Nat) w h => l1Has_any B (.slice (some ⟨g, 0, none⟩) p.length cp) p k w h hp0 (by omega))
    have HL := Lib.hid hL; clear hL
    obtain ⟨i0, hi, hz0, hz1, hz2⟩ := info_parts info_int
    have Hi := Lib.hid (And.intro hi (And.intro hz0 (And.intro hz1 hz2)))
    clear hi hz0 hz1 hz2
    obtain ⟨iS, hi, hz0, hz1, hz2⟩ := info_parts infoL
    have HS := Lib.hid (And.intro hi (And.intro hz0 (And.intro hz1 hz2)))
    clear hi hz0 hz1 hz2
    have hB := na (n0 w) (.cells #[] 51)
    have hO0 : (w.alloc (.cells #[] 51)).ownsRow w.heap.size 51 1 (.slice (some ⟨w.heap.size, 0, none⟩) 0 0) 0 [] := World.ownsRow_made w #[] 0 (Nat.le_refl _) (by decide) rfl
    have hR0 : RagAt (w.alloc (.cells #[] 51)) w.heap.size (.slice (some ⟨w.heap.size, 0, none⟩) 0 0) [] (fun _ => 0) (fun _ => 0) := ⟨hO0, fun _ hi => absurd hi (Nat.not_lt_zero _), fun _ _ _ hj => absurd hj (Nat.not_lt_zero _)⟩
    have Hb0 := Lib.hid (fun k w => l3Beats_any (P (la p)) (P k) w)
    clear hO0
    go_enter Try.func62, Try.ntmps62
    go_wp2_with fail
    clear cl
    go_loopw [7, 9] (fun ov kv wr => ∃ (k : Nat) (gs cs : Nat → Nat), hd p + 1 ≤ k ∧ k ≤ n ∧ kv = .int .i64 k ∧ RagAt wr w.heap.size ov (part (bt P) n r p k) gs cs ∧ ov ≠ .slice none 0 0 ∧ Below w.heap.size w wr) (fun _ kv _ => n - (intOf kv).toNat)
    case atStart => exact ⟨hd p + 1, _, _, by omega, by omega, by go_num, by rw [part_nil _ (Nat.le_refl _)]; exact hR0, (fun e => by injection e with e; cases e), hB⟩
    case round =>
      clear hB hR0
      obtain ⟨k, gs, cs, hk1, hk, rfl, hR, hne, hB⟩ := hrel
      by_cases hlk : k < n
      · have hkt : decide (k < n) = true := decide_eq_true hlk
        have Hhas := Lib.hid (Hha.out k)
        have hl0 := Hb0.out k
        have HR := Lib.hid hR; clear hR
        have hgo : goes (bt P) p k = (bt P (la p) k && !p.contains k) := by unfold goes; rw [decide_eq_true (by omega), Bool.true_and]
        obtain ⟨W0, rfl⟩ : ∃ W0, W0 = wr := ⟨wr, rfl⟩
        have hsz0 := hB.size
        cases hh : p.contains k
        · cases hbb : beats (P (la p)) (P k)
          · have Hs : Hid (goes (bt P) p k = false) := by show _ = _; rw [hgo, hh]; show (beats (P (la p)) (P k) && _) = _; rw [hbb]; rfl
            rw [hbb] at hl0
            have Hh2 := Hhas.out; rw [hh] at Hh2
            clear Hhas
            have Hhas := Lib.hid Hh2
            have Hl := Lib.hid hl0; clear hl0 hbb hh hgo Hh2
            go_wp2_with fail
            refine wp_region_quiet (C := fun w' => Below W0.heap.size W0 w' ∧ Below w.heap.size w w') (by kernel_rfl) (by kernel_rfl) ⟨(n0 W0).drew, hB.drew⟩ ?_
            clear hB
            refine BigFrame.wpQuiet_want rfl (fun K hK => BigFrame.quiet_move _ rfl (hK _ ?_)); clear hK K; go_simp
            go_big_quiet_want; go_big_quiet_op; go_big_quiet_on
            go_big_quiet_want; rename_i K hK; refine ⟨.bool false, fun w' hw' => ?_, hK _ ?_⟩
            · clear hK K
              have Hw := Lib.hid hw'; clear hw'
              go_simp
              refine (Hhas.out _ (World.ownsRow.kept HP.out (grown_of Hw.out.2 (Nat.le_refl _) none) (keep_none _))).mono ?_
              rintro e w5 ⟨rfl, rfl⟩
              exact ⟨rfl, Hw.out.1, Hw.out.2⟩
            clear hK K; go_simp
            go_big_quiet_want; go_big_quiet_op; first | go_big_quiet_on | (rename_i K hK; refine ⟨_, by intros; rfl, hK _ ?_⟩; clear hK K; go_simp)
            go_big_quiet_want; go_big_quiet_op; go_big_quiet_on
            go_big_quiet_want; go_big_quiet_op; go_big_quiet_on
            go_big_quiet_want; go_big_quiet_op; go_big_quiet_on
            go_big_quiet_want; go_big_quiet_op; first | go_big_quiet_on | (rename_i K hK; refine ⟨_, by intros; rfl, hK _ ?_⟩; clear hK K; go_simp)
            go_big_quiet_want; rename_i K hK; refine quiet_ldo _ rfl rfl (fun _ h => at_row (fun t hk => Hcw.out (la p) hla t hk) hbk h.2) (hK _ ?_); clear hK K; go_simp
            go_big_quiet_want; go_big_quiet_op; go_big_quiet_on
            go_big_quiet_want; go_big_quiet_op; go_big_quiet_on
            go_big_quiet_want; go_big_quiet_op; first | go_big_quiet_on | (rename_i K hK; refine ⟨_, by intros; rfl, hK _ ?_⟩; clear hK K; go_simp)
            go_big_quiet_want; rename_i K hK; refine quiet_ldo _ rfl rfl (fun _ h => at_row (fun t hk => Hcw.out k hlk t hk) hbk h.2) (hK _ ?_); clear hK K; go_simp
            go_big_quiet_want; rename_i K hK; refine ⟨.bool false, fun w' hw' => ?_, hK _ ?_⟩
            · clear hK K
              have Hw := Lib.hid hw'; clear hw'
              go_simp
              refine (Hl.out _).mono ?_
              rintro e w5 ⟨rfl, hb⟩
              exact ⟨rfl, nx Hw.out.1 hb, nx Hw.out.2 hb⟩
            clear hK K; go_simp
            go_big_quiet_want; go_big_quiet_op; first | go_big_quiet_on | (rename_i K hK; refine ⟨_, by intros; rfl, hK _ ?_⟩; clear hK K; go_simp)
            refine wpQuiet_nil ?_
            intro w3 hU hB
            have hR3 := HR.out.up hU
            clear HR hU
            go_wp2_with fail
            go_roundw
            case rel => exact ⟨k + 1, _, _, by omega, by omega, by go_num, by rw [part_no Hs.out]; exact hR3, hne, hB⟩
            case measure => simp [intOf]; omega
          · have Hs : Hid (goes (bt P) p k = true) := by show _ = _; rw [hgo, hh]; show (beats (P (la p)) (P k) && _) = _; rw [hbb]; rfl
            rw [hbb] at hl0
            have Hh2 := Hhas.out; rw [hh] at Hh2
            clear Hhas
            have Hhas := Lib.hid Hh2
            have Hl := Lib.hid hl0; clear hl0 hbb hh hgo Hh2
            go_wp2_with fail
            refine wp_region_quiet (C := fun w' => Below W0.heap.size W0 w' ∧ Below w.heap.size w w') (by kernel_rfl) (by kernel_rfl) ⟨(n0 W0).drew, hB.drew⟩ ?_
            clear hB
            refine BigFrame.wpQuiet_want rfl (fun K hK => BigFrame.quiet_move _ rfl (hK _ ?_)); clear hK K; go_simp
            go_big_quiet_want; go_big_quiet_op; go_big_quiet_on
            go_big_quiet_want; rename_i K hK; refine ⟨.bool false, fun w' hw' => ?_, hK _ ?_⟩
            · clear hK K
              have Hw := Lib.hid hw'; clear hw'
              go_simp
              refine (Hhas.out _ (World.ownsRow.kept HP.out (grown_of Hw.out.2 (Nat.le_refl _) none) (keep_none _))).mono ?_
              rintro e w5 ⟨rfl, rfl⟩
              exact ⟨rfl, Hw.out.1, Hw.out.2⟩
            clear hK K; go_simp
            go_big_quiet_want; go_big_quiet_op; first | go_big_quiet_on | (rename_i K hK; refine ⟨_, by intros; rfl, hK _ ?_⟩; clear hK K; go_simp)
            go_big_quiet_want; go_big_quiet_op; go_big_quiet_on
            go_big_quiet_want; go_big_quiet_op; go_big_quiet_on
            go_big_quiet_want; go_big_quiet_op; go_big_quiet_on
            go_big_quiet_want; go_big_quiet_op; first | go_big_quiet_on | (rename_i K hK; refine ⟨_, by intros; rfl, hK _ ?_⟩; clear hK K; go_simp)
            go_big_quiet_want; rename_i K hK; refine quiet_ldo _ rfl rfl (fun _ h => at_row (fun t hk => Hcw.out (la p) hla t hk) hbk h.2) (hK _ ?_); clear hK K; go_simp
            go_big_quiet_want; go_big_quiet_op; go_big_quiet_on
            go_big_quiet_want; go_big_quiet_op; go_big_quiet_on
            go_big_quiet_want; go_big_quiet_op; first | go_big_quiet_on | (rename_i K hK; refine ⟨_, by intros; rfl, hK _ ?_⟩; clear hK K; go_simp)
            go_big_quiet_want; rename_i K hK; refine quiet_ldo _ rfl rfl (fun _ h => at_row (fun t hk => Hcw.out k hlk t hk) hbk h.2) (hK _ ?_); clear hK K; go_simp
            go_big_quiet_want; rename_i K hK; refine ⟨.bool true, fun w' hw' => ?_, hK _ ?_⟩
            · clear hK K
              have Hw := Lib.hid hw'; clear hw'
              go_simp
              refine (Hl.out _).mono ?_
              rintro e w5 ⟨rfl, hb⟩
              exact ⟨rfl, nx Hw.out.1 hb, nx Hw.out.2 hb⟩
            clear hK K; go_simp
            go_big_quiet_want; go_big_quiet_op; first | go_big_quiet_on | (rename_i K hK; refine ⟨_, by intros; rfl, hK _ ?_⟩; clear hK K; go_simp)
            refine wpQuiet_nil ?_
            intro w3 hU hB
            have hR3 := HR.out.up hU
            clear HR hU
            have hsz3 := hB.size
            have hP3 : PathAt B w3 (.slice (some ⟨g, 0, none⟩) p.length cp) p := World.ownsRow.kept HP.out (grown_of hB (Nat.le_refl _) none) (keep_none _)
            have HR3 := Lib.hid hR3; clear hR3
            have hpw := Lib.hid (part_len (b := bt P) (n := n) r k p)
            go_wp2_with fail
            refine (Hown.out _ hP3).mono ?_
            rintro e w4 ⟨v4, rfl, hP4, hb4⟩
            have hsz4 := hb4.size
            go_wp2_with (at_builtin; refine wpList_append_own _ rfl _ _ 51 rfl w3.heap.size 3 i0 (.int .i64 0) 1 8 Try.underlying51 Hi.out.1 Hi.out.2.1 Hi.out.2.2.1 Hi.out.2.2.2 rfl (by decide) _ _ _ rfl (World.ownsRow.alloc hP4 _) ⟨w4.heap.size, 0, none⟩ 1 1 [.int .i64 (k : Int)] rfl rfl ?d1 ?d2 ?d3 ?d4 ?d5 ?_)
            case d1 =>
              intro t u ht
              match t, ht with
              | 0, ht => simp at ht; subst ht; simp [Addr.add]
            case d2 => intro u hu; simp at hu; subst hu; rfl
            case d3 => unfold maxLen; omega
            case d4 => omega
            case d5 => first | (simp; omega) | simp
            · intro v5 w5 hO5 hg5 _
              have hb5 := (na hb4 (.cells #[.int .i64 (k : Int)] 3)).grown hg5 (by rw [size_alloc]; omega) (fun t e => (World.ownsRow.lt hP4 t e).1)
              have hP5 : PathAt w3.heap.size w5 v5 (p ++ [k]) := by unfold PathAt; rw [vl_snoc, List.length_append]; exact hO5
              clear hO5 hg5 hP4 hb4
              have hB5 := nx hB hb5
              have hH5 := Hih.out _ _ (p ++ [k]) w5 (H.out.up hB5) hP5 (by rw [List.length_append]; exact Nat.succ_pos _) (fun x hx => by
                rcases List.mem_append.1 hx with h | h
                · exact Hx.out x h
                · rw [List.mem_singleton] at h; subst h; exact hlk) (by rw [List.length_append]; show p.length + 1 + r ≤ 6; omega) L (by rw [HL.out, List.length_append]; show _ = p.length + 1 + r; omega)
              have HH5 := Lib.hid hH5; clear hH5
              have hsz5 := hb5.size
              go_wp2_with fail
              refine HH5.out.mono ?_
              rintro e w7 ⟨g7, c7, gs7, cs7, rfl, hR7, hb7⟩
              have hb37 := nx hb5 hb7
              have hB7 := nx hB5 hb7
              have hRo := HR3.out.up hb37
              have hsz7 := hB7.size
              have hdl := dfs_len (b := bt P) (n := n) r (p ++ [k])
              have hp6 := pow6 (n := n) (r := r) hn (by omega)
              have hpl : (part (bt P) n r p k).length ≤ 279936 := Nat.le_trans hpw.out (Nat.le_trans (Nat.mul_le_mul (show k ≤ 6 by omega) hp6) (by decide))
              have hdl2 : (dfs (bt P) n r (p ++ [k])).length ≤ 46656 := Nat.le_trans hdl hp6
              clear hdl hp6
              go_wp2_with (at_builtin; refine wpList_append_own _ rfl _ _ 33 rfl w.heap.size 51 iS (.slice none 0 0) 1 24 Try.underlying33 HS.out.1 HS.out.2.1 HS.out.2.2.1 HS.out.2.2.2 rfl (by decide) _ _ _ rfl hRo.out ⟨g7, 0, none⟩ (dfs (bt P) n r (p ++ [k])).length c7 (wd (dfs (bt P) n r (p ++ [k])) gs7 cs7) rfl (by rw [wd_len]; omega) ?f1 ?f2 ?f3 ?f4 ?f5 ?_)
              case f1 => exact words_of hR7
              case f2 => intro u hu; obtain ⟨x, _, rfl⟩ := List.mem_map.1 hu; rfl
              case f3 => unfold maxLen; omega
              case f4 => omega
              case f5 => first | exact hsz7 | omega
              · intro v8 w8 hO8 hg8 hn8
                have hR8 := hRo.join (qs := dfs (bt P) n r (p ++ [k])) (gs2 := gs7) (cs2 := cs7) (fun j hj => own_base (hR7.inn j hj) (by omega)) hR7.asc (fun i j hi hj => by
                  have h1 := (HR3.out.inner_lt hi).2
                  have h2 := (hR7.inner_lt hj).1
                  omega) hg8 hO8
                rw [← part_yes Hs.out] at hR8
                have hB8 := hB7.grown hg8 (by omega) (fun t e => (hRo.out.lt t e).1)
                have hne8 : v8 ≠ .slice none 0 0 := fun e => by first | exact hn8 e | exact hne (hn8.1 e).1
                clear hO8 hg8 hn8 hRo hR7 hb37
                go_wp2_with fail
                go_roundw
                case rel => exact ⟨k + 1, _, _, by omega, by omega, by go_num, hR8, hne8, hB8⟩
                case measure => simp [intOf]; omega
        · have Hs : Hid (goes (bt P) p k = false) := by show _ = _; rw [hgo, hh, Bool.not_true, Bool.and_false]
          have Hh2 := Hhas.out; rw [hh] at Hh2
          clear Hhas
          have Hhas := Lib.hid Hh2
          clear hl0 hh hgo Hh2
          go_wp2_with fail
          refine wp_region_quiet (C := fun w' => Below W0.heap.size W0 w' ∧ Below w.heap.size w w') (by kernel_rfl) (by kernel_rfl) ⟨(n0 W0).drew, hB.drew⟩ ?_
          clear hB
          refine BigFrame.wpQuiet_want rfl (fun K hK => BigFrame.quiet_move _ rfl (hK _ ?_)); clear hK K; go_simp
          go_big_quiet_want; go_big_quiet_op; go_big_quiet_on
          go_big_quiet_want; rename_i K hK; refine ⟨.bool true, fun w' hw' => ?_, hK _ ?_⟩
          · clear hK K
            have Hw := Lib.hid hw'; clear hw'
            go_simp
            refine (Hhas.out _ (World.ownsRow.kept HP.out (grown_of Hw.out.2 (Nat.le_refl _) none) (keep_none _))).mono ?_
            rintro e w5 ⟨rfl, rfl⟩
            exact ⟨rfl, Hw.out.1, Hw.out.2⟩
          clear hK K; go_simp
          go_big_quiet_want; go_big_quiet_op; first | go_big_quiet_on | (rename_i K hK; refine ⟨_, by intros; rfl, hK _ ?_⟩; clear hK K; go_simp)
          go_big_quiet_want; go_big_quiet_op; go_big_quiet_on
          go_big_quiet_skip
          go_big_quiet_skip
          go_big_quiet_skip
          go_big_quiet_skip
          go_big_quiet_skip
          go_big_quiet_skip
          go_big_quiet_skip
          go_big_quiet_skip
          go_big_quiet_skip
          go_big_quiet_want; go_big_quiet_op; first | go_big_quiet_on | (rename_i K hK; refine ⟨_, by intros; rfl, hK _ ?_⟩; clear hK K; go_simp)
          refine wpQuiet_nil ?_
          intro w3 hU hB
          have hR3 := HR.out.up hU
          clear HR hU
          go_wp2_with fail
          go_roundw
          case rel => exact ⟨k + 1, _, _, by omega, by omega, by go_num, by rw [part_no Hs.out]; exact hR3, hne, hB⟩
          case measure => simp [intOf]; omega
      · obtain rfl : k = n := by omega
        obtain ⟨g9, c9, rfl⟩ := form_of hR hne
        rw [part_all] at hR
        go_wp2_with fail
        go_ret
        exact ⟨_, _, _, _, rfl, hR, hB⟩


end RingsS
end Go.Proofs.Ytagieilahejobaa
