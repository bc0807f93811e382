/-
  Longer paths, in the program.
-/
import Derived.Test.YtagieilahejobaaRows
import Derived.Test.YtagieilahejobaaRingC
import Derived.Test.YtagieilahejobaaRingsT
import Derived.Test.YtagieilahejobaaRingsS
import Derived.Test.YtagieilahejobaaRagL
import Derived.Test.YtagieilahejobaaRingW
import Derived.Test.YtagieilahejobaaRingM
import Derived.Test.YtagieilahejobaaPairsW
import Derived.Test.YtagieilahejobaaGridW
import Derived.Test.YtagieilahejobaaTableS2
import Derived.Test.YtagieilahejobaaRingI
import Derived.Test.YtagieilahejobaaRingS
import Derived.Test.YtagieilahejobaaManyI
import Derived.Test.YtagieilahejobaaManyS
import Derived.Test.YtagieilahejobaaAnyR
import Derived.Test.YtagieilahejobaaBeatI
import Derived.Test.YtagieilahejobaaIntsW
import Derived.Test.YtagieilahejobaaSafeI
import Derived.Test.YtagieilahejobaaSafeS
import Derived.Test.YtagieilahejobaaRowW
import Derived.Test.YtagieilahejobaaRowsL
import Derived.Test.YtagieilahejobaaQuietR
import Derived.Test.YtagieilahejobaaQuietD
import Derived.Test.YtagieilahejobaaBestI
import Derived.Test.YtagieilahejobaaBestS
import Derived.Test.YtagieilahejobaaShelfMax
import Derived.Test.YtagieilahejobaaTopW
import Derived.Test.YtagieilahejobaaManyW
import Derived.Test.YtagieilahejobaaDicesW
import Derived.Test.YtagieilahejobaaWaysW
import Derived.Test.YtagieilahejobaaKnow
import Derived.Test.YtagieilahejobaaCmpW
import Derived.Test.YtagieilahejobaaCompW
import Derived.Test.YtagieilahejobaaCompS
import Derived.Test.YtagieilahejobaaDuel
import Derived.Test.YtagieilahejobaaDieW
import Derived.Test.YtagieilahejobaaSortW
import Derived.Test.YtagieilahejobaaOpenD
import Derived.WalkKit
import Derived.WalkLawsBesides
import Derived.WalkSpells
import Derived.ProofKit
import Derived.OpenShut
import Derived.Deep.RegionWith
import Derived.Deep.QuietTactic
import Derived.BigQuiet
namespace Go.Proofs.Ytagieilahejobaa
open Go.ChangeShapes Go.WideShapes Go.ChangeAt Go.RowKit
open Go.ChangeMaps (open_string shut_string)

namespace RingL
open Dice Arr OpenD DieW SortW Duel CmpW Know WaysW CompS CompW ManyW QuietD QuietR TopW DicesW BestS BestI RowsL RowW SafeS SafeI BeatI IntsW ManyS ManyI RingS RingI AnyR TableS2 GridW PairsW RingM RingW RagL RingsS RingsT RingC

section
variable {b : Nat → Nat → Bool} {n : Nat}
/-- A path and each place below k that it may go on to. -/
def pex (b : Nat → Nat → Bool) (p : List Nat) (k : Nat) : List (List Nat) := ((List.range k).filter (goes b p)).map fun x => p ++ [x]
theorem pex_yes {k : Nat} {p : List Nat} (h : goes b p k = true) : pex b p (k + 1) = pex b p k ++ [p ++ [k]] := by
  unfold pex
  rw [List.range_succ, List.filter_append, List.filter_cons_of_pos h]
  simp
theorem pex_no {k : Nat} {p : List Nat} (h : goes b p k = false) : pex b p (k + 1) = pex b p k := by
  unfold pex
  rw [List.range_succ, List.filter_append, List.filter_cons_of_neg (by rw [h]; decide)]
  simp
theorem pex_nil {p : List Nat} : ∀ k, k ≤ hd p + 1 → pex b p k = [] := by
  intro k
  induction k with
  | zero => intro _; rfl
  | succ k ih =>
    intro hk
    have : goes b p k = false := by unfold goes; rw [decide_eq_false (by omega), Bool.false_and]
    rw [pex_no this]
    exact ih (by omega)
theorem pex_all (p : List Nat) : pex b p n = ext b n p := rfl
theorem pex_len (p : List Nat) (k : Nat) : (pex b p k).length ≤ k := by
  unfold pex
  rw [List.length_map]
  exact Nat.le_trans (List.length_filter_le _ _) (by rw [List.length_range]; exact Nat.le_refl _)
def dn (b : Nat → Nat → Bool) (n : Nat) (ps : List (List Nat)) (i : Nat) : List (List Nat) := (ps.take i).flatMap (ext b n)
theorem dn_succ {ps : List (List Nat)} {i : Nat} (h : i < ps.length) : dn b n ps (i + 1) = dn b n ps i ++ ext b n (ps.getD i []) := by
  unfold dn
  rw [List.take_add_one, List.flatMap_append, List.getElem?_eq_getElem h, List.getD_eq_getElem?_getD, List.getElem?_eq_getElem h]
  show _ ++ ([ps[i]].flatMap (ext b n)) = _ ++ ext b n ps[i]
  rw [List.flatMap_cons, List.flatMap_nil, List.append_nil]
theorem dn_all (ps : List (List Nat)) : dn b n ps ps.length = ps.flatMap (ext b n) := by unfold dn; rw [List.take_length]
theorem dn_len (ps : List (List Nat)) (i : Nat) (h : i ≤ ps.length) : (dn b n ps i).length ≤ i * n := by
  have := flat_len (b := b) (n := n) (ps.take i)
  rw [List.length_take, Nat.min_eq_left h] at this
  exact this
theorem contains_cast (p : List Nat) (k : Nat) : (p.map fun (x : Nat) => (x : Int)).contains (k : Int) = p.contains k := by
  induction p with
  | nil => rfl
  | cons x p ih =>
    rw [List.map_cons, List.contains_cons, List.contains_cons, ih]
    congr 1
    rw [Bool.eq_iff_iff]
    simp
    omega
end
theorem has_any (B g c : Nat) (p : List Nat) (k : Nat) (w : World) (h : PathAt B w (.slice (some ⟨g, 0, none⟩) p.length c) p) (hl : p.length ≤ 1000) :
    Calls Try.prog 73 #[.slice (some ⟨g, 0, none⟩) p.length c, .int .i64 (k : Int)] w fun e w' => e = .returned (.bool (p.contains k)) ∧ w' = w := by
  have hh := Try.slices_Contains_int g 0 p.length c (p.map fun (x : Nat) => (x : Int)) (k : Int) w (by rw [List.length_map]; exact Nat.le_refl _) (by omega) (fun j hj => by
    rw [List.length_map] at hj
    rw [Nat.zero_add, World.ownsRow.cellAt h j (by omega), vl_get hj, List.getD_eq_getElem?_getD, List.getElem?_map, List.getElem?_eq_getElem hj]
    rfl)
  rw [List.take_of_length_le (by rw [List.length_map]; exact Nat.le_refl _), contains_cast] at hh
  exact hh
set_option maxRecDepth 100000 in
set_option maxHeartbeats 16000000 in
theorem longer_any (n : Nat) (P : Nat → Nat → Int) (hn : n ≤ 6) (Bt Bp : Nat) (tv pv : Value) (ps : List (List Nat)) (gr cr gs0 cs0 : Nat → Nat) (w : World) (h1 : 0 < n)
    (hT : RowsAt w Bt 51 3 1 tv n n (LB P n) gr cr) (hp : RagAt w Bp pv ps gs0 cs0) (h0 : 0 < ps.length) (hl : ps.length ≤ 279936) (hps : ∀ i, i < ps.length → 0 < (ps.getD i []).length ∧ (ps.getD i []).length ≤ 7 ∧ ∀ x ∈ ps.getD i [], x < n) :
    Calls Try.prog 63 #[tv, pv] w fun e w' => ∃ v gs cs, e = .returned v ∧ RagAt w' w.heap.size v (ps.flatMap (ext (bt P) n)) gs cs ∧ Below w.heap.size w w' := by
  obtain ⟨gt, ct, rfl, _, hgtl, hgtc⟩ := hT.head h1
  obtain ⟨gp, cp, rfl, _, hgpl, _, hgpc⟩ := hp.head h0
  have HT := Lib.hid hT; clear hT
  have HP := Lib.hid hp; clear hp
  have Hgt := Lib.hid hgtc; clear hgtc
  have Hgp := Lib.hid hgpc; clear hgpc
  have Hps := Lib.hid hps; clear hps
  obtain ⟨iS, hi, hz0, hz1, hz2⟩ := info_parts infoL
  have HS := Lib.hid (And.intro hi (And.intro hz0 (And.intro hz1 hz2)))
  clear hi hz0 hz1 hz2
  go_enter Try.func63, Try.ntmps63
  go_wp2_with fail
  go_loopw [5, 12] (fun ov kv wr => ∃ (i : Nat) (gs cs : Nat → Nat), i ≤ ps.length ∧ kv = .int .i64 i ∧ RagAt wr w.heap.size ov (dn (bt P) n ps i) gs cs ∧ Below w.heap.size w wr) (fun _ kv _ => ps.length - (intOf kv).toNat)
  case atStart => exact ⟨0, fun _ => 0, fun _ => 0, by omega, rfl, RagAt.nil _ _ _ _, Below.refl _ _⟩
  case round =>
    obtain ⟨i, gs, cs, hi, rfl, hR, hB⟩ := hrel
    by_cases hlt : i < ps.length
    · have hit : decide (i < ps.length) = true := decide_eq_true hlt
      have ci := (hB.cell (p := ⟨gp, i, none⟩) hgpl).trans (Hgp.out i hlt)
      obtain ⟨hp0, hp7, hpn⟩ := Hps.out i hlt
      have Hdn := Lib.hid (dn_succ (b := bt P) (n := n) hlt)
      have Hdl := Lib.hid (dn_len (b := bt P) (n := n) ps i hi)
      have hPi := HP.out.inn i hlt
      generalize hpe : ps.getD i [] = p at ci hp0 hp7 hpn hPi Hdn
      clear hpe
      obtain ⟨_, _, hv, _, hgl, _, hcg⟩ := path_form hPi hp0
      injection hv with hv1 _ hv2
      injection hv1 with hv1
      injection hv1 with hv1
      subst hv1 hv2
      have hlm : p.length - 1 < p.length := by omega
      have hla : la p < n := by rw [la_get hlm]; exact hpn _ (List.getElem_mem _)
      have hhd : hd p < n := by rw [hd_get hp0]; exact hpn _ (List.getElem_mem _)
      have cl := (hB.cell (p := ⟨gs0 i, p.length - 1, none⟩) hgl).trans (hcg _ hlm)
      rw [← la_get hlm] at cl
      have ch := (hB.cell (p := ⟨gs0 i, 0, none⟩) hgl).trans (hcg 0 hp0)
      rw [← hd_get hp0] at ch
      have hlc : ((p.length - 1 : Nat) : Int) = (p.length : Int) - 1 := by omega
      have HPi := Lib.hid hPi
      have Hpn := Lib.hid hpn
      clear hPi hcg hpn
      go_wp2_with fail
      clear ci cl ch
      go_loopw [5, 9] (fun ov kv wr => ∃ (k : Nat) (gs cs : Nat → Nat), hd p + 1 ≤ k ∧ k ≤ n ∧ kv = .int .i64 k ∧ RagAt wr w.heap.size ov (dn (bt P) n ps i ++ pex (bt P) p k) gs cs ∧ Below w.heap.size w wr) (fun _ kv _ => n - (intOf kv).toNat)
      case atStart => exact ⟨hd p + 1, _, _, by omega, by omega, by go_num, by rw [pex_nil _ (Nat.le_refl _), List.append_nil]; exact hR, hB⟩
      case round =>
        clear hR hB
        obtain ⟨k, gs, cs, hk1, hk, rfl, hR, hB⟩ := hrel
        by_cases hlk : k < n
        · have hkt : decide (k < n) = true := decide_eq_true hlk
          have ct1 := (hB.cell (p := ⟨gt, la p, none⟩) hgtl).trans (Hgt.out (la p) hla)
          have ct2 := (hB.cell (p := ⟨gr (la p), k, none⟩) (HT.out.inner_lt hla).2).trans ((HT.out.cell hla (show k < n * 1 by omega)).trans (iv_get hlk))
          have hsg : (sg P (la p) k == 1) = bt P (la p) k := sg_beats P (la p) k
          have hgo : goes (bt P) p k = (bt P (la p) k && !p.contains k) := by unfold goes; rw [decide_eq_true (by omega), Bool.true_and]
          have hPk := World.ownsRow.kept HPi.out (grown_of hB (Nat.le_refl _) none) (keep_none _)
          have HR := Lib.hid hR; clear hR
          have hsz := hB.size
          cases hb : bt P (la p) k
          · have Hs : Hid (goes (bt P) p k = false) := by show _ = _; rw [hgo, hb]; rfl
            rw [hb] at hsg
            clear hb hgo hPk
            go_wp2_with fail
            go_roundw
            case rel => exact ⟨k + 1, _, _, by omega, by omega, by go_num, by rw [pex_no Hs.out]; exact HR.out, hB⟩
            case measure => simp [intOf]; omega
          · have Hh := Lib.hid (has_any Bp (gs0 i) (cs0 i) p k _ hPk (by omega))
            rw [hb] at hsg
            cases hc : p.contains k
            · have Hs : Hid (goes (bt P) p k = true) := by show _ = _; rw [hgo, hb, hc]; rfl
              have Hh2 := Hh.out; rw [hc] at Hh2
              clear Hh
              have Hh := Lib.hid Hh2
              clear hb hgo hc Hh2
              go_wp2_with fail
              refine Hh.out.mono ?_
              rintro e w3 ⟨rfl, rfl⟩
              have hK1 := World.ownsRow.alloc (one_own w3 w3.heap.size k (Nat.le_refl _)) (.cells #[.slice (some ⟨gs0 i, 0, none⟩) p.length (cs0 i), .slice (some ⟨w3.heap.size, 0, none⟩) 1 1] 51)
              have hP2 := World.ownsRow.alloc (World.ownsRow.alloc hPk (.cells #[.int .i64 (k : Int)] 3)) (.cells #[.slice (some ⟨gs0 i, 0, none⟩) p.length (cs0 i), .slice (some ⟨w3.heap.size, 0, none⟩) 1 1] 51)
              have hBB := na (na hB (.cells #[.int .i64 (k : Int)] 3)) (.cells #[.slice (some ⟨gs0 i, 0, none⟩) p.length (cs0 i), .slice (some ⟨w3.heap.size, 0, none⟩) 1 1] 51)
              have hb3 := na (na (n0 w3) (.cells #[.int .i64 (k : Int)] 3)) (.cells #[.slice (some ⟨gs0 i, 0, none⟩) p.length (cs0 i), .slice (some ⟨w3.heap.size, 0, none⟩) 1 1] 51)
              have hWs : ((w3.alloc (.cells #[.int .i64 (k : Int)] 3)).alloc (.cells #[.slice (some ⟨gs0 i, 0, none⟩) p.length (cs0 i), .slice (some ⟨w3.heap.size, 0, none⟩) 1 1] 51)).heap.size = w3.heap.size + 2 := by rw [size_alloc, size_alloc]
              have hx0 : ((w3.alloc (.cells #[.int .i64 (k : Int)] 3)).alloc (.cells #[.slice (some ⟨gs0 i, 0, none⟩) p.length (cs0 i), .slice (some ⟨w3.heap.size, 0, none⟩) 1 1] 51)).cell? ⟨w3.heap.size + 1, 0, none⟩ = some (.slice (some ⟨gs0 i, 0, none⟩) p.length (cs0 i)) := by
                rw [← size_alloc w3 (.cells #[.int .i64 (k : Int)] 3)]
                simp
              have hx1 : ((w3.alloc (.cells #[.int .i64 (k : Int)] 3)).alloc (.cells #[.slice (some ⟨gs0 i, 0, none⟩) p.length (cs0 i), .slice (some ⟨w3.heap.size, 0, none⟩) 1 1] 51)).cell? ⟨w3.heap.size + 1, 1, none⟩ = some (.slice (some ⟨w3.heap.size, 0, none⟩) 1 1) := by
                rw [← size_alloc w3 (.cells #[.int .i64 (k : Int)] 3)]
                simp
              have HC := Lib.hid (concat_any Bp w3.heap.size (w3.heap.size + 1) (gs0 i) w3.heap.size 2 (cs0 i) 1 k p _ (by rw [hWs]; omega) hx0 hx1 hP2 hK1 hp0 (by omega))
              clear hx0 hx1 hP2 hK1 hPk
              go_wp2_with fail
              refine HC.out.mono ?_
              rintro e w6 ⟨g6, c6, rfl, hP6, hb6⟩
              have hB6 := nx hBB hb6
              have hRo := HR.out.up (nx hb3 hb6)
              have hg6 := (World.ownsRow.lt hP6 g6 rfl).1
              rw [hWs] at hg6
              have hs6 := hB6.size
              have hpl := pex_len (b := bt P) p k
              have hdl : (dn (bt P) n ps i).length ≤ 1679616 := Nat.le_trans Hdl.out (Nat.le_trans (Nat.mul_le_mul (show i ≤ 279936 by omega) hn) (by decide))
              have hb7 := na (n0 w6) (.cells #[.slice (some ⟨g6, 0, none⟩) (p.length + 1) c6] 51)
              clear HC hBB hb3
              go_wp2_with (at_builtin; refine wpList_append_own _ rfl _ _ 33 rfl w.heap.size 51 iS (.slice none 0 0) 1 24 Try.underlying33 HS.out.1 HS.out.2.1 HS.out.2.2.1 HS.out.2.2.2 rfl (by decide) _ _ _ rfl (hRo.out.alloc _) ⟨w6.heap.size, 0, none⟩ 1 1 [.slice (some ⟨g6, 0, none⟩) (p.length + 1) c6] rfl rfl ?c1 ?c2 ?c3 ?c4 ?c5 ?_)
              case c1 =>
                intro t u ht
                match t, ht with
                | 0, ht => simp at ht; subst ht; simp [Addr.add]
              case c2 => intro u hu; simp at hu; subst hu; rfl
              case c3 => rw [List.length_append]; unfold maxLen; omega
              case c4 => rw [List.length_append]; omega
              case c5 => first | (simp; omega) | omega
              · intro v8 w8 hO8 hg8 _
                have hP7 : PathAt w.heap.size (w6.alloc (.cells #[.slice (some ⟨g6, 0, none⟩) (p.length + 1) c6] 51)) (.slice (some ⟨g6, 0, none⟩) (p ++ [k]).length c6) (p ++ [k]) := by
                  rw [List.length_append]
                  exact own_base (World.ownsRow.alloc hP6 _) (by rw [hWs]; have := hB.size; omega)
                have hR8 := (hRo.up hb7).snoc (p := p ++ [k]) (g2 := g6) (c2 := c6) hP7 (fun x hx => by have := (HR.out.inner_lt hx).2; omega) hg8 (by rw [List.length_append, List.length_append]; exact hO8)
                rw [List.append_assoc, ← pex_yes Hs.out] at hR8
                have hB8 := (na hB6 (.cells #[.slice (some ⟨g6, 0, none⟩) (p.length + 1) c6] 51)).grown hg8 (by rw [size_alloc]; omega) (fun t e => (hRo.out.lt t e).1)
                clear hO8 hg8 hRo hP6 hP7 hB6 hb6 hb7
                go_wp2_with fail
                go_roundw
                case rel => exact ⟨k + 1, _, _, by omega, by omega, by go_num, hR8, hB8⟩
                case measure => simp [intOf]; omega
            · have Hs : Hid (goes (bt P) p k = false) := by show _ = _; rw [hgo, hb, hc]; rfl
              have Hh2 := Hh.out; rw [hc] at Hh2
              clear Hh
              have Hh := Lib.hid Hh2
              clear hb hgo hc Hh2 hPk
              go_wp2_with fail
              refine Hh.out.mono ?_
              rintro e w3 ⟨rfl, rfl⟩
              go_wp2_with fail
              go_roundw
              case rel => exact ⟨k + 1, _, _, by omega, by omega, by go_num, by rw [pex_no Hs.out]; exact HR.out, hB⟩
              case measure => simp [intOf]; omega
        · obtain rfl : k = n := by omega
          rw [pex_all, ← Hdn.out] at hR
          go_wp2_with fail
          go_roundw
          case rel => exact ⟨i + 1, _, _, by omega, by go_num, hR, hB⟩
          case measure => simp [intOf]; omega
    · obtain rfl : i = ps.length := by omega
      rw [dn_all] at hR
      go_wp2_with fail
      go_ret
      exact ⟨_, _, _, rfl, hR, hB⟩


end RingL
end Go.Proofs.Ytagieilahejobaa
