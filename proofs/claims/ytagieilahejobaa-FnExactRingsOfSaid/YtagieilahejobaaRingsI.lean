/-
  RingsOf, in the program.
-/
import Derived.Test.YtagieilahejobaaRows
import Derived.Test.YtagieilahejobaaAppW
import Derived.Test.YtagieilahejobaaRingL
import Derived.Test.YtagieilahejobaaRingC
import Derived.Test.YtagieilahejobaaRingsT
import Derived.Test.YtagieilahejobaaRingsS
import Derived.Test.YtagieilahejobaaRagL
import Derived.Test.YtagieilahejobaaRingW
import Derived.Test.YtagieilahejobaaRingM
import Derived.Test.YtagieilahejobaaPairsW
import Derived.Test.YtagieilahejobaaGridW
import Derived.Test.YtagieilahejobaaTableS2
import Derived.Test.YtagieilahejobaaRingI
import Derived.Test.YtagieilahejobaaRingS
import Derived.Test.YtagieilahejobaaManyI
import Derived.Test.YtagieilahejobaaManyS
import Derived.Test.YtagieilahejobaaAnyR
import Derived.Test.YtagieilahejobaaBeatI
import Derived.Test.YtagieilahejobaaIntsW
import Derived.Test.YtagieilahejobaaSafeI
import Derived.Test.YtagieilahejobaaSafeS
import Derived.Test.YtagieilahejobaaRowW
import Derived.Test.YtagieilahejobaaRowsL
import Derived.Test.YtagieilahejobaaQuietR
import Derived.Test.YtagieilahejobaaQuietD
import Derived.Test.YtagieilahejobaaBestI
import Derived.Test.YtagieilahejobaaBestS
import Derived.Test.YtagieilahejobaaShelfMax
import Derived.Test.YtagieilahejobaaTopW
import Derived.Test.YtagieilahejobaaManyW
import Derived.Test.YtagieilahejobaaDicesW
import Derived.Test.YtagieilahejobaaWaysW
import Derived.Test.YtagieilahejobaaKnow
import Derived.Test.YtagieilahejobaaCmpW
import Derived.Test.YtagieilahejobaaCompW
import Derived.Test.YtagieilahejobaaCompS
import Derived.Test.YtagieilahejobaaDuel
import Derived.Test.YtagieilahejobaaDieW
import Derived.Test.YtagieilahejobaaSortW
import Derived.Test.YtagieilahejobaaOpenD
import Derived.WalkKit
import Derived.WalkLawsBesides
import Derived.WalkSpells
import Derived.ProofKit
import Derived.OpenShut
import Derived.Deep.RegionWith
import Derived.Deep.QuietTactic
import Derived.BigQuiet
namespace Go.Proofs.Ytagieilahejobaa
open Go.ChangeShapes Go.WideShapes Go.ChangeAt Go.RowKit
open Go.ChangeMaps (open_string shut_string)

namespace RingsI
open Dice Arr OpenD DieW SortW Duel CmpW Know WaysW CompS CompW ManyW QuietD QuietR TopW DicesW BestS BestI RowsL RowW SafeS SafeI BeatI IntsW ManyS ManyI RingS RingI AnyR TableS2 GridW PairsW RingM RingW RagL RingsS RingsT RingC RingL AppW

/-- How many rounds are left at most: told by the length of the first path. -/
def ms (n : Nat) (pv : Value) (w : World) : Nat := match pv with
  | .slice (some a) (_ + 1) _ => match w.cell? ⟨a.block, 0, none⟩ with
    | some (.slice _ q _) => n + 1 - q
    | _ => 0
  | _ => 0
theorem cl_succ {b : Nat → Nat → Bool} {ps : List (List Nat)} {i : Nat} (h : i < ps.length) : (ps.take (i + 1)).filter (closes b) = (ps.take i).filter (closes b) ++ (if closes b (ps.getD i []) then [ps.getD i []] else []) := by
  rw [List.take_add_one, List.filter_append, List.getElem?_eq_getElem h, List.getD_eq_getElem?_getD, List.getElem?_eq_getElem h]
  congr 1
  show [ps[i]].filter (closes b) = if closes b ps[i] then [ps[i]] else []
  cases hc : closes b ps[i]
  · rw [List.filter_cons_of_neg (by rw [hc]; decide)]; rfl
  · rw [List.filter_cons_of_pos hc]; rfl
theorem lev_fact {b : Nat → Nat → Bool} {n m i : Nat} (h : i < (lev b n m).length) : ((lev b n m).getD i []).length = m + 1 ∧ m < n ∧ ∀ x ∈ (lev b n m).getD i [], x < n := by
  rw [List.getD_eq_getElem?_getD, List.getElem?_eq_getElem h]
  have hp := lev_path (b := b) (n := n) m _ (List.getElem_mem h)
  have := nodup_le n _ hp.nod hp.lt
  have := hp.len
  exact ⟨hp.len, by omega, hp.lt⟩
theorem ms_at {n m B : Nat} {w : World} {b : Nat → Nat → Bool} {pv : Value} {gs cs : Nat → Nat} (h : RagAt w B pv (lev b n m) gs cs) (h0 : 0 < (lev b n m).length) : ms n pv w = n - m := by
  obtain ⟨g, c, rfl, _, _, _, hc⟩ := h.head h0
  have h1 := hc 0 h0
  obtain ⟨q, hq⟩ : ∃ q, (lev b n m).length = q + 1 := ⟨_, (Nat.succ_pred_eq_of_pos h0).symm⟩
  rw [(lev_fact h0).1] at h1
  rw [hq]
  unfold ms
  simp only [h1]
  omega
theorem ms_end {n m B : Nat} {w : World} {b : Nat → Nat → Bool} {pv : Value} {gs cs : Nat → Nat} (h : RagAt w B pv (lev b n m) gs cs) (h0 : (lev b n m).length = 0) : ms n pv w = 0 := by
  have h2 := h.out.2
  rw [h0] at h2
  rcases h2 with ⟨rfl, _⟩ | ⟨g, cap, cur, rfl, _⟩
  · rfl
  · rfl
theorem ms_less {n m B B' : Nat} {w w' : World} {b : Nat → Nat → Bool} {pv pv' : Value} {gs cs gs' cs' : Nat → Nat} (h : RagAt w B pv (lev b n m) gs cs) (h0 : 0 < (lev b n m).length) (h' : RagAt w' B' pv' (lev b n (m + 1)) gs' cs') : ms n pv' w' < ms n pv w := by
  have hm := (lev_fact h0).2.1
  rw [ms_at h h0]
  rcases Nat.eq_zero_or_pos (lev b n (m + 1)).length with hz | hz
  · rw [ms_end h' hz]; omega
  · rw [ms_at h' hz]; omega
theorem zero_form {w : World} {B : Nat} {v : Value} {ps : List (List Nat)} {gs cs : Nat → Nat} (h : RagAt w B v ps gs cs) (h0 : ps.length = 0) : v = .slice none 0 0 ∨ ∃ g c, v = .slice (some ⟨g, 0, none⟩) 0 c := by
  have h2 := h.out.2
  rw [h0] at h2
  rcases h2 with ⟨he, _⟩ | ⟨g, cap, cur, he, _⟩
  · exact .inl he
  · exact .inr ⟨g, cap, he⟩
theorem rag_cell {w : World} {B g k c : Nat} {ps : List (List Nat)} {gs cs : Nat → Nat} (h : RagAt w B (.slice (some ⟨g, 0, none⟩) k c) ps gs cs) {i : Nat} (hi : i < ps.length) : w.cell? ⟨g, i, none⟩ = some (.slice (some ⟨gs i, 0, none⟩) (ps.getD i []).length (cs i)) := by
  obtain ⟨g', c', hv, _, _, _, hc⟩ := h.head (by omega)
  injection hv with e1 e2 e3
  injection e1 with e1
  injection e1 with e1
  subst e1
  exact hc i hi
theorem rag_keptX {w w' : World} {B B2 n2 : Nat} {v v2 : Value} {ps : List (List Nat)} {gs cs : Nat → Nat} {xs2 : List Value} (h : RagAt w B v ps gs cs) (h2 : w.ownsRow B2 51 1 v2 n2 xs2) (hg : w.grownBy w' v2.ownBlock) (hne : ∀ t, v2.ownBlock = some t → v.ownBlock ≠ some t) : RagAt w' B v ps gs cs := by
  have hti : (3 : TypeId) ≠ 51 := by decide
  refine ⟨World.ownsRow.kept h.out hg ?_, fun i hi => World.ownsRow.kept (h.inn i hi) hg (ne_or (own_apart (h.inn i hi) h2 hti rfl) rfl), h.asc⟩
  cases hv : v.ownBlock with
  | none => exact .inl rfl
  | some t => exact .inr fun e => hne t e.symm hv

def bgp (i : Nat) : List (List Nat) := (List.range i).map fun i => [i]
theorem bgp_succ (i : Nat) : bgp (i + 1) = bgp i ++ [[i]] := by simp [bgp, List.range_succ]
theorem bgp_len (i : Nat) : (bgp i).length = i := by simp [bgp]
set_option maxRecDepth 100000 in
set_option maxHeartbeats 16000000 in
theorem implRings_any (A : Option Addr) (n c : Nat) (P : Nat → Nat → Int) (w : World) (h : Row w A n P) (hn : n ≤ maxLen) :
    Calls Try.prog 30 #[.slice A n c] w fun e w' => ∃ v gs cs, e = .returned (.tuple #[v, .bool (many 6 n P)]) ∧ RagAt w' w.heap.size v (outR2 n P) gs cs ∧ Below w.heap.size w w' := by
  have hr := beatTable_any A n c P w h hn
  clear h
  unfold outR2
  cases hq : many 6 n P
  · rw [hq] at hr
    simp only [Bool.false_eq_true, ↓reduceIte]
    have Hr := Lib.hid hr; clear hr hq
    go_enter Try.func30, Try.ntmps30
    go_wp2_with fail
    refine Hr.out.mono ?_
    rintro e w1 ⟨v, rfl, hb1, _, _⟩
    go_wp2_with fail
    go_ret2
    exact ⟨_, fun _ => 0, fun _ => 0, rfl, RagAt.nil _ _ _ _, hb1⟩
  · obtain ⟨h1, h6, _⟩ := of_many hq
    rw [hq] at hr
    simp only [↓reduceIte]
    have Hr := Lib.hid hr; clear hr hq
    obtain ⟨iS, hi, hz0, hz1, hz2⟩ := info_parts infoL
    have HS := Lib.hid (And.intro hi (And.intro hz0 (And.intro hz1 hz2)))
    clear hi hz0 hz1 hz2
    have Hlo := Lib.hid (fun (Bp : Nat) (tv pv : Value) (ps : List (List Nat)) (gr cr gs cs : Nat → Nat) (W : World) (B0 : Nat) (hT : RowsAt W B0 51 3 1 tv n n (LB P n) gr cr) (hp : RagAt W Bp pv ps gs cs) => longer_any n P h6 B0 Bp tv pv ps gr cr gs cs W h1 hT hp)
    go_enter Try.func30, Try.ntmps30
    go_wp2_with fail
    refine Hr.out.mono ?_
    rintro e w1 ⟨v, rfl, hB1, hrows, _⟩
    obtain ⟨gr, cr, hR⟩ := hrows trivial
    obtain ⟨g, cg, rfl, hg, hgl, hgc⟩ := hR.head h1
    have Hgc := Lib.hid hgc; clear hgc
    have HT := Lib.hid hR; clear hR hrows
    clear Hr
    go_wp2_with fail
    go_loopw [6, 20] (fun pv kv wr => ∃ (i : Nat) (gs cs : Nat → Nat), i ≤ n ∧ kv = .int .i64 i ∧ RagAt wr w1.heap.size pv (bgp i) gs cs ∧ Below w1.heap.size w1 wr) (fun _ kv _ => n - (intOf kv).toNat)
    case atStart => exact ⟨0, fun _ => 0, fun _ => 0, by omega, rfl, RagAt.nil _ _ _ _, Below.refl _ _⟩
    case round =>
      obtain ⟨i, gs, cs, hi, rfl, hR, hB⟩ := hrel
      by_cases hlt : i < n
      · have hit : decide (i < n) = true := decide_eq_true hlt
        have hsz := hB.size
        have hOne := one_own wr w1.heap.size i hsz
        have hRa := hR.up (na (n0 wr) (.cells #[.int .i64 (i : Int)] 3))
        have hlen := bgp_len i
        go_wp2_with (at_builtin; refine wpList_append_own _ rfl _ _ 33 rfl w1.heap.size 51 iS (.slice none 0 0) 1 24 Try.underlying33 HS.out.1 HS.out.2.1 HS.out.2.2.1 HS.out.2.2.2 rfl (by decide) _ _ _ rfl (hRa.out.alloc _) ⟨wr.heap.size + 1, 0, none⟩ 1 1 [.slice (some ⟨wr.heap.size, 0, none⟩) 1 1] rfl rfl ?c1 ?c2 ?c3 ?c4 ?c5 ?_)
        case c1 =>
          intro t u ht
          match t, ht with
          | 0, ht =>
            simp at ht
            subst ht
            rw [addr_add, ← size_alloc wr (.cells #[.int .i64 (i : Int)] 3)]
            simp
        case c2 => intro u hu; simp at hu; subst hu; rfl
        case c3 => rw [hlen]; unfold maxLen; omega
        case c4 => rw [hlen]; omega
        case c5 => first | (simp; omega) | omega
        · intro v8 w8 hO8 hg8 _
          have hR8 := (hRa.up (na (n0 _) (.cells #[.slice (some ⟨wr.heap.size, 0, none⟩) 1 1] 51))).snoc (p := [i]) (g2 := wr.heap.size) (c2 := 1) (World.ownsRow.alloc hOne _) (fun x hx => (hR.inner_lt hx).2) hg8 (by rw [bgp_len]; exact hO8)
          rw [← bgp_succ] at hR8
          have hB8 := (na (na hB (.cells #[.int .i64 (i : Int)] 3)) (.cells #[.slice (some ⟨wr.heap.size, 0, none⟩) 1 1] 51)).grown hg8 (by rw [size_alloc, size_alloc]; omega) (fun t e => (hRa.out.lt t e).1)
          clear hO8 hg8 hRa hR hB hOne
          go_wp2_with fail
          go_roundw
          case rel => exact ⟨i + 1, _, _, by omega, by go_num, hR8, hB8⟩
          case measure => simp [intOf]; omega
      · obtain rfl : i = n := by omega
        have hgl0 := hgl
        go_wp2_with fail
        clear hgl0
        go_loopw [6, 7] (fun pv rv wr => ∃ (m : Nat) (gp cp gq cq : Nat → Nat), m ≤ i ∧ RagAt wr w1.heap.size pv (lev (bt P) i m) gp cp ∧ RagAt wr w1.heap.size rv (rg (bt P) i m) gq cq ∧ (∀ x y, x < (rg (bt P) i m).length → y < (lev (bt P) i m).length → gq x < gp y) ∧ (∀ t, rv.ownBlock = some t → pv.ownBlock ≠ some t) ∧ Below w1.heap.size w1 wr) (fun pv _ wr => ms i pv wr)
        case atStart => exact ⟨0, gs, cs, fun _ => 0, fun _ => 0, by omega, hR, RagAt.nil _ _ _ _, fun x y hx _ => absurd hx (Nat.not_lt_zero _), (fun t h => by cases h), hB⟩
        case round =>
          clear hR hB
          obtain ⟨m, gp, cp, gq, cq, hm, hRp, hRq, hord, hsp, hB⟩ := hrel
          by_cases h0 : 0 < (lev (bt P) i m).length
          · have hpos : decide (0 < (lev (bt P) i m).length) = true := decide_eq_true h0
            have hle := lev_le (b := bt P) (n := i) (m := m) h6 (by omega)
            have hms0 := Lib.hid hRp
            obtain ⟨gl, cl, rfl, _, hgll, _, _⟩ := hRp.head h0
            have hsp' : ∀ t, u7.ownBlock = some t → t ≠ gl := fun t h e => hsp t h (by rw [e]; rfl)
            clear hsp
            go_wp2_with fail
            go_loopw [7, 34] (fun rv kv wx => ∃ (x : Nat) (gq cq : Nat → Nat), x ≤ (lev (bt P) i m).length ∧ kv = .int .i64 x ∧ RagAt wx w1.heap.size rv (rg (bt P) i m ++ ((lev (bt P) i m).take x).filter (closes (bt P))) gq cq ∧ Hid (∀ a b, a < (rg (bt P) i m ++ ((lev (bt P) i m).take x).filter (closes (bt P))).length → x ≤ b → b < (lev (bt P) i m).length → gq a < gp b) ∧ Hid (∀ t, rv.ownBlock = some t → t ≠ gl) ∧ RagAt wx w1.heap.size (.slice (some ⟨gl, 0, none⟩) (lev (bt P) i m).length cl) (lev (bt P) i m) gp cp ∧ Below w1.heap.size w1 wx) (fun _ kv _ => (lev (bt P) i m).length - (intOf kv).toNat)
            case atStart => exact ⟨0, gq, cq, by omega, rfl, by rw [List.take_zero, List.filter_nil, List.append_nil]; exact hRq, fun a b ha _ hb => hord a b (by rw [List.take_zero, List.filter_nil, List.append_nil] at ha; exact ha) hb, hsp', hRp, hB⟩
            case round =>
              clear hRq hord hsp' hRp hB
              obtain ⟨x, gq, cq, hx, rfl, hRq, hord, hsp, hRp, hB⟩ := hrel
              by_cases hlx : x < (lev (bt P) i m).length
              · have hxt : decide (x < (lev (bt P) i m).length) = true := decide_eq_true hlx
                have ci := rag_cell hRp hlx
                have Hcl := Lib.hid (cl_succ (b := bt P) hlx)
                obtain ⟨hpl, hmn, hpn⟩ := lev_fact hlx
                have hPi := hRp.inn x hlx
                generalize hpe : (lev (bt P) i m).getD x [] = p at ci hpl hpn hPi Hcl
                clear hpe
                have hp0 : 0 < p.length := by omega
                have hp7 : p.length ≤ 7 := by omega
                have Hpl := Lib.hid hpl; clear hpl
                obtain ⟨_, _, hv, _, hgpl, _, hcg⟩ := path_form hPi hp0
                injection hv with hv1 _ hv2
                injection hv1 with hv1
                injection hv1 with hv1
                subst hv1 hv2
                have hlm : p.length - 1 < p.length := by omega
                have hla : la p < i := by rw [la_get hlm]; exact hpn _ (List.getElem_mem _)
                have hhd : hd p < i := by rw [hd_get hp0]; exact hpn _ (List.getElem_mem _)
                have cl' := hcg _ hlm
                rw [← la_get hlm] at cl'
                have ch := hcg 0 hp0
                rw [← hd_get hp0] at ch
                have hlc : ((p.length - 1 : Nat) : Int) = (p.length : Int) - 1 := by omega
                have ct1 := (hB.cell (p := ⟨g, la p, none⟩) hgl).trans (Hgc.out (la p) hla)
                have ct2 := (hB.cell (p := ⟨gr (la p), hd p, none⟩) (HT.out.inner_lt hla).2).trans ((HT.out.cell hla (show hd p < i * 1 by omega)).trans (iv_get hhd))
                have hsg : (sg P (la p) (hd p) == 1) = closes (bt P) p := sg_beats P (la p) (hd p)
                have HPi := Lib.hid hPi
                clear hPi hcg hpn
                have HRq := Lib.hid hRq; clear hRq
                have HRp := Lib.hid hRp; clear hRp
                have hlen : (rg (bt P) i m ++ ((lev (bt P) i m).take x).filter (closes (bt P))).length ≤ 2239488 := by
                  have h1 := rg_len (b := bt P) (n := i) h6 m (by omega)
                  have h2 : (((lev (bt P) i m).take x).filter (closes (bt P))).length ≤ 279936 := Nat.le_trans (List.length_filter_le _ _) (Nat.le_trans (by rw [List.length_take]; exact Nat.min_le_right _ _) hle)
                  rw [List.length_append]
                  omega
                have Hlen := Lib.hid hlen; clear hlen
                cases hb : closes (bt P) p
                · rw [hb] at hsg
                  have Hs : Hid (((lev (bt P) i m).take (x + 1)).filter (closes (bt P)) = ((lev (bt P) i m).take x).filter (closes (bt P))) := by
                    have h := Hcl.out
                    rw [hb, if_neg (by decide), List.append_nil] at h
                    exact h
                  clear hb Hcl
                  go_wp2_with fail
                  go_region
                  go_wp2_with fail
                  go_roundw
                  case rel => exact ⟨x + 1, gq, cq, hlx, by go_num, by rw [Hs.out]; exact HRq.out.up ((n0 _).drew), fun a b ha h1 h2 => hord.out a b (by rw [Hs.out] at ha; exact ha) (by omega) h2, hsp.out, HRp.out.up ((n0 _).drew), hB.drew⟩
                  case measure => simp [intOf]; omega
                · rw [hb] at hsg
                  have Hs : Hid (((lev (bt P) i m).take (x + 1)).filter (closes (bt P)) = ((lev (bt P) i m).take x).filter (closes (bt P)) ++ [p]) := by
                    have h := Hcl.out
                    rw [hb, if_pos rfl] at h
                    exact h
                  clear hb Hcl
                  have hbn := na ((n0 wr).drew) (.cells #[.slice (some ⟨gp x, 0, none⟩) p.length (cp x)] 51)
                  have hRq1 := HRq.out.up hbn
                  have hRp1 := HRp.out.up hbn
                  have hPi1 := World.ownsRow.kept HPi.out (grown_of hbn (Nat.le_refl _) none) (keep_none _)
                  have hB1' := na hB.drew (.cells #[.slice (some ⟨gp x, 0, none⟩) p.length (cp x)] 51)
                  have hszw : (wr.drew.alloc (.cells #[.slice (some ⟨gp x, 0, none⟩) p.length (cp x)] 51)).heap.size = wr.heap.size + 1 := size_alloc _ _
                  obtain ⟨v8, w8, hrun, hO8, hg8, hwh⟩ := append_where (P := Try.prog) (wr.drew.alloc (.cells #[.slice (some ⟨gp x, 0, none⟩) p.length (cp x)] 51)) w1.heap.size 33 33 51 iS (.slice none 0 0) 1 24 Try.underlying33 HS.out.1 HS.out.2.1 HS.out.2.2.1 HS.out.2.2.2 rfl (by decide) _ _ _ hRq1.out ⟨wr.heap.size, 0, none⟩ 1 1 [.slice (some ⟨gp x, 0, none⟩) p.length (cp x)] rfl
                    (fun t u ht => by
                      match t, ht with
                      | 0, ht =>
                        simp at ht
                        subst ht
                        have h0 : (wr.alloc (.cells #[.slice (some ⟨gp x, 0, none⟩) p.length (cp x)] 51)).cell? ⟨wr.heap.size, 0, none⟩ = some (.slice (some ⟨gp x, 0, none⟩) p.length (cp x)) := by simp
                        exact h0)
                    (fun u hu => by simp at hu; subst hu; rfl) (by have := Hlen.out; unfold maxLen; omega) (by have := Hlen.out; omega) (by rw [hszw]; have := hB.size; omega)
                  have hR8 := hRq1.snoc (p := p) (g2 := gp x) (c2 := cp x) hPi1 (fun a ha => hord.out a x ha (Nat.le_refl _) hlx) hg8 hO8
                  rw [List.append_assoc, ← Hs.out] at hR8
                  have hRp8 := rag_keptX hRp1 hRq1.out hg8 (fun t h e => by
                    have h1 : some gl = some t := e
                    injection h1 with h1
                    exact hsp.out t h h1.symm)
                  have hB8 := hB1'.grown hg8 (by rw [hszw]; have := hB.size; omega) (fun t e => (hRq1.out.lt t e).1)
                  have hglw : gl < wr.heap.size := by
                    obtain ⟨g', c', hv, _, hl, _, _⟩ := HRp.out.head h0
                    injection hv with e1 e2 e3
                    injection e1 with e1
                    injection e1 with e1
                    omega
                  have hsp8 : Hid (∀ t, v8.ownBlock = some t → t ≠ gl) := fun t ht => by
                    rcases hwh with h | h
                    · exact hsp.out t (h ▸ ht)
                    · have := h t ht
                      rw [hszw] at this
                      omega
                  clear hO8 hg8 hwh hRq1 hRp1 hPi1 hB1' hbn
                  have Hlast := Lib.hid (fun b (h1 : x < b) (h2 : b < (lev (bt P) i m).length) => HRp.out.asc x b h1 h2)
                  go_wp2_with fail
                  go_region
                  go_wp2_with (at_builtin; refine Lib.wpList_append_run _ rfl _ _ _ _ rfl _ _ rfl rfl _ _ hrun ?_)
                  clear hrun
                  go_wp2_with fail
                  go_roundw
                  case rel =>
                    refine ⟨x + 1, _, _, hlx, by go_num, hR8, fun a b ha h1 h2 => ?_, hsp8.out, hRp8, hB8⟩
                    rw [Hs.out, ← List.append_assoc, List.length_append] at ha
                    by_cases hal : a < (rg (bt P) i m ++ ((lev (bt P) i m).take x).filter (closes (bt P))).length
                    · rw [two_lt hal]
                      exact hord.out a b hal (by omega) h2
                    · rw [two_ge hal]
                      exact Hlast.out b (by omega) h2
                  case measure => simp [intOf]; omega
              · obtain rfl : x = (lev (bt P) i m).length := by omega
                have hrg : rg (bt P) i m ++ ((lev (bt P) i m).take (lev (bt P) i m).length).filter (closes (bt P)) = rg (bt P) i (m + 1) := by rw [List.take_length, rg_succ]; rfl
                rw [hrg] at hRq hord
                have hm1 := (lev_fact h0).2.1
                have Hrun := Lib.hid (Hlo.out w1.heap.size _ _ (lev (bt P) i m) gr cr gp cp wr w.heap.size (HT.out.up hB) hRp h0 hle (fun y hy => ⟨by rw [(lev_fact hy).1]; omega, by rw [(lev_fact hy).1]; omega, (lev_fact hy).2.2⟩))
                clear hrg
                go_wp2_with fail
                refine Hrun.out.mono ?_
                rintro e w6 ⟨v6, gs6, cs6, rfl, hR6, hb6⟩
                have hR6 : RagAt w6 wr.heap.size v6 (lev (bt P) i (m + 1)) gs6 cs6 := hR6
                have hRq6 := hRq.up hb6
                have hsz := hB.size
                have hB6 := hB.trans (hb6.mono hsz)
                have hless := ms_less hms0.out h0 hR6
                have Hless := Lib.hid hless
                go_wp2_with fail
                go_roundw
                case rel =>
                  refine ⟨m + 1, gs6, cs6, gq, cq, by omega, hR6.base hsz, hRq6, fun a b ha hb => ?_, fun t ht e => ?_, hB6⟩
                  · have h1 := (hRq.inner_lt ha).2
                    have h2 := (hR6.inner_lt hb).1
                    omega
                  · have h1 := (hRq.out.lt t ht).2
                    have h2 := (hR6.out.lt t e).1
                    omega
                case measure => exact Hless.out
          · have hz : (lev (bt P) i m).length = 0 := by omega
            have he : rg (bt P) i m = rg (bt P) i i := rg_end (List.length_eq_zero_iff.1 hz) lev_end
            rw [he] at hRq
            clear he hord hsp
            have hfin : Below w.heap.size w wr := hB1.trans (hB.mono hB1.size)
            rcases zero_form hRp hz with rfl | ⟨_, _, rfl⟩
            all_goals
              clear hRp
              go_wp2_with fail
              go_ret2
              exact ⟨_, _, _, rfl, hRq.base hB1.size, hfin⟩


end RingsI
end Go.Proofs.Ytagieilahejobaa
