/-
  OneLike, by the program.
-/
import Derived.Test.YtjdijbidpcjjdaaRows
import Derived.Test.YtjdijbidpcjjdaaOneM
import Derived.Test.YtjdijbidpcjjdaaRepW
import Derived.Test.YtjdijbidpcjjdaaShelfMul
import Derived.Test.YtjdijbidpcjjdaaBndsX
import Derived.Test.YtjdijbidpcjjdaaSumsB
import Derived.Test.YtjdijbidpcjjdaaTableSM
import Derived.Test.YtjdijbidpcjjdaaTableIM
import Derived.Test.YtjdijbidpcjjdaaTableWM
import Derived.Test.YtjdijbidpcjjdaaTableM
import Derived.Test.YtjdijbidpcjjdaaSumsM
import Derived.Test.YtjdijbidpcjjdaaFracW
import Derived.Test.YtjdijbidpcjjdaaCutW
import Derived.Test.YtjdijbidpcjjdaaAll6
import Derived.Test.YtjdijbidpcjjdaaPoolW
import Derived.Test.YtjdijbidpcjjdaaDicesW
import Derived.Test.YtjdijbidpcjjdaaSortW
import Derived.Test.YtjdijbidpcjjdaaDieW
import Derived.Test.YtjdijbidpcjjdaaOpenD
import Derived.Test.YtjdijbidpcjjdaaArr
import Derived.WalkKit
import Derived.WalkLawsBesides
import Derived.WalkSpells
import Derived.ProofKit
import Derived.OpenShut
import Derived.Deep.RegionWith
import Derived.Deep.WholeRow
import Derived.Deep.QuietTactic
import Derived.BigQuiet
namespace Go.Proofs.Ytjdijbidpcjjdaa
open Go.ChangeShapes Go.WideShapes Go.ChangeAt Go.RowKit
open Go.ChangeMaps (open_string shut_string)

namespace OneI
open Dice Arr OpenD DieW SortW DicesW PoolW FracW CutW SumsW Table TableW TableI TableS All6 OneM RepW

def vl (l : List Int) : List Value := l.map (Value.int .i64)
theorem vl_len (l : List Int) : (vl l).length = l.length := by simp [vl]
theorem vl_app (l m : List Int) : vl (l ++ m) = vl l ++ vl m := by simp [vl]
theorem vl_get {l : List Int} {k : Nat} (h : k < l.length) : (vl l)[k]? = some (.int .i64 (l.getD k 0)) := by
  unfold vl
  rw [List.getElem?_map, List.getElem?_eq_getElem h, List.getD_eq_getElem?_getD, List.getElem?_eq_getElem h]
  rfl
theorem vl_rep (q : Nat) (s : Int) : vl (List.replicate q s) = vals q (fun _ => s) := by
  unfold vl vals
  rw [List.map_replicate]
  apply List.ext_getElem?
  intro k
  by_cases hk : k < q
  · simp [hk]
  · rw [List.getElem?_eq_none (by simp; omega), List.getElem?_eq_none (by simp; omega)]
theorem info_int6 : (Try.prog.info? 3).map (fun i => (i.zero, i.size, i.bytes)) = some (some (.int .i64 0), 1, 8) := by kernel_rfl
/-- What both answer. -/
noncomputable def oneO (n : Nat) (P : Nat → Nat → Int) : Array Value := if isPool n P && okO (T P n) (all6 (n - 1)) then #[dv (fce (T P n) (all6 (n - 1))), .bool true] else #[dv (fun _ => 0), .bool false]
theorem share (n : Nat) (h : 1 ≤ n) : all6 n = 6 * all6 (n - 1) := by
  obtain ⟨m, rfl⟩ : ∃ m, n = m + 1 := ⟨n - 1, by omega⟩
  rw [all6_succ, Nat.add_sub_cancel, Nat.mul_comm]
theorem At.new1 (w : World) (x : Int) : At (w.alloc (.cells #[.int .i64 x] 3)) w.heap.size 1 (fun _ => x) :=
  At.new w _ _ 1 _ fun k hk => by
    have h0 : k = 0 := by omega
    subst h0
    rfl
theorem grown_of {w w' : World} {B : Nat} (h : Below B w w') (hB : w.heap.size ≤ B) (row : Option Nat) : w.grownBy w' row := ⟨h.os, h.tape, h.output, h.size, fun k hk _ => h.block k (by omega)⟩
theorem keep_none (v : Value) : v.ownBlock = none ∨ v.ownBlock ≠ none := by cases v.ownBlock <;> simp
theorem as_array (w : World) (a : Addr) (c : Nat) : (Instr.arrayAt 22 (.slice (some a) 6 c)).run Try.prog w = .ok (.pointer (some a)) w := by
  simp [Instr.arrayAt, run_underlying Try.underlying22]
theorem own_six {w : World} {B : Nat} {v : Value} {l : List Int} (h : w.ownsRow B 3 1 v l.length (vl l)) (h6 : l.length = 6) : ∃ g c, v = .slice (some ⟨g, 0, none⟩) 6 c ∧ 6 ≤ c ∧ At w g 6 (fun k => l.getD k 0) := by
  rcases h.2 with ⟨rfl, h0⟩ | ⟨g, cap, cur, rfl, hb, hg, hnc, hcm, hcs, htake⟩
  · omega
  · refine ⟨g, cap, by rw [h6], by omega, (Array.getElem?_eq_some_iff.1 hg).1, fun k hk => ?_, fun k => h.frozenAt k⟩
    rw [h.cellAt k (by omega)]
    exact vl_get (by omega)
set_option maxRecDepth 100000 in
set_option maxHeartbeats 8000000 in
theorem implOne_any (A : Option Addr) (n c : Nat) (P : Nat → Nat → Int) (w : World) (h : Row w A n P) (hn : n ≤ maxLen) :
    Calls Try.prog 29 #[.slice A n c] w fun e w' => e = .returned (.tuple (oneO n P)) ∧ Below w.heap.size w w' := by
  have hp := fun w h => implTable_any A n c P w h hn
  unfold oneO
  cases hq : isPool n P
  · rw [hq] at hp
    clear hq
    simp only [Bool.false_and, Bool.false_eq_true, ↓reduceIte] at hp ⊢
    have Hp := Lib.hid hp; clear hp
    go_enter Try.func29, Try.ntmps29
    go_wp2_with fail
    refine (Hp.out _ (h.up (na (n0 w) _))).mono ?_
    rintro e w1 ⟨rfl, hb⟩
    have hbl := nx (na (n0 w) _) hb
    have hA0 := (At.new6 w (fun _ => 0) 22 (b := w.heap.size) rfl).up hb
    obtain ⟨w2, hst, hA2, hB2, hK2⟩ := store_ex (fresh w1 (b := w1.heap.size) rfl) (fun _ => 0)
    have hbl := (na hbl _).trans (hB2 _ hbl.size)
    have hA := hK2 _ _ _ (Nat.ne_of_lt hA0.lt) (hA0.past _)
    clear hb hB2 hK2 hA0
    obtain ⟨c0, c1, c2, c3, c4, c5⟩ := hA.six
    obtain ⟨z0, z1, z2, z3, z4, z5⟩ := hA.free6
    go_wp2_with fail
    refine ret_cell_tmp (b := w.heap.size) (n := 6) (f := fun _ => 0) Try.results29 rfl rfl Try.underlying22 (by kernel_rfl) (hA.stored (fun _ => 0)) rfl ⟨rfl, ?_⟩
    exact hbl.trans (setCells_below (p := w.heap.size) (B := w.heap.size) (Nat.le_refl _) (vals 6 (fun _ => 0)) 0)
  · obtain ⟨h1, h4, hd⟩ := of_pool hq
    rw [hq] at hp
    clear hq
    simp only [Bool.true_and, ↓reduceIte] at hp ⊢
    have htab := tab_T h4 (die_range' hd) n (Nat.le_refl _)
    have hsm := fun j hj => htab.small h4 j hj
    have hnn := htab.nn
    have hsum : pre (T P n) 121 = ((6 * all6 (n - 1) : Nat) : Int) := by rw [htab.sum, ← share n h1]; unfold all6; rw [Int.natCast_pow]; rfl
    have Ht := trivial
    generalize T P n = t at *
    have h6 := all6_le (n := n - 1) (by omega)
    have Ho := Lib.hid (fun w => outcomes_any (n - 1) w (by omega))
    obtain ⟨i0, hi, hz0, hz1, hz2⟩ := info_parts info_int6
    have Hi := Lib.hid (And.intro hi (And.intro hz0 (And.intro hz1 hz2)))
    clear hi hz0 hz1 hz2 htab
    have Hp := Lib.hid hp; clear hp
    have Hsm := Lib.hid hsm; clear hsm
    have Hnn := Lib.hid hnn; clear hnn
    have Hsum := Lib.hid hsum; clear hsum
    have H := Lib.hid h; clear h hd
    have hvt := vals_len 121 t
    have hn1 : ((n : Int) - 1) = ((n - 1 : Nat) : Int) := by omega
    have Hso := Lib.hid (fun w => implSortDie_any (fce t (all6 (n - 1))) w)
    generalize all6 (n - 1) = N at *
    have hN0 : ((N : Int) = 0) = False := by simp; omega
    have Hrep := Lib.hid (fun b v k w hk h => repeat_any b v k hk w h)
    have Hix := Lib.hid (fun (w : World) (k : Nat) (hk : k < 121) => run_index_vals (P := Try.prog) w 54 3 121 Try.underlying54 Try.underlying3 Try.sizeOf3 t hk)
    obtain ⟨X, hX⟩ : ∃ X : Array Value, X = if okO t N then #[dv (fce t N), .bool true] else #[dv fun _ => 0, .bool false] := ⟨_, rfl⟩
    rw [← hX]
    have HX := Lib.hid hX; clear hX
    go_enter Try.func29, Try.ntmps29
    go_wp2_with fail
    refine (Hp.out _ (H.out.up (na (n0 w) _))).mono ?_
    rintro e w1 ⟨rfl, hb⟩
    have hbl := nx (na (n0 w) _) hb
    have hA0 := (At.new6 w (fun _ => 0) 22 (b := w.heap.size) rfl).up hb
    obtain ⟨w2, hst, hA2, hB2, hK2⟩ := store_ex (fresh w1 (b := w1.heap.size) rfl) t
    have hbl := (na hbl _).trans (hB2 _ hbl.size)
    have hA := hK2 _ _ _ (Nat.ne_of_lt hA0.lt) (hA0.past _)
    clear hb hB2 hK2 hA0
    go_wp2_with fail
    clear hst
    refine (Ho.out _).mono ?_
    rintro e w3 ⟨rfl, hw3⟩
    have hw3 := hw3.symm
    subst hw3
    go_wp2_with (refine ld rfl _ rfl rfl hA2 ?_)
    have hlt0 := hA.lt
    have hbl0 := Lib.hid hbl.size
    clear hvt hA2
    go_loopw [6, 23] (fun v kv wr => ∃ s : Nat, s ≤ 121 ∧ kv = .int .i64 s ∧ Hid (divs t N s) ∧ wr.ownsRow w2.heap.size 3 1 v (fl t N s).length (vl (fl t N s)) ∧ At wr w.heap.size 6 (fun _ => 0) ∧ Below w.heap.size w wr ∧ w2.heap.size ≤ wr.heap.size) (fun _ kv _ => 121 - (intOf kv).toNat)
    case atStart => exact ⟨0, by omega, rfl, fun s hs => by omega, World.ownsRow_nil _ _ _ _, hA, hbl, Nat.le_refl _⟩
    case round =>
      clear hA hbl
      obtain ⟨s, hs, rfl, hdv, hO, hA, hbl, hsz⟩ := hrel
      by_cases hlt : s < 121
      · have hix := fun w => Hix.out w s hlt
        have hts := Hsm.out s hlt
        obtain ⟨m, hm⟩ : ∃ m : Nat, t s = m := ⟨(t s).toNat, by omega⟩
        have hmt : (t s).toNat = m := by omega
        rw [hm] at hix
        have hcast : ((m : Int) % (N : Int)) = ((m % N : Nat) : Int) := by omega
        by_cases hr : m % N = 0
        · have hr0 : ((m % N : Nat) : Int) = 0 := by omega
          have hdn := divs_next hdv.out (by rw [hmt]; exact hr)
          have hq6 := qn_six Hnn.out h6.2 Hsum.out hlt hdn
          have hqe : qn t N s = m / N := by unfold qn; rw [hmt]
          have hfs : Hid (fl t N (s + 1) = fl t N s ++ List.replicate (m / N) (s : Int)) := by show fl t N s ++ List.replicate (qn t N s) (s : Int) = _; rw [hqe]
          rw [hqe] at hq6
          have hll : (fl t N s).length + m / N ≤ 6 := by have := hq6.1; rw [hfs.out, List.length_append, List.length_replicate] at this; exact this
          have Hdn := Lib.hid hdn
          have hb3 : (fl t N s).length + m / N ≤ maxLen := Nat.le_trans hll (by decide)
          have hb4 : ((fl t N s).length + m / N) * 8 ≤ 140737488355328 := Nat.le_trans (Nat.mul_le_mul_right 8 hll) (by decide)
          have Hb := Lib.hid (And.intro hb3 hb4)
          clear hb3 hb4
          have hmq := quo_wrap (a := m) (x := N) (by omega)
          have hd0 : (((m : Int) % (N : Int)) != 0) = false := by rw [hcast, hr0]; rfl
          clear hcast
          clear hdn hmt hm hts
          have hX := At.new1 wr (s : Int)
          have Hrk := Lib.hid (fun w h => Hrep.out wr.heap.size (s : Int) (m / N) w hq6.2 h)
          have hO1 := hO.alloc (.cells #[.int .i64 (s : Int)] 3)
          have hA1 := hA.past (.cells #[.int .i64 (s : Int)] 3)
          have hB1 := na hbl (.cells #[.int .i64 (s : Int)] 3)
          have hsz1 : w2.heap.size ≤ (wr.alloc (.cells #[.int .i64 (s : Int)] 3)).heap.size := Nat.le_trans hsz ((Below.refl wr.heap.size wr).alloc (Nat.le_refl _) _).size
          obtain ⟨hmq1, hmq2⟩ := hmq
          clear hO hA hbl
          go_wp2_with fail
          refine (Hrk.out _ hX).mono ?_
          rintro e w4 ⟨rfl, hR, hb4⟩
          clear hmq1 hmq2 hd0 hr0 hix
          have hO4 := hO1.kept (grown_of hb4 (Nat.le_refl _) none) (keep_none _)
          have hA4 := hA1.up hb4
          have hB4 := nx hB1 hb4
          have hsz4 := Nat.le_trans hsz1 hb4.size
          clear hO1 hA1 hB1 hb4 hX hsz1
          generalize (wr.alloc (.cells #[.int .i64 (s : Int)] 3)).heap.size = g at *
          generalize m / N = q at *
          go_wp2_with (at_builtin; refine wpList_append_own _ rfl _ _ 58 rfl w2.heap.size 3 i0 (.int .i64 0) 1 8 Try.underlying58 Hi.out.1 Hi.out.2.1 Hi.out.2.2.1 Hi.out.2.2.2 rfl (by decide) _ _ _ rfl hO4 ⟨g, 0, none⟩ q q (vals q fun _ => (s : Int)) rfl (by rw [vals_len, Nat.mul_one]) ?c1 ?c2 ?c3 ?c4 ?c5 ?_)
          case c1 =>
            intro k u hk
            have hlk : k < q := by rw [← vals_len q fun _ => (s : Int)]; exact (List.getElem?_eq_some_iff.1 hk).1
            rw [vals_get hlk] at hk
            rw [addr_add, hR.cell k hlk]
            exact hk
          case c2 => exact vals_one _ _
          case c3 => exact Hb.out.1
          case c4 => exact Hb.out.2
          case c5 => exact hsz4
          · intro v' w5 hO5 hg5 _
            have hB5 := hB4.grown hg5 (Nat.le_trans hbl0.out hsz4) (fun k e => Nat.le_trans hbl0.out (hO4.lt k e).1)
            have hA5 := hA4.below hlt0 ((Below.refl w2.heap.size w4).grown hg5 hsz4 (fun k e => (hO4.lt k e).1))
            have hsz5 : w2.heap.size ≤ w5.heap.size := Nat.le_trans hsz4 hg5.size
            clear hO4 hA4 hB4 hg5 hR
            go_wp2_with fail
            go_roundw
            case rel => exact ⟨s + 1, hlt, by go_num, Hdn.out, by rw [hfs.out, vl_app, vl_rep, List.length_append, List.length_replicate]; exact hO5, hA5, hB5, hsz5⟩
            case measure => simp [intOf]; omega
        · have hno := Lib.hid (okO_no1 hlt (by rw [hmt]; exact hr) : okO t N = false)
          have hd0 : (((m % N : Nat) : Int) != 0) = true := by
            rw [bne_iff_ne]
            exact fun h => hr (Int.ofNat.inj h)
          rw [← hcast] at hd0
          clear hcast
          clear hmt hm hts Hso
          obtain ⟨c0, c1, c2, c3, c4, c5⟩ := hA.six
          obtain ⟨z0, z1, z2, z3, z4, z5⟩ := hA.free6
          go_wp2_with fail
          refine ret_cell_tmp (b := w.heap.size) (n := 6) (f := fun _ => 0) Try.results29 rfl rfl Try.underlying22 (by kernel_rfl) (hA.stored (fun _ => 0)) rfl ?_
          refine ⟨by rw [HX.out, hno.out]; rfl, ?_⟩
          exact hbl.trans (setCells_below (p := w.heap.size) (B := w.heap.size) (Nat.le_refl _) (vals 6 (fun _ => 0)) 0)
      · obtain rfl : s = 121 := by omega
        have hl6 := fl_six Hnn.out h6.2 Hsum.out hdv.out
        have hft := fce_fits Hnn.out h6.2 Hsum.out hdv.out
        have hse := fce_srt Hnn.out h6.2 Hsum.out hdv.out
        obtain ⟨g, c', rfl, hc6, hG⟩ := own_six hO hl6
        rw [hft, dv_congr hse] at Hso
        have hG : At wr g 6 (fce t N) := hG
        have Hso2 := Lib.hid Hso.out
        obtain ⟨x, b, hxb⟩ : ∃ x b, (if okO t N then #[dv (fce t N), .bool true] else #[dv fun _ => 0, .bool false] : Array Value) = #[dv x, .bool b] := by
          cases okO t N
          · exact ⟨_, _, rfl⟩
          · exact ⟨_, _, rfl⟩
        have hso := Hso2.out
        rw [hxb] at hso
        have Hxb := Lib.hid hxb
        unfold dv at hso
        have Hsf := Lib.hid hso; clear hso Hso Hso2 hxb hft hse hl6
        obtain ⟨d0, d1, d2, d3, d4, d5⟩ := hG.six
        have hsa := fun w => as_array w ⟨g, 0, none⟩ c'
        go_wp2_with fail
        refine (Hsf.out _).mono ?_
        rintro e w5 ⟨rfl, hb5⟩
        have hA := hA.up hb5
        have hbl := nx hbl hb5
        obtain ⟨c0, c1, c2, c3, c4, c5⟩ := hA.six
        obtain ⟨z0, z1, z2, z3, z4, z5⟩ := hA.free6
        go_wp2_with fail
        refine ret_cell_tmp (b := w.heap.size) (n := 6) (f := x) Try.results29 rfl rfl Try.underlying22 (by kernel_rfl) (hA.stored x) rfl ?_
        refine ⟨by rw [HX.out, Hxb.out]; rfl, ?_⟩
        exact hbl.trans (setCells_below (p := w.heap.size) (B := w.heap.size) (Nat.le_refl _) (vals 6 x) 0)

end OneI
end Go.Proofs.Ytjdijbidpcjjdaa
