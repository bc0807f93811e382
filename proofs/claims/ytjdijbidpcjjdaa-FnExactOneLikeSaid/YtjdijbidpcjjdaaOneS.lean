/-
  OneLike, by the specification.
-/
import Derived.Test.YtjdijbidpcjjdaaRows
import Derived.Test.YtjdijbidpcjjdaaOneI
import Derived.Test.YtjdijbidpcjjdaaOneA
import Derived.Test.YtjdijbidpcjjdaaOneM
import Derived.Test.YtjdijbidpcjjdaaRepW
import Derived.Test.YtjdijbidpcjjdaaShelfMul
import Derived.Test.YtjdijbidpcjjdaaBndsX
import Derived.Test.YtjdijbidpcjjdaaSumsB
import Derived.Test.YtjdijbidpcjjdaaTableSM
import Derived.Test.YtjdijbidpcjjdaaTableIM
import Derived.Test.YtjdijbidpcjjdaaTableWM
import Derived.Test.YtjdijbidpcjjdaaTableM
import Derived.Test.YtjdijbidpcjjdaaSumsM
import Derived.Test.YtjdijbidpcjjdaaFracW
import Derived.Test.YtjdijbidpcjjdaaCutW
import Derived.Test.YtjdijbidpcjjdaaAll6
import Derived.Test.YtjdijbidpcjjdaaPoolW
import Derived.Test.YtjdijbidpcjjdaaDicesW
import Derived.Test.YtjdijbidpcjjdaaSortW
import Derived.Test.YtjdijbidpcjjdaaDieW
import Derived.Test.YtjdijbidpcjjdaaOpenD
import Derived.Test.YtjdijbidpcjjdaaArr
import Derived.WalkKit
import Derived.WalkLawsBesides
import Derived.WalkSpells
import Derived.ProofKit
import Derived.OpenShut
import Derived.Deep.RegionWith
import Derived.Deep.WholeRow
import Derived.Deep.QuietTactic
import Derived.BigQuiet
namespace Go.Proofs.Ytjdijbidpcjjdaa
open Go.ChangeShapes Go.WideShapes Go.ChangeAt Go.RowKit
open Go.ChangeMaps (open_string shut_string)

namespace OneS
open Dice Arr OpenD DieW SortW DicesW PoolW FracW CutW SumsW Table TableW TableI TableS All6 OneM RepW OneA OneI

theorem own_low {w : World} {B B' : Nat} {v : Value} {n : Nat} {xs : List Value} (h : w.ownsRow B 3 1 v n xs) (hB : B' ≤ B) : w.ownsRow B' 3 1 v n xs := by
  refine ⟨h.1, ?_⟩
  rcases h.2 with h0 | ⟨g, cap, cur, e, hb, hg, hnc, hcm, hcs, ht⟩
  · exact .inl h0
  · exact .inr ⟨g, cap, cur, e, Nat.le_trans hB hb, hg, hnc, hcm, hcs, ht⟩
/-- The list of faces: as it was made, or a row of its own. -/
def Fac (B g0 : Nat) (w : World) (v : Value) (l : List Int) : Prop := (l = [] ∧ v = .slice (some ⟨g0, 0, none⟩) 0 0) ∨ w.ownsRow B 3 1 v l.length (vl l)
set_option maxRecDepth 100000 in
set_option maxHeartbeats 8000000 in
theorem specOne_any (A : Option Addr) (n c : Nat) (P : Nat → Nat → Int) (w : World) (h : Row w A n P) (hn : n ≤ maxLen) :
    Calls Try.prog 27 #[.slice A n c] w fun e w' => e = .returned (.tuple (oneO n P)) ∧ Below w.heap.size w w' := by
  have hp := fun w h => l2Pool_any A n c P w h hn
  unfold oneO
  cases hq : isPool n P
  · rw [hq] at hp
    clear hq
    simp only [Bool.false_and, Bool.false_eq_true, ↓reduceIte]
    have Hp := Lib.hid hp; clear hp
    go_enter Try.func27, Try.ntmps27
    go_wp2_with fail
    refine (Hp.out _ (h.up (na (n0 w) _))).mono ?_
    rintro e w1 ⟨rfl, hb⟩
    have hbl := nx (na (n0 w) _) hb
    have hA := (At.new6 w (fun _ => 0) 22 (b := w.heap.size) rfl).up hb
    clear hb
    obtain ⟨c0, c1, c2, c3, c4, c5⟩ := hA.six
    obtain ⟨z0, z1, z2, z3, z4, z5⟩ := hA.free6
    go_wp2_with fail
    refine ret_cell_tmp (b := w.heap.size) (n := 6) (f := (fun _ => 0)) Try.results27 rfl rfl Try.underlying22 (by kernel_rfl) (hA.stored (fun _ => 0)) rfl ?_
    refine ⟨rfl, ?_⟩
    exact hbl.trans (setCells_below (p := w.heap.size) (B := w.heap.size) (Nat.le_refl _) (vals 6 (fun _ => 0)) 0)
  · obtain ⟨h1, h4, hd⟩ := of_pool hq
    rw [hq] at hp
    clear hq
    simp only [Bool.true_and]
    have htab := tab_T h4 (die_range' hd) n (Nat.le_refl _)
    have hsm := fun j hj => htab.small h4 j hj
    have hnn := htab.nn
    have hsum : pre (T P n) 121 = ((6 * all6 (n - 1) : Nat) : Int) := by rw [htab.sum, ← share n h1]; unfold all6; rw [Int.natCast_pow]; rfl
    have Ht := Lib.hid (fun w h => l2Table_any A n c P w h h4 hd)
    generalize T P n = t at *
    have h6 := all6_le (n := n - 1) (by omega)
    have Ho := Lib.hid (fun w => l2All_any n w h4)
    obtain ⟨i0, hi, hz0, hz1, hz2⟩ := info_parts info_int6
    have Hi := Lib.hid (And.intro hi (And.intro hz0 (And.intro hz1 hz2)))
    clear hi hz0 hz1 hz2 htab
    have Hp := Lib.hid hp; clear hp
    have Hsm := Lib.hid hsm; clear hsm
    have Hnn := Lib.hid hnn; clear hnn
    have Hsum := Lib.hid hsum; clear hsum
    have H := Lib.hid h; clear h hd
    have hvt := vals_len 121 t
    have hall := share n h1
    have ha6 : all6 n ≤ 1296 := (all6_le h4).1
    generalize all6 (n - 1) = N at *
    generalize all6 n = M at *
    have hM1 : ((M : Int) / 6) = (N : Int) := by omega
    have hM2 : (M : Int).tdiv 6 = (N : Int) := by rw [Int.tdiv_eq_ediv_of_nonneg (by omega)]; exact hM1
    clear hall
    have hN0 : ((N : Int) = 0) = False := by simp; omega
    have HAr := Lib.hid (fun g c f w h => l5Array_any g c f w h)
    obtain ⟨X, hX⟩ : ∃ X : Array Value, X = if okO t N then #[dv (fce t N), .bool true] else #[dv fun _ => 0, .bool false] := ⟨_, rfl⟩
    rw [← hX]
    have HX := Lib.hid hX; clear hX
    go_enter Try.func27, Try.ntmps27
    go_wp2_with fail
    refine (Hp.out _ (H.out.up (na (n0 w) _))).mono ?_
    rintro e w1 ⟨rfl, hb⟩
    have hbl := na (nx (na (n0 w) _) hb) (.cells #[] 3)
    have hA0 := ((At.new6 w (fun _ => 0) 22 (b := w.heap.size) rfl).up hb).past (.cells #[] 3)
    clear hb
    go_wp2_with fail
    refine (Ht.out _ (H.out.up hbl)).mono ?_
    rintro e w2 ⟨rfl, hb⟩
    have hbl := nx hbl hb
    have hA0 := hA0.up hb
    go_wp2_with fail
    refine (Ho.out _).mono ?_
    rintro e w3 ⟨rfl, hw3⟩
    have hw3 := hw3.symm
    subst hw3
    obtain ⟨w3, hst, hA2, hB2, hK2⟩ := store_ex (fresh w2 (b := w2.heap.size) rfl) t
    have hblx := (na hbl _).trans (hB2 _ hbl.size)
    have hA := hK2 _ _ _ (Nat.ne_of_lt hA0.lt) (hA0.past _)
    have hg0 : w1.heap.size < w2.heap.size := by
      have := hb.size
      rw [size_alloc] at this
      omega
    have hbt : w2.heap.size + 1 ≤ w3.heap.size := by
      have := (hB2 w2.heap.size (Nat.le_refl _)).size
      rw [size_alloc] at this
      omega
    clear hb hB2 hK2
    go_wp2_with fail
    clear hst
    obtain ⟨tb, htb⟩ : ∃ tb, tb = w2.heap.size := ⟨_, rfl⟩
    rw [← htb] at hA2 hg0 hbt ⊢
    have hrt : w.heap.size < tb := by rw [htb]; exact hA0.lt
    obtain ⟨Bt, hBt⟩ : ∃ Bt, Bt = tb + 1 := ⟨_, rfl⟩
    rw [← hBt] at hbt
    generalize w1.heap.size = g0 at *
    clear htb hA0 hbl hvt
    go_loopw [4, 7] (fun v kv wr => ∃ s : Nat, s ≤ 121 ∧ kv = .int .i64 s ∧ Hid (divs t N s) ∧ Hid (∀ j, j < s → t j ≤ 0 ∨ j ≤ 30) ∧ Fac Bt g0 wr v (fl t N s) ∧ At wr w.heap.size 6 (fun _ => 0) ∧ At wr tb 121 t ∧ Below w.heap.size w wr ∧ Bt ≤ wr.heap.size) (fun _ kv _ => 121 - (intOf kv).toNat)
    case atStart => exact ⟨0, by omega, rfl, fun s hs => by omega, fun s hs => by omega, .inl ⟨rfl, rfl⟩, hA, hA2, hblx, hbt⟩
    case round =>
      clear hA hA2 hblx hbt
      obtain ⟨s, hs, rfl, hdv, h30, hF, hA, hT, hbl, hsz⟩ := hrel
      by_cases hlt : s < 121
      · have ck := hT.cell s hlt
        have hit : decide ((s : Int) < 121) = true := decide_eq_true (by omega)
        have hts := Hsm.out s hlt
        obtain ⟨m, hm⟩ : ∃ m : Nat, t s = m := ⟨(t s).toNat, by omega⟩
        have hmt : (t s).toNat = m := by omega
        rw [hm] at ck
        have hcast : ((m : Int) % (N : Int)) = ((m % N : Nat) : Int) := by omega
        by_cases hr : m % N = 0
        · have hr0 : ((m % N : Nat) : Int) = 0 := by omega
          have hdn := divs_next hdv.out (by rw [hmt]; exact hr)
          have hq6 := qn_six Hnn.out h6.2 Hsum.out hlt hdn
          have hqe : qn t N s = m / N := by unfold qn; rw [hmt]
          have hfs : Hid (fl t N (s + 1) = fl t N s ++ List.replicate (m / N) (s : Int)) := by show fl t N s ++ List.replicate (qn t N s) (s : Int) = _; rw [hqe]
          rw [hqe] at hq6
          have hll : (fl t N s).length + m / N ≤ 6 := by have := hq6.1; rw [hfs.out, List.length_append, List.length_replicate] at this; exact this
          have Hdn := Lib.hid hdn
          obtain ⟨hmq1, hmq2⟩ := quo_wrap (a := m) (x := N) (by omega)
          have hd0 : (((m : Int) % (N : Int)) != 0) = false := by rw [hcast, hr0]; rfl
          by_cases hbad : 0 < m ∧ 30 < s
          · have hno := Lib.hid (okO_no2 hlt (by omega) hbad.2 : okO t N = false)
            have p1 : decide ((0 : Int) < (m : Int)) = true := decide_eq_true (by omega)
            have p2 : decide ((30 : Int) < (s : Int)) = true := decide_eq_true (by omega)
            clear hmt hm hts hdn hcast hr0 hmq1 hmq2 hfs hll hq6 hqe Hdn
            obtain ⟨c0, c1, c2, c3, c4, c5⟩ := hA.six
            obtain ⟨z0, z1, z2, z3, z4, z5⟩ := hA.free6
            go_wp2_with fail
            refine ret_cell_tmp (b := w.heap.size) (n := 6) (f := (fun _ => 0)) Try.results27 rfl rfl Try.underlying22 (by kernel_rfl) (hA.stored (fun _ => 0)) rfl ?_
            refine ⟨by rw [HX.out, hno.out]; rfl, ?_⟩
            exact hbl.trans (setCells_below (p := w.heap.size) (B := w.heap.size) (Nat.le_refl _) (vals 6 (fun _ => 0)) 0)
          · have h30n : Hid (∀ j, j < s + 1 → t j ≤ 0 ∨ j ≤ 30) := fun j hj => by
              by_cases e : j = s
              · subst e; omega
              · exact h30.out j (by omega)
            have hpq : Hid (m = 0 → m / N = 0) := fun h => by rw [h, Nat.zero_div]
            clear hmt hm hts hdn hcast hr0
            have hlq := Lib.hid hll
            have hq7 := hq6.2
            clear hll hq6 hqe
            have hd1 : decide ((0 : Int) < (m : Int)) = decide (0 < m) := decide_eq_decide.2 (by omega)
            generalize hqq : m / N = q at *
            cases hm0 : decide (0 < m)
            · rw [hm0] at hd1
              clear hbad
              go_wp2_with fail
              clear ck hd0 hd1 hmq1 hmq2
              go_loopw [4, 8] (fun v nv wy => ∃ r : Nat, r ≤ q ∧ nv = .int .i64 ((q - r : Nat) : Int) ∧ Fac Bt g0 wy v (fl t N s ++ List.replicate r (s : Int)) ∧ At wy w.heap.size 6 (fun _ => 0) ∧ At wy tb 121 t ∧ Below w.heap.size w wy ∧ Bt ≤ wy.heap.size) (fun _ nv _ => (intOf nv).toNat)
              case atStart => exact ⟨0, Nat.zero_le _, rfl, by rw [List.replicate_zero, List.append_nil]; exact hF, hA, hT, hbl, hsz⟩
              case round =>
                clear hF hA hT hbl hsz
                obtain ⟨r, hrq, rfl, hF, hA, hT, hbl, hsz⟩ := hrel
                by_cases hlr : r < q
                · have e1 : decide ((0 : Int) < ((q - r : Nat) : Int)) = true := decide_eq_true (by omega)
                  have hlen : (fl t N s ++ List.replicate r (s : Int)).length ≤ 5 := by rw [List.length_append, List.length_replicate]; have := hlq.out; omega
                  have hb3 : (fl t N s ++ List.replicate r (s : Int)).length + 1 ≤ maxLen := Nat.le_trans (Nat.succ_le_succ hlen) (by decide)
                  have hb4 : ((fl t N s ++ List.replicate r (s : Int)).length + 1) * 8 ≤ 140737488355328 := Nat.le_trans (Nat.mul_le_mul_right 8 (Nat.succ_le_succ hlen)) (by decide)
                  have Hb := Lib.hid (And.intro hb3 hb4)
                  clear hb3 hb4 hlen
                  have hne : Hid (fl t N s ++ List.replicate (r + 1) (s : Int) = (fl t N s ++ List.replicate r (s : Int)) ++ [(s : Int)]) := by
                    show _ = _
                    rw [List.append_assoc, List.replicate_succ']
                  generalize fl t N s ++ List.replicate r (s : Int) = l at *
                  have hA1 := hA.past (.cells #[.int .i64 (s : Int)] 3)
                  have hT1 := hT.past (.cells #[.int .i64 (s : Int)] 3)
                  have hB1 := na hbl (.cells #[.int .i64 (s : Int)] 3)
                  clear hA hT hbl
                  rcases hF with ⟨rfl, rfl⟩ | hO
                  · go_wp2_with (at_builtin; refine wpList_append_grows _ rfl _ _ 58 rfl 3 i0 (.int .i64 0) 1 8 Try.underlying58 Hi.out.1 Hi.out.2.1 Hi.out.2.2.1 Hi.out.2.2.2 rfl (by decide) (some ⟨g0, 0, none⟩) 0 0 [] rfl (fun h => by cases h) rfl (fun _ _ j u h => by cases h) ⟨wr.heap.size, 0, none⟩ 1 1 [.int .i64 (s : Int)] rfl rfl ?c1 ?c2 (by decide) (by decide) (by decide) ?_)
                    case c1 =>
                      intro t u ht
                      match t, ht with
                      | 0, ht => simp at ht; subst ht; simp [Addr.add]
                    case c2 => intro u hu; simp at hu; subst hu; rfl
                    · intro v' w5 hO5 hg5
                      have hb5 : Below Bt (wr.alloc (.cells #[.int .i64 (s : Int)] 3)) w5 := (Below.refl Bt _).grown hg5 (by rw [size_alloc]; omega) (fun k e => by cases e)
                      have hO5 := own_low hO5 (show Bt ≤ wr.heap.size + 1 from by omega)
                      have hA5 := hA1.below (by omega) hb5
                      have hT5 := hT1.below (by omega) hb5
                      have hB5 := hB1.trans (hb5.mono (by omega))
                      have hsz5 : Bt ≤ w5.heap.size := by have := hb5.size; rw [size_alloc] at this; omega
                      clear hA1 hT1 hB1 hb5 hg5
                      go_wp2_with fail
                      go_roundw
                      case rel => exact ⟨r + 1, hlr, by go_num, .inr (by rw [hne.out]; exact hO5), hA5, hT5, hB5, hsz5⟩
                      case measure => simp [intOf]; omega
                  · go_wp2_with (at_builtin; refine wpList_append_own _ rfl _ _ 58 rfl Bt 3 i0 (.int .i64 0) 1 8 Try.underlying58 Hi.out.1 Hi.out.2.1 Hi.out.2.2.1 Hi.out.2.2.2 rfl (by decide) _ _ _ rfl (hO.alloc _) ⟨wr.heap.size, 0, none⟩ 1 1 [.int .i64 (s : Int)] rfl rfl ?c1 ?c2 ?c3 ?c4 ?c5 ?_)
                    case c1 =>
                      intro t u ht
                      match t, ht with
                      | 0, ht => simp at ht; subst ht; simp [Addr.add]
                    case c2 => intro u hu; simp at hu; subst hu; rfl
                    case c3 => exact Hb.out.1
                    case c4 => exact Hb.out.2
                    case c5 => rw [size_alloc]; exact Nat.le_succ_of_le hsz
                    · intro v' w5 hO5 hg5 _
                      have hb5 : Below Bt (wr.alloc (.cells #[.int .i64 (s : Int)] 3)) w5 := (Below.refl Bt _).grown hg5 (by rw [size_alloc]; omega) (fun k e => (hO.lt k e).1)
                      have hA5 := hA1.below (by omega) hb5
                      have hT5 := hT1.below (by omega) hb5
                      have hB5 := hB1.trans (hb5.mono (by omega))
                      have hsz5 : Bt ≤ w5.heap.size := by have := hb5.size; rw [size_alloc] at this; omega
                      clear hA1 hT1 hB1 hb5 hg5 hO
                      go_wp2_with fail
                      go_roundw
                      case rel => exact ⟨r + 1, hlr, by go_num, .inr (by rw [hne.out, vl_app, List.length_append, hBt]; exact hO5), hA5, hT5, hB5, hsz5⟩
                      case measure => simp [intOf]; omega
                · obtain rfl : r = q := by omega
                  have e1 : decide ((0 : Int) < ((r - r : Nat) : Int)) = false := decide_eq_false (by omega)
                  go_wp2_with fail
                  go_roundw
                  case rel => exact ⟨s + 1, hlt, by go_num, Hdn.out, h30n.out, by rw [hfs.out]; exact hF, hA, hT, hbl, hsz⟩
                  case measure => simp [intOf]; omega
            · rw [hm0] at hd1
              have p2 : decide ((30 : Int) < (s : Int)) = false := decide_eq_false (by have := of_decide_eq_true hm0; omega)
              clear hbad
              go_wp2_with fail
              clear ck hd0 hd1 hmq1 hmq2 p2
              go_loopw [4, 8] (fun v nv wy => ∃ r : Nat, r ≤ q ∧ nv = .int .i64 ((q - r : Nat) : Int) ∧ Fac Bt g0 wy v (fl t N s ++ List.replicate r (s : Int)) ∧ At wy w.heap.size 6 (fun _ => 0) ∧ At wy tb 121 t ∧ Below w.heap.size w wy ∧ Bt ≤ wy.heap.size) (fun _ nv _ => (intOf nv).toNat)
              case atStart => exact ⟨0, Nat.zero_le _, rfl, by rw [List.replicate_zero, List.append_nil]; exact hF, hA, hT, hbl, hsz⟩
              case round =>
                clear hF hA hT hbl hsz
                obtain ⟨r, hrq, rfl, hF, hA, hT, hbl, hsz⟩ := hrel
                by_cases hlr : r < q
                · have e1 : decide ((0 : Int) < ((q - r : Nat) : Int)) = true := decide_eq_true (by omega)
                  have hlen : (fl t N s ++ List.replicate r (s : Int)).length ≤ 5 := by rw [List.length_append, List.length_replicate]; have := hlq.out; omega
                  have hb3 : (fl t N s ++ List.replicate r (s : Int)).length + 1 ≤ maxLen := Nat.le_trans (Nat.succ_le_succ hlen) (by decide)
                  have hb4 : ((fl t N s ++ List.replicate r (s : Int)).length + 1) * 8 ≤ 140737488355328 := Nat.le_trans (Nat.mul_le_mul_right 8 (Nat.succ_le_succ hlen)) (by decide)
                  have Hb := Lib.hid (And.intro hb3 hb4)
                  clear hb3 hb4 hlen
                  have hne : Hid (fl t N s ++ List.replicate (r + 1) (s : Int) = (fl t N s ++ List.replicate r (s : Int)) ++ [(s : Int)]) := by
                    show _ = _
                    rw [List.append_assoc, List.replicate_succ']
                  generalize fl t N s ++ List.replicate r (s : Int) = l at *
                  have hA1 := hA.past (.cells #[.int .i64 (s : Int)] 3)
                  have hT1 := hT.past (.cells #[.int .i64 (s : Int)] 3)
                  have hB1 := na hbl (.cells #[.int .i64 (s : Int)] 3)
                  clear hA hT hbl
                  rcases hF with ⟨rfl, rfl⟩ | hO
                  · go_wp2_with (at_builtin; refine wpList_append_grows _ rfl _ _ 58 rfl 3 i0 (.int .i64 0) 1 8 Try.underlying58 Hi.out.1 Hi.out.2.1 Hi.out.2.2.1 Hi.out.2.2.2 rfl (by decide) (some ⟨g0, 0, none⟩) 0 0 [] rfl (fun h => by cases h) rfl (fun _ _ j u h => by cases h) ⟨wr.heap.size, 0, none⟩ 1 1 [.int .i64 (s : Int)] rfl rfl ?c1 ?c2 (by decide) (by decide) (by decide) ?_)
                    case c1 =>
                      intro t u ht
                      match t, ht with
                      | 0, ht => simp at ht; subst ht; simp [Addr.add]
                    case c2 => intro u hu; simp at hu; subst hu; rfl
                    · intro v' w5 hO5 hg5
                      have hb5 : Below Bt (wr.alloc (.cells #[.int .i64 (s : Int)] 3)) w5 := (Below.refl Bt _).grown hg5 (by rw [size_alloc]; omega) (fun k e => by cases e)
                      have hO5 := own_low hO5 (show Bt ≤ wr.heap.size + 1 from by omega)
                      have hA5 := hA1.below (by omega) hb5
                      have hT5 := hT1.below (by omega) hb5
                      have hB5 := hB1.trans (hb5.mono (by omega))
                      have hsz5 : Bt ≤ w5.heap.size := by have := hb5.size; rw [size_alloc] at this; omega
                      clear hA1 hT1 hB1 hb5 hg5
                      go_wp2_with fail
                      go_roundw
                      case rel => exact ⟨r + 1, hlr, by go_num, .inr (by rw [hne.out]; exact hO5), hA5, hT5, hB5, hsz5⟩
                      case measure => simp [intOf]; omega
                  · go_wp2_with (at_builtin; refine wpList_append_own _ rfl _ _ 58 rfl Bt 3 i0 (.int .i64 0) 1 8 Try.underlying58 Hi.out.1 Hi.out.2.1 Hi.out.2.2.1 Hi.out.2.2.2 rfl (by decide) _ _ _ rfl (hO.alloc _) ⟨wr.heap.size, 0, none⟩ 1 1 [.int .i64 (s : Int)] rfl rfl ?c1 ?c2 ?c3 ?c4 ?c5 ?_)
                    case c1 =>
                      intro t u ht
                      match t, ht with
                      | 0, ht => simp at ht; subst ht; simp [Addr.add]
                    case c2 => intro u hu; simp at hu; subst hu; rfl
                    case c3 => exact Hb.out.1
                    case c4 => exact Hb.out.2
                    case c5 => rw [size_alloc]; exact Nat.le_succ_of_le hsz
                    · intro v' w5 hO5 hg5 _
                      have hb5 : Below Bt (wr.alloc (.cells #[.int .i64 (s : Int)] 3)) w5 := (Below.refl Bt _).grown hg5 (by rw [size_alloc]; omega) (fun k e => (hO.lt k e).1)
                      have hA5 := hA1.below (by omega) hb5
                      have hT5 := hT1.below (by omega) hb5
                      have hB5 := hB1.trans (hb5.mono (by omega))
                      have hsz5 : Bt ≤ w5.heap.size := by have := hb5.size; rw [size_alloc] at this; omega
                      clear hA1 hT1 hB1 hb5 hg5 hO
                      go_wp2_with fail
                      go_roundw
                      case rel => exact ⟨r + 1, hlr, by go_num, .inr (by rw [hne.out, vl_app, List.length_append, hBt]; exact hO5), hA5, hT5, hB5, hsz5⟩
                      case measure => simp [intOf]; omega
                · obtain rfl : r = q := by omega
                  have e1 : decide ((0 : Int) < ((r - r : Nat) : Int)) = false := decide_eq_false (by omega)
                  go_wp2_with fail
                  go_roundw
                  case rel => exact ⟨s + 1, hlt, by go_num, Hdn.out, h30n.out, by rw [hfs.out]; exact hF, hA, hT, hbl, hsz⟩
                  case measure => simp [intOf]; omega
        · have hno := Lib.hid (okO_no1 hlt (by rw [hmt]; exact hr) : okO t N = false)
          have hd0 : (((m % N : Nat) : Int) != 0) = true := by
            rw [bne_iff_ne]
            exact fun h => hr (Int.ofNat.inj h)
          rw [← hcast] at hd0
          clear hmt hm hts hcast
          obtain ⟨c0, c1, c2, c3, c4, c5⟩ := hA.six
          obtain ⟨z0, z1, z2, z3, z4, z5⟩ := hA.free6
          go_wp2_with fail
          refine ret_cell_tmp (b := w.heap.size) (n := 6) (f := (fun _ => 0)) Try.results27 rfl rfl Try.underlying22 (by kernel_rfl) (hA.stored (fun _ => 0)) rfl ?_
          refine ⟨by rw [HX.out, hno.out]; rfl, ?_⟩
          exact hbl.trans (setCells_below (p := w.heap.size) (B := w.heap.size) (Nat.le_refl _) (vals 6 (fun _ => 0)) 0)
      · obtain rfl : s = 121 := by omega
        have hyes : Hid (okO t N = true) := @decide_eq_true _ (Classical.propDecidable _) fun j hj => ⟨hdv.out j hj, h30.out j hj⟩
        have hl6 := fl_six Hnn.out h6.2 Hsum.out hdv.out
        rcases hF with ⟨h0, _⟩ | hO
        · rw [h0] at hl6; cases hl6
        obtain ⟨g, c', rfl, hc6, hG⟩ := own_six hO hl6
        have hG : At wr g 6 (fce t N) := hG
        have ha := fun w h => HAr.out g c' (fce t N) w h
        unfold dv at ha
        have Ha := Lib.hid ha; clear ha hl6 hO
        go_wp2_with fail
        refine (Ha.out _ hG).mono ?_
        rintro e w5 ⟨rfl, hb5⟩
        have hA := hA.up hb5
        have hbl := nx hbl hb5
        obtain ⟨c0, c1, c2, c3, c4, c5⟩ := hA.six
        obtain ⟨z0, z1, z2, z3, z4, z5⟩ := hA.free6
        go_wp2_with fail
        refine ret_cell_tmp (b := w.heap.size) (n := 6) (f := (fce t N)) Try.results27 rfl rfl Try.underlying22 (by kernel_rfl) (hA.stored (fce t N)) rfl ?_
        refine ⟨by rw [HX.out, hyes.out]; rfl, ?_⟩
        exact hbl.trans (setCells_below (p := w.heap.size) (B := w.heap.size) (Nat.le_refl _) (vals 6 (fce t N)) 0)

end OneS
end Go.Proofs.Ytjdijbidpcjjdaa
