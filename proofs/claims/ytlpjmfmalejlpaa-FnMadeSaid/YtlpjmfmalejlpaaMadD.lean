/-
  The draws of sizes and of lists of throws.
-/
import Derived.Test.YtlpjmfmalejlpaaRows
import Derived.Test.YtlpjmfmalejlpaaArr
import Derived.Test.YtlpjmfmalejlpaaOwnL
import Derived.Test.YtlpjmfmalejlpaaListQ
import Derived.Test.YtlpjmfmalejlpaaCurN
import Derived.Test.YtlpjmfmalejlpaaOpenD
import Derived.WalkKit
import Derived.WalkLawsBesides
import Derived.WalkSpells
import Derived.ProofKit
import Derived.OpenShut
import Derived.Deep.RegionWith
import Derived.Deep.QuietTactic
import Derived.BigQuiet
namespace Go.Proofs.Ytlpjmfmalejlpaa
open Go.ChangeShapes Go.WideShapes Go.ChangeAt Go.RowKit
open Go.ChangeMaps (open_string shut_string)

namespace MadD
open Dice Arr OwnL ListQ CurN

theorem At.but {w w' : World} {b n p : Nat} {f : Nat → Int} (h : At w b n f) (hb : b ≠ p) (hu : But p w w') : At w' b n f :=
  ⟨Nat.lt_of_lt_of_le h.lt hu.size, fun k hk => (World.cell?_of_block (w := w) (a := ⟨b, k, none⟩) (hu.2.2.2.2 b h.lt hb)).trans (h.cell k hk), fun k => (World.frozen?_of_block (w := w) (a := ⟨b, k, none⟩) (hu.2.2.2.2 b h.lt hb)).trans (h.free k)⟩
theorem But.setnew {p : Nat} {w w' : World} (h : But p w w') {D : Nat} (hD : w.heap.size ≤ D) (i : Nat) (v : Value) : But p w (w'.setCell ⟨D, i, none⟩ v) :=
  ⟨h.1, h.2.1, h.2.2.1, by have := h.2.2.2.1; simpa [World.setCell] using this, fun k hk hp => (Below.heap_setCell _ _ _ _ (by show k ≠ D; omega)).trans (h.2.2.2.2 k hk hp)⟩
theorem Cur.setnew {w : World} {p K : Nat} {A : Option Addr} {n c : Nat} (h : Cur w p K A n c) {D : Nat} (hD : p < D) (i : Nat) (v : Value) : Cur (w.setCell ⟨D, i, none⟩ v) p K A n c :=
  h.upto ((Below.refl (p + 1) w).setCell (p := ⟨D, i, none⟩) hD v)
theorem But.grown {p : Nat} {w w' w'' : World} {row : Option Nat} (h : But p w w') (hg : w'.grownBy w'' row) (hs : w.heap.size ≤ w'.heap.size) (hr : ∀ k, row = some k → w.heap.size ≤ k) : But p w w'' :=
  ⟨hg.os.trans h.1, hg.tape.trans h.2.1, hg.output.trans h.2.2.1, Nat.le_trans h.2.2.2.1 hg.size, fun k hk hp => (hg.block k (by omega) (fun e => by have := hr k e.symm; omega)).trans (h.2.2.2.2 k hk hp)⟩
theorem Cur.grown {w w' : World} {p K : Nat} {A : Option Addr} {n c : Nat} {row : Option Nat} (h : Cur w p K A n c) (hg : w.grownBy w' row) (hr : ∀ k, row = some k → p < k) : Cur w' p K A n c :=
  h.upto ⟨hg.os, hg.tape, hg.output, hg.size, fun k hk => hg.block k (Nat.lt_of_lt_of_le hk h.1) (fun e => by have := hr k e.symm; omega)⟩
theorem grown_but {p : Nat} {w w' : World} (hu : But p w w') : w.grownBy w' (some p) := ⟨hu.1, hu.2.1, hu.2.2.1, hu.2.2.2.1, fun k hk hne => hu.2.2.2.2 k hk (fun e => hne (by rw [e]))⟩
theorem own_butI {w w' : World} {B p n : Nat} {v : Value} {xs : List Value} (h : w.ownsRow B 3 1 v n xs) (hp : p < B) (hu : But p w w') : w'.ownsRow B 3 1 v n xs :=
  h.kept (grown_but hu) (.inr (fun e => by have := (h.lt p e).1; omega))
def sizes : List Int := [4, 5, 2, 7, 10, 6, 12, 36, 35, 100, 216, 1000, 1, 0, 1001, 3]
set_option maxHeartbeats 1000000 in
theorem size_any (p K : Nat) (A : Option Addr) (n c : Nat) (w : World) (h : Cur w p K A n c) (hK : K ≤ 1048575) (hn : n ≤ maxLen) :
    Calls Try.prog 26 #[.pointer (some ⟨p, 0, none⟩)] w fun e w' => (∃ q, e = .returned (.int .i64 q)) ∧ Went p (K + 2) A n c w w' := by
  have hp := h.1
  have H := Lib.hid fun g cp w h hg ht => among_any p K A n c g cp sizes w h hK hn (by decide) (by decide) hg ht
  have Hc := Lib.hid h; clear h
  go_enter Try.func26, Try.ntmps26
  go_wp2_with fail
  have hb : Below w.heap.size w (w.alloc (.cells (sizes.map fun z => Value.int .i64 z).toArray 3)) := (Below.refl _ _).alloc (Nat.le_refl _) _
  refine (H.out w.heap.size 16 _ (Hc.out.below hb) (by omega) (NsB.made w sizes _)).mono ?_
  rintro e w1 ⟨⟨q, hq, rfl⟩, hw⟩
  have hw' : Went p (K + 2) A n c w w1 := ⟨hw.1, (But.of_below hb).trans hw.2⟩
  have Hw := Lib.hid hw'; clear hw' hw hb
  go_wp2_with fail
  go_ret
  exact ⟨⟨q, rfl⟩, Hw.out⟩
def spoils : List Int := [-1, 6, 4611686018427387904]
set_option maxRecDepth 20000 in
set_option maxHeartbeats 16000000 in
theorem throws_any (p K : Nat) (A : Option Addr) (n c : Nat) (gm cm : Nat) (zs : List Int) (w : World) (h : Cur w p K A n c) (hK : K ≤ 1048000) (hn : n ≤ maxLen) (hz0 : 0 < zs.length) (hz : zs.length ≤ 200) (hzs : ∀ q ∈ zs, 0 ≤ q ∧ q ≤ 41) (hgm : gm ≠ p) (ht : NsB w gm zs) :
    Calls Try.prog 27 #[.pointer (some ⟨p, 0, none⟩), .slice (some ⟨gm, 0, none⟩) zs.length cm] w fun e w' => (∃ g cc m f, e = .returned (.slice (some ⟨g, 0, none⟩) m cc) ∧ m ≤ 41 ∧ m ≤ cc ∧ w.heap.size ≤ g ∧ At w' g m f) ∧ Went p (K + 100) A n c w w' := by
  have hp := h.1
  have Hp := Lib.hid (fun k m w h hk h0 h1 => pick_any p (K + k) A n c m w h (show K + k ≤ 1048575 from hk) hn h0 h1)
  have Ho := Lib.hid (fun k m w h hk h0 h1 => one_any p (K + k) A n c m w h (show K + k ≤ 1048575 from hk) hn h0 h1)
  have Ha := Lib.hid (fun k g cp zs w h hk h0 h1 hg ht => among_any p (K + k) A n c g cp zs w h (show K + k ≤ 1048575 from hk) hn h0 h1 hg ht)
  have Hzs := Lib.hid hzs; clear hzs
  obtain ⟨i0, hi0, hz0, hz1, hz2⟩ := info_parts OwnL.info_int
  have Hi := Lib.hid (And.intro hi0 (And.intro hz0 (And.intro hz1 hz2)))
  clear hi0 hz0 hz1 hz2
  have hO := own_empty w
  have hB : Below w.heap.size w (w.alloc (.cells #[] 3)) := na (n0 w) _
  have hC := h.below hB
  have hU : But p w _ := But.of_below hB
  have hgl := ht.1
  have hns : NsB (w.alloc (.cells #[] 3)) gm zs := ht.but hgm (But.of_below (na (n0 w) _))
  clear h hB ht
  go_enter Try.func27, Try.ntmps27
  go_wp2_with fail
  refine (Ha.out 0 gm cm zs _ hC (by omega) hz0 hz hgm hns).mono ?_
  rintro e w1 ⟨⟨q, hq, rfl⟩, hw⟩
  have hO := own_butI hO hp hw.2
  have hU := hU.trans hw.2
  have hC := hw.1
  clear hw hns
  obtain ⟨hq0, hq1⟩ := Hzs.out q hq
  obtain ⟨r, rfl⟩ : ∃ r : Nat, q = r := ⟨q.toNat, by omega⟩
  clear hq
  go_wp2_with fail
  go_loopw [5, 6] (fun v iv wr => ∃ (r : Nat) (L : List Int), iv = .int .i64 r ∧ L.length + r ≤ 41 ∧ wr.ownsRow w.heap.size 3 1 v L.length (L.map mk) ∧ v ≠ .slice none 0 0 ∧ Cur wr p (K + (2 + 2 * L.length)) A n c ∧ But p w wr) (fun _ iv _ => (intOf iv).toNat)
  case atStart => exact ⟨r, [], rfl, by simp; omega, hO, by simp, hC.more (by simp), hU⟩
  case round =>
    clear hO hC hU
    obtain ⟨r, L, rfl, hr, hO, hv, hC, hU⟩ := hrel
    by_cases hlt : 0 < r
    · have hrt : decide (0 < r) = true := decide_eq_true hlt
      have hrt2 : decide ((0 : Int) < (r : Int)) = true := decide_eq_true (by omega)
      have hrs : ((r : Int) - 1) = ((r - 1 : Nat) : Int) := by omega
      have Hrs := Lib.hid hrs; clear hrs
      have hLl : L.length ≤ 41 := by omega
      go_wp2_with fail
      refine (Hp.out (2 + 2 * L.length) 6 _ hC (by omega) (by decide) (by decide)).mono ?_
      rintro e w2 ⟨⟨m, hm, rfl⟩, hw⟩
      have hO := own_butI hO hp hw.2
      have hU := hU.trans hw.2
      have hC := hw.1
      clear hw
      go_wp2_with (at_builtin; refine wpList_append_own _ rfl _ _ 24 rfl (w.heap.size) 3 i0 (.int .i64 0) 1 8 Try.underlying24 Hi.out.1 Hi.out.2.1 Hi.out.2.2.1 Hi.out.2.2.2 rfl (by decide) _ _ _ rfl (hO.alloc _) ⟨w2.heap.size, 0, none⟩ 1 1 [.int .i64 (m : Nat)] rfl rfl ?c1 ?c2 ?c3 ?c4 ?c5 ?_)
      case c1 => exact news_one (cell_one _ _ _)
      case c2 => intro u hu; simp at hu; subst hu; rfl
      case c3 => unfold maxLen; omega
      case c4 => omega
      case c5 => have := hU.size; rw [size_alloc]; omega
      intro lv' wN hO4 hg4 hnil
      have hU4 : But p w wN := But.grown (hU.trans (But.of_below (na (n0 w2) (.cells #[.int .i64 (m : Nat)] 3)))) hg4 (by rw [size_alloc]; have := hU.size; omega) (fun t e => (hO.lt t e).1)
      have hC4 : Cur wN p (K + (2 + 2 * L.length) + 2) A n c := Cur.grown (hC.below (na (n0 w2) (.cells #[.int .i64 (m : Nat)] 3))) hg4 (fun t e => Nat.lt_of_lt_of_le hp (hO.lt t e).1)
      have hv5 : lv' ≠ .slice none 0 0 := by first | exact hnil | exact fun e => absurd (hnil.1 e).2 (by decide)
      have hO4 := own_snoc hO4
      clear hO hg4 hU hC hnil
      go_wp2_with fail
      go_roundw
      case rel => exact ⟨r - 1, L ++ [((m : Nat) : Int)], by rw [← Hrs.out] <;> go_num, by rw [List.length_append]; simp; omega, hO4, hv5, hC4.more (by rw [List.length_append]; simp; omega), hU4⟩
      case measure => simp [intOf]; omega
    · obtain rfl : r = 0 := by omega
      have hrt2 : decide ((0 : Int) < ((0 : Nat) : Int)) = false := rfl
      have hLl : L.length ≤ 41 := by omega
      obtain ⟨g, cc, rfl, hcc, hgB, hA⟩ := own_at hO hv
      clear hO hv
      generalize (fun i => L.getD i 0) = f at *
      generalize L.length = l at *
      by_cases h0 : 0 < l
      case neg =>
        obtain rfl : l = 0 := by omega
        have hd0 : decide ((0 : Int) < ((0 : Nat) : Int)) = false := rfl
        go_wp2_with fail
        go_ret
        exact ⟨⟨g, cc, 0, f, rfl, by omega, by omega, hgB, hA⟩, hC.more (by omega), hU⟩
      have hd0 : decide ((0 : Int) < (l : Int)) = true := decide_eq_true (by omega)
      have hd0N : decide (0 < l) = true := decide_eq_true h0
      have hgp : g ≠ p := by omega
      go_wp2_with fail
      refine (Ho.out (2 + 2 * l) 30 _ hC (by omega) (by decide) (by decide)).mono ?_
      rintro e w3 ⟨⟨t, rfl⟩, hw⟩
      have hA := At.but hA hgp hw.2
      have hU := hU.trans hw.2
      have hC := hw.1
      clear hw
      cases t
      · go_wp2_with fail
        go_ret
        exact ⟨⟨g, cc, l, f, rfl, hLl, hcc, hgB, hA⟩, hC.more (by omega), hU⟩
      · go_wp2_with fail
        refine (Hp.out (2 + 2 * l + 2) l _ hC (by omega) h0 (by omega)).mono ?_
        rintro e w4 ⟨⟨x, hx, rfl⟩, hw⟩
        have hA := At.but hA hgp hw.2
        have hU := hU.trans hw.2
        have hC := hw.1
        clear hw
        have hns := NsB.made w4 spoils 3
        have hal : Below w4.heap.size w4 (w4.alloc (.cells (spoils.map fun z => Value.int .i64 z).toArray 3)) := na (n0 _) _
        have hpl := hC.1
        have hA := hA.up hal
        have hC := hC.below hal
        have hU := hU.trans (But.of_below hal)
        go_wp2_with fail
        refine (Ha.out (2 + 2 * l + 4) w4.heap.size 3 spoils _ hC (by omega) (by decide) (by decide) (Nat.ne_of_gt hpl) hns).mono ?_
        rintro e w5 ⟨⟨q, hq, rfl⟩, hw⟩
        have hA := At.but hA hgp hw.2
        have hU := hU.trans hw.2
        have hC := hw.1
        clear hw hns hal hpl hq
        have cx := hA.cell x hx
        have zx := hA.free x
        go_wp2_with fail
        go_ret
        exact ⟨⟨g, cc, l, put f x q, rfl, hLl, hcc, hgB, hA.set hx q⟩, (Cur.setnew hC (show p < g by omega) x (.int .i64 q)).more (by omega), But.setnew hU hgB x (.int .i64 q)⟩
def lmN : List Int := [2, 3, 1, 4, 5, 6, 0, 7]
def lnT : List Int := [2, 3, 1, 6, 4, 0, 7]
def ltk : List Int := [2, 1, 3, 4, 6, 0, 7, 5]
def lml : List Int := [1, 2, 3, 2, 4, 0]
def lmt : List Int := [12, 20, 5, 1, 0, 40, 41]

set_option maxRecDepth 20000 in
set_option maxHeartbeats 8000000 in
theorem drawMake_any (A : Option Addr) (n c : Nat) (w : World) (h : CurN.Code w w.heap.size A n) (hn : n ≤ maxLen) :
    Calls Try.prog 5 #[.slice A n c] w fun e w' => (∃ m g cc l f, e = .returned (.tuple #[.int .i64 m, .slice (some ⟨g, 0, none⟩) l cc]) ∧ l ≤ 41 ∧ l ≤ cc ∧ w.heap.size ≤ g ∧ At w' g l f) ∧ Below w.heap.size w w' := by
  have hC := cur_made w A n c 50 h
  have Hs := Lib.hid fun K w' (hc : Cur w' w.heap.size K A n c) hK => size_any w.heap.size K A n c w' hc hK hn
  have Ht := Lib.hid fun K gm cm zs w' (hc : Cur w' w.heap.size K A n c) hK h0 hz hzs hg ht => throws_any w.heap.size K A n c gm cm zs w' hc hK hn h0 hz hzs hg ht
  have Hp := Lib.hid fun K (k : Nat) w' (hc : Cur w' w.heap.size K A n c) hK h0 hk => pick_any w.heap.size K A n c k w' hc hK hn h0 hk
  have Ho := Lib.hid fun K (k : Nat) w' (hc : Cur w' w.heap.size K A n c) hK h0 hk => one_any w.heap.size K A n c k w' hc hK hn h0 hk
  have Ha := Lib.hid fun K g cp zs w' (hc : Cur w' w.heap.size K A n c) hK h0 hk hg ht => among_any w.heap.size K A n c g cp zs w' hc hK hn h0 hk hg ht
  have hU := But.of_below (p := w.heap.size) (na (n0 w) (.cells #[.slice A n c, .int .i64 0, .int .u64 0] 50))
  clear h
  go_enter Try.func5, Try.ntmps5
  go_wp2_with fail
  refine (Hs.out 0 _ hC (by omega)).mono ?_
  rintro e w1 ⟨⟨m, rfl⟩, hw⟩
  have hU := hU.trans hw.2
  have hC := hw.1
  clear hw
  have hns := NsB.made w1 lmN 3
  have hal : Below w1.heap.size w1 (w1.alloc (.cells (lmN.map fun z => Value.int .i64 z).toArray 3)) := na (n0 _) _
  have hpl := hC.1
  have hC := hC.below hal
  have hU := hU.trans (But.of_below hal)
  go_wp2_with fail
  refine (Ht.out (0 + 2) w1.heap.size 8 lmN _ hC (by omega) (by decide) (by decide) (by decide) (Nat.ne_of_gt hpl) hns).mono ?_
  rintro e w2 ⟨⟨g, cc, l, f, rfl, hl, hcc, hgB, hA⟩, hw⟩
  have hsg : w.heap.size ≤ g := Nat.le_trans (Nat.le_trans (Nat.le_of_lt hpl) hal.size) hgB
  have hU := hU.trans hw.2
  have hC := hw.1
  clear hw hns hal hpl
  go_wp2_with fail
  go_ret2
  exact ⟨⟨m, g, cc, l, f, rfl, hl, hcc, hsg, hA⟩, hU.below (Nat.le_refl _) (Nat.le_refl _)⟩

set_option maxRecDepth 20000 in
set_option maxHeartbeats 8000000 in
theorem drawNum_any (A : Option Addr) (n c : Nat) (w : World) (h : CurN.Code w w.heap.size A n) (hn : n ≤ maxLen) :
    Calls Try.prog 8 #[.slice A n c] w fun e w' => (∃ g cc l f, e = .returned (.slice (some ⟨g, 0, none⟩) l cc) ∧ l ≤ 41 ∧ l ≤ cc ∧ w.heap.size ≤ g ∧ At w' g l f) ∧ Below w.heap.size w w' := by
  have hC := cur_made w A n c 50 h
  have Hs := Lib.hid fun K w' (hc : Cur w' w.heap.size K A n c) hK => size_any w.heap.size K A n c w' hc hK hn
  have Ht := Lib.hid fun K gm cm zs w' (hc : Cur w' w.heap.size K A n c) hK h0 hz hzs hg ht => throws_any w.heap.size K A n c gm cm zs w' hc hK hn h0 hz hzs hg ht
  have Hp := Lib.hid fun K (k : Nat) w' (hc : Cur w' w.heap.size K A n c) hK h0 hk => pick_any w.heap.size K A n c k w' hc hK hn h0 hk
  have Ho := Lib.hid fun K (k : Nat) w' (hc : Cur w' w.heap.size K A n c) hK h0 hk => one_any w.heap.size K A n c k w' hc hK hn h0 hk
  have Ha := Lib.hid fun K g cp zs w' (hc : Cur w' w.heap.size K A n c) hK h0 hk hg ht => among_any w.heap.size K A n c g cp zs w' hc hK hn h0 hk hg ht
  have hU := But.of_below (p := w.heap.size) (na (n0 w) (.cells #[.slice A n c, .int .i64 0, .int .u64 0] 50))
  clear h
  go_enter Try.func8, Try.ntmps8
  have hns := NsB.made (w.alloc (.cells #[.slice A n c, .int .i64 0, .int .u64 0] 50)) lnT 3
  have hal : Below (w.alloc (.cells #[.slice A n c, .int .i64 0, .int .u64 0] 50)).heap.size (w.alloc (.cells #[.slice A n c, .int .i64 0, .int .u64 0] 50)) ((w.alloc (.cells #[.slice A n c, .int .i64 0, .int .u64 0] 50)).alloc (.cells (lnT.map fun z => Value.int .i64 z).toArray 3)) := na (n0 _) _
  have hpl := hC.1
  have hC := hC.below hal
  have hU := hU.trans (But.of_below hal)
  go_wp2_with fail
  have hns2 := hns
  rw [size_alloc] at hns2
  refine (Ht.out 0 (w.heap.size + 1) 7 lnT _ hC (by omega) (by decide) (by decide) (by decide) (by omega) hns2).mono ?_
  rintro e w2 ⟨⟨g, cc, l, f, rfl, hl, hcc, hgB, hA⟩, hw⟩
  have hsg : w.heap.size ≤ g := Nat.le_trans (Nat.le_trans (Nat.le_of_lt hpl) hal.size) hgB
  have hU := hU.trans hw.2
  have hC := hw.1
  clear hw hns hns2 hal hpl
  go_wp2_with fail
  go_ret
  exact ⟨⟨g, cc, l, f, rfl, hl, hcc, hsg, hA⟩, hU.below (Nat.le_refl _) (Nat.le_refl _)⟩

set_option maxRecDepth 20000 in
set_option maxHeartbeats 8000000 in
theorem drawTaken_any (A : Option Addr) (n c : Nat) (w : World) (h : CurN.Code w w.heap.size A n) (hn : n ≤ maxLen) :
    Calls Try.prog 11 #[.slice A n c] w fun e w' => (∃ m q, e = .returned (.tuple #[.int .i64 m, .int .i64 q])) ∧ Below w.heap.size w w' := by
  have hC := cur_made w A n c 50 h
  have Hs := Lib.hid fun K w' (hc : Cur w' w.heap.size K A n c) hK => size_any w.heap.size K A n c w' hc hK hn
  have Ht := Lib.hid fun K gm cm zs w' (hc : Cur w' w.heap.size K A n c) hK h0 hz hzs hg ht => throws_any w.heap.size K A n c gm cm zs w' hc hK hn h0 hz hzs hg ht
  have Hp := Lib.hid fun K (k : Nat) w' (hc : Cur w' w.heap.size K A n c) hK h0 hk => pick_any w.heap.size K A n c k w' hc hK hn h0 hk
  have Ho := Lib.hid fun K (k : Nat) w' (hc : Cur w' w.heap.size K A n c) hK h0 hk => one_any w.heap.size K A n c k w' hc hK hn h0 hk
  have Ha := Lib.hid fun K g cp zs w' (hc : Cur w' w.heap.size K A n c) hK h0 hk hg ht => among_any w.heap.size K A n c g cp zs w' hc hK hn h0 hk hg ht
  have hU := But.of_below (p := w.heap.size) (na (n0 w) (.cells #[.slice A n c, .int .i64 0, .int .u64 0] 50))
  clear h
  go_enter Try.func11, Try.ntmps11
  go_wp2_with fail
  refine (Hs.out 0 _ hC (by omega)).mono ?_
  rintro e w1 ⟨⟨m, rfl⟩, hw⟩
  have hU := hU.trans hw.2
  have hC := hw.1
  clear hw
  have hns := NsB.made w1 ltk 3
  have hal : Below w1.heap.size w1 (w1.alloc (.cells (ltk.map fun z => Value.int .i64 z).toArray 3)) := na (n0 _) _
  have hpl := hC.1
  have hC := hC.below hal
  have hU := hU.trans (But.of_below hal)
  go_wp2_with fail
  refine (Ha.out (0 + 2) w1.heap.size 8 ltk _ hC (by omega) (by decide) (by decide) (Nat.ne_of_gt hpl) hns).mono ?_
  rintro e w2 ⟨⟨q, hq, rfl⟩, hw⟩
  have hU := hU.trans hw.2
  have hC := hw.1
  clear hw hns hal hpl hq
  go_wp2_with fail
  go_ret2
  exact ⟨⟨m, q, rfl⟩, hU.below (Nat.le_refl _) (Nat.le_refl _)⟩

set_option maxRecDepth 20000 in
set_option maxHeartbeats 8000000 in
theorem drawBest_any (A : Option Addr) (n c : Nat) (w : World) (h : CurN.Code w w.heap.size A n) (hn : n ≤ maxLen) :
    Calls Try.prog 16 #[.slice A n c] w fun e w' => (∃ m, e = .returned (.int .i64 m)) ∧ Below w.heap.size w w' := by
  have hC := cur_made w A n c 50 h
  have Hs := Lib.hid fun K w' (hc : Cur w' w.heap.size K A n c) hK => size_any w.heap.size K A n c w' hc hK hn
  have Ht := Lib.hid fun K gm cm zs w' (hc : Cur w' w.heap.size K A n c) hK h0 hz hzs hg ht => throws_any w.heap.size K A n c gm cm zs w' hc hK hn h0 hz hzs hg ht
  have Hp := Lib.hid fun K (k : Nat) w' (hc : Cur w' w.heap.size K A n c) hK h0 hk => pick_any w.heap.size K A n c k w' hc hK hn h0 hk
  have Ho := Lib.hid fun K (k : Nat) w' (hc : Cur w' w.heap.size K A n c) hK h0 hk => one_any w.heap.size K A n c k w' hc hK hn h0 hk
  have Ha := Lib.hid fun K g cp zs w' (hc : Cur w' w.heap.size K A n c) hK h0 hk hg ht => among_any w.heap.size K A n c g cp zs w' hc hK hn h0 hk hg ht
  have hU := But.of_below (p := w.heap.size) (na (n0 w) (.cells #[.slice A n c, .int .i64 0, .int .u64 0] 50))
  clear h
  go_enter Try.func16, Try.ntmps16
  go_wp2_with fail
  refine (Ho.out 0 2 _ hC (by omega) (by decide) (by decide)).mono ?_
  rintro e w1 ⟨⟨t, rfl⟩, hw⟩
  have hU := hU.trans hw.2
  have hC := hw.1
  clear hw
  cases t
  · go_wp2_with fail
    refine (Hs.out (0 + 2) _ hC (by omega)).mono ?_
    rintro e w2 ⟨⟨m, rfl⟩, hw⟩
    have hU := hU.trans hw.2
    have hC := hw.1
    clear hw
    go_wp2_with fail
    go_ret
    exact ⟨⟨m, rfl⟩, hU.below (Nat.le_refl _) (Nat.le_refl _)⟩
  · go_wp2_with fail
    refine (Hp.out (0 + 2) 1000 _ hC (by omega) (by decide) (by decide)).mono ?_
    rintro e w2 ⟨⟨m, hm, rfl⟩, hw⟩
    have hU := hU.trans hw.2
    clear hw
    go_wp2_with fail
    go_ret
    exact ⟨⟨1 + (m : Int), rfl⟩, hU.below (Nat.le_refl _) (Nat.le_refl _)⟩

set_option maxRecDepth 20000 in
set_option maxHeartbeats 8000000 in
theorem drawList_any (A : Option Addr) (n c : Nat) (w : World) (h : CurN.Code w w.heap.size A n) (hn : n ≤ maxLen) :
    Calls Try.prog 19 #[.slice A n c] w fun e w' => (∃ m q g cc l f, e = .returned (.tuple #[.int .i64 m, .int .i64 q, .slice (some ⟨g, 0, none⟩) l cc]) ∧ l ≤ 41 ∧ l ≤ cc ∧ w.heap.size ≤ g ∧ At w' g l f) ∧ Below w.heap.size w w' := by
  have hC := cur_made w A n c 50 h
  have Hs := Lib.hid fun K w' (hc : Cur w' w.heap.size K A n c) hK => size_any w.heap.size K A n c w' hc hK hn
  have Ht := Lib.hid fun K gm cm zs w' (hc : Cur w' w.heap.size K A n c) hK h0 hz hzs hg ht => throws_any w.heap.size K A n c gm cm zs w' hc hK hn h0 hz hzs hg ht
  have Hp := Lib.hid fun K (k : Nat) w' (hc : Cur w' w.heap.size K A n c) hK h0 hk => pick_any w.heap.size K A n c k w' hc hK hn h0 hk
  have Ho := Lib.hid fun K (k : Nat) w' (hc : Cur w' w.heap.size K A n c) hK h0 hk => one_any w.heap.size K A n c k w' hc hK hn h0 hk
  have Ha := Lib.hid fun K g cp zs w' (hc : Cur w' w.heap.size K A n c) hK h0 hk hg ht => among_any w.heap.size K A n c g cp zs w' hc hK hn h0 hk hg ht
  have hU := But.of_below (p := w.heap.size) (na (n0 w) (.cells #[.slice A n c, .int .i64 0, .int .u64 0] 50))
  clear h
  go_enter Try.func19, Try.ntmps19
  go_wp2_with fail
  refine (Hs.out 0 _ hC (by omega)).mono ?_
  rintro e w1 ⟨⟨m, rfl⟩, hw⟩
  have hU := hU.trans hw.2
  have hC := hw.1
  clear hw
  have hns := NsB.made w1 lml 3
  have hal : Below w1.heap.size w1 (w1.alloc (.cells (lml.map fun z => Value.int .i64 z).toArray 3)) := na (n0 _) _
  have hpl := hC.1
  have hC := hC.below hal
  have hU := hU.trans (But.of_below hal)
  go_wp2_with fail
  refine (Ha.out (0 + 2) w1.heap.size 6 lml _ hC (by omega) (by decide) (by decide) (Nat.ne_of_gt hpl) hns).mono ?_
  rintro e w2 ⟨⟨q, hq, rfl⟩, hw⟩
  have hU := hU.trans hw.2
  have hC := hw.1
  clear hw hns hal hpl hq
  have hns := NsB.made w2 lmt 3
  have hal : Below w2.heap.size w2 (w2.alloc (.cells (lmt.map fun z => Value.int .i64 z).toArray 3)) := na (n0 _) _
  have hpl := hC.1
  have hC := hC.below hal
  have hU := hU.trans (But.of_below hal)
  go_wp2_with fail
  refine (Ht.out (0 + 2 + 2) w2.heap.size 7 lmt _ hC (by omega) (by decide) (by decide) (by decide) (Nat.ne_of_gt hpl) hns).mono ?_
  rintro e w3 ⟨⟨g, cc, l, f, rfl, hl, hcc, hgB, hA⟩, hw⟩
  have hsg : w.heap.size ≤ g := Nat.le_trans (Nat.le_trans (Nat.le_of_lt hpl) hal.size) hgB
  have hU := hU.trans hw.2
  have hC := hw.1
  clear hw hns hal hpl
  go_wp2_with fail
  refine bodyPost_ret (results_tmp3 rfl _ _ _) rfl ?_
  exact ⟨⟨m, q, g, cc, l, f, rfl, hl, hcc, hsg, hA⟩, hU.below (Nat.le_refl _) (Nat.le_refl _)⟩

set_option maxRecDepth 20000 in
set_option maxHeartbeats 8000000 in
theorem drawRoom_any (A : Option Addr) (n c : Nat) (w : World) (h : CurN.Code w w.heap.size A n) (hn : n ≤ maxLen) :
    Calls Try.prog 23 #[.slice A n c] w fun e w' => (∃ m, e = .returned (.int .i64 m)) ∧ Below w.heap.size w w' := by
  have hC := cur_made w A n c 50 h
  have Hs := Lib.hid fun K w' (hc : Cur w' w.heap.size K A n c) hK => size_any w.heap.size K A n c w' hc hK hn
  have Ht := Lib.hid fun K gm cm zs w' (hc : Cur w' w.heap.size K A n c) hK h0 hz hzs hg ht => throws_any w.heap.size K A n c gm cm zs w' hc hK hn h0 hz hzs hg ht
  have Hp := Lib.hid fun K (k : Nat) w' (hc : Cur w' w.heap.size K A n c) hK h0 hk => pick_any w.heap.size K A n c k w' hc hK hn h0 hk
  have Ho := Lib.hid fun K (k : Nat) w' (hc : Cur w' w.heap.size K A n c) hK h0 hk => one_any w.heap.size K A n c k w' hc hK hn h0 hk
  have Ha := Lib.hid fun K g cp zs w' (hc : Cur w' w.heap.size K A n c) hK h0 hk hg ht => among_any w.heap.size K A n c g cp zs w' hc hK hn h0 hk hg ht
  have hU := But.of_below (p := w.heap.size) (na (n0 w) (.cells #[.slice A n c, .int .i64 0, .int .u64 0] 50))
  clear h
  go_enter Try.func23, Try.ntmps23
  go_wp2_with fail
  refine (Hp.out 0 23 _ hC (by omega) (by decide) (by decide)).mono ?_
  rintro e w1 ⟨⟨m, hm, rfl⟩, hw⟩
  have hU := hU.trans hw.2
  clear hw
  go_wp2_with fail
  go_ret
  exact ⟨⟨(m : Int) - 1, rfl⟩, hU.below (Nat.le_refl _) (Nat.le_refl _)⟩


end MadD
end Go.Proofs.Ytlpjmfmalejlpaa
