/-
  Contracts of the two functions that verify a text with its checksum, for every text up to a bound.
-/
import Derived.Test.YthmeagmabidniaaDoorRows
import Derived.Test.YthmeagmabidniaaDoorSealW
import Derived.Test.YthmeagmabidniaaDoorSealCut
import Derived.Test.YthmeagmabidniaaDoorSplitW
namespace Go.Proofs.YthmeagmabidniaaDoor
open Go.RowKit

namespace VerifyW
open NumW FormatW Strs SumW Seal SealW Split SealCut SplitW

def preB (s : ByteArray) : ByteArray := ⟨(pre s.data.toList).toArray⟩
theorem preB_list (s : ByteArray) : (preB s).data.toList = pre s.data.toList := rfl
theorem preB_size (s : ByteArray) : (preB s).size ≤ s.size := by
  have := pre_le s.data.toList
  have h1 : (preB s).size = (pre s.data.toList).length := size_mk _
  have h2 : s.data.toList.length = s.size := by simp
  omega
theorem sealB_list (s : ByteArray) : (sealB s).data.toList = sealed s.data.toList := rfl

/-- What both hand back. -/
def verV (l : List UInt8) : Value := .tuple #[.string ⟨((verR l).getD []).toArray⟩, .bool (verR l).isSome]
theorem verV_none {l : List UInt8} (h : verR l = none) : verV l = .tuple #[.string ⟨#[]⟩, .bool false] := by unfold verV; rw [h]; rfl
theorem verV_some {l m : List UInt8} (h : verR l = some m) : verV l = .tuple #[.string ⟨m.toArray⟩, .bool true] := by unfold verV; rw [h]; rfl

/-- The model's. -/
theorem specVer_any (s : ByteArray) (w : World) (hs : s.size ≤ 1048576) :
    Calls Tryd.prog 20 #[.string s] w fun e w' => e = .returned (verV s.data.toList) ∧ Below w.heap.size w w' := by
  have hlen : s.data.toList.length = s.size := by simp
  by_cases h4 : s.size ≤ 4000
  · have Hsp := Lib.hid (l1Split_any s 35 35 rfl w hs)
    have Hl := Lib.hid (fun w => l1Seal_any (preB s) w (by have := preB_size s; omega))
    by_cases hit : sealed (pre s.data.toList) = s.data.toList
    · have hn := Lib.hid (ver_yes (by omega) hit)
      have e1 : (!(sealB (preB s)).toList == s.toList) = false := by rw [Lib.toList_data, Lib.toList_data, sealB_list, preB_list, hit]; simp
      clear hit hlen
      go_enter Tryd.func20, Tryd.ntmps20
      go_wp2_with fail
      refine Hsp.out.mono ?_
      rintro e w1 ⟨v, rfl, ho, hb⟩
      rw [parts_len] at ho
      obtain ⟨g, cap, rfl⟩ := ownsRow_succ ho
      have hcell : w1.cell? ⟨g, 0, none⟩ = some (.string (preB s)) := by
        rw [ho.cellAt 0 (by omega), List.getElem?_map, parts_head]; rfl
      clear ho
      go_wp2_with fail
      refine (Hl.out _).mono ?_
      rintro e w2 ⟨rfl, q, rfl⟩
      go_wp2_with fail
      go_ret2
      exact ⟨by rw [verV_some hn.out]; rfl, hb.trans (below_drewN (Below.refl _ _) _)⟩
    · have hn := Lib.hid (ver_other hit)
      have e1 : (!(sealB (preB s)).toList == s.toList) = true := by rw [Lib.toList_data, Lib.toList_data, sealB_list, preB_list]; simp [hit]
      clear hit hlen
      go_enter Tryd.func20, Tryd.ntmps20
      go_wp2_with fail
      refine Hsp.out.mono ?_
      rintro e w1 ⟨v, rfl, ho, hb⟩
      rw [parts_len] at ho
      obtain ⟨g, cap, rfl⟩ := ownsRow_succ ho
      have hcell : w1.cell? ⟨g, 0, none⟩ = some (.string (preB s)) := by
        rw [ho.cellAt 0 (by omega), List.getElem?_map, parts_head]; rfl
      clear ho
      go_wp2_with fail
      refine (Hl.out _).mono ?_
      rintro e w2 ⟨rfl, q, rfl⟩
      go_wp2_with fail
      go_ret2
      exact ⟨by rw [verV_none hn.out]; rfl, hb.trans (below_drewN (Below.refl _ _) _)⟩
  · have hn := Lib.hid (ver_long (by omega : ¬ s.data.toList.length ≤ 4000))
    clear hlen
    go_enter Tryd.func20, Tryd.ntmps20
    go_wp2_with fail
    go_ret2
    exact ⟨by rw [verV_none hn.out]; rfl, Below.refl _ _⟩

theorem clone_any (s : ByteArray) (w : World) (hs : s.size ≤ 1048576) :
    Calls Tryd.prog 36 #[.string s] w fun e w' => e = .returned (.string s) ∧ Below w.heap.size w w' := by
  have hc := Lib.hid (Tryd.stringslite_Clone s w (by omega))
  go_enter Tryd.func36, Tryd.ntmps36
  go_wp2_with fail
  refine hc.out.mono ?_
  rintro e w1 ⟨rfl, hb⟩
  go_wp2_with fail
  go_ret
  exact ⟨rfl, hb⟩

/-- The project's. -/
theorem implVer_any (s : ByteArray) (m : Int) (w : World) (hs : s.size ≤ 1048576) (hm : w.cell? ⟨2, 0, none⟩ = some (.int .i64 m)) (htab : Lib.TabIs Tryd.prog w "internal/strconv.uint64pow10" .u64 Lib.pow10Tab) :
    Calls Tryd.prog 18 #[.string s] w fun e w' => e = .returned (verV s.data.toList) ∧ Below w.heap.size w w' := by
  have hlen : s.data.toList.length = s.size := by simp
  have hc := Tryd.strings_Cut s (ByteArray.mk #[35]) m w (by omega) hm
  rw [show (ByteArray.mk #[35]).data.toList = [35] from rfl] at hc
  have ht := Lib.tabBelow_of_tabIs htab
  clear hm htab
  by_cases h35 : 35 ∈ s.data.toList
  · rw [(cut_hit h35).1, (cut_hit h35).2] at hc
    have Hc := Lib.hid hc; clear hc
    have hap := fun q => implApp_any (preB s) (w.drewN q) (by have := preB_size s; omega) (ht _ (below_drewN (Below.refl _ _) q))
    rw [preB_list] at hap
    have hpb := preB_size s
    by_cases hit : s.size ≤ 4000 ∧ sealed (pre s.data.toList) = s.data.toList
    · have hn := Lib.hid (ver_yes (by omega) hit.2)
      have Hap : Hid (∀ q, Calls Tryd.prog 16 #[.string (preB s)] (w.drewN q) fun e w' => e = .returned (.tuple #[.string s, .bool true]) ∧ Below (w.drewN q).heap.size (w.drewN q) w') := fun q => by
        have := hap q
        rw [appV_some (app_pre (by omega) hit.2)] at this
        exact this
      have Hcl := Lib.hid (fun w => clone_any (preB s) w (by omega))
      clear hit hlen hap
      go_enter Tryd.func18, Tryd.ntmps18
      go_wp2_with fail
      refine Hc.out.mono ?_
      rintro e w1 ⟨rfl, q, rfl⟩
      go_wp2_with fail
      refine (Hap.out q).mono ?_
      rintro e w2 ⟨rfl, hb2⟩
      go_wp2_with fail
      refine (Hcl.out _).mono ?_
      rintro e w3 ⟨rfl, hb3⟩
      go_wp2_with fail
      go_ret2
      exact ⟨by rw [verV_some hn.out]; rfl, ((below_drewN (Below.refl _ _) q).trans hb2).trans (hb3.mono hb2.size)⟩
    · have hn : verR s.data.toList = none := by
        unfold verR; rw [if_neg (fun x => hit ⟨by omega, x.2⟩)]
      have Hn := Lib.hid hn; clear hn
      rcases ha : appR (pre s.data.toList) with _ | t
      · have Hap := Lib.hid hap; clear hap
        unfold appV at Hap
        rw [ha] at Hap
        clear hit hlen ha
        go_enter Tryd.func18, Tryd.ntmps18
        go_wp2_with fail
        refine Hc.out.mono ?_
        rintro e w1 ⟨rfl, q, rfl⟩
        go_wp2_with fail
        refine (Hap.out q).mono ?_
        rintro e w2 ⟨rfl, hb2⟩
        go_wp2_with fail
        go_ret2
        exact ⟨by rw [verV_none Hn.out]; rfl, (below_drewN (Below.refl _ _) q).trans hb2⟩
      · obtain ⟨rfl, ht4⟩ := app_some ha
        have hne : sealed (pre s.data.toList) ≠ s.data.toList := fun e => hit ⟨by rw [e] at ht4; omega, e⟩
        have e1 : (!sealed (pre s.data.toList) == s.toList) = true := by rw [Lib.toList_data]; simp [hne]
        have Hap := Lib.hid hap; clear hap
        unfold appV at Hap
        rw [ha] at Hap
        clear hit hlen ha hne ht4
        go_enter Tryd.func18, Tryd.ntmps18
        go_wp2_with fail
        refine Hc.out.mono ?_
        rintro e w1 ⟨rfl, q, rfl⟩
        go_wp2_with fail
        refine (Hap.out q).mono ?_
        rintro e w2 ⟨rfl, hb2⟩
        go_wp2_with fail
        go_ret2
        exact ⟨by rw [verV_none Hn.out]; rfl, (below_drewN (Below.refl _ _) q).trans hb2⟩
  · have hn := Lib.hid (ver_no h35)
    rw [cut_miss h35] at hc
    have Hc := Lib.hid hc; clear hc
    clear hlen h35
    go_enter Tryd.func18, Tryd.ntmps18
    go_wp2_with fail
    refine Hc.out.mono ?_
    rintro e w1 ⟨rfl, q, rfl⟩
    go_wp2_with fail
    go_ret2
    exact ⟨by rw [verV_none hn.out]; rfl, below_drewN (Below.refl _ _) q⟩

end VerifyW
end Go.Proofs.YthmeagmabidniaaDoor
