/- A rank's handles, as the program keeps them: Free. -/
import Derived.Test.YtgiibknfkphkgaaDoorRows
import Derived.Test.YtgiibknfkphkgaaDoorGrpH
import Derived.Test.YtgiibknfkphkgaaDoorOwn
namespace Go.Proofs.YtgiibknfkphkgaaDoor
open Go.RowKit
set_option linter.unusedVariables false
set_option linter.unusedSimpArgs false
namespace Grp
def He.freed (h : He) : He := { h with gone := true }
theorem heCs_free : ∀ (hs : List He) (i : Nat) (hi : i < hs.length), heCs (hs.set i hs[i].freed) = (heCs hs).set (i * 3 + 2) (.bool true)
  | t :: l, 0, _ => rfl
  | t :: l, i + 1, hi => by
    have ih := heCs_free l i (by simpa using hi)
    rw [List.set_cons_succ, heCs_cons, heCs_cons]
    simp only [List.getElem_cons_succ]
    rw [ih, show (i + 1) * 3 + 2 = (i * 3 + 2) + 3 by omega]
    rfl
set_option maxRecDepth 100000 in
set_option maxHeartbeats 2000000 in
theorem Free_no (T B : Nat) (hs : List He) (h : Int) (w : World) (ht : TabA w T B hs) (ha : askC hs h = 110) :
    Calls Tryd.prog 23 #[.pointer (some ⟨T, 0, none⟩), .int .i64 h] w fun e w' => e = .returned (.int .i64 110) ∧ w = w' := by
  have AS := hide (asked_a T B hs h w ht)
  rw [ha] at AS
  clear ht ha
  go_enter Tryd.func23, Tryd.ntmps23
  go_wp2_with fail
  refine AS.out.mono ?_
  rintro e w2 ⟨rfl, rfl⟩
  go_wp2_with fail
  go_ret
  exact ⟨rfl, rfl⟩
set_option maxRecDepth 100000 in
set_option maxHeartbeats 2000000 in
theorem Free_yes (T B : Nat) (hs : List He) (i : Nat) (hi : i < hs.length) (w : World) (ht : TabA w T B hs) (hg : hs[i].gone = false) :
    Calls Tryd.prog 23 #[.pointer (some ⟨T, 0, none⟩), .int .i64 i] w fun e w' => e = .returned (.int .i64 0) ∧ TabA w' T B (hs.set i hs[i].freed) ∧ Below B w w' ∧ KeepsBut [75] w w' ∧ ∃ gr cr, w.cell? ⟨T, 0, none⟩ = some (.slice (some ⟨gr, 0, none⟩) hs.length cr) ∧ w'.cell? ⟨T, 0, none⟩ = some (.slice (some ⟨gr, 0, none⟩) hs.length cr) ∧ Only [gr] w w' := by
  have AS := hide (asked_a T B hs i w ht)
  rw [ask_yes hi hg] at AS
  obtain ⟨gr, cr, hbT, hge, hlt, hfr, hcr⟩ := ht.open_
  have hT : w.cell? ⟨T, 0, none⟩ = some (.slice (some ⟨gr, 0, none⟩) hs.length cr) := hbT.cell 0
  have c2 := (hcr i hi).2.2
  rw [hg] at c2
  have f2 := hfr (i * 3 + 2)
  have hiI : (i : Int) < (hs.length : Int) := by omega
  have HT := hide ht
  have HBT := hide hbT
  have FIN : Hid (TabA (w.setCell ⟨gr, i * 3 + 2, none⟩ (.bool true)) T B (hs.set i hs[i].freed) ∧ Below B w (w.setCell ⟨gr, i * 3 + 2, none⟩ (.bool true)) ∧ KeepsBut [75] w (w.setCell ⟨gr, i * 3 + 2, none⟩ (.bool true)) ∧ ∃ gr' cr', w.cell? ⟨T, 0, none⟩ = some (.slice (some ⟨gr', 0, none⟩) hs.length cr') ∧ (w.setCell ⟨gr, i * 3 + 2, none⟩ (.bool true)).cell? ⟨T, 0, none⟩ = some (.slice (some ⟨gr', 0, none⟩) hs.length cr') ∧ Only [gr'] w (w.setCell ⟨gr, i * 3 + 2, none⟩ (.bool true))) := hide (by
    obtain ⟨v, hb, ho⟩ := ht.tab
    have ev : v = .slice (some ⟨gr, 0, none⟩) hs.length cr := by
      have e1 := hb.cell 0
      have e2 := hbT.cell 0
      rw [e1] at e2
      simpa using e2
    subst ev
    have hgr : ∃ c fz, w.heap[gr]? = some (.cells c 75 fz) := by
      rcases ho.2 with ⟨h1, _⟩ | ⟨g', cap, cur, hv, _, hh, _⟩
      · cases h1
      · injection hv with h1
        injection h1 with h1
        injection h1 with h1
        subst h1
        exact ⟨_, _, hh⟩
    obtain ⟨cg, fg, hgr⟩ := hgr
    have hne : T ≠ gr := by
      rintro rfl
      rw [show w.heap[T]? = _ from hb] at hgr
      injection hgr with hgr
      injection hgr with _ hgr
      exact absurd hgr (by decide)
    have keep : ∀ (j : Nat) (c : Array Value) (ty : TypeId) (fz : Nat × Nat), w.heap[j]? = some (.cells c ty fz) → ¬ ty ∈ [75] → (w.setCell ⟨gr, i * 3 + 2, none⟩ (.bool true)).heap[j]? = w.heap[j]? := fun j c ty fz hj hty => by
      refine Below.heap_setCell w ⟨gr, i * 3 + 2, none⟩ _ j fun e => hty ?_
      have e : j = gr := e
      subst e
      rw [hj] at hgr
      injection hgr with hgr
      injection hgr with _ hgr
      rw [hgr]
      exact List.mem_cons_self
    have hlen : (hs.set i hs[i].freed).length = hs.length := List.length_set
    refine ⟨⟨by rw [hlen]; exact ht.pos, by rw [hlen]; exact ht.le, ⟨_, hb.far (p := ⟨gr, i * 3 + 2, none⟩) hne _, ?_⟩, fun j hj => ?_⟩, (Below.refl B w).setCell (p := ⟨gr, i * 3 + 2, none⟩) hge _, ?_, ?_⟩
    · rw [heCs_free hs i hi, hlen]
      exact own_set ho (.bool true)
    · rw [hlen] at hj
      have hr := ht.rows j hj
      have hk : IRow (w.setCell ⟨gr, i * 3 + 2, none⟩ (.bool true)) hs[j].A hs[j].l := hr.1.keep fun g cs hh => keep g cs _ _ hh (by decide)
      rw [List.getElem_set]
      split
      · rename_i e
        subst e
        exact ⟨hk, hr.2⟩
      · exact ⟨hk, hr.2⟩
    · exact ⟨((Below.refl B w).setCell (p := ⟨gr, i * 3 + 2, none⟩) hge (.bool true)).size, keep⟩
    · exact ⟨gr, cr, hT, (hbT.far (p := ⟨gr, i * 3 + 2, none⟩) hne (.bool true)).cell 0, ((Below.refl B w).setCell (p := ⟨gr, i * 3 + 2, none⟩) hge (.bool true)).size, fun j _ hj => Below.heap_setCell w ⟨gr, i * 3 + 2, none⟩ _ j fun e => hj (by rw [show j = gr from e]; exact List.mem_cons_self)⟩)
  generalize hs.set i hs[i].freed = hs' at *
  clear ht hg hcr hge hfr hi hbT
  go_enter Tryd.func23, Tryd.ntmps23
  go_wp2_with fail
  refine AS.out.mono ?_
  rintro e w2 ⟨rfl, rfl⟩
  go_wp2_with fail
  go_ret
  exact ⟨rfl, FIN.out⟩
end Grp
end Go.Proofs.YtgiibknfkphkgaaDoor
