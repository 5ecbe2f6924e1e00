/- A rank's handles, as the reference keeps them: Free. -/
import Derived.Test.YteddfedeghchgaaRows
import Derived.Test.YteddfedeghchgaaGrpK
namespace Go.Proofs.Yteddfedeghchgaa
open Go.RowKit
set_option linter.unusedVariables false
set_option linter.unusedSimpArgs false
theorem KeepsBut.of_below {tys : List TypeId} {w w' : World} (h : Below w.heap.size w w') : KeepsBut tys w w' := ⟨h.size, fun j c ty fz hj _ => h.block j (Array.getElem?_eq_some_iff.1 hj).1⟩
theorem KeepsBut.trans {tys : List TypeId} {a b c : World} (h : KeepsBut tys a b) (k : KeepsBut tys b c) : KeepsBut tys a c :=
  ⟨Nat.le_trans h.1 k.1, fun j cs ty fz hj hty => (k.2 j cs ty fz ((h.2 j cs ty fz hj hty).trans hj) hty).trans (h.2 j cs ty fz hj hty)⟩
namespace Grp
theorem gnC_free (hs : List He) (i : Nat) (hi : i < hs.length) : gnC (hs.set i (hs[i]'hi).freed) = (gnC hs).set i (.bool true) := by
  unfold gnC
  rw [List.map_set]
  rfl
theorem hgCs_free : ∀ (hs : List He) (i : Nat) (hi : i < hs.length), hgCs (hs.set i (hs[i]'hi).freed) = hgCs hs
  | t :: l, 0, _ => rfl
  | t :: l, i + 1, hi => by
    have ih := hgCs_free l i (by simpa using hi)
    rw [List.set_cons_succ, hgCs_cons, hgCs_cons]
    simp only [List.getElem_cons_succ]
    rw [ih]
theorem TabB.free {w : World} {U B g2 c2 : Nat} {v : Value} {hs : List He} {i : Nat} (hi : i < hs.length) (ht : TabB w U B hs) (hb : Blk w U 53 #[v, .slice (some ⟨g2, 0, none⟩) hs.length c2]) (hge : B ≤ g2) :
    TabB (w.setCell ⟨g2, i, none⟩ (.bool true)) U B (hs.set i (hs[i]'hi).freed) ∧ Below B w (w.setCell ⟨g2, i, none⟩ (.bool true)) ∧ KeepsBut [4] w (w.setCell ⟨g2, i, none⟩ (.bool true)) := by
  obtain ⟨v', u', hb', ho, ho2⟩ := ht.tab
  have ev : v' = v ∧ u' = .slice (some ⟨g2, 0, none⟩) hs.length c2 := by
    have e1 := hb'.cell 0
    have e2 := hb.cell 0
    have e3 := hb'.cell 1
    have e4 := hb.cell 1
    rw [e1] at e2
    rw [e3] at e4
    exact ⟨by simpa using e2, by simpa using e4⟩
  obtain ⟨rfl, rfl⟩ := ev
  have hgr : ∃ c fz, w.heap[g2]? = some (.cells c 4 fz) := by
    rcases ho2.2 with ⟨h1, _⟩ | ⟨g', cap, cur, hv, _, hh, _⟩
    · cases h1
    · injection hv with h1
      injection h1 with h1
      injection h1 with h1
      subst h1
      exact ⟨_, _, hh⟩
  obtain ⟨cg, fg, hgr⟩ := hgr
  have keep : ∀ (j : Nat) (c : Array Value) (ty : TypeId) (fz : Nat × Nat), w.heap[j]? = some (.cells c ty fz) → ¬ ty ∈ [4] → (w.setCell ⟨g2, i, none⟩ (.bool true)).heap[j]? = w.heap[j]? := fun j c ty fz hj hty => by
    refine Below.heap_setCell w ⟨g2, i, none⟩ _ j fun e => hty ?_
    have e : j = g2 := e
    subst e
    rw [hj] at hgr
    injection hgr with hgr
    injection hgr with _ hgr
    rw [hgr]
    exact List.mem_cons_self
  have kb : KeepsBut [4] w (w.setCell ⟨g2, i, none⟩ (.bool true)) := ⟨((Below.refl B w).setCell (p := ⟨g2, i, none⟩) hge (.bool true)).size, keep⟩
  have hlen : (hs.set i (hs[i]'hi).freed).length = hs.length := List.length_set
  refine ⟨⟨by rw [hlen]; exact ht.pos, by rw [hlen]; exact ht.le, ⟨_, _, (keep U _ _ _ hb' (by decide)).trans hb', ?_, ?_⟩, fun j hj => ?_⟩, (Below.refl B w).setCell (p := ⟨g2, i, none⟩) hge _, kb⟩
  · rw [hgCs_free hs i hi, hlen]
    exact KeepsBut.own kb ho (by decide)
  · rw [gnC_free hs i hi, hlen]
    exact own_set ho2 (.bool true)
  · rw [hlen] at hj
    have hr := ht.rows j hj
    have hk : IRow (w.setCell ⟨g2, i, none⟩ (.bool true)) (hs[j]'hj).A (hs[j]'hj).l := hr.1.keep fun g cs hh => keep g cs _ _ hh (by decide)
    rw [List.getElem_set]
    split
    · rename_i e
      subst e
      exact ⟨hk, hr.2⟩
    · exact ⟨hk, hr.2⟩
set_option maxRecDepth 100000 in
set_option maxHeartbeats 2000000 in
theorem FreeB_no (U B : Nat) (hs : List He) (h : Int) (w : World) (ht : TabB w U B hs) (ha : askC hs h = 110) :
    Calls Try.prog 13 #[.pointer (some ⟨U, 0, none⟩), .int .i64 h] w fun e w' => e = .returned (.int .i64 110) ∧ Below w.heap.size w w' := by
  have AT := hide (AtB_no U B hs h w ht ha)
  clear ht ha
  go_enter Try.func13, Try.ntmps13
  go_wp2_with fail
  refine AT.out.mono ?_
  rintro e w2 ⟨rfl, hb2⟩
  go_wp2_with fail
  go_ret
  exact ⟨rfl, hb2.alloc hb2.size _⟩
set_option maxRecDepth 100000 in
set_option maxHeartbeats 2000000 in
theorem FreeB_yes (U B : Nat) (hs : List He) (i : Nat) (hi : i < hs.length) (w : World) (ht : TabB w U B hs) (hB : B ≤ w.heap.size) (hg : (hs[i]'hi).gone = false) :
    Calls Try.prog 13 #[.pointer (some ⟨U, 0, none⟩), .int .i64 i] w fun e w' => e = .returned (.int .i64 0) ∧ TabB w' U B (hs.set i (hs[i]'hi).freed) ∧ Below B w w' ∧ KeepsBut [4] w w' := by
  have AT := hide (AtB_yes U B hs i hi w ht hg)
  have HT := hide ht
  have hiI : (i : Int) < (hs.length : Int) := by omega
  have HI : Hid (∀ (w2 : World) (g2 c2 : Nat) (v : Value), TabB w2 U B hs → Blk w2 U 53 #[v, .slice (some ⟨g2, 0, none⟩) hs.length c2] → B ≤ g2 → TabB (w2.setCell ⟨g2, i, none⟩ (.bool true)) U B (hs.set i (hs[i]'hi).freed) ∧ Below B w2 (w2.setCell ⟨g2, i, none⟩ (.bool true)) ∧ KeepsBut [4] w2 (w2.setCell ⟨g2, i, none⟩ (.bool true))) := hide fun w2 g2 c2 v h1 h2 h3 => h1.free hi h2 h3
  have CC := hide (fun (w2 : World) (h2 : TabB w2 U B hs) => h2.open_)
  have HII := hide hi
  generalize hs.set i (hs[i]'hi).freed = hs' at *
  generalize (hs[i]'hi).l = l at *
  generalize (hs[i]'hi).key = key at *
  clear ht hg
  go_enter Try.func13, Try.ntmps13
  go_wp2_with fail
  refine AT.out.mono ?_
  rintro e w0 ⟨v, rfl, ho, hb0⟩
  obtain ⟨a9, c9, rfl⟩ := own_form ho
  have hb2 := hb0.alloc hb0.size (.cells #[.string key, .slice a9 l.length c9] 24)
  obtain ⟨w2, hw2⟩ : ∃ w2, w0.alloc (.cells #[.string key, .slice a9 l.length c9] 24) = w2 := ⟨_, rfl⟩
  rw [hw2] at hb2
  have ht2 := HT.out.below hb2
  obtain ⟨g, c, g2, c2, hU, hge, hlt, hge2, hlt2, hfr, hcc⟩ := CC.out w2 ht2
  have u1 : w2.cell? ⟨U, 1, none⟩ = some (.slice (some ⟨g2, 0, none⟩) hs.length c2) := hU.cell 1
  have k2 := (hcc i hi).2.2
  have f2 := hfr i
  have FIN := hide (HI.out w2 g2 c2 _ ht2 hU hge2)
  have HB2 := hide hb2
  generalize (hs[i]'hi).gone = gn at *
  clear ho hb0 hb2 ht2 hU hcc hfr hge hlt hge2 hlt2 hi
  go_wp2_with fail
  go_ret
  exact ⟨rfl, FIN.out.1, (HB2.out.mono hB).trans FIN.out.2.1, (KeepsBut.of_below HB2.out).trans FIN.out.2.2⟩
end Grp
end Go.Proofs.Yteddfedeghchgaa
