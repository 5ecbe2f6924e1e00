/- A rank's handles, as the program keeps them: Many, asked, New. -/
import Derived.Test.YtgiibknfkphkgaaDoorRows
import Derived.Test.YtgiibknfkphkgaaDoorGrpE
namespace Go.Proofs.YtgiibknfkphkgaaDoor
open Go.RowKit
set_option linter.unusedVariables false
set_option linter.unusedSimpArgs false
namespace Grp
structure He where
  key : ByteArray
  A : Option Addr
  cap : Nat
  l : List Int
  gone : Bool
instance : Inhabited He := ⟨⟨⟨#[]⟩, none, 0, [], false⟩⟩
def heC (h : He) : List Value := [.string h.key, .slice h.A h.l.length h.cap, .bool h.gone]
def heCs (l : List He) : List Value := l.flatMap heC
theorem heCs_cons (t : He) (l : List He) : heCs (t :: l) = heC t ++ heCs l := rfl
theorem heCs_app (a b : List He) : heCs (a ++ b) = heCs a ++ heCs b := by simp [heCs]
theorem heC_len (t : He) : (heC t).length = 3 := rfl
theorem heCs_len : ∀ l : List He, (heCs l).length = l.length * 3
  | [] => rfl
  | t :: l => by rw [heCs_cons, List.length_append, heCs_len l, heC_len, List.length_cons]; omega
theorem heCs_at : ∀ (l : List He) (i : Nat) (hi : i < l.length) (j : Nat), j < 3 → (heCs l)[i * 3 + j]? = (heC l[i])[j]?
  | t :: l, 0, _, j, hj => by
    rw [heCs_cons, List.getElem?_append_left (by rw [heC_len]; omega)]
    simp
  | t :: l, i + 1, hi, j, hj => by
    have e : (i + 1) * 3 + j = (heC t).length + (i * 3 + j) := by rw [heC_len]; omega
    rw [heCs_cons, e, List.getElem?_append_right (by omega), Nat.add_sub_cancel_left]
    exact heCs_at l i (by simpa using hi) j hj
/-- A row of ints that lies in a block of its own. -/
def IRow (w : World) (A : Option Addr) (l : List Int) : Prop := ∃ g cs, A = some ⟨g, 0, none⟩ ∧ w.heap[g]? = some (.cells cs 3 (0, 0)) ∧ ∀ i, i < l.length → cs[i]? = some (.int .i64 (l.getD i 0))
theorem add_lit (g n : Nat) : (⟨g, 0, none⟩ : Addr).add n = ⟨g, n, none⟩ := by unfold Addr.add; split <;> simp_all
theorem IRow.nrow {w : World} {A : Option Addr} {l : List Int} (h : IRow w A l) : NRow w A l := fun _ => by
  obtain ⟨g, cs, rfl, hh, hc⟩ := h
  refine ⟨_, rfl, (Array.getElem?_eq_some_iff.1 hh).1, fun i hi => ?_⟩
  rw [add_lit, Blk.cell (show Blk w g _ cs from hh)]
  exact hc i hi
theorem IRow.keep {w w' : World} {A : Option Addr} {l : List Int} (h : IRow w A l) (hk : ∀ (g : Nat) (cs : Array Value), w.heap[g]? = some (.cells cs 3 (0, 0)) → w'.heap[g]? = w.heap[g]?) : IRow w' A l := by
  obtain ⟨g, cs, rfl, hh, hc⟩ := h
  exact ⟨g, cs, rfl, (hk g cs hh).trans hh, hc⟩
/-- The program's table at block T, its row of handles at a block from B on. -/
structure TabA (w : World) (T B : Nat) (hs : List He) : Prop where
  pos : 0 < hs.length
  le : hs.length ≤ 32
  tab : ∃ v, Blk w T 78 #[v] ∧ w.ownsRow B 75 3 v hs.length (heCs hs)
  rows : ∀ i (h : i < hs.length), IRow w hs[i].A hs[i].l ∧ mayL hs[i].l
theorem TabA.open_ {w : World} {T B : Nat} {hs : List He} (h : TabA w T B hs) : ∃ g c, Blk w T 78 #[.slice (some ⟨g, 0, none⟩) hs.length c] ∧ B ≤ g ∧ g < w.heap.size ∧ (∀ k, w.frozen? ⟨g, k, none⟩ = false) ∧ ∀ i (hi : i < hs.length), w.cell? ⟨g, i * 3, none⟩ = some (.string hs[i].key) ∧ w.cell? ⟨g, i * 3 + 1, none⟩ = some (.slice hs[i].A hs[i].l.length hs[i].cap) ∧ w.cell? ⟨g, i * 3 + 2, none⟩ = some (.bool hs[i].gone) := by
  obtain ⟨v, hb, ho⟩ := h.tab
  have hp := h.pos
  rcases ho.2 with ⟨_, h0⟩ | ⟨g, cap, cur, rfl, hge, hh, hnc, _, hcs, htk⟩
  · omega
  · have hB : Blk w g _ cur := hh
    refine ⟨g, cap, hb, hge, hB.lt, hB.frozen, fun i hi => ?_⟩
    have hc : ∀ j u, j < 3 → (heC hs[i])[j]? = some u → w.cell? ⟨g, i * 3 + j, none⟩ = some u := fun j u hj hu => by
      have e := heCs_at hs i hi j hj
      rw [hu, ← htk, List.getElem?_take] at e
      split at e
      · rw [hB.cell]
        simpa using e
      · cases e
    exact ⟨hc 0 _ (by omega) rfl, hc 1 _ (by omega) rfl, hc 2 _ (by omega) rfl⟩
set_option maxRecDepth 100000 in
theorem Many_a (T : Nat) (A : Option Addr) (n c : Nat) (w : World) (h : w.cell? ⟨T, 0, none⟩ = some (.slice A n c)) :
    Calls Tryd.prog 36 #[.pointer (some ⟨T, 0, none⟩)] w fun e w' => e = .returned (.int .i64 n) ∧ w = w' := by
  go_enter Tryd.func36, Tryd.ntmps36
  go_wp2_with fail
  go_ret
  exact ⟨rfl, rfl⟩
/-- What is told of a handle. -/
def askC (hs : List He) (h : Int) : Int := if 0 ≤ h ∧ h < hs.length ∧ (hs.getD h.toNat default).gone = false then 0 else 110
set_option maxRecDepth 100000 in
set_option maxHeartbeats 2000000 in
theorem asked_a (T B : Nat) (hs : List He) (h : Int) (w : World) (ht : TabA w T B hs) :
    Calls Tryd.prog 37 #[.pointer (some ⟨T, 0, none⟩), .int .i64 h] w fun e w' => e = .returned (.int .i64 (askC hs h)) ∧ w = w' := by
  obtain ⟨g, c, hb, hge, hlt, hfr, hc⟩ := ht.open_
  have hpos := ht.pos
  have hcell : w.cell? ⟨T, 0, none⟩ = some (.slice (some ⟨g, 0, none⟩) hs.length c) := hb.cell 0
  have M := hide (Many_a T (some ⟨g, 0, none⟩) hs.length c w hcell)
  have hn0 : ((hs.length : Int) == 0) = false := by
    have : ¬ (hs.length : Int) = 0 := by omega
    simpa using this
  have HC := hide hc
  have HP := hide hpos
  clear ht hb hge hfr hc hpos
  by_cases h0 : h < 0
  · have e : askC hs h = 110 := by unfold askC; rw [if_neg (by omega)]
    rw [e]
    clear e
    go_enter Tryd.func37, Tryd.ntmps37
    go_wp2_with fail
    refine M.out.mono ?_
    rintro e w1 ⟨rfl, rfl⟩
    go_wp2_with fail
    go_ret
    exact ⟨rfl, rfl⟩
  by_cases h1 : (hs.length : Int) ≤ h
  · have e : askC hs h = 110 := by unfold askC; rw [if_neg (by omega)]
    rw [e]
    clear e
    go_enter Tryd.func37, Tryd.ntmps37
    go_wp2_with fail
    refine M.out.mono ?_
    rintro e w1 ⟨rfl, rfl⟩
    go_wp2_with fail
    refine M.out.mono ?_
    rintro e w1 ⟨rfl, rfl⟩
    go_wp2_with fail
    go_ret
    exact ⟨rfl, rfl⟩
  obtain ⟨i, rfl⟩ := Int.eq_ofNat_of_zero_le (show 0 ≤ h by omega)
  have hi : i < hs.length := by omega
  have hiI : (i : Int) < (hs.length : Int) := by omega
  have hg := (HC.out i hi).2.2
  have e : askC hs (i : Int) = if hs[i].gone = false then 0 else 110 := by
    unfold askC
    have e1 : (hs.getD (i : Int).toNat default) = hs[i] := by simp [hi]
    rw [e1]
    by_cases hgn : hs[i].gone = false
    · rw [if_pos ⟨by omega, by omega, hgn⟩, if_pos hgn]
    · rw [if_neg (fun h => hgn h.2.2), if_neg hgn]
  rw [e]
  clear e HC
  generalize hs[i].gone = gn at *
  have HI := hide hi
  clear hi
  cases gn
  all_goals
    go_enter Tryd.func37, Tryd.ntmps37
    go_wp2_with fail
    refine M.out.mono ?_
    rintro e w1 ⟨rfl, rfl⟩
    go_wp2_with fail
    refine M.out.mono ?_
    rintro e w1 ⟨rfl, rfl⟩
    go_wp2_with fail
    go_ret
    exact ⟨rfl, rfl⟩
end Grp
end Go.Proofs.YtgiibknfkphkgaaDoor
