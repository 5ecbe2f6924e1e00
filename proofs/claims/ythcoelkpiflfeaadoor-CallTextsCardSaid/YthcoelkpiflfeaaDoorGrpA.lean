/- Whether a group may be: the program's May. -/
import Derived.Test.YthcoelkpiflfeaaDoorRows
import Derived.Test.YthcoelkpiflfeaaDoorGrpP
import Derived.Deep.CutRange
namespace Go.Proofs.YthcoelkpiflfeaaDoor
open Go.RowKit
set_option linter.unusedVariables false
set_option linter.unusedSimpArgs false
namespace Grp
/-- A row of ints that is read. -/
def NRow (w : World) (A : Option Addr) (zs : List Int) : Prop := 0 < zs.length → ∃ a, A = some a ∧ a.block < w.heap.size ∧ ∀ i, i < zs.length → w.cell? (a.add i) = some (.int .i64 (zs.getD i 0))
theorem NRow.below {w w' : World} {A : Option Addr} {zs : List Int} (h : NRow w A zs) (hb : Below w.heap.size w w') : NRow w' A zs := fun h0 => by
  obtain ⟨a, rfl, ha, hc⟩ := h h0
  exact ⟨a, rfl, Nat.lt_of_lt_of_le ha hb.size, fun i hi => (hb.cell (p := a.add i) (by rw [block_of_add]; exact ha)).trans (hc i hi)⟩
set_option maxRecDepth 100000 in
set_option maxHeartbeats 4000000 in
theorem May_a (key : ByteArray) (A : Option Addr) (cap : Nat) (l : List Int) (w : World) (h : NRow w A l) (hl : l.length ≤ 1000) :
    Calls Tryd.prog 18 #[.agg #[.string key, .slice A l.length cap]] w fun e w' => e = .returned (.bool (decide (mayL l))) ∧ Below w.heap.size w w' := by
  have bk := Blk.new w 37 #[.string key, .slice A l.length cap]
  have hb1 := (Below.refl w.heap.size w).alloc (Nat.le_refl _) (.cells #[.string key, .slice A l.length cap] 37)
  have hs1 : (w.alloc (.cells #[.string key, .slice A l.length cap] 37)).heap.size = w.heap.size + 1 := by simp
  obtain ⟨W1, hW1⟩ : ∃ W1, w.alloc (.cells #[.string key, .slice A l.length cap] 37) = W1 := ⟨_, rfl⟩
  rw [hW1] at bk hb1 hs1
  have q1 : W1.cell? ⟨w.heap.size, 1, none⟩ = some (.slice A l.length cap) := bk.cell 1
  have HB := hide hb1
  have H := hide h
  have BK := hide bk
  have HS1 := hide hs1
  clear hb1 h bk hs1
  by_cases h1 : l.length < 1
  · have hd : decide (mayL l) = false := decide_eq_false fun hm => by have := hm.1; omega
    have e1 : (l.length : Int) < 1 := by omega
    rw [hd]
    have HL := hide h1
    clear hd h1
    go_enter Tryd.func18, Tryd.ntmps18
    go_wp2_with fail
    go_ret
    exact ⟨rfl, HB.out⟩
  by_cases h2 : 64 < l.length
  · have hd : decide (mayL l) = false := decide_eq_false fun hm => by have := hm.2.1; omega
    have e1 : ¬ (l.length : Int) < 1 := by omega
    have e2 : (64 : Int) < (l.length : Int) := by omega
    rw [hd]
    have HL := hide h1
    have HL2 := hide h2
    clear hd h1 h2
    go_enter Tryd.func18, Tryd.ntmps18
    go_wp2_with fail
    go_ret
    exact ⟨rfl, HB.out⟩
  have e1 : ¬ (l.length : Int) < 1 := by omega
  have e2 : ¬ (64 : Int) < (l.length : Int) := by omega
  have HL := hide (show 1 ≤ l.length ∧ l.length ≤ 64 by omega)
  have NR := hide (fun k hk hz => @not_ok_range l k hk hz)
  have NT := hide (fun k hk hz => @not_ok_twice l k hk hz)
  have TS := hide (fun k hk => take_snoc l k hk)
  have YES : Hid (okL (l.take l.length) → decide (mayL l) = true) := hide fun ho => decide_eq_true ⟨by omega, by omega, by rwa [List.take_length] at ho⟩
  have NO : Hid (¬ mayL l → decide (mayL l) = false) := hide fun hn => decide_eq_false hn
  generalize decide (mayL l) = res at *
  clear h1 h2 hl
  go_enter Tryd.func18, Tryd.ntmps18
  go_upto_region 4 with (fail)
  rw [show (#[.bool false, .bool false, .bool false, .bool false, .bool false, .bool false, .bool false, .bool false, .bool false, .bool false, .bool false, .bool false, .bool false, .bool false, .bool false, .bool false, .bool false, .bool false, .bool false, .bool false, .bool false, .bool false, .bool false, .bool false, .bool false, .bool false, .bool false, .bool false, .bool false, .bool false, .bool false, .bool false, .bool false, .bool false, .bool false, .bool false, .bool false, .bool false, .bool false, .bool false, .bool false, .bool false, .bool false, .bool false, .bool false, .bool false, .bool false, .bool false, .bool false, .bool false, .bool false, .bool false, .bool false, .bool false, .bool false, .bool false, .bool false, .bool false, .bool false, .bool false, .bool false, .bool false, .bool false, .bool false] : Array Value) = thC [] from rfl]
  have th := Blk.new W1 78 (thC [])
  have hb2 := HB.out.alloc (by have := HS1.out; omega) (.cells (thC []) 78)
  have bk2 := BK.out.alloc (.cells (thC []) 78)
  rw [HS1.out] at th
  generalize W1.alloc (.cells (thC []) 78) = W2 at *
  have HB2 := hide hb2
  have TH := hide th
  have q1 : W2.cell? ⟨w.heap.size, 1, none⟩ = some (.slice A l.length cap) := bk2.cell 1
  have hs1 := HS1.out
  clear hb2 th bk2
  go_wp2_with fail
  go_loopw [19] (fun vi wr => ∃ (k : Nat), k ≤ l.length ∧ vi = .int .i64 k ∧ Hid (okL (l.take k)) ∧ Hid (Blk wr (w.heap.size + 1) 78 (thC (l.take k))) ∧ Hid (Below w.heap.size w wr)) (fun vi _ => l.length - (intOf vi).toNat)
  case atStart => exact ⟨0, by omega, rfl, hide okL_nil, TH, HB2⟩
  case round =>
    obtain ⟨k, hk, rfl, HO, HT, HBr⟩ := hrel
    by_cases hlt : k < l.length
    · obtain ⟨a, rfl, ha, hc⟩ := H.out.below HBr.out (by omega)
      have hck := hc k hlt
      have hltI : (k : Int) < (l.length : Int) := by omega
      have NRk := hide (NR.out k hlt)
      have NTk := hide (NT.out k hlt)
      have TSk := hide (TS.out k hlt)
      clear hc
      generalize l.getD k 0 = z at *
      by_cases z0 : z < 0
      · have R : res = false := NO.out (NRk.out (by omega))
        subst R
        go_wp2_with fail
        go_ret
        exact ⟨rfl, HBr.out⟩
      by_cases z1 : 64 ≤ z
      · have R : res = false := NO.out (NRk.out (by omega))
        subst R
        go_wp2_with fail
        go_ret
        exact ⟨rfl, HBr.out⟩
      obtain ⟨j, rfl⟩ := Int.eq_ofNat_of_zero_le (show 0 ≤ z by omega)
      have hj : j < 64 := by omega
      have hjI : (j : Int) < 64 := by omega
      have hcell := (HT.out.cell j).trans (thC_at _ j hj)
      have hfr := HT.out.frozen j
      by_cases hm : (j : Int) ∈ l.take k
      · have R : res = false := NO.out (NTk.out hm)
        subst R
        rw [decide_eq_true hm] at hcell
        have HM := hide hm
        clear z0 z1 hm
        go_wp2_with fail
        go_ret
        exact ⟨rfl, HBr.out⟩
      · rw [decide_eq_false hm] at hcell
        have HO2 : Hid (okL (l.take (k + 1))) := hide (by rw [TSk.out]; exact okL_snoc HO.out ⟨by omega, by omega⟩ hm)
        have HM := hide hm
        clear z0 z1 hm
        go_wp2_with fail
        go_roundw
        case rel => exact ⟨k + 1, by omega, by go_num, HO2, hide (by rw [TSk.out, ← thC_set _ j hj]; exact HT.out.set_ j _), hide (HBr.out.setCell (p := ⟨w.heap.size + 1, j, none⟩) (by show w.heap.size ≤ w.heap.size + 1; omega) _)⟩
        case measure => simp [intOf]; omega
    · have hk2 : k = l.length := by omega
      have HO2 := HO.out
      rw [hk2] at HO2
      have R : res = true := YES.out HO2
      have hltI : ¬ (k : Int) < (l.length : Int) := by omega
      subst R
      clear HO2 hk2
      go_wp2_with fail
      go_ret
      exact ⟨rfl, HBr.out⟩
end Grp
end Go.Proofs.YthcoelkpiflfeaaDoor
