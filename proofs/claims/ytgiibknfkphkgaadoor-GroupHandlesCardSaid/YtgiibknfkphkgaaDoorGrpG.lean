/- A rank's handles, as the program keeps them: New. -/
import Derived.Test.YtgiibknfkphkgaaDoorRows
import Derived.Test.YtgiibknfkphkgaaDoorGrpF
namespace Go.Proofs.YtgiibknfkphkgaaDoor
open Go.RowKit
set_option linter.unusedVariables false
set_option linter.unusedSimpArgs false
namespace Grp
theorem IRow.of_blk {w : World} {g : Nat} {l : List Int} (h : Blk w g 3 (ints l).toArray) : IRow w (some ⟨g, 0, none⟩) l := ⟨g, _, rfl, h, fun i hi => by rw [List.getElem?_toArray]; exact ints_at hi⟩
theorem IRow.below {w w' : World} {A : Option Addr} {l : List Int} (h : IRow w A l) (hb : Below w.heap.size w w') : IRow w' A l := h.keep fun g cs hh => hb.block g (Array.getElem?_eq_some_iff.1 hh).1
set_option maxRecDepth 100000 in
set_option maxHeartbeats 2000000 in
theorem New_a (key : ByteArray) (A : Option Addr) (cap : Nat) (l : List Int) (w : World) (h : NRow w A l) (hl : l.length ≤ 1000) :
    Calls Tryd.prog 21 #[.agg #[.string key, .slice A l.length cap]] w fun e w' => (if mayL l then ∃ T A', e = .returned (.tuple #[.pointer (some ⟨T, 0, none⟩), .int .i64 0]) ∧ w.heap.size ≤ T ∧ TabA w' T w.heap.size [⟨key, A', l.length, l, false⟩] else e = .returned (.tuple #[.pointer none, .int .i64 2])) ∧ Below w.heap.size w w' := by
  have b1 := Blk.new w 24 #[.string key, .slice A l.length cap]
  have hb1 := (Below.refl w.heap.size w).alloc (Nat.le_refl _) (.cells #[.string key, .slice A l.length cap] 24)
  have hs1 : (w.alloc (.cells #[.string key, .slice A l.length cap] 24)).heap.size = w.heap.size + 1 := by simp
  obtain ⟨W1, hW1⟩ : ∃ W1, w.alloc (.cells #[.string key, .slice A l.length cap] 24) = W1 := ⟨_, rfl⟩
  rw [hW1] at b1 hb1 hs1
  have q0 : W1.cell? ⟨w.heap.size, 0, none⟩ = some (.string key) := b1.cell 0
  have q1 : W1.cell? ⟨w.heap.size, 1, none⟩ = some (.slice A l.length cap) := b1.cell 1
  have M := hide (May_a key A cap l W1 (h.below hb1) hl)
  have O := hide (fun w2 (hb2 : Below W1.heap.size W1 w2) (h0 : 0 < l.length) => own_a key A cap l w2 ((h.below hb1).below hb2) h0 hl)
  have HB := hide hb1
  have B1 := hide b1
  clear h b1 hb1
  by_cases hm : mayL l
  · rw [decide_eq_true hm] at M
    have HM := hide hm
    clear hm
    go_enter Tryd.func21, Tryd.ntmps21
    go_wp2_with fail
    refine M.out.mono ?_
    rintro e w2 ⟨rfl, hb2⟩
    have b2 := B1.out.below hb2 B1.out.lt
    have q0' : w2.cell? ⟨w.heap.size, 0, none⟩ = some (.string key) := b2.cell 0
    have q1' : w2.cell? ⟨w.heap.size, 1, none⟩ = some (.slice A l.length cap) := b2.cell 1
    have HB2 := hide (HB.out.trans (hb2.mono HB.out.size))
    have O2 := hide (O.out w2 hb2 (by have := HM.out.1; omega))
    clear hb2 b2 q0 q1
    go_wp2_with fail
    refine O2.out.mono ?_
    rintro e w3 ⟨g, rfl, hge, hbk, hb3⟩
    have hs3 := (HB2.out.trans (hb3.mono HB2.out.size)).size
    have HB3 := hide (HB2.out.trans (hb3.mono HB2.out.size))
    have G3 := hide hbk
    clear hbk hb3 q0' q1'
    go_wp2_with fail
    go_ret2
    have hb4 := (HB3.out.alloc hs3 (.cells #[.string key, .slice (some ⟨g, 0, none⟩) l.length l.length, .bool false] 75)).alloc (by simp; omega) (.cells #[.slice (some ⟨w3.heap.size, 0, none⟩) 1 1] 78)
    have r4 := (Blk.new w3 75 #[.string key, .slice (some ⟨g, 0, none⟩) l.length l.length, .bool false]).alloc (.cells #[.slice (some ⟨w3.heap.size, 0, none⟩) 1 1] 78)
    have t4 := Blk.new (w3.alloc (.cells #[.string key, .slice (some ⟨g, 0, none⟩) l.length l.length, .bool false] 75)) 78 #[.slice (some ⟨w3.heap.size, 0, none⟩) 1 1]
    have g4 := (G3.out.alloc (.cells #[.string key, .slice (some ⟨g, 0, none⟩) l.length l.length, .bool false] 75)).alloc (.cells #[.slice (some ⟨w3.heap.size, 0, none⟩) 1 1] 78)
    refine ⟨⟨w3.heap.size + 1, rfl, ?_, some ⟨g, 0, none⟩, ?_⟩, hb4⟩
    · omega
    · refine ⟨by simp, by simp, ⟨_, by simpa using t4, by simp [heCs, heC], .inr ⟨w3.heap.size, 1, _, rfl, hs3, r4, Nat.le_refl _, by unfold maxLen; omega, by simp, by simp [heCs, heC]⟩⟩, fun i hi => ?_⟩
      obtain rfl : i = 0 := by simpa using hi
      exact ⟨IRow.of_blk g4, HM.out⟩
  · rw [decide_eq_false hm] at M
    have HM := hide hm
    clear hm
    go_enter Tryd.func21, Tryd.ntmps21
    go_wp2_with fail
    refine M.out.mono ?_
    rintro e w2 ⟨rfl, hb2⟩
    have HB2 := hide (HB.out.trans (hb2.mono HB.out.size))
    clear hb2
    go_wp2_with fail
    go_ret2
    exact ⟨rfl, HB2.out⟩
end Grp
end Go.Proofs.YtgiibknfkphkgaaDoor
