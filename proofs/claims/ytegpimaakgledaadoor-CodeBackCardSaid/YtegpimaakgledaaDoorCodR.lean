/- The chapter's examples: awake. -/
import Derived.Test.YtegpimaakgledaaDoorRows
import Derived.Test.YtegpimaakgledaaDoorCodO
namespace Go.Proofs.YtegpimaakgledaaDoor
open Go Go.RowKit
set_option linter.unusedVariables false
set_option linter.unusedSimpArgs false
namespace Cod
set_option maxRecDepth 100000 in
set_option maxHeartbeats 8000000 in
theorem awake_c (w : World) (H : Ops w) (hp : Pow w) :
    Calls Tryd.prog 21 #[] w fun e w' => e = .returned (.bool true) ∧ Below w.heap.size w w' := by
  have HO := hide H
  have HP := hide hp
  have R1 := hide (fun w' => row1 w')
  have R2 := hide (fun w' => row2 w')
  have R3 := hide (fun w' => row3 w')
  have HT := hide heights1
  have TX := hide text1
  have M2 := hide may2
  have M3 := hide may3
  clear H hp
  have hb1 := (Below.refl w.heap.size w).alloc (Nat.le_refl _) (.cells #[.int .i64 1, .int .i64 7, .int .i64 3, .int .i64 0, .int .i64 29, .int .i64 0] 2)
  have HB1 := hide hb1
  clear hb1
  go_enter Tryd.func21, Tryd.ntmps21
  go_wp2_with fail
  refine (R1.out w).mono ?_
  rintro e w2 ⟨C, cc, rfl, ⟨hC, _⟩, hb2⟩
  have HB2 := hide (HB1.out.trans (hb2.mono HB1.out.size))
  have HC := hide hC
  clear hb2 hC HB1
  have hb3 := HB2.out.alloc HB2.out.size (.cells #[.slice C 3 cc, .int .i64 1, .slice none 0 0] 25)
  have hl3 := (Below.refl w2.heap.size w2).alloc (Nat.le_refl _) (.cells #[.slice C 3 cc, .int .i64 1, .slice none 0 0] 25)
  have k3 := Blk.new w2 25 #[.slice C 3 cc, .int .i64 1, .slice none 0 0]
  have HC3 := hide (HC.out.below hl3)
  have HB3 := hide hb3
  have K3 := hide k3
  clear hb3 hl3 k3 HC
  go_upto_region 3 with (fail)
  obtain ⟨w3, hw3⟩ : ∃ z, w2.alloc (.cells #[.slice C 3 cc, .int .i64 1, .slice none 0 0] 25) = z := ⟨_, rfl⟩
  rw [hw3] at HC3 HB3 K3 ⊢
  clear hw3
  have HO3 := hide (HO.out.below HB3.out (Nat.le_refl _))
  have HP3 := hide (HP.out.below HB3.out (Nat.le_refl _))
  have p0 : w3.cell? ⟨w2.heap.size, 0, none⟩ = some (.slice C 3 cc) := K3.out.cell 0
  have p1 : w3.cell? ⟨w2.heap.size, 1, none⟩ = some (.int .i64 1) := K3.out.cell 1
  have p2 : w3.cell? ⟨w2.heap.size, 2, none⟩ = some (.slice none 0 0) := K3.out.cell 2
  go_wp2_with fail
  refine (HT.out C cc w3 HC3.out HO3.out).mono ?_
  rintro e w4 ⟨⟨g, rfl, hg, hgb⟩, hb4⟩
  have HG := hide hgb
  have HB4 := hide (HB3.out.trans (hb4.mono HB3.out.size))
  have HC4 := hide (HC3.out.below hb4)
  have HO4 := hide (HO3.out.below hb4 (Nat.le_refl _))
  have HP4 := hide (HP3.out.below hb4 (Nat.le_refl _))
  have K4 := hide (K3.out.below hb4 K3.out.lt)
  clear p0 p1 p2 hgb hb4 hg HT R1
  have p0 : w4.cell? ⟨w2.heap.size, 0, none⟩ = some (.slice C 3 cc) := K4.out.cell 0
  have p1 : w4.cell? ⟨w2.heap.size, 1, none⟩ = some (.int .i64 1) := K4.out.cell 1
  have p2 : w4.cell? ⟨w2.heap.size, 2, none⟩ = some (.slice none 0 0) := K4.out.cell 2
  go_wp2_with fail
  refine (TX.out C cc w4 HC4.out HO4.out HP4.out).mono ?_
  rintro e w5 ⟨rfl, hb5⟩
  have HB5 := hide (HB4.out.trans (hb5.mono HB4.out.size))
  have HO5 := hide (HO4.out.below hb5 (Nat.le_refl _))
  have hG5 := HG.out.below hb5 HG.out.lt
  have g0 : w5.cell? ⟨g, 0, none⟩ = some (.int .i64 0) := hG5.cell 0
  have g1 : w5.cell? ⟨g, 1, none⟩ = some (.int .i64 1) := hG5.cell 1
  have g2 : w5.cell? ⟨g, 2, none⟩ = some (.int .i64 0) := hG5.cell 2
  clear p0 p1 p2 hb5 hG5 TX HG K3 K4 HC3 HC4 HP3 HP4 HO3 HO4
  go_wp2_with fail
  refine (R2.out w5).mono ?_
  rintro e w6 ⟨C2, cc2, rfl, ⟨hC, _⟩, hb6⟩
  have hb5 := HB5.out.alloc HB5.out.size (.cells #[.int .i64 13, .int .i64 0, .int .i64 29, .int .i64 0] 2)
  have HB6 := hide (hb5.trans (hb6.mono hb5.size))
  have HC6 := hide hC
  have HO6 := hide (HO.out.below HB6.out (Nat.le_refl _))
  clear hb5 hb6 hC g0 g1 g2
  go_wp2_with fail
  refine (M2.out C2 cc2 w6 HC6.out HO6.out).mono ?_
  rintro e w7 ⟨rfl, hb7⟩
  have HB7 := hide (HB6.out.trans (hb7.mono HB6.out.size))
  clear hb7 M2 R2
  go_wp2_with fail
  refine (R3.out w7).mono ?_
  rintro e w8 ⟨C3, cc3, rfl, ⟨hC, _⟩, hb8⟩
  have hb7 := HB7.out.alloc HB7.out.size (.cells #[.int .i64 22, .int .i64 0] 2)
  have HB8 := hide (hb7.trans (hb8.mono hb7.size))
  have HC8 := hide hC
  have HO8 := hide (HO.out.below HB8.out (Nat.le_refl _))
  clear hb7 hb8 hC
  go_wp2_with fail
  refine (M3.out C3 cc3 w8 HC8.out HO8.out).mono ?_
  rintro e w9 ⟨rfl, hb9⟩
  have HB9 := hide (HB8.out.trans (hb9.mono HB8.out.size))
  clear hb9 M3 R3
  go_wp2_with fail
  go_ret
  exact ⟨rfl, HB9.out⟩
end Cod
end Go.Proofs.YtegpimaakgledaaDoor
