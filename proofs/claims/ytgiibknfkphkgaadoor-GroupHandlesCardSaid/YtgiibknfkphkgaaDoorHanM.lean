/- Add, where nothing is added: of both tables. -/
import Derived.Test.YtgiibknfkphkgaaDoorRows
import Derived.Test.YtgiibknfkphkgaaDoorHanI
namespace Go.Proofs.YtgiibknfkphkgaaDoor
open Go.RowKit
set_option linter.unusedVariables false
set_option linter.unusedSimpArgs false
namespace Grp
/-- What Add answers where it adds nothing. -/
def addE (hs : List He) (l : List Int) : Int := if mayL l then 4 else 2
set_option maxRecDepth 100000 in
set_option maxHeartbeats 2000000 in
theorem Add_no (T B : Nat) (hs : List He) (key : ByteArray) (A : Option Addr) (cap : Nat) (l : List Int) (w : World) (ht : TabA w T B hs) (h : NRow w A l) (hl : l.length ≤ 1000) (hno : ¬ mayL l ∨ hs.length = 32) :
    Calls Tryd.prog 22 #[.pointer (some ⟨T, 0, none⟩), .agg #[.string key, .slice A l.length cap]] w fun e w' => e = .returned (.tuple #[.int .i64 0, .int .i64 (addE hs l)]) ∧ Below w.heap.size w w' := by
  have b1 := Blk.new w 24 #[.string key, .slice A l.length cap]
  have hb1 := (Below.refl w.heap.size w).alloc (Nat.le_refl _) (.cells #[.string key, .slice A l.length cap] 24)
  obtain ⟨W1, hW1⟩ : ∃ W1, w.alloc (.cells #[.string key, .slice A l.length cap] 24) = W1 := ⟨_, rfl⟩
  rw [hW1] at b1 hb1
  have q0 : W1.cell? ⟨w.heap.size, 0, none⟩ = some (.string key) := b1.cell 0
  have q1 : W1.cell? ⟨w.heap.size, 1, none⟩ = some (.slice A l.length cap) := b1.cell 1
  have ht1 := ht.below hb1
  obtain ⟨gr, cr, hbT, _, _, _, _⟩ := ht1.open_
  have MN := hide (Many_a T (some ⟨gr, 0, none⟩) hs.length cr W1 (hbT.cell 0))
  have MN2 := hide (fun w2 (hb2 : Below W1.heap.size W1 w2) => Many_a T (some ⟨gr, 0, none⟩) hs.length cr w2 ((hbT.below hb2 hbT.lt).cell 0))
  have M := hide (May_a key A cap l W1 (h.below hb1) hl)
  have hpos := ht.pos
  have hn0 : ((hs.length : Int) == 0) = false := by
    have : ¬ (hs.length : Int) = 0 := by omega
    simpa using this
  have HP := hide hpos
  have HB := hide hb1
  clear b1 hb1 ht ht1 hbT h hpos
  by_cases hm : mayL l
  · have h32 : hs.length = 32 := hno.resolve_left fun hn => hn hm
    have E : addE hs l = 4 := by unfold addE; rw [if_pos hm]
    rw [E]
    rw [decide_eq_true hm] at M
    have h32I : (32 : Int) ≤ (hs.length : Int) := by omega
    have HM := hide hm
    have H32 := hide h32
    clear E hm h32 hno
    go_enter Tryd.func22, Tryd.ntmps22
    go_wp2_with fail
    refine MN.out.mono ?_
    rintro e w1 ⟨rfl, rfl⟩
    go_wp2_with fail
    refine M.out.mono ?_
    rintro e w2 ⟨rfl, hb2⟩
    have MN3 := hide (MN2.out w2 hb2)
    have HB2 := hide (HB.out.trans (hb2.mono HB.out.size))
    clear hb2
    go_wp2_with fail
    refine MN3.out.mono ?_
    rintro e w3 ⟨rfl, rfl⟩
    go_wp2_with fail
    go_ret2
    exact ⟨rfl, HB2.out⟩
  · have E : addE hs l = 2 := by unfold addE; rw [if_neg hm]
    rw [E]
    rw [decide_eq_false hm] at M
    have HM := hide hm
    clear E hm hno
    go_enter Tryd.func22, Tryd.ntmps22
    go_wp2_with fail
    refine MN.out.mono ?_
    rintro e w1 ⟨rfl, rfl⟩
    go_wp2_with fail
    refine M.out.mono ?_
    rintro e w2 ⟨rfl, hb2⟩
    have HB2 := hide (HB.out.trans (hb2.mono HB.out.size))
    clear hb2
    go_wp2_with fail
    go_ret2
    exact ⟨rfl, HB2.out⟩
end Grp
end Go.Proofs.YtgiibknfkphkgaaDoor
