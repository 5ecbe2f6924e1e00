/- The operation of a name: the document's op. -/
import Derived.Test.YtegpimaakgledaaDoorRows
import Derived.Test.YtegpimaakgledaaDoorCodTb
import Derived.Test.YtegpimaakgledaaDoorCodRe
import Derived.LoopN
namespace Go.Proofs.YtegpimaakgledaaDoor
open Go Go.RowKit
open Go.Lib (itoa atoiAll parseIntB trimPrefix hasPrefix)
set_option linter.unusedVariables false
set_option linter.unusedSimpArgs false
namespace Cod
def opV (nm : List UInt8) : Nat := (opOf nm).getD 0
theorem nm_ne (o : Nat) (h1 : 1 ≤ o) (h2 : o ≤ 29) : (opO (o : Int)).nm.data.toList ≠ [] := by
  have := nm_some o h1 (by omega)
  intro e
  rw [ByteArray.toList_eq, e] at this
  cases this
set_option maxRecDepth 100000 in
set_option maxHeartbeats 8000000 in
theorem op_b (nm : List UInt8) (w : World) : Calls Tryd.prog 37 #[.string (bytes nm)] w fun e w' => e = .returned (.int .u8 (opV nm)) ∧ Below w.heap.size w w' := by
  have NMC := hide (fun (o : Nat) (ho : o < 256) (w' : World) => Name_b o ho w')
  go_enter Tryd.func37, Tryd.ntmps37
  go_wp2_with fail
  go_loopw [3] (fun v3 wr => ∃ o : Nat, 1 ≤ o ∧ o ≤ 30 ∧ v3 = .int .u8 o ∧ Hid (opOf nm = opFrom nm (31 - o) o) ∧ Hid (Below w.heap.size w wr)) (fun v3 _ => 30 - (RowKit.intOf v3).toNat)
  case atStart => exact ⟨1, by omega, by omega, rfl, hide rfl, hide (Below.refl _ _)⟩
  case round =>
    obtain ⟨o, ho1, ho2, rfl, HF2, HB⟩ := hrel
    rename World => wr
    have NM := hide (NMC.out o (by omega) wr)
    have NM2 := hide (NMC.out o (by omega))
    rw [nm_toList] at NM NM2
    have EN := bytes_nil (opO (o : Int)).nm.data.toList
    by_cases hlt : o ≤ 29
    rotate_left
    · have ho : o = 30 := by omega
      have hn : (opO (o : Int)).nm.data.toList = [] := by rw [ho]; rfl
      rw [decide_eq_true hn] at EN
      have E : Hid (opV nm = 0) := hide (by unfold opV; rw [HF2.out, ho, opFrom_end]; rfl)
      generalize (opO (o : Int)).nm.data.toList = nl at *
      clear hn ho
      go_wp2_with fail
      refine NM.out.mono ?_
      rintro e w2 ⟨rfl, hb2⟩
      have HB2 := hide (HB.out.trans (hb2.mono HB.out.size))
      clear hb2
      go_wp2_with fail
      go_ret
      exact ⟨by rw [E.out]; rfl, HB2.out⟩
    have hne := nm_ne o ho1 hlt
    rw [decide_eq_false hne] at EN
    have s1 : IntKind.u8.wrap ((o : Int) + 1) = (o : Int) + 1 := by rw [IntKind.wrap_u8]; omega
    have EQ := bytes_eq (opO (o : Int)).nm.data.toList nm
    have STEP : Hid (opFrom nm (31 - o) o = if (opO (o : Int)).nm.data.toList = nm then some o else opFrom nm (30 - o) (o + 1)) := hide (by
      rw [show 31 - o = (30 - o) + 1 by omega, opFrom, if_pos hlt])
    generalize (opO (o : Int)).nm.data.toList = nl at *
    clear hne
    by_cases he : nl = nm
    · rw [decide_eq_true he] at EQ
      have E : Hid (opV nm = o) := hide (by unfold opV; rw [HF2.out, STEP.out, if_pos he]; rfl)
      clear he STEP HF2
      go_wp2_with fail
      refine NM.out.mono ?_
      rintro e w2 ⟨rfl, hb2⟩
      have HB2 := hide (HB.out.trans (hb2.mono HB.out.size))
      clear hb2
      go_wp2_with fail
      refine (NM2.out w2).mono ?_
      rintro e w3 ⟨rfl, hb3⟩
      have HB3 := hide (HB2.out.trans (hb3.mono HB2.out.size))
      clear hb3
      go_wp2_with fail
      go_ret
      exact ⟨by rw [E.out]; rfl, HB3.out⟩
    · rw [decide_eq_false he] at EQ
      have HF3 := hide (HF2.out.trans (STEP.out.trans (if_neg he)))
      clear he STEP HF2
      go_wp2_with fail
      refine NM.out.mono ?_
      rintro e w2 ⟨rfl, hb2⟩
      have HB2 := hide (HB.out.trans (hb2.mono HB.out.size))
      clear hb2
      go_wp2_with fail
      refine (NM2.out w2).mono ?_
      rintro e w3 ⟨rfl, hb3⟩
      have HB3 := hide (HB2.out.trans (hb3.mono HB2.out.size))
      clear hb3
      go_wp2_with fail
      go_roundw
      case rel => exact ⟨o + 1, by omega, by omega, by simp, hide (by rw [HF3.out, show 31 - (o + 1) = 30 - o by omega]), HB3⟩
      case measure => simp [RowKit.intOf] <;> omega
end Cod
end Go.Proofs.YtegpimaakgledaaDoor
