/- Numbers as texts: the reference's Digits. -/
import Derived.Test.YtgiibknfkphkgaaDoorRows
import Derived.Test.YtgiibknfkphkgaaDoorNumP
import Derived.Lib.LaidTab
import Derived.Lib.SmallJoins
import Derived.Lib.ItoaLen
import Derived.Laws.IdiomStrings
namespace Go.Proofs.YtgiibknfkphkgaaDoor
open Go.RowKit Go.Lib Go.Joins Go.Sort
set_option linter.unusedVariables false
set_option linter.unusedSimpArgs false
set_option maxRecDepth 100000 in
theorem digit_b (u : Nat) (hu : u < 10) (w : World) : Calls Tryd.prog 28 #[.int .i64 u] w fun e w' => e = .returned (.string (bytes (decDigits u))) ∧ Below w.heap.size w w' := by
  have hlt : (u : Int) < 10 := by omega
  obtain ⟨d, hd, hd2⟩ : ∃ d : UInt8, decDigits u = [d] ∧ 48 + (u : Int) = (d.toNat : Int) := ⟨UInt8.ofNat (48 + u), decDigits_one hu, by rw [UInt8.toNat_ofNat']; omega⟩
  have kc := fun (w : World) => conv_one w (48 + u) d hd2
  rw [hd]
  clear hd hd2
  generalize bytes [d] = S at *
  go_enter Tryd.func28, Tryd.ntmps28
  go_wp2_with fail
  go_ret
  exact ⟨rfl, (Below.refl _ _).alloc (Nat.le_refl _) _⟩
set_option maxRecDepth 100000 in
theorem digits_b (u : Nat) : ∀ (hu : u ≤ 9223372036854775807) (w : World), Calls Tryd.prog 28 #[.int .i64 u] w fun e w' => e = .returned (.string (bytes (decDigits u))) ∧ Below w.heap.size w w' := by
  induction u using Nat.strongRecOn with
  | _ u ih =>
    intro hu w
    by_cases hlt : u < 10
    · exact digit_b u hlt w
    · have hltI : ¬ (u : Int) < 10 := by omega
      have IH := hide ih
      have E := hide (dec_more hlt)
      have e1 : Int.tdiv (u : Int) 10 = ((u / 10 : Nat) : Int) := rfl
      have e2 : Int.tmod (u : Int) 10 = ((u % 10 : Nat) : Int) := rfl
      have l1 := dec_len (u / 10) (by omega)
      have l2 := dec_len (u % 10) (by omega)
      have D1 := hide (ih (u / 10) (by omega) (by omega))
      have D2 := hide (digit_b (u % 10) (by omega))
      rw [E.out]
      clear ih
      generalize bytes (decDigits (u / 10)) = S1 at *
      generalize bytes (decDigits (u % 10)) = S2 at *
      have hl : ¬ 9223372036854775807 < S1.size + S2.size := by omega
      have w1 : wrap64 ((u / 10 : Nat) : Int) = ((u / 10 : Nat) : Int) := (by unfold wrap64; omega)
      have w2 : wrap64 ((u % 10 : Nat) : Int) = ((u % 10 : Nat) : Int) := (by unfold wrap64; omega)
      generalize u / 10 = q at *
      generalize u % 10 = r at *
      clear hlt
      go_enter Tryd.func28, Tryd.ntmps28
      go_wp2_with fail
      refine (D1.out w).mono ?_
      rintro e w1 ⟨rfl, hb1⟩
      have B1 := hide hb1
      clear hb1
      go_wp2_with fail
      refine (D2.out w1).mono ?_
      rintro e w2 ⟨rfl, hb2⟩
      have B2 := hide (B1.out.trans (hb2.mono B1.out.size))
      clear hb2
      go_wp2_with fail
      go_ret
      exact ⟨rfl, B2.out⟩
end Go.Proofs.YtgiibknfkphkgaaDoor
