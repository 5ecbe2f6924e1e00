/- call.row: numbers in their order, as a call has them (at int64 and at int). -/
import Derived.Test.YthcoelkpiflfeaaDoorRows
import Derived.Test.YthcoelkpiflfeaaDoorBuilderS
import Derived.Test.YthcoelkpiflfeaaDoorNum05
import Derived.Test.YthcoelkpiflfeaaDoorToldP
namespace Go.Proofs.YthcoelkpiflfeaaDoor
open Go.RowKit
open Go.Lib (itoa itoa_length_le)
set_option linter.unusedVariables false
set_option linter.unusedSimpArgs false
theorem own_belowT {w w' : World} {B size n : Nat} {e : TypeId} {v : Value} {xs : List Value} (h : w.ownsRow B e size v n xs) (hb : Below w.heap.size w w') : w'.ownsRow B e size v n xs := by
  refine ⟨h.1, h.2.imp id ?_⟩
  rintro ⟨g, cap, cur, rfl, hge, hh, r⟩
  exact ⟨g, cap, cur, rfl, hge, (hb.block g (Array.getElem?_eq_some_iff.1 hh).1).trans hh, r⟩
theorem isB_belowT {T e : TypeId} {B b : Nat} {bs : List Value} {w w' : World} (h : Lib.IsBuilder T e B b bs w) (hbl : Below w.heap.size w w') : Lib.IsBuilder T e B b bs w' := by
  have hlt := isB_lt h
  rcases h with ⟨hB, v, hb, hown, hne⟩ | ⟨hB, v, hb, hown, hne⟩
  · exact .inl ⟨hB, v, (hbl.block b hlt).trans hb, own_belowT hown hbl, hne⟩
  · exact .inr ⟨hB, v, (hbl.block b hlt).trans hb, own_belowT hown hbl, hne⟩
theorem byteCells_bytesT (l x : List UInt8) : Lib.byteCells l ++ Lib.strCells (bytes x) = Lib.byteCells (l ++ x) := by simp [Lib.byteCells, Lib.strCells, bytes]
namespace Told
def NRow (w : World) (A : Option Addr) (zs : List Int) : Prop := 0 < zs.length → ∃ a, A = some a ∧ a.block < w.heap.size ∧ ∀ i, i < zs.length → w.cell? (a.add i) = some (.int .i64 (zs.getD i 0))
theorem NRow.below {w w' : World} {A : Option Addr} {zs : List Int} (h : NRow w A zs) (hb : Below w.heap.size w w') : NRow w' A zs := fun h0 => by
  obtain ⟨a, rfl, ha, hc⟩ := h h0
  exact ⟨a, rfl, Nat.lt_of_lt_of_le ha hb.size, fun i hi => (hb.cell (p := a.add i) (by rw [block_of_add]; exact ha)).trans (hc i hi)⟩
theorem NRow.one {w : World} {g : Nat} {z : Int} (hg : g < w.heap.size) (h : w.cell? ⟨g, 0, none⟩ = some (.int .i64 z)) : NRow w (some ⟨g, 0, none⟩) [z] := fun _ => ⟨_, rfl, hg, fun i hi => by
  obtain rfl : i = 0 := by simpa using hi
  exact h⟩
set_option maxRecDepth 100000 in
set_option maxHeartbeats 4000000 in
theorem row64_a (A : Option Addr) (cap : Nat) (zs : List Int) (w : World) (h : NRow w A zs) (hl : zs.length ≤ 1000) (hf : ∀ z ∈ zs, Fit z) (hp : Pow w) :
    Calls Tryd.prog 24 #[.slice A zs.length cap] w fun e w' => e = .returned (.string (bytes (jnC zs))) ∧ Below w.heap.size w w' := by
  have H := hide h
  have HP := hide hp
  have HF := hide (getD_fit hf)
  have TL := hide (fun k => jnC_len (fit_take hf k))
  have J0 := hide (jn_0 zs)
  have JS := hide (jn_s zs)
  have JA : Hid (jnC (zs.take zs.length) = jnC zs) := hide (by rw [List.take_length])
  clear h hp hf
  go_enter Tryd.func24, Tryd.ntmps24
  go_wp2_with fail
  go_loopw [8] (fun vi wr => ∃ (k : Nat), k ≤ zs.length ∧ vi = .int .i64 k ∧ Hid (Lib.IsBuilder 84 5 w.heap.size w.heap.size (Lib.byteCells (jnC (zs.take k))) wr) ∧ Hid (Below w.heap.size w wr)) (fun vi _ => zs.length - (intOf vi).toNat)
  case atStart => exact ⟨0, by omega, rfl, hide (Lib.fresh_isBuilder _ _ w), hide ((Below.refl _ _).alloc (Nat.le_refl _) _)⟩
  case round =>
    obtain ⟨k, hk, rfl, HI, HB⟩ := hrel
    have hsz := HB.out.size
    by_cases hlt : k < zs.length
    · obtain ⟨a, rfl, ha, hc⟩ := H.out.below HB.out (by omega)
      have hck := hc k hlt
      have hltI : (k : Int) < (zs.length : Int) := by omega
      have hl1 : (jnC (zs.take k)).length ≤ 30000 := by
        have := TL.out k
        rw [List.length_take] at this
        omega
      have fz := HF.out k
      have FA := hide (fun (w' : World) (hp : Pow w') => format_a (zs.getD k 0) w' fz.1 fz.2 hp)
      have hw : wrap64 (zs.getD k 0) = zs.getD k 0 := by have h1 := fz.1; have h2 := fz.2; unfold wrap64; omega
      have il : (bytes (itoa (zs.getD k 0))).size ≤ 21 := by rw [bytes_size]; exact fit_len fz
      have SC : Hid (∀ x : List UInt8, Lib.byteCells x ++ Lib.strCells (bytes (itoa (zs.getD k 0))) = Lib.byteCells (x ++ itoa (zs.getD k 0))) := hide fun x => byteCells_bytesT _ _
      have SD : Hid (∀ x : List UInt8, Lib.byteCells x ++ Lib.strCells ⟨#[44, 32]⟩ = Lib.byteCells (x ++ [44, 32])) := hide fun x => byteCells_bytesT _ [44, 32]
      have E0 : Hid (k = 0 → jnC (zs.take (k + 1)) = jnC (zs.take k) ++ itoa (zs.getD k 0)) := hide fun h => by
        subst h
        rw [J0.out (by omega)]
        rfl
      have E1 := hide (JS.out k hlt)
      clear hc fz
      generalize itoa (zs.getD k 0) = TI at *
      generalize bytes TI = SI at *
      generalize zs.getD k 0 = z at *
      have d2 : ((⟨#[44, 32]⟩ : ByteArray)).size = 2 := rfl
      by_cases hz : (0 : Int) < (k : Int)
      · have EE := hide (E1.out (by omega))
        go_wp2_with fail
        refine (write_string w.heap.size w.heap.size _ ⟨#[44, 32]⟩ _ HI.out (by simp only [Lib.byteCells_length]; omega) HB.out.size).mono ?_
        rintro e w2 ⟨rfl, i3, b3, k3⟩
        rw [SD.out] at i3
        have HB3 := hide (HB.out.trans b3)
        have HI3 : Hid (Lib.IsBuilder 84 5 w.heap.size w.heap.size (Lib.byteCells (jnC (zs.take k) ++ [44, 32])) w2) := hide (.inr i3)
        have hL3 : (jnC (zs.take k) ++ [44, 32]).length ≤ 30002 := by rw [List.length_append]; simp; omega
        clear i3 b3 k3
        generalize jnC (zs.take k) ++ [44, 32] = QR at *
        go_wp2_with fail
        refine (FA.out _ (HP.out.below HB3.out (Nat.le_refl _))).mono ?_
        rintro e w3 ⟨rfl, hb4⟩
        have HI4 := hide (isB_belowT HI3.out hb4)
        have HB4 := hide (HB3.out.trans (hb4.mono HB3.out.size))
        clear hb4
        go_wp2_with fail
        refine (write_string w.heap.size w.heap.size _ SI _ HI4.out (by simp only [Lib.byteCells_length]; omega) HB4.out.size).mono ?_
        rintro e w4 ⟨rfl, i5, b5, k5⟩
        rw [SC.out, ← EE.out] at i5
        have HB5 := hide (HB4.out.trans b5)
        have HI5 : Hid (Lib.IsBuilder 84 5 w.heap.size w.heap.size (Lib.byteCells (jnC (zs.take (k + 1)))) w4) := hide (.inr i5)
        clear i5 b5 k5
        go_wp2_with fail
        go_roundw
        case rel => exact ⟨k + 1, by omega, by go_num, HI5, HB5⟩
        case measure => simp [intOf]; omega
      · have EE := hide (E0.out (by omega))
        have hz2 : decide ((0 : Int) < (k : Int)) = false := by simpa using hz
        go_wp2_with fail
        refine (FA.out _ (HP.out.below HB.out (Nat.le_refl _))).mono ?_
        rintro e w3 ⟨rfl, hb4⟩
        have HI4 := hide (isB_belowT HI.out hb4)
        have HB4 := hide (HB.out.trans (hb4.mono HB.out.size))
        clear hb4
        go_wp2_with fail
        refine (write_string w.heap.size w.heap.size _ SI _ HI4.out (by simp only [Lib.byteCells_length]; omega) HB4.out.size).mono ?_
        rintro e w4 ⟨rfl, i5, b5, k5⟩
        rw [SC.out, ← EE.out] at i5
        have HB5 := hide (HB4.out.trans b5)
        have HI5 : Hid (Lib.IsBuilder 84 5 w.heap.size w.heap.size (Lib.byteCells (jnC (zs.take (k + 1)))) w4) := hide (.inr i5)
        clear i5 b5 k5
        go_wp2_with fail
        go_roundw
        case rel => exact ⟨k + 1, by omega, by go_num, HI5, HB5⟩
        case measure => simp [intOf]; omega
    · obtain rfl : k = zs.length := by omega
      have hltI : ¬ (zs.length : Int) < (zs.length : Int) := by omega
      have HI2 := HI.out
      rw [JA.out] at HI2
      go_wp2_with fail
      refine (Tryd.Builder_String_any _ _ _ _ HI2 hsz).mono ?_
      rintro e w' ⟨rfl, hb⟩
      have HB2 := hide (HB.out.trans hb)
      clear hb HI2
      go_wp2_with fail
      go_ret
      exact ⟨rfl, HB2.out⟩
set_option maxRecDepth 100000 in
set_option maxHeartbeats 4000000 in
theorem rowInt_a (A : Option Addr) (cap : Nat) (zs : List Int) (w : World) (h : NRow w A zs) (hl : zs.length ≤ 1000) (hf : ∀ z ∈ zs, Fit z) (hp : Pow w) :
    Calls Tryd.prog 22 #[.slice A zs.length cap] w fun e w' => e = .returned (.string (bytes (jnC zs))) ∧ Below w.heap.size w w' := by
  have H := hide h
  have HP := hide hp
  have HF := hide (getD_fit hf)
  have TL := hide (fun k => jnC_len (fit_take hf k))
  have J0 := hide (jn_0 zs)
  have JS := hide (jn_s zs)
  have JA : Hid (jnC (zs.take zs.length) = jnC zs) := hide (by rw [List.take_length])
  clear h hp hf
  go_enter Tryd.func22, Tryd.ntmps22
  go_wp2_with fail
  go_loopw [8] (fun vi wr => ∃ (k : Nat), k ≤ zs.length ∧ vi = .int .i64 k ∧ Hid (Lib.IsBuilder 84 5 w.heap.size w.heap.size (Lib.byteCells (jnC (zs.take k))) wr) ∧ Hid (Below w.heap.size w wr)) (fun vi _ => zs.length - (intOf vi).toNat)
  case atStart => exact ⟨0, by omega, rfl, hide (Lib.fresh_isBuilder _ _ w), hide ((Below.refl _ _).alloc (Nat.le_refl _) _)⟩
  case round =>
    obtain ⟨k, hk, rfl, HI, HB⟩ := hrel
    have hsz := HB.out.size
    by_cases hlt : k < zs.length
    · obtain ⟨a, rfl, ha, hc⟩ := H.out.below HB.out (by omega)
      have hck := hc k hlt
      have hltI : (k : Int) < (zs.length : Int) := by omega
      have hl1 : (jnC (zs.take k)).length ≤ 30000 := by
        have := TL.out k
        rw [List.length_take] at this
        omega
      have fz := HF.out k
      have FA := hide (fun (w' : World) (hp : Pow w') => format_a (zs.getD k 0) w' fz.1 fz.2 hp)
      have hw : wrap64 (zs.getD k 0) = zs.getD k 0 := by have h1 := fz.1; have h2 := fz.2; unfold wrap64; omega
      have il : (bytes (itoa (zs.getD k 0))).size ≤ 21 := by rw [bytes_size]; exact fit_len fz
      have SC : Hid (∀ x : List UInt8, Lib.byteCells x ++ Lib.strCells (bytes (itoa (zs.getD k 0))) = Lib.byteCells (x ++ itoa (zs.getD k 0))) := hide fun x => byteCells_bytesT _ _
      have SD : Hid (∀ x : List UInt8, Lib.byteCells x ++ Lib.strCells ⟨#[44, 32]⟩ = Lib.byteCells (x ++ [44, 32])) := hide fun x => byteCells_bytesT _ [44, 32]
      have E0 : Hid (k = 0 → jnC (zs.take (k + 1)) = jnC (zs.take k) ++ itoa (zs.getD k 0)) := hide fun h => by
        subst h
        rw [J0.out (by omega)]
        rfl
      have E1 := hide (JS.out k hlt)
      clear hc fz
      generalize itoa (zs.getD k 0) = TI at *
      generalize bytes TI = SI at *
      generalize zs.getD k 0 = z at *
      have d2 : ((⟨#[44, 32]⟩ : ByteArray)).size = 2 := rfl
      by_cases hz : (0 : Int) < (k : Int)
      · have EE := hide (E1.out (by omega))
        go_wp2_with fail
        refine (write_string w.heap.size w.heap.size _ ⟨#[44, 32]⟩ _ HI.out (by simp only [Lib.byteCells_length]; omega) HB.out.size).mono ?_
        rintro e w2 ⟨rfl, i3, b3, k3⟩
        rw [SD.out] at i3
        have HB3 := hide (HB.out.trans b3)
        have HI3 : Hid (Lib.IsBuilder 84 5 w.heap.size w.heap.size (Lib.byteCells (jnC (zs.take k) ++ [44, 32])) w2) := hide (.inr i3)
        have hL3 : (jnC (zs.take k) ++ [44, 32]).length ≤ 30002 := by rw [List.length_append]; simp; omega
        clear i3 b3 k3
        generalize jnC (zs.take k) ++ [44, 32] = QR at *
        go_wp2_with fail
        refine (FA.out _ (HP.out.below HB3.out (Nat.le_refl _))).mono ?_
        rintro e w3 ⟨rfl, hb4⟩
        have HI4 := hide (isB_belowT HI3.out hb4)
        have HB4 := hide (HB3.out.trans (hb4.mono HB3.out.size))
        clear hb4
        go_wp2_with fail
        refine (write_string w.heap.size w.heap.size _ SI _ HI4.out (by simp only [Lib.byteCells_length]; omega) HB4.out.size).mono ?_
        rintro e w4 ⟨rfl, i5, b5, k5⟩
        rw [SC.out, ← EE.out] at i5
        have HB5 := hide (HB4.out.trans b5)
        have HI5 : Hid (Lib.IsBuilder 84 5 w.heap.size w.heap.size (Lib.byteCells (jnC (zs.take (k + 1)))) w4) := hide (.inr i5)
        clear i5 b5 k5
        go_wp2_with fail
        go_roundw
        case rel => exact ⟨k + 1, by omega, by go_num, HI5, HB5⟩
        case measure => simp [intOf]; omega
      · have EE := hide (E0.out (by omega))
        have hz2 : decide ((0 : Int) < (k : Int)) = false := by simpa using hz
        go_wp2_with fail
        refine (FA.out _ (HP.out.below HB.out (Nat.le_refl _))).mono ?_
        rintro e w3 ⟨rfl, hb4⟩
        have HI4 := hide (isB_belowT HI.out hb4)
        have HB4 := hide (HB.out.trans (hb4.mono HB.out.size))
        clear hb4
        go_wp2_with fail
        refine (write_string w.heap.size w.heap.size _ SI _ HI4.out (by simp only [Lib.byteCells_length]; omega) HB4.out.size).mono ?_
        rintro e w4 ⟨rfl, i5, b5, k5⟩
        rw [SC.out, ← EE.out] at i5
        have HB5 := hide (HB4.out.trans b5)
        have HI5 : Hid (Lib.IsBuilder 84 5 w.heap.size w.heap.size (Lib.byteCells (jnC (zs.take (k + 1)))) w4) := hide (.inr i5)
        clear i5 b5 k5
        go_wp2_with fail
        go_roundw
        case rel => exact ⟨k + 1, by omega, by go_num, HI5, HB5⟩
        case measure => simp [intOf]; omega
    · obtain rfl : k = zs.length := by omega
      have hltI : ¬ (zs.length : Int) < (zs.length : Int) := by omega
      have HI2 := HI.out
      rw [JA.out] at HI2
      go_wp2_with fail
      refine (Tryd.Builder_String_any _ _ _ _ HI2 hsz).mono ?_
      rintro e w' ⟨rfl, hb⟩
      have HB2 := hide (HB.out.trans hb)
      clear hb HI2
      go_wp2_with fail
      go_ret
      exact ⟨rfl, HB2.out⟩
end Told
end Go.Proofs.YthcoelkpiflfeaaDoor
