/- The library's calls of reading a program: strings.Cut, strings.TrimPrefix, strconv.Atoi, strconv.ParseInt; what they ask of the world. -/
import Derived.Test.YtegpimaakgledaaDoorRows
import Derived.Test.YtegpimaakgledaaDoorCodRd
import Derived.Test.YtegpimaakgledaaDoorShelf
import Derived.Lib.AtoiErrMem
namespace Go.Proofs.YtegpimaakgledaaDoor
open Go Go.RowKit
open Go.Lib (itoa atoiAll parseIntB trimPrefix hasPrefix)
set_option linter.unusedVariables false
set_option linter.unusedSimpArgs false
namespace Cod
/-- The laid variables that these calls read (MaxLen, ErrSyntax, ErrRange): kept by all that writes above them. -/
structure Env (w : World) : Prop where
  mx : ∃ m, w.cell? ⟨2, 0, none⟩ = some (.int .i64 m)
  es : ∃ te pe, w.cell? ⟨3, 0, none⟩ = some (.iface te pe)
  er : ∃ te pe, w.cell? ⟨4, 0, none⟩ = some (.iface te pe)
theorem Env.below {w w' : World} {B : Nat} (h : Env w) (hb : Below B w w') (hB : w.heap.size ≤ B) : Env w' := by
  refine ⟨?_, ?_, ?_⟩
  · obtain ⟨m, e⟩ := h.mx
    have := block_lt_of_cell e
    exact ⟨m, (hb.cell (Nat.lt_of_lt_of_le this hB)).trans e⟩
  · obtain ⟨t, p, e⟩ := h.es
    have := block_lt_of_cell e
    exact ⟨t, p, (hb.cell (Nat.lt_of_lt_of_le this hB)).trans e⟩
  · obtain ⟨t, p, e⟩ := h.er
    have := block_lt_of_cell e
    exact ⟨t, p, (hb.cell (Nat.lt_of_lt_of_le this hB)).trans e⟩
theorem belowN (w : World) : ∀ n, Below w.heap.size w (w.drewN n) := fun n => ⟨rfl, rfl, rfl, Nat.le_refl _, fun _ _ => rfl⟩
theorem cut_c (c : UInt8) (s : List UInt8) (w : World) (h : Env w) (hs : s.length ≤ 1000000) :
    Calls Tryd.prog 49 #[.string (bytes s), .string ⟨#[c]⟩] w fun e w' => e = .returned (.tuple #[.string (bytes (cut1 c s).1), .string (bytes (cut1 c s).2.1), .bool (cut1 c s).2.2]) ∧ Below w.heap.size w w' := by
  obtain ⟨m, hm⟩ := h.mx
  refine (Tryd.strings_Cut (bytes s) ⟨#[c]⟩ m w (by rw [bytes_size]; omega) hm).mono ?_
  rintro e w' ⟨rfl, n, rfl⟩
  have e1 : (bytes s).data.toList = s := by simp [bytes]
  have e2 : (⟨#[c]⟩ : ByteArray).data.toList = [c] := rfl
  rw [e1, e2, (lib_cut c s).1]
  exact ⟨rfl, belowN w n⟩
theorem trim_c (p : ByteArray) (s : List UInt8) (w : World) :
    Calls Tryd.prog 51 #[.string (bytes s), .string p] w fun e w' => e = .returned (.string (bytes (trimPrefix s p.data.toList))) ∧ w = w' := by
  refine (Tryd.strings_TrimPrefix (bytes s) p w).mono ?_
  rintro e w' ⟨rfl, rfl⟩
  have e1 : (bytes s).data.toList = s := by simp [bytes]
  rw [e1]
  exact ⟨rfl, rfl⟩
theorem atoi_ok (s : List UInt8) (hs : s.length ≤ 1000000) (v : Int) (h : atoiAll s = .ok v) (w : World) :
    Calls Tryd.prog 50 #[.string (bytes s)] w fun e w' => e = .returned (.tuple #[.int .i64 v, .nilIface]) ∧ Below w.heap.size w w' := by
  have e1 : (bytes s).data.toList = s := by simp [bytes]
  refine (Tryd.strconv_Atoi_ok (bytes s) (by rw [bytes_size]; omega) v (by rw [e1]; exact h) w).mono ?_
  rintro e w' ⟨rfl, rfl | ⟨t, rfl⟩⟩
  · exact ⟨rfl, Below.refl _ _⟩
  · exact ⟨rfl, Go.Lib.bytesWorld_below w 5 t⟩
theorem atoi_no (s : List UInt8) (hs : s.length ≤ 1000000) (h : ∀ v, atoiAll s ≠ .ok v) (w : World) (hw : Env w) :
    Calls Tryd.prog 50 #[.string (bytes s)] w fun e w' => ∃ x t p, e = .returned (.tuple #[.int .i64 x, .iface t p]) ∧ Below w.heap.size w w' := by
  have e1 : (bytes s).data.toList = s := by simp [bytes]
  obtain ⟨t1, p1, q1⟩ := hw.es
  obtain ⟨t2, p2, q2⟩ := hw.er
  rcases hc : atoiAll s with v | _ | _
  · exact absurd hc (h v)
  · refine (Tryd.strconv_Atoi_syntax (bytes s) (by rw [bytes_size]; omega) (by rw [e1]; exact (hc.trans (show _ = atoiAll [] from rfl))) _ w q1 (.inr ⟨t1, p1, rfl⟩)).mono ?_
    rintro e w' ⟨N, rfl, _, _, hb⟩
    exact ⟨_, _, _, rfl, hb⟩
  · refine (Tryd.strconv_Atoi_range (bytes s) (by rw [bytes_size]; omega) (by rw [e1]; exact hc) _ w q2 (.inr ⟨t2, p2, rfl⟩)).mono ?_
    rintro e w' ⟨N, rfl, _, _, hb⟩
    exact ⟨_, _, _, rfl, hb⟩
theorem pint_ok (s : List UInt8) (hs : s.length ≤ 1000000) (v : Int) (h : parseIntB 64 s = .ok v) (w : World) :
    Calls Tryd.prog 66 #[.string (bytes s), .int .i64 10, .int .i64 64] w fun e w' => e = .returned (.tuple #[.int .i64 v, .nilIface]) ∧ Below w.heap.size w w' := by
  have e1 : (bytes s).data.toList = s := by simp [bytes]
  refine (Tryd.strconv_ParseInt_10_at64_ok (bytes s) (by rw [bytes_size]; omega) v (by rw [e1]; exact h) w).mono ?_
  rintro e w' ⟨rfl, rfl | ⟨t, rfl⟩⟩
  · exact ⟨rfl, Below.refl _ _⟩
  · exact ⟨rfl, Go.Lib.bytesWorld_below w 5 t⟩
theorem pint_no (s : List UInt8) (hs : s.length ≤ 1000000) (h : ∀ v, parseIntB 64 s ≠ .ok v) (w : World) (hw : Env w) :
    Calls Tryd.prog 66 #[.string (bytes s), .int .i64 10, .int .i64 64] w fun e w' => ∃ x t p, e = .returned (.tuple #[.int .i64 x, .iface t p]) ∧ Below w.heap.size w w' := by
  have e1 : (bytes s).data.toList = s := by simp [bytes]
  obtain ⟨t1, p1, q1⟩ := hw.es
  obtain ⟨t2, p2, q2⟩ := hw.er
  rcases hc : parseIntB 64 s with v | _ | _
  · exact absurd hc (h v)
  · refine (Tryd.strconv_ParseInt_10_at64_syntax (bytes s) (by rw [bytes_size]; omega) (by rw [e1]; exact (hc.trans (show _ = atoiAll [] from rfl))) _ w q1 (.inr ⟨t1, p1, rfl⟩)).mono ?_
    rintro e w' ⟨N, rfl, _, _, hb⟩
    exact ⟨_, _, _, rfl, hb⟩
  · refine (Tryd.strconv_ParseInt_10_at64_range (bytes s) (by rw [bytes_size]; omega) (by rw [e1]; exact hc) _ w q2 (.inr ⟨t2, p2, rfl⟩)).mono ?_
    rintro e w' ⟨N, rfl, _, _, hb⟩
    exact ⟨_, _, _, rfl, hb⟩
theorem atoi_fit {s : List UInt8} {v : Int} (h : atoiAll s = .ok v) : -9223372036854775808 ≤ v ∧ v ≤ 9223372036854775807 := by
  rw [← Lib.parseIntB_64] at h
  have h2 := Lib.parseIntB_bounds h
  have e : ((2 ^ (64 - 1) : Nat) : Int) = 9223372036854775808 := by decide
  rw [e] at h2
  omega
end Cod
end Go.Proofs.YtegpimaakgledaaDoor
