/- The library's calls of the witness layer: strings.Split, strconv.Atoi; what they ask of the world. -/
import Derived.Test.YtaakndenkfkijaaDoorRows
import Derived.Test.YtaakndenkfkijaaDoorNumP
import Derived.Test.YtaakndenkfkijaaDoorWitSp
import Derived.Test.YtaakndenkfkijaaDoorShelf
import Derived.Lib.AtoiErrMem
namespace Go.Proofs.YtaakndenkfkijaaDoor
open Go.RowKit Go.Lib Go.Joins Go.Sort
set_option linter.unusedVariables false
set_option linter.unusedSimpArgs false
/-- The laid variables that these calls read (MaxLen, ErrSyntax, ErrRange): kept by all that writes above them. -/
structure Env (w : World) : Prop where
  pow : Pow w
  mx : ∃ m, w.cell? ⟨0, 0, none⟩ = some (.int .i64 m)
  es : ∃ te pe, w.cell? ⟨1, 0, none⟩ = some (.iface te pe)
  er : ∃ te pe, w.cell? ⟨2, 0, none⟩ = some (.iface te pe)
  sz : 3 ≤ w.heap.size
theorem Env.below {w w' : World} {B : Nat} (h : Env w) (hb : Below B w w') (hB : w.heap.size ≤ B) : Env w' := by
  have z := h.sz
  refine ⟨h.pow.below hb hB, ?_, ?_, ?_, Nat.le_trans z hb.size⟩
  · obtain ⟨m, e⟩ := h.mx
    exact ⟨m, (hb.cell (p := ⟨0, 0, none⟩) (by show 0 < B; omega)).trans e⟩
  · obtain ⟨t, p, e⟩ := h.es
    exact ⟨t, p, (hb.cell (p := ⟨1, 0, none⟩) (by show 1 < B; omega)).trans e⟩
  · obtain ⟨t, p, e⟩ := h.er
    exact ⟨t, p, (hb.cell (p := ⟨2, 0, none⟩) (by show 2 < B; omega)).trans e⟩
theorem split_a (c : UInt8) (s : ByteArray) (w : World) (h : Env w) (hs : s.size < 4294967281) :
    Calls Tryd.prog 15 #[.string s, .string ⟨#[c]⟩] w fun e w' =>
      e = .returned (.slice (some ⟨w.heap.size, 0, none⟩) (Wit.spl c [] s.data.toList).length (Wit.spl c [] s.data.toList).length) ∧ w' = w.alloc (.cells ((Wit.spl c [] s.data.toList).map fun l => Value.string ⟨l.toArray⟩).toArray 9) := by
  obtain ⟨m, hm⟩ := h.mx
  refine (Tryd.strings_Split s ⟨#[c]⟩ m w hs hm (by show 1 ≤ 1; omega)).mono ?_
  rintro e w' ⟨rfl, rfl⟩
  rw [Wit.count_spl, Wit.split_cells]
  exact ⟨rfl, rfl⟩
theorem atoi_ok (s : ByteArray) (hs : s.size ≤ 281474976710656) (v : Int) (h : atoiAll s.data.toList = .ok v) (w : World) :
    Calls Tryd.prog 24 #[.string s] w fun e w' => e = .returned (.tuple #[.int .i64 v, .nilIface]) ∧ Below w.heap.size w w' := by
  refine (Tryd.strconv_Atoi_ok s (by omega) v h w).mono ?_
  rintro e w' ⟨rfl, rfl | ⟨t, rfl⟩⟩
  · exact ⟨rfl, Below.refl _ _⟩
  · exact ⟨rfl, Go.Lib.bytesWorld_below w 5 t⟩
theorem atoi_no (s : ByteArray) (hs : s.size ≤ 281474976710656) (h : ∀ v, atoiAll s.data.toList ≠ .ok v) (w : World) (hw : Env w) :
    Calls Tryd.prog 24 #[.string s] w fun e w' => ∃ x t p, e = .returned (.tuple #[.int .i64 x, .iface t p]) ∧ Below w.heap.size w w' := by
  obtain ⟨t1, p1, e1⟩ := hw.es
  obtain ⟨t2, p2, e2⟩ := hw.er
  rcases hc : atoiAll s.data.toList with v | _ | _
  · exact absurd hc (h v)
  ·
    refine (Tryd.strconv_Atoi_syntax s hs (hc.trans (show _ = atoiAll [] from rfl)) _ w e1 (.inr ⟨t1, p1, rfl⟩)).mono ?_
    rintro e w' ⟨N, rfl, _, _, hb⟩
    exact ⟨_, _, _, rfl, hb⟩
  ·
    refine (Tryd.strconv_Atoi_range s hs hc _ w e2 (.inr ⟨t2, p2, rfl⟩)).mono ?_
    rintro e w' ⟨N, rfl, _, _, hb⟩
    exact ⟨_, _, _, rfl, hb⟩
end Go.Proofs.YtaakndenkfkijaaDoor
