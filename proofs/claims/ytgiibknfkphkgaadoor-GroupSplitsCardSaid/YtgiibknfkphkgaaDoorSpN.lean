/- What comes in: groups and what is asked, as they are read; Great. -/
import Derived.Test.YtgiibknfkphkgaaDoorRows
import Derived.Test.YtgiibknfkphkgaaDoorGrpC
import Derived.Test.YtgiibknfkphkgaaDoorFlat
import Derived.Test.YtgiibknfkphkgaaDoorStructs
namespace Go.Proofs.YtgiibknfkphkgaaDoor
open Go.Joins Go.ChangeShapes Go.WideShapes Go.RowKit Go.Deep
set_option linter.unusedVariables false
set_option linter.unusedSimpArgs false
namespace Grp
theorem getD_take (l : List Int) (n i : Nat) (h : i < n) : (l.take n).getD i 0 = l.getD i 0 := by
  rw [List.getD, List.getD, List.getElem?_take, if_pos h]
section
variable {H : Type} {enc : TypeId × Value → H} {w : World} {base : Nat} {spare : Nat → Bool} {held : Bool}
theorem row_of {fuel : Nat} {c : Value} {x : DataW H × List MemPlace} (h : DataW.trod enc Tryd.prog w base spare held fuel 22 [c] = some x) (hs : ∀ b, spare b = true) :
    ∃ (A : Option Addr) (row : List Int) (cap : Nat), c = .slice A row.length cap ∧ NRow w A row := by
  rcases open_ints Tryd.underlying22 Tryd.underlying3 (by kernel_rfl) h with ⟨hcs, _⟩ | ⟨a, l, cap, zs, hcs, _, hl, hm, hz, _, hcell, hwz⟩
  · simp at hcs
    exact ⟨none, [], 0, hcs, fun h => absurd h (Nat.lt_irrefl 0)⟩
  · rw [hs, if_pos rfl] at hz
    simp at hcs
    have hlz : (zs.take l).length = l := by rw [List.length_take, hz]; omega
    refine ⟨some a, zs.take l, cap, by rw [hlz]; exact hcs, fun h => ⟨a, rfl, ?_, fun j hj => ?_⟩⟩
    · rw [hlz] at h
      have := block_lt_of_cell (hcell 0 (by omega))
      rwa [block_of_add] at this
    · rw [hlz] at hj
      rw [getD_take zs l j hj]
      exact hcell j (by omega)
theorem group_cells {fuel : Nat} {c0 c1 : Value} {x : DataW H × List MemPlace} (h : DataW.trod enc Tryd.prog w base spare held fuel 24 [c0, c1] = some x) (hs : ∀ b, spare b = true) :
    ∃ (key : ByteArray) (A : Option Addr) (row : List Int) (cap : Nat), c0 = .string key ∧ c1 = .slice A row.length cap ∧ NRow w A row ∧ key.size ≤ maxLen := by
  obtain ⟨y0, y1, n, _, _, h0, h1⟩ := trod_struct2 Tryd.underlying24 h
  have hC3 : Tryd.prog.cellsOf 22 = 1 := by kernel_rfl
  have hC4 : Tryd.prog.cellsOf 9 = 1 := by kernel_rfl
  have h0' : DataW.trod enc Tryd.prog w base spare held n 9 (([c0, c1].drop 0).take (Tryd.prog.cellsOf 9)) = some y0 := h0
  have h1' : DataW.trod enc Tryd.prog w base spare held n 22 (([c0, c1].drop 1).take (Tryd.prog.cellsOf 22)) = some y1 := h1
  rw [hC4] at h0'
  rw [hC3] at h1'
  have h0' : DataW.trod enc Tryd.prog w base spare held n 9 [c0] = some y0 := h0'
  have h1' : DataW.trod enc Tryd.prog w base spare held n 22 [c1] = some y1 := h1'
  obtain ⟨key, e0, _, hk⟩ := DataW.trod_string Tryd.underlying9 h0'
  obtain rfl : c0 = .string key := by simpa using e0
  obtain ⟨A, row, cap, e1, hr⟩ := row_of h1' hs
  exact ⟨key, A, row, cap, rfl, e1, hr, hk⟩
set_option maxRecDepth 100000 in
theorem group_of {v : Value} {d : DataW H} {p : List MemPlace} {b0 : Nat} (o : Value.okWide Tryd.prog w .any b0 24 v) (r : DataW.Trod enc Tryd.prog w base spare held 24 v d p) (hs : ∀ b, spare b = true) :
    ∃ (key : ByteArray) (A : Option Addr) (row : List Int) (cap : Nat), v = .agg #[.string key, .slice A row.length cap] ∧ NRow w A row := by
  obtain ⟨cs, rfl, hsz⟩ := okWide_struct Tryd.underlying24 o
  obtain ⟨l⟩ := cs
  have hC : Tryd.prog.cellsOf 24 = 2 := by kernel_rfl
  match l, hsz.trans hC with
  | [c0, c1], _ =>
    obtain ⟨fuel, hf⟩ := r
    obtain ⟨key, A, row, cap, rfl, rfl, hr, _⟩ := group_cells (show DataW.trod enc Tryd.prog w base spare held fuel 24 [c0, c1] = some (d, p) from hf) hs
    exact ⟨key, A, row, cap, rfl, hr⟩
end
/-- What is asked, as it lies. -/
def aqC (q : List (Int × Int)) : List Value := q.flatMap fun x => [.int .i64 x.1, .int .i64 x.2]
theorem aqC_len : ∀ q : List (Int × Int), (aqC q).length = q.length * 2
  | [] => rfl
  | t :: l => by
    rw [show aqC (t :: l) = [.int .i64 t.1, .int .i64 t.2] ++ aqC l from rfl, List.length_append, aqC_len l]
    show 2 + _ = (l.length + 1) * 2
    omega
theorem aqC_get : ∀ (q : List (Int × Int)) (i : Nat) (hi : i < q.length), (aqC q)[i * 2]? = some (.int .i64 q[i].1) ∧ (aqC q)[i * 2 + 1]? = some (.int .i64 q[i].2)
  | t :: l, 0, _ => ⟨rfl, rfl⟩
  | t :: l, i + 1, hi => by
    have ih := aqC_get l i (by simpa using hi)
    have e : aqC (t :: l) = .int .i64 t.1 :: .int .i64 t.2 :: aqC l := rfl
    rw [e, show (i + 1) * 2 = i * 2 + 1 + 1 by omega]
    simpa using ih
def aqK : List Kd := [.i .i64, .i .i64]
def fit64 (n : Int) : Prop := -9223372036854775808 ≤ n ∧ n ≤ 9223372036854775807
theorem fit_of {v : Value} (h : Kd.fits (.i .i64) v) : ∃ n, v = .int .i64 n ∧ fit64 n := by
  obtain ⟨n, rfl, hw⟩ := h
  refine ⟨n, rfl, ?_⟩
  simp [Lit.wf] at hw
  have h1 : IntKind.i64.min = -9223372036854775808 := rfl
  have h2 : IntKind.i64.max = 9223372036854775807 := rfl
  unfold fit64
  omega
theorem fit_wf {n : Int} (hw : (Lit.int .i64 n).wf = true) : fit64 n := by
  simp [Lit.wf] at hw
  have h1 : IntKind.i64.min = -9223372036854775808 := rfl
  have h2 : IntKind.i64.max = 9223372036854775807 := rfl
  unfold fit64
  omega
section
variable {H : Type} {enc : TypeId × Value → H} {w : World} {base : Nat} {spare : Nat → Bool} {held : Bool}
set_option maxRecDepth 100000 in
theorem asks_of {v : Value} {d : DataW H} {p : List MemPlace} {b0 : Nat} (o : Value.okWide Tryd.prog w .any b0 25 v) (r : DataW.Trod enc Tryd.prog w base spare held 25 v d p) :
    ∃ (A : Option Addr) (cap : Nat) (q : List (Int × Int)), v = .slice A q.length cap ∧ Reads w w.heap.size 2 A q.length (aqC q) ∧ q.length ≤ maxLen ∧ ∀ x ∈ q, fit64 x.1 ∧ fit64 x.2 := by
  obtain ⟨A0, n0, c0, rfl⟩ := okWide_slice Tryd.underlying25 o
  obtain ⟨fuel, hf⟩ := r
  rcases flat_slice (ks := aqK) (f := 30) Tryd.underlying25 (by kernel_rfl) (by kernel_rfl) (show DataW.trod enc Tryd.prog w base spare held fuel 25 [.slice A0 n0 c0] = some (d, p) by simpa [Value.cells] using hf) with h0 | ⟨a, len, cap, h0, hl, hm, hi⟩
  · simp at h0
    obtain ⟨rfl, rfl, rfl⟩ := h0
    exact ⟨none, 0, [], rfl, ⟨rfl, fun h => absurd h (Nat.lt_irrefl 0)⟩, Nat.zero_le _, fun x hx => by cases hx⟩
  · simp at h0
    obtain ⟨rfl, rfl, rfl⟩ := h0
    have h : ∀ i, i < n0 → ∃ t : Int × Int, (fit64 t.1 ∧ fit64 t.2) ∧ w.cell? (a.add (i * 2)) = some (.int .i64 t.1) ∧ w.cell? (a.add (i * 2 + 1)) = some (.int .i64 t.2) := by
      intro i hik
      obtain ⟨v0, g0, f0⟩ := hi i hik 0 _ rfl
      obtain ⟨v1, g1, f1⟩ := hi i hik 1 _ rfl
      obtain ⟨z0, rfl, k0⟩ := fit_of f0
      obtain ⟨z1, rfl, k1⟩ := fit_of f1
      exact ⟨(z0, z1), ⟨k0, k1⟩, g0, g1⟩
    obtain ⟨F, hF⟩ := choose_lt h
    have hlen : ((List.range n0).map F).length = n0 := by simp
    refine ⟨some a, c0, (List.range n0).map F, by rw [hlen], ⟨aqC_len _, fun h0 => ⟨a, rfl, ?_, fun j u hu => ?_⟩⟩, by rw [hlen]; omega, fun x hx => ?_⟩
    · rw [hlen] at h0
      have := block_lt_of_cell (hF 0 h0).2.1
      rwa [block_of_add] at this
    · have hj : j < n0 * 2 := by
        have := (List.getElem?_eq_some_iff.1 hu).1
        rwa [aqC_len, hlen] at this
      obtain ⟨e0, e1⟩ := aqC_get ((List.range n0).map F) (j / 2) (by rw [hlen]; omega)
      rw [List.getElem_map, List.getElem_range] at e0 e1
      obtain ⟨_, g0, g1⟩ := hF (j / 2) (by omega)
      rcases Nat.mod_two_eq_zero_or_one j with hm2 | hm2
      · rw [show j / 2 * 2 = j by omega] at e0 g0
        rw [e0] at hu
        rw [g0, ← Option.some.inj hu]
      · rw [show j / 2 * 2 + 1 = j by omega] at e1 g1
        rw [e1] at hu
        rw [g1, ← Option.some.inj hu]
    · obtain ⟨i, hi2, rfl⟩ := List.mem_map.1 hx
      exact (hF i (by simpa using hi2)).1
end
/-- What Great tells. -/
def gt (key : ByteArray) (n : Nat) : Bool := decide (80 < n) || decide (200 < key.size)
set_option maxRecDepth 100000 in
theorem Great_a (key : ByteArray) (A : Option Addr) (n cap : Nat) (w : World) :
    Calls Tryd.prog 9 #[.agg #[.string key, .slice A n cap]] w fun e w' => e = .returned (.bool (gt key n)) ∧ Below w.heap.size w w' := by
  have hb1 := (Below.refl w.heap.size w).alloc (Nat.le_refl _) (.cells #[.string key, .slice A n cap] 24)
  have b1 := Blk.new w 24 #[.string key, .slice A n cap]
  obtain ⟨W1, hW1⟩ : ∃ W1, w.alloc (.cells #[.string key, .slice A n cap] 24) = W1 := ⟨_, rfl⟩
  rw [hW1] at hb1 b1
  have q0 : W1.cell? ⟨w.heap.size, 0, none⟩ = some (.string key) := b1.cell 0
  have q1 : W1.cell? ⟨w.heap.size, 1, none⟩ = some (.slice A n cap) := b1.cell 1
  have HB := hide hb1
  clear hb1 b1
  by_cases h1 : 80 < n
  · have hI : (80 : Int) < (n : Int) := by omega
    have E : gt key n = true := by simp [gt, h1]
    rw [E]
    clear E h1
    go_enter Tryd.func9, Tryd.ntmps9
    go_wp2_with fail
    go_ret
    exact ⟨rfl, HB.out⟩
  · have hI : ¬ (80 : Int) < (n : Int) := by omega
    have E : gt key n = decide ((200 : Int) < (key.size : Int)) := by
      have : ((200 : Int) < (key.size : Int)) ↔ 200 < key.size := by omega
      simp [gt, h1, this]
    rw [E]
    clear E h1
    go_enter Tryd.func9, Tryd.ntmps9
    go_wp2_with fail
    go_ret
    exact ⟨rfl, HB.out⟩
end Grp
end Go.Proofs.YtgiibknfkphkgaaDoor
