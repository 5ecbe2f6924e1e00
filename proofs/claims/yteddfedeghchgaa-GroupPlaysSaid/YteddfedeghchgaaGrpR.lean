/- What comes in: groups and acts, as they are read; Great. -/
import Derived.Test.YteddfedeghchgaaRows
import Derived.Test.YteddfedeghchgaaGrpQ
import Derived.Test.YteddfedeghchgaaStructs
namespace Go.Proofs.Yteddfedeghchgaa
open Go.Joins Go.ChangeShapes Go.WideShapes Go.RowKit Go.Deep
set_option linter.unusedVariables false
set_option linter.unusedSimpArgs false
namespace Grp
theorem getD_take (l : List Int) (n i : Nat) (h : i < n) : (l.take n).getD i 0 = l.getD i 0 := by
  rw [List.getD, List.getD, List.getElem?_take, if_pos h]
section
variable {H : Type} {enc : TypeId × Value → H} {w : World} {base : Nat} {spare : Nat → Bool} {held : Bool}
theorem row_of {fuel : Nat} {c : Value} {x : DataW H × List MemPlace} (h : DataW.trod enc Try.prog w base spare held fuel 22 [c] = some x) (hs : ∀ b, spare b = true) :
    ∃ (A : Option Addr) (row : List Int) (cap : Nat), c = .slice A row.length cap ∧ NRow w A row := by
  rcases open_ints Try.underlying22 Try.underlying3 (by kernel_rfl) h with ⟨hcs, _⟩ | ⟨a, l, cap, zs, hcs, _, hl, hm, hz, _, hcell, hwz⟩
  · simp at hcs
    exact ⟨none, [], 0, hcs, fun h => absurd h (Nat.lt_irrefl 0)⟩
  · rw [hs, if_pos rfl] at hz
    simp at hcs
    have hlz : (zs.take l).length = l := by rw [List.length_take, hz]; omega
    refine ⟨some a, zs.take l, cap, by rw [hlz]; exact hcs, fun h => ⟨a, rfl, ?_, fun j hj => ?_⟩⟩
    · rw [hlz] at h
      have := block_lt_of_cell (hcell 0 (by omega))
      rwa [block_of_add] at this
    · rw [hlz] at hj
      rw [getD_take zs l j hj]
      exact hcell j (by omega)
theorem group_cells {fuel : Nat} {c0 c1 : Value} {x : DataW H × List MemPlace} (h : DataW.trod enc Try.prog w base spare held fuel 24 [c0, c1] = some x) (hs : ∀ b, spare b = true) :
    ∃ (key : ByteArray) (A : Option Addr) (row : List Int) (cap : Nat), c0 = .string key ∧ c1 = .slice A row.length cap ∧ NRow w A row ∧ key.size ≤ maxLen := by
  obtain ⟨y0, y1, n, _, _, h0, h1⟩ := trod_struct2 Try.underlying24 h
  have hC3 : Try.prog.cellsOf 22 = 1 := by kernel_rfl
  have hC4 : Try.prog.cellsOf 9 = 1 := by kernel_rfl
  have h0' : DataW.trod enc Try.prog w base spare held n 9 (([c0, c1].drop 0).take (Try.prog.cellsOf 9)) = some y0 := h0
  have h1' : DataW.trod enc Try.prog w base spare held n 22 (([c0, c1].drop 1).take (Try.prog.cellsOf 22)) = some y1 := h1
  rw [hC4] at h0'
  rw [hC3] at h1'
  have h0' : DataW.trod enc Try.prog w base spare held n 9 [c0] = some y0 := h0'
  have h1' : DataW.trod enc Try.prog w base spare held n 22 [c1] = some y1 := h1'
  obtain ⟨key, e0, _, hk⟩ := DataW.trod_string Try.underlying9 h0'
  obtain rfl : c0 = .string key := by simpa using e0
  obtain ⟨A, row, cap, e1, hr⟩ := row_of h1' hs
  exact ⟨key, A, row, cap, rfl, e1, hr, hk⟩
theorem group_of {v : Value} {d : DataW H} {p : List MemPlace} {b0 : Nat} (o : Value.okWide Try.prog w .any b0 24 v) (r : DataW.Trod enc Try.prog w base spare held 24 v d p) (hs : ∀ b, spare b = true) :
    ∃ (key : ByteArray) (A : Option Addr) (row : List Int) (cap : Nat), v = .agg #[.string key, .slice A row.length cap] ∧ NRow w A row := by
  obtain ⟨cs, rfl, hsz⟩ := okWide_struct Try.underlying24 o
  obtain ⟨l⟩ := cs
  have hC : Try.prog.cellsOf 24 = 2 := by kernel_rfl
  match l, hsz.trans hC with
  | [c0, c1], _ =>
    obtain ⟨fuel, hf⟩ := r
    obtain ⟨key, A, row, cap, rfl, rfl, hr, _⟩ := group_cells (show DataW.trod enc Try.prog w base spare held fuel 24 [c0, c1] = some (d, p) from hf) hs
    exact ⟨key, A, row, cap, rfl, hr⟩
/-- An act that comes in. -/
structure Ac where
  kind : Int
  h : Int
  key : ByteArray
  A : Option Addr
  cap : Nat
  l : List Int
instance : Inhabited Ac := ⟨⟨0, 0, ⟨#[]⟩, none, 0, []⟩⟩
def Ac.at_ (w : World) (p : Addr) (x : Ac) : Prop :=
  w.cell? p = some (.int .u8 x.kind) ∧ w.cell? ⟨p.block, p.off + 1, none⟩ = some (.int .i64 x.h) ∧ w.cell? ⟨p.block, p.off + 2, none⟩ = some (.string x.key) ∧ w.cell? ⟨p.block, p.off + 3, none⟩ = some (.slice x.A x.l.length x.cap) ∧ NRow w x.A x.l ∧ 0 ≤ x.kind ∧ x.kind ≤ 255 ∧ p.block < w.heap.size
def Acts (w : World) (A : Option Addr) (n : Nat) (F : Nat → Ac) : Prop := ∀ i, i < n → ∃ a, A = some a ∧ (F i).at_ w (a.add (i * 4))
theorem Acts.below {w w' : World} {A : Option Addr} {n : Nat} {F : Nat → Ac} (h : Acts w A n F) (hb : Below w.heap.size w w') : Acts w' A n F := fun i hi => by
  obtain ⟨a, rfl, c0, c1, c2, c3, hr, k0, k1, hlt⟩ := h i hi
  exact ⟨a, rfl, (hb.cell hlt).trans c0, (hb.cell (p := ⟨_, _, none⟩) hlt).trans c1, (hb.cell (p := ⟨_, _, none⟩) hlt).trans c2, (hb.cell (p := ⟨_, _, none⟩) hlt).trans c3, hr.below hb, k0, k1, Nat.lt_of_lt_of_le hlt hb.size⟩
theorem add_lits (a : Addr) (j : Nat) (hj : 0 < j) : a.add j = ⟨a.block, a.off + j, none⟩ := by unfold Addr.add; rw [if_neg (by omega)]
theorem acts_of {v : Value} {d : DataW H} {p : List MemPlace} {b0 : Nat} (o : Value.okWide Try.prog w .any b0 25 v) (r : DataW.Trod enc Try.prog w base spare held 25 v d p) (hs : ∀ b, spare b = true) :
    ∃ (A : Option Addr) (n cap : Nat) (F : Nat → Ac), v = .slice A n cap ∧ n ≤ maxLen ∧ Acts w A n F := by
  obtain ⟨A0, n0, c0, rfl⟩ := okWide_slice Try.underlying25 o
  obtain ⟨fuel, hf⟩ := r
  rcases open_slice Try.underlying25 (show DataW.trod enc Try.prog w base spare held fuel 25 [.slice A0 n0 c0] = some (d, p) by simpa [Value.cells] using hf) with ⟨h0, _⟩ | ⟨a, len, cap, m, n, D, Pl, hcs, hb, hl, hm, hmm, hx, hi⟩
  · simp at h0
    obtain ⟨rfl, rfl, rfl⟩ := h0
    exact ⟨none, 0, 0, fun _ => default, rfl, Nat.zero_le _, fun i hi => absurd hi (Nat.not_lt_zero i)⟩
  · simp at hcs
    obtain ⟨rfl, rfl, rfl⟩ := hcs
    rw [hs, if_pos rfl] at hmm
    have hC : Try.prog.cellsOf 35 = 4 := by kernel_rfl
    have each : ∀ i, i < n0 → ∃ x : Ac, x.at_ w (a.add (i * 4)) := by
      intro i hil
      obtain ⟨cs', hc, ht⟩ := hi i (by omega)
      rw [hC] at hc
      obtain ⟨_, hcl, hat⟩ := World.cells?_some hc
      match cs', hcl with
      | [k0, k1, k2, k3], _ =>
        obtain ⟨xs, m', _, _, _, hlen, hg⟩ := DataW.trod_struct Try.underlying35 ht
        have hC5 : Try.prog.cellsOf 5 = 1 := by kernel_rfl
        have hC3 : Try.prog.cellsOf 3 = 1 := by kernel_rfl
        have hC2 : Try.prog.cellsOf 24 = 2 := by kernel_rfl
        have g0 : DataW.trod enc Try.prog w base spare held m' 5 (([k0, k1, k2, k3].drop 0).take (Try.prog.cellsOf 5)) = xs[0]? := hg 0 _ rfl
        have g1 : DataW.trod enc Try.prog w base spare held m' 3 (([k0, k1, k2, k3].drop 1).take (Try.prog.cellsOf 3)) = xs[1]? := hg 1 _ rfl
        have g2 : DataW.trod enc Try.prog w base spare held m' 24 (([k0, k1, k2, k3].drop 2).take (Try.prog.cellsOf 24)) = xs[2]? := hg 2 _ rfl
        rw [hC5, List.getElem?_eq_getElem (show 0 < xs.length by rw [hlen]; decide)] at g0
        rw [hC3, List.getElem?_eq_getElem (show 1 < xs.length by rw [hlen]; decide)] at g1
        rw [hC2, List.getElem?_eq_getElem (show 2 < xs.length by rw [hlen]; decide)] at g2
        have g0 : DataW.trod enc Try.prog w base spare held m' 5 [k0] = some (xs[0]'(by rw [hlen]; decide)) := g0
        have g1 : DataW.trod enc Try.prog w base spare held m' 3 [k1] = some (xs[1]'(by rw [hlen]; decide)) := g1
        have g2 : DataW.trod enc Try.prog w base spare held m' 24 [k2, k3] = some (xs[2]'(by rw [hlen]; decide)) := g2
        obtain ⟨z0, e0, _, w0⟩ := DataW.trod_int Try.underlying5 g0
        obtain ⟨z1, e1, _, w1⟩ := DataW.trod_int Try.underlying3 g1
        obtain ⟨key, A', row, cap', rfl, rfl, hr, _⟩ := group_cells g2 hs
        have q0 := hat 0 (by omega)
        have q1 := hat 1 (by omega)
        have q2 := hat 2 (by omega)
        have q3 := hat 3 (by omega)
        simp at e0 e1
        subst e0 e1
        have hw : 0 ≤ z0 ∧ z0 ≤ 255 := by
          simp [Lit.wf] at w0
          have h1 : IntKind.u8.min = 0 := rfl
          have h2 : IntKind.u8.max = 255 := rfl
          omega
        have q0' : w.cell? (a.add (i * 4)) = some (.int .u8 z0) := by simpa [Addr.add] using q0
        refine ⟨⟨z0, z1, key, A', cap', row⟩, q0', ?_, ?_, ?_, hr, hw.1, hw.2, block_lt_of_cell q0'⟩
        · rw [add_lits _ 1 (by omega)] at q1; exact q1
        · rw [add_lits _ 2 (by omega)] at q2; exact q2
        · rw [add_lits _ 3 (by omega)] at q3; exact q3
    obtain ⟨F, hF⟩ := choose_lt each
    exact ⟨some a, n0, c0, F, rfl, by omega, fun i hi => ⟨a, rfl, hF i hi⟩⟩
end
/-- What Great tells. -/
def gt (key : ByteArray) (n : Nat) : Bool := decide (80 < n) || decide (200 < key.size)
set_option maxRecDepth 100000 in
theorem Great_a (key : ByteArray) (A : Option Addr) (n cap : Nat) (w : World) :
    Calls Try.prog 4 #[.agg #[.string key, .slice A n cap]] w fun e w' => e = .returned (.bool (gt key n)) ∧ Below w.heap.size w w' := by
  have hb1 := (Below.refl w.heap.size w).alloc (Nat.le_refl _) (.cells #[.string key, .slice A n cap] 24)
  have b1 := Blk.new w 24 #[.string key, .slice A n cap]
  obtain ⟨W1, hW1⟩ : ∃ W1, w.alloc (.cells #[.string key, .slice A n cap] 24) = W1 := ⟨_, rfl⟩
  rw [hW1] at hb1 b1
  have q0 : W1.cell? ⟨w.heap.size, 0, none⟩ = some (.string key) := b1.cell 0
  have q1 : W1.cell? ⟨w.heap.size, 1, none⟩ = some (.slice A n cap) := b1.cell 1
  have HB := hide hb1
  clear hb1 b1
  by_cases h1 : 80 < n
  · have hI : (80 : Int) < (n : Int) := by omega
    have E : gt key n = true := by simp [gt, h1]
    rw [E]
    clear E h1
    go_enter Try.func4, Try.ntmps4
    go_wp2_with fail
    go_ret
    exact ⟨rfl, HB.out⟩
  · have hI : ¬ (80 : Int) < (n : Int) := by omega
    have E : gt key n = decide ((200 : Int) < (key.size : Int)) := by
      have : ((200 : Int) < (key.size : Int)) ↔ 200 < key.size := by omega
      simp [gt, h1, this]
    rw [E]
    clear E h1
    go_enter Try.func4, Try.ntmps4
    go_wp2_with fail
    go_ret
    exact ⟨rfl, HB.out⟩
end Grp
end Go.Proofs.Yteddfedeghchgaa
