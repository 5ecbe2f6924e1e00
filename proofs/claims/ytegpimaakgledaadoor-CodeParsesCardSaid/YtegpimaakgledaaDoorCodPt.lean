/- What stands while a text is parsed, as the document does. -/
import Derived.Test.YtegpimaakgledaaDoorRows
import Derived.Test.YtegpimaakgledaaDoorCodPs
import Derived.Test.YtegpimaakgledaaDoorCodSb
import Derived.Test.YtegpimaakgledaaDoorCodNb
import Derived.Test.YtegpimaakgledaaDoorCodOp
namespace Go.Proofs.YtegpimaakgledaaDoor
open Go Go.RowKit
open Go.Lib (itoa atoiAll parseIntB trimPrefix hasPrefix)
open Wit (spl jnB jn_cons jn_spl spl_jn rdB rdB_itoa rdB_sound Fit spl_pos)
set_option linter.unusedVariables false
set_option linter.unusedSimpArgs false
namespace Cod
theorem spl_len (b : UInt8) : ∀ (s cur : List UInt8), (spl b cur s).length ≤ s.length + 1 ∧ ∀ p ∈ spl b cur s, p.length ≤ cur.length + s.length
  | [], cur => by
    unfold spl
    exact ⟨by simp, fun p hp => by rw [List.mem_singleton.1 hp]; simp⟩
  | x :: r, cur => by
    unfold spl
    split
    · obtain ⟨h1, h2⟩ := spl_len b r []
      refine ⟨by rw [List.length_cons, List.length_cons]; omega, fun p hp => ?_⟩
      rcases List.mem_cons.1 hp with rfl | hp
      · omega
      · have := h2 p hp
        rw [List.length_nil] at this
        rw [List.length_cons]
        omega
    · obtain ⟨h1, h2⟩ := spl_len b r (cur ++ [x])
      refine ⟨by rw [List.length_cons]; omega, fun p hp => ?_⟩
      have := h2 p hp
      rw [List.length_append, List.length_singleton] at this
      rw [List.length_cons]
      omega
theorem opFrom_eq (nm : List UInt8) : ∀ (f o k : Nat), opFrom nm f o = some k → (opO (k : Int)).nm.data.toList = nm
  | 0, o, k, e => by cases e
  | f + 1, o, k, e => by
    unfold opFrom at e
    split at e
    · split at e
      · cases e; assumption
      · exact opFrom_eq nm f (o + 1) k e
    · cases e
/-- What a name's operation tells: none, or an operation with that name. -/
theorem opV_cases (nm : List UInt8) : (opV nm = 0 ∧ opOf nm = none) ∨ (1 ≤ opV nm ∧ opV nm ≤ 29 ∧ (opO (opV nm : Int)).nm.data.toList = nm) := by
  unfold opV
  cases h : opOf nm with
  | none => exact .inl ⟨rfl, rfl⟩
  | some o =>
    have := opFrom_bnd nm 30 1 o (Nat.le_refl _) h
    exact .inr ⟨this.1, this.2, opFrom_eq nm 30 1 o h⟩
theorem bytes_eqc (a l : List UInt8) : ((bytes a).toList == l) = decide (a = l) := by
  have := bytes_eq a l
  rwa [show (bytes l).toList = l by rw [ByteArray.toList_eq]; simp [bytes]] at this
theorem str_cells {w : World} {B : Nat} {A : Option Addr} {n c : Nat} {P : List (List UInt8)} (h : w.ownsRow B 9 1 (.slice A n c) n (P.map strV)) (hn : 0 < n) : ∃ g, A = some ⟨g, 0, none⟩ ∧ ∀ i (hi : i < P.length), w.cell? ⟨g, i, none⟩ = some (.string (bytes P[i])) := by
  obtain ⟨g, hA, _, _, _, _, _, hc⟩ := own_cell h hn
  exact ⟨g, hA, fun i hi => hc i _ (by rw [List.getElem?_map, List.getElem?_eq_getElem hi]; rfl)⟩
def Z3 : Array Value := #[.slice none 0 0, .int .i64 0, .slice none 0 0]
structure Pst (w wr : World) (X Y Z : Nat) (pc : Array Value) (LA : Option Addr) (lc : Nat) (L : List (List UInt8)) : Prop where
  bx : Blk wr X 25 Z3
  by_ : Blk wr Y 25 pc
  bz : Blk wr Z 25 Z3
  lr : wr.ownsRow X 9 1 (.slice LA L.length lc) L.length (L.map strV)
  bl : Below X w wr
  le : X ≤ wr.heap.size
section
variable {w wr wr' : World} {X Y Z : Nat} {pc : Array Value} {LA : Option Addr} {lc : Nat} {L : List (List UInt8)}
theorem Pst.below (p : Pst w wr X Y Z pc LA lc L) (h : Below wr.heap.size wr wr') : Pst w wr' X Y Z pc LA lc L :=
  ⟨p.bx.below h p.bx.lt, p.by_.below h p.by_.lt, p.bz.below h p.bz.lt, own_belowR p.lr h, p.bl.trans (h.mono p.le), Nat.le_trans p.le h.size⟩
theorem Pst.set (p : Pst w wr X Y Z pc LA lc L) (hXY : X < Y) (hYZ : Y < Z) (k : Nat) (u : Value) : Pst w (wr.setCell ⟨Y, k, none⟩ u) X Y Z (pc.setIfInBounds k u) LA lc L :=
  ⟨p.bx.far (p := ⟨Y, k, none⟩) (show X ≠ Y by omega) u, p.by_.set_ k u, p.bz.far (p := ⟨Y, k, none⟩) (show Z ≠ Y by omega) u, own_setCell (p := ⟨Y, k, none⟩) p.lr (own_blk_ne p.lr p.by_ (by decide)) u, p.bl.setCell (p := ⟨Y, k, none⟩) (Nat.le_of_lt hXY) u, by simpa [World.setCell] using p.le⟩
theorem Pst.keep {tys : List TypeId} (p : Pst w wr X Y Z pc LA lc L) (h : Below X wr wr') (k : KeepsBut tys wr wr') (h1 : ¬ 25 ∈ tys) (h2 : ¬ 9 ∈ tys) : Pst w wr' X Y Z pc LA lc L :=
  ⟨KeepsBut.blk k p.bx h1, KeepsBut.blk k p.by_ h1, KeepsBut.blk k p.bz h1, KeepsBut.own k p.lr h2, p.bl.trans h, Nat.le_trans p.le k.1⟩
end
/-- What the document's Parse answers. -/
def PbPost (s : List UInt8) (w : World) (e : Ending) (w' : World) : Prop :=
  ((∃ v arrs cs hs C cc A ca, HrR cs v arrs (some hs) ∧ txP v arrs cs = s ∧ Well cs v arrs ∧ arrs.length ≤ 90000 ∧ cs.length ≤ 90000 ∧ e = .returned (.tuple #[PrV C cs.length cc v A arrs.length ca, .int .i64 0]) ∧ Own w' w.heap.size C cc cs A ca arrs) ∨
   (e = .returned (.tuple #[.agg #[.slice none 0 0, .int .i64 0, .slice none 0 0], .int .i64 50]) ∧ NP s)) ∧ Below w.heap.size w w'
theorem ln_one {l : List UInt8} {a : List UInt8} (h : spl 32 [] l = [a]) {o : Nat} (hn : (opO (o : Int)).nm.data.toList = a) : l = lnI ⟨(o : Int), 0⟩ := by
  have := jn_spl 32 l []
  rw [h] at this
  unfold lnI ptI
  simp only [if_true]
  rw [hn, this]
  rfl
theorem ln_two {l : List UInt8} {a b : List UInt8} (h : spl 32 [] l = [a, b]) {o : Nat} (hn : (opO (o : Int)).nm.data.toList = a) {z : Int} (hz : z ≠ 0) (hb : itoa z = b) : l = lnI ⟨(o : Int), z⟩ := by
  have := jn_spl 32 l []
  rw [h] at this
  unfold lnI ptI
  simp only [hz, if_false]
  rw [hn, hb, this]
  rfl
end Cod
end Go.Proofs.YtegpimaakgledaaDoor
