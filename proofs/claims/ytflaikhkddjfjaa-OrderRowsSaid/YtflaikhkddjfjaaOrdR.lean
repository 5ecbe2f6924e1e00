/- The program's plan, as it lies; take. -/
import Derived.Test.YtflaikhkddjfjaaRows
import Derived.Test.YtflaikhkddjfjaaOrdN
import Derived.LoopN
namespace Go.Proofs.Ytflaikhkddjfjaa
open Go Go.RowKit
set_option linter.unusedVariables false
set_option linter.unusedSimpArgs false
namespace Ord
/-- A row of those behind. -/
structure Bh where
  A : Option Addr
  cap : Nat
  l : List Nat
instance : Inhabited Bh := ⟨⟨none, 0, []⟩⟩
def Bh.v (x : Bh) : Value := .slice x.A x.l.length x.cap
structure PlA (w : World) (p g1 g2 B len : Nat) (wt : List Int) (bh : List Bh) : Prop where
  box : Blk w p 90 #[.slice (some ⟨g1, 0, none⟩) len len, .slice (some ⟨g2, 0, none⟩) len len]
  waits : OwnRow w B g1 len wt
  wl : wt.length = len
  tab : ∃ cs : Array Value, B ≤ g2 ∧ Blk w g2 28 cs ∧ cs.size = len ∧ ∀ m, m < len → cs[m]? = some (bh.getD m default).v
  bl : bh.length = len
  rows : ∀ m, m < len → w.ownsRow B 3 1 (bh.getD m default).v (bh.getD m default).l.length (ints (natI (bh.getD m default).l))
  out : ∀ m, m < len → (bh.getD m default).v.ownBlock ≠ some g1
  apart : ∀ m m', m < len → m' < len → m ≠ m' → ∀ g, (bh.getD m default).v.ownBlock = some g → (bh.getD m' default).v.ownBlock ≠ some g
theorem PlA.below {w w' : World} {p g1 g2 B len : Nat} {wt : List Int} {bh : List Bh} (h : PlA w p g1 g2 B len wt bh) (hb : Below w.heap.size w w') : PlA w' p g1 g2 B len wt bh := by
  obtain ⟨cs, h0, h1, h2, h3⟩ := h.tab
  exact ⟨h.box.below hb h.box.lt, h.waits.below hb h.waits.lt, h.wl, ⟨cs, h0, h1.below hb h1.lt, h2, h3⟩, h.bl, fun m hm => own_belowR (h.rows m hm) hb, h.out, h.apart⟩
theorem PlA.cell {w : World} {p g1 g2 B len : Nat} {wt : List Int} {bh : List Bh} (h : PlA w p g1 g2 B len wt bh) {m : Nat} (hm : m < len) : w.cell? ⟨g2, m, none⟩ = some (bh.getD m default).v := by
  obtain ⟨cs, h0, h1, h2, h3⟩ := h.tab
  rw [h1.cell]
  exact h3 m hm
/-- A write to the row of the waits. -/
theorem PlA.set_ {w : World} {p g1 g2 B len : Nat} {wt : List Int} {bh : List Bh} (h : PlA w p g1 g2 B len wt bh) (k : Nat) (x : Int) : PlA (w.setCell ⟨g1, k, none⟩ (.int .i64 x)) p g1 g2 B len (wt.set k x) bh := by
  obtain ⟨cs, h0, h1, h2, h3⟩ := h.tab
  obtain ⟨cur, _, hb, _⟩ := h.waits
  have kk := keeps_set (p := ⟨g1, k, none⟩) hb (.int .i64 x)
  exact ⟨KeepsBut.blk kk h.box (by decide), h.waits.set_ k x, by rw [List.length_set]; exact h.wl, ⟨cs, h0, KeepsBut.blk kk h1 (by decide), h2, h3⟩, h.bl, fun m hm => own_setCell (h.rows m hm) (p := ⟨g1, k, none⟩) (h.out m hm) _, h.out, h.apart⟩
/-- One less for each that waited. -/
def takeF (wt : List Int) : List Nat → List Int
  | [] => wt
  | k :: ks => takeF (wt.set k (wt.getD k 0 - 1)) ks
theorem takeF_snoc : ∀ (l : List Nat) (wt : List Int) (k : Nat), takeF wt (l ++ [k]) = (takeF wt l).set k ((takeF wt l).getD k 0 - 1)
  | [], wt, k => rfl
  | x :: l, wt, k => by rw [List.cons_append, takeF, takeF, takeF_snoc l]
theorem takeF_len : ∀ (l : List Nat) (wt : List Int), (takeF wt l).length = wt.length
  | [], wt => rfl
  | x :: l, wt => by rw [takeF, takeF_len l, List.length_set]
/-- Numbers that are not far off. -/
def Nigh (b : Int) (wt : List Int) : Prop := ∀ j, -b ≤ wt.getD j 0 ∧ wt.getD j 0 ≤ b
theorem Nigh.set {b c : Int} {wt : List Int} (h : Nigh b wt) (k : Nat) (x : Int) (hx : -c ≤ x ∧ x ≤ c) (hc : b ≤ c) : Nigh c (wt.set k x) := fun j => by
  have := h j
  rw [List.getD_eq_getElem?_getD, List.getElem?_set]
  by_cases e : k = j
  · rw [if_pos e]
    split
    · exact hx
    · show -c ≤ (0 : Int) ∧ (0 : Int) ≤ c
      omega
  · rw [if_neg e, ← List.getD_eq_getElem?_getD]
    omega
theorem takeF_nigh : ∀ (l : List Nat) (wt : List Int) (b : Int), Nigh b wt → Nigh (b + l.length) (takeF wt l)
  | [], wt, b, h => by simpa [takeF] using h
  | k :: l, wt, b, h => by
    have h1 := h k
    have := takeF_nigh l (wt.set k (wt.getD k 0 - 1)) (b + 1) (h.set k _ (by omega) (by omega))
    rw [takeF, List.length_cons]
    have e : b + 1 + (l.length : Int) = b + ((l.length + 1 : Nat) : Int) := by omega
    rw [← e]
    exact this
set_option maxRecDepth 100000 in
set_option maxHeartbeats 4000000 in
theorem take_c (p g1 g2 B len i : Nat) (wt : List Int) (bh : List Bh) (w : World) (h : PlA w p g1 g2 B len wt bh) (hi : i < len) (hl : len ≤ 120) (hk : ∀ k ∈ (bh.getD i default).l, k < len) (hll : (bh.getD i default).l.length ≤ 4000) (hw : Nigh 5000 wt) :
    Calls Try.prog 33 #[.pointer (some ⟨p, 0, none⟩), .int .i64 i] w fun e w' => e = .returned (.tuple #[]) ∧ PlA w' p g1 g2 B len (takeF (wt.set i (-1)) (bh.getD i default).l) bh ∧ Only [g1] w w' ∧ (B ≤ w.heap.size → Below B w w') := by
  have q0 : w.cell? ⟨p, 0, none⟩ = some (.slice (some ⟨g1, 0, none⟩) len len) := h.box.cell 0
  have q1 := h.box.cell 1
  have x0 := h.waits.cell i (by rw [h.wl]; exact hi)
  have xf := h.waits.frozen i
  have hiI : (i : Int) < (len : Int) := by omega
  have P1 := h.set_ i (-1)
  have hB := h.waits.ge
  have N1 := hw.set (c := 5000) i (-1) (by omega) (by omega)
  have on1 : Only [g1] w (w.setCell ⟨g1, i, none⟩ (.int .i64 (-1))) := ⟨by simp [World.setCell], fun j _ hj => Below.heap_setCell w ⟨g1, i, none⟩ _ j (fun e => hj (by rw [show j = g1 from e]; exact List.mem_cons_self))⟩
  have be1 : B ≤ w.heap.size → Below B w (w.setCell ⟨g1, i, none⟩ (.int .i64 (-1))) := fun h0 => ((Below.refl B w)).setCell (p := ⟨g1, i, none⟩) hB _
  obtain ⟨w1, hw1⟩ : ∃ x, w.setCell ⟨g1, i, none⟩ (.int .i64 (-1)) = x := ⟨_, rfl⟩
  rw [hw1] at P1 on1 be1
  have y0 : w1.cell? ⟨p, 1, none⟩ = some (.slice (some ⟨g2, 0, none⟩) len len) := P1.box.cell 1
  have y1 := P1.cell hi
  have RW := hide (P1.rows i hi)
  have HK := hide hk
  obtain ⟨wt1, hwt1⟩ : ∃ x, wt.set i (-1) = x := ⟨_, rfl⟩
  rw [hwt1] at P1 N1
  rw [hwt1]
  obtain ⟨bi, hbi⟩ : ∃ x, bh.getD i default = x := ⟨_, rfl⟩
  have HNE := hide (show bi.v.ownBlock ≠ some g1 from by rw [← hbi]; exact h.out i hi)
  rw [hbi] at y1 RW HK hll
  rw [hbi]
  obtain ⟨bA, bc, bl⟩ := bi
  simp only [Bh.v] at y1 RW HK hll HNE
  have P1h := hide P1
  have N1h := hide N1
  have ON := hide on1
  have BE := hide be1
  have z0 := x0
  generalize wt.getD i 0 = z at *
  clear h hk hw q1 P1 hbi hwt1 x0 N1 on1 be1 hB
  go_enter Try.func33, Try.ntmps33
  go_wp2_with fail
  clear hw1 y0 y1 q0 z0 xf
  go_loopw [20] (fun vi wr => ∃ k : Nat, k ≤ bl.length ∧ vi = .int .i64 k ∧ Hid (PlA wr p g1 g2 B len (takeF wt1 (bl.take k)) bh) ∧ Hid (Only [g1] w wr) ∧ Hid (B ≤ w.heap.size → Below B w wr) ∧ Hid (wr.ownsRow B 3 1 (.slice bA bl.length bc) bl.length (ints (natI bl)))) (fun vi _ => bl.length - (intOf vi).toNat)
  case atStart => exact ⟨0, by omega, rfl, P1h, ON, BE, RW⟩
  case round =>
    clear P1h ON BE RW
    obtain ⟨k, hk, rfl, PL, ON, BE, RW⟩ := hrel
    by_cases hlt : k < bl.length
    rotate_left
    · have hltI : ¬ (k : Int) < (bl.length : Int) := by omega
      have e : bl.take k = bl := List.take_of_length_le (by omega)
      rw [e] at PL
      go_wp2_with fail
      go_end0
      exact ⟨rfl, PL.out, ON.out, BE.out⟩
    have hltI : (k : Int) < (bl.length : Int) := by omega
    obtain ⟨ga, rfl, _, ck⟩ := row_at RW.out (show k < (natI bl).length by rw [natI_len]; exact hlt) (natI_len bl)
    have hkm := HK.out _ (List.getElem_mem hlt)
    have eg : (natI bl).getD k 0 = (bl[k] : Int) := by
      rw [List.getD_eq_getElem?_getD, natI, List.getElem?_map, List.getElem?_eq_getElem hlt]
      rfl
    rw [eg] at ck
    have HTK := hide (show takeF wt1 (bl.take (k + 1)) = (takeF wt1 (bl.take k)).set bl[k] ((takeF wt1 (bl.take k)).getD bl[k] 0 - 1) by rw [List.take_succ_eq_append_getElem hlt, takeF_snoc])
    have q0 : wr.cell? ⟨p, 0, none⟩ = some (.slice (some ⟨g1, 0, none⟩) len len) := PL.out.box.cell 0
    generalize bl[k] = j at *
    have x0 := PL.out.waits.cell j (by rw [PL.out.wl]; exact hkm)
    have xf := PL.out.waits.frozen j
    have hjI : (j : Int) < (len : Int) := by omega
    have nz := takeF_nigh (bl.take k) wt1 5000 N1h.out j
    have htl : (bl.take k).length ≤ 4000 := by rw [List.length_take]; omega
    have P2 := PL.out.set_ j ((takeF wt1 (bl.take k)).getD j 0 - 1)
    rw [← HTK.out] at P2
    obtain ⟨z, hz⟩ : ∃ x, (takeF wt1 (bl.take k)).getD j 0 = x := ⟨_, rfl⟩
    rw [hz] at nz P2 x0
    have nz2 : -9000 ≤ z ∧ z ≤ 9000 := by omega
    have P2h := hide P2
    have hgB := PL.out.waits.ge
    have ON2 : Hid (Only [g1] w (wr.setCell ⟨g1, j, none⟩ (.int .i64 (z - 1)))) := hide ⟨Nat.le_trans ON.out.1 (by simp [World.setCell]), fun m hm hj => (Below.heap_setCell wr ⟨g1, j, none⟩ _ m (fun e => hj (by rw [show m = g1 from e]; exact List.mem_cons_self))).trans (ON.out.2 m hm hj)⟩
    have BE2 : Hid (B ≤ w.heap.size → Below B w (wr.setCell ⟨g1, j, none⟩ (.int .i64 (z - 1)))) := hide fun h0 => (BE.out h0).setCell (p := ⟨g1, j, none⟩) hgB _
    have RW2 := hide (own_setCell RW.out (p := ⟨g1, j, none⟩) HNE.out (.int .i64 (z - 1)))
    clear P2 hz nz hkm eg hgB
    go_wp2_with fail
    go_roundw
    case rel => exact ⟨k + 1, by omega, by go_num, P2h, ON2, BE2, RW2⟩
    case measure => simp [intOf] <;> omega
end Ord
end Go.Proofs.Ytflaikhkddjfjaa
