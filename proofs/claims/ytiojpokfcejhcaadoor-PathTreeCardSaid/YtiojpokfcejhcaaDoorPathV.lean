/- What comes in: acts of a stack, as they are read; how much is left behind a step. -/
import Derived.Test.YtiojpokfcejhcaaDoorRows
import Derived.Test.YtiojpokfcejhcaaDoorPathH
import Derived.Test.YtiojpokfcejhcaaDoorStructs
namespace Go.Proofs.YtiojpokfcejhcaaDoor
open Go.Joins Go.ChangeShapes Go.WideShapes Go.RowKit Go.Deep
set_option linter.unusedVariables false
set_option linter.unusedSimpArgs false
namespace Pth
theorem leftS_rev : ∀ l : List Lv, leftS l.reverse = leftS l
  | [] => rfl
  | x :: l => by
    rw [List.reverse_cons, leftS_app, leftS_rev l, leftS]
    simp [leftS]
    omega
theorem left_on {x : Lv} (h : 0 < leftN x) : leftN x.on + 1 = leftN x := by
  unfold leftN at h ⊢
  have : many x.on = many x := rfl
  rw [this]
  show many x - 1 - (x.at_ + 1) + 1 = many x - 1 - x.at_
  omega
theorem nextR_left : ∀ l : List Lv, (nextR l ≠ [] → leftS (nextR l) + 1 = leftS l) ∧ (nextR l = [] → leftS l = 0)
  | [] => ⟨fun h => absurd rfl h, fun _ => rfl⟩
  | x :: l => by
    have ih := nextR_left l
    rw [nextR, leftS]
    split
    · rename_i h
      have := left_on h
      exact ⟨fun _ => by rw [leftS]; omega, fun h => by cases h⟩
    · rename_i h
      have h0 : leftN x = 0 := by omega
      rw [h0, Nat.zero_add]
      exact ih
theorem nextL_left (l : List Lv) : (nextL l ≠ [] → leftS (nextL l) + 1 = leftS l) ∧ (nextL l = [] → leftS l = 0) := by
  unfold nextL
  have := nextR_left l.reverse
  rw [leftS_rev] at this ⊢
  exact ⟨fun h => this.1 fun e => h (by rw [e]; rfl), fun h => this.2 (by simpa using h)⟩
/-- An act that comes in. -/
structure Ac where
  kind : Int
  r : Int
  c : Int
  A : Option Addr
  cap : Nat
  vs : List Ch
  off : Bool
instance : Inhabited Ac := ⟨⟨0, 0, 0, none, 0, [], false⟩⟩
def Ac.at_ (w : World) (p : Addr) (x : Ac) : Prop :=
  w.cell? p = some (.int .u8 x.kind) ∧ w.cell? ⟨p.block, p.off + 1, none⟩ = some (.int .i64 x.r) ∧ w.cell? ⟨p.block, p.off + 2, none⟩ = some (.int .i64 x.c) ∧ w.cell? ⟨p.block, p.off + 3, none⟩ = some (.slice x.A x.vs.length x.cap) ∧ w.cell? ⟨p.block, p.off + 4, none⟩ = some (.bool x.off) ∧ CRow w x.A x.vs ∧ 0 ≤ x.kind ∧ x.kind ≤ 255 ∧ p.block < w.heap.size
def Acts (w : World) (A : Option Addr) (n : Nat) (F : Nat → Ac) : Prop := ∀ i, i < n → ∃ a, A = some a ∧ (F i).at_ w (a.add (i * 5))
theorem Acts.below {w w' : World} {A : Option Addr} {n : Nat} {F : Nat → Ac} (h : Acts w A n F) (hb : Below w.heap.size w w') : Acts w' A n F := fun i hi => by
  obtain ⟨a, rfl, c0, c1, c2, c3, c4, hr, k0, k1, hlt⟩ := h i hi
  exact ⟨a, rfl, (hb.cell hlt).trans c0, (hb.cell (p := ⟨_, _, none⟩) hlt).trans c1, (hb.cell (p := ⟨_, _, none⟩) hlt).trans c2, (hb.cell (p := ⟨_, _, none⟩) hlt).trans c3, (hb.cell (p := ⟨_, _, none⟩) hlt).trans c4, hr.below hb, k0, k1, Nat.lt_of_lt_of_le hlt hb.size⟩
theorem add_lits (a : Addr) (j : Nat) (hj : 0 < j) : a.add j = ⟨a.block, a.off + j, none⟩ := by unfold Addr.add; rw [if_neg (by omega)]
section
variable {H : Type} {enc : TypeId × Value → H} {w : World} {base : Nat}
theorem point_cells {fuel : Nat} {k0 k1 k2 : Value} {x : DataW H × List MemPlace} (h : DataW.trod enc Tryd.prog w 0 (fun _ => true) true fuel 36 [k0, k1, k2] = some x) :
    ∃ (r c : Int) (A : Option Addr) (l : List Ch) (cap : Nat), k0 = .int .i64 r ∧ k1 = .int .i64 c ∧ k2 = .slice A l.length cap ∧ CRow w A l := by
  have hC3 : Tryd.prog.cellsOf 3 = 1 := by kernel_rfl
  have hC4 : Tryd.prog.cellsOf 34 = 1 := by kernel_rfl
  obtain ⟨xs, m', _, _, _, hlen, hg⟩ := DataW.trod_struct Tryd.underlying36 h
  have g0 : DataW.trod enc Tryd.prog w 0 (fun _ => true) true m' 3 (([k0, k1, k2].drop 0).take (Tryd.prog.cellsOf 3)) = xs[0]? := hg 0 _ rfl
  have g1 : DataW.trod enc Tryd.prog w 0 (fun _ => true) true m' 3 (([k0, k1, k2].drop 1).take (Tryd.prog.cellsOf 3)) = xs[1]? := hg 1 _ rfl
  have g2 : DataW.trod enc Tryd.prog w 0 (fun _ => true) true m' 34 (([k0, k1, k2].drop 2).take (Tryd.prog.cellsOf 34)) = xs[2]? := hg 2 _ rfl
  rw [hC3, List.getElem?_eq_getElem (show 0 < xs.length by rw [hlen]; decide)] at g0
  rw [hC3, List.getElem?_eq_getElem (show 1 < xs.length by rw [hlen]; decide)] at g1
  rw [hC4, List.getElem?_eq_getElem (show 2 < xs.length by rw [hlen]; decide)] at g2
  have g0 : DataW.trod enc Tryd.prog w 0 (fun _ => true) true m' 3 [k0] = some (xs[0]'(by rw [hlen]; decide)) := g0
  have g1 : DataW.trod enc Tryd.prog w 0 (fun _ => true) true m' 3 [k1] = some (xs[1]'(by rw [hlen]; decide)) := g1
  have g2 : DataW.trod enc Tryd.prog w 0 (fun _ => true) true m' 34 [k2] = some (xs[2]'(by rw [hlen]; decide)) := g2
  obtain ⟨z0, e0, _, _⟩ := DataW.trod_int Tryd.underlying3 g0
  obtain ⟨z1, e1, _, _⟩ := DataW.trod_int Tryd.underlying3 g1
  simp at e0 e1
  obtain ⟨A0, n0, c0, rfl⟩ : ∃ A n c, k2 = .slice A n c := by
    rcases DataW.trod_slice Tryd.underlying34 g2 with h0 | ⟨a, len, cap, _, _, _, _, h0, _⟩
    · exact ⟨none, 0, 0, by simpa using h0.1⟩
    · exact ⟨some a, len, cap, by simpa using h0⟩
  obtain ⟨A, l, c, hv, hR, _⟩ := CRow.of g2
  exact ⟨z0, z1, A, l, c, e0, e1, hv, hR⟩
theorem acts_of {v : Value} {d : DataW H} {p : List MemPlace} {b0 : Nat} (o : Value.okWide Tryd.prog w .any b0 41 v) (r : DataW.Trod enc Tryd.prog w 0 (fun _ => true) true 41 v d p) :
    ∃ (A : Option Addr) (n cap : Nat) (F : Nat → Ac), v = .slice A n cap ∧ n ≤ maxLen ∧ Acts w A n F := by
  obtain ⟨A0, n0, c0, rfl⟩ := okWide_slice Tryd.underlying41 o
  obtain ⟨fuel, hf⟩ := r
  rcases open_slice Tryd.underlying41 (show DataW.trod enc Tryd.prog w 0 (fun _ => true) true fuel 41 [.slice A0 n0 c0] = some (d, p) by simpa [Value.cells] using hf) with ⟨h0, _⟩ | ⟨a, len, cap, m, n, D, Pl, hcs, hb, hl, hm, hmm, hx, hi⟩
  · simp at h0
    obtain ⟨rfl, rfl, rfl⟩ := h0
    exact ⟨none, 0, 0, fun _ => default, rfl, Nat.zero_le _, fun i hi => absurd hi (Nat.not_lt_zero i)⟩
  · simp at hcs
    obtain ⟨rfl, rfl, rfl⟩ := hcs
    rw [if_pos rfl] at hmm
    have hC : Tryd.prog.cellsOf 45 = 5 := by kernel_rfl
    have each : ∀ i, i < n0 → ∃ x : Ac, x.at_ w (a.add (i * 5)) := by
      intro i hil
      obtain ⟨cs', hc, ht⟩ := hi i (by omega)
      rw [hC] at hc
      obtain ⟨_, hcl, hat⟩ := World.cells?_some hc
      match cs', hcl with
      | [k0, k1, k2, k3, k4], _ =>
        obtain ⟨xs, m', _, _, _, hlen, hg⟩ := DataW.trod_struct Tryd.underlying45 ht
        have hC5 : Tryd.prog.cellsOf 5 = 1 := by kernel_rfl
        have hC3 : Tryd.prog.cellsOf 36 = 3 := by kernel_rfl
        have hC2 : Tryd.prog.cellsOf 4 = 1 := by kernel_rfl
        have g0 : DataW.trod enc Tryd.prog w 0 (fun _ => true) true m' 5 (([k0, k1, k2, k3, k4].drop 0).take (Tryd.prog.cellsOf 5)) = xs[0]? := hg 0 _ rfl
        have g1 : DataW.trod enc Tryd.prog w 0 (fun _ => true) true m' 36 (([k0, k1, k2, k3, k4].drop 1).take (Tryd.prog.cellsOf 36)) = xs[1]? := hg 1 _ rfl
        have g2 : DataW.trod enc Tryd.prog w 0 (fun _ => true) true m' 4 (([k0, k1, k2, k3, k4].drop 4).take (Tryd.prog.cellsOf 4)) = xs[2]? := hg 2 _ rfl
        rw [hC5, List.getElem?_eq_getElem (show 0 < xs.length by rw [hlen]; decide)] at g0
        rw [hC3, List.getElem?_eq_getElem (show 1 < xs.length by rw [hlen]; decide)] at g1
        rw [hC2, List.getElem?_eq_getElem (show 2 < xs.length by rw [hlen]; decide)] at g2
        have g0 : DataW.trod enc Tryd.prog w 0 (fun _ => true) true m' 5 [k0] = some (xs[0]'(by rw [hlen]; decide)) := g0
        have g1 : DataW.trod enc Tryd.prog w 0 (fun _ => true) true m' 36 [k1, k2, k3] = some (xs[1]'(by rw [hlen]; decide)) := g1
        have g2 : DataW.trod enc Tryd.prog w 0 (fun _ => true) true m' 4 [k4] = some (xs[2]'(by rw [hlen]; decide)) := g2
        obtain ⟨z0, e0, _, w0⟩ := DataW.trod_int Tryd.underlying5 g0
        obtain ⟨z4, e4, _⟩ := DataW.trod_bool Tryd.underlying4 g2
        obtain ⟨pr, pc, pA, pl, pcap, rfl, rfl, rfl, hr⟩ := point_cells g1
        have q0 := hat 0 (by omega)
        have q1 := hat 1 (by omega)
        have q2 := hat 2 (by omega)
        have q3 := hat 3 (by omega)
        have q4 := hat 4 (by omega)
        simp at e0 e4
        subst e0 e4
        have hw : 0 ≤ z0 ∧ z0 ≤ 255 := by
          simp [Lit.wf] at w0
          have h1 : IntKind.u8.min = 0 := rfl
          have h2 : IntKind.u8.max = 255 := rfl
          omega
        have q0' : w.cell? (a.add (i * 5)) = some (.int .u8 z0) := by simpa [Addr.add] using q0
        refine ⟨⟨z0, pr, pc, pA, pcap, pl, z4⟩, q0', ?_, ?_, ?_, ?_, hr, hw.1, hw.2, block_lt_of_cell q0'⟩
        · rw [add_lits _ 1 (by omega)] at q1; exact q1
        · rw [add_lits _ 2 (by omega)] at q2; exact q2
        · rw [add_lits _ 3 (by omega)] at q3; exact q3
        · rw [add_lits _ 4 (by omega)] at q4; exact q4
    obtain ⟨F, hF⟩ := choose_lt each
    exact ⟨some a, n0, c0, F, rfl, by omega, fun i hi => ⟨a, rfl, hF i hi⟩⟩
end
def Small (F : Nat → Ac) (n : Nat) : Prop := n ≤ 200 ∧ ∀ i, i < n → (F i).vs.length ≤ 100
set_option maxRecDepth 100000 in
set_option maxHeartbeats 4000000 in
theorem Great_a (A : Option Addr) (n cap : Nat) (F : Nat → Ac) (w : World) (h : Acts w A n F) :
    Calls Tryd.prog 15 #[.slice A n cap] w fun e w' => (e = .returned (.bool true) ∨ e = .returned (.bool false) ∧ Small F n) ∧ Below w.heap.size w w' := by
  by_cases h2 : 200 < n
  · have hI : (200 : Int) < (n : Int) := by omega
    clear h h2
    go_enter Tryd.func15, Tryd.ntmps15
    go_wp2_with fail
    go_ret
    exact ⟨.inl rfl, Below.refl _ _⟩
  have hI : ¬ (200 : Int) < (n : Int) := by omega
  have H := hide h
  have HN := hide (show n ≤ 200 by omega)
  clear h h2
  go_enter Tryd.func15, Tryd.ntmps15
  go_wp2_with fail
  go_loopw [3] (fun vi wr => ∃ (k : Nat), k ≤ n ∧ vi = .int .i64 k ∧ Hid (∀ i, i < k → (F i).vs.length ≤ 100) ∧ Hid (Below w.heap.size w wr)) (fun vi _ => n - (intOf vi).toNat)
  case atStart => exact ⟨0, by omega, rfl, hide (fun i hi => absurd hi (Nat.not_lt_zero i)), hide (Below.refl _ _)⟩
  case round =>
    obtain ⟨k, hk, rfl, HS, HB⟩ := hrel
    by_cases hlt : k < n
    · have hltI : (k : Int) < (n : Int) := by omega
      obtain ⟨a, rfl, c0, c1, c2, c3, c4, hr, k0, k1, hal⟩ := H.out.below HB.out k hlt
      have HS2 := hide (fun (hs : (F k).vs.length ≤ 100) i (hi : i < k + 1) => show (F i).vs.length ≤ 100 from by
        by_cases e : i = k
        · rw [e]; exact hs
        · exact HS.out i (by omega))
      have hn := HN.out
      generalize hFk : F k = x at *
      obtain ⟨kind, r, c, A', cap', vs, off⟩ := x
      simp only at c0 c1 c2 c3 c4 HS2
      clear hr hFk
      by_cases hs : 100 < vs.length
      · have hsI : (100 : Int) < (vs.length : Int) := by omega
        clear hs
        go_wp2_with fail
        go_ret
        exact ⟨.inl rfl, HB.out⟩
      · have hsI : ¬ (100 : Int) < (vs.length : Int) := by omega
        have HS3 := hide (HS2.out (by omega))
        clear hs
        go_wp2_with fail
        go_roundw
        case rel => exact ⟨k + 1, by omega, by go_num, HS3, HB⟩
        case measure => simp [intOf]; omega
    · have hk2 : k = n := by omega
      have hltI : ¬ (k : Int) < (n : Int) := by omega
      have FIN := hide (show Small F n from ⟨HN.out, fun i hi => HS.out i (by omega)⟩)
      clear hk2
      go_wp2_with fail
      go_ret
      exact ⟨.inr ⟨rfl, FIN.out⟩, HB.out⟩
end Pth
end Go.Proofs.YtiojpokfcejhcaaDoor
