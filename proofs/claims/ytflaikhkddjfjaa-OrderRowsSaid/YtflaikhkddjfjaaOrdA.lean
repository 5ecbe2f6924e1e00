/- Events, as they come in; Great. -/
import Derived.Test.YtflaikhkddjfjaaRows
import Derived.Test.YtflaikhkddjfjaaCloG
import Derived.Test.YtflaikhkddjfjaaStructs
import Derived.Test.YtflaikhkddjfjaaOrdP
namespace Go.Proofs.Ytflaikhkddjfjaa
open Go.Joins Go.ChangeShapes Go.WideShapes Go.RowKit Go.Deep
set_option linter.unusedVariables false
set_option linter.unusedSimpArgs false
namespace Ord
theorem rd_on {w w' : World} {A : Option Addr} {l : List Int} (h : Rd w w.heap.size A l) (hb : Below w.heap.size w w') : Rd w' w'.heap.size A l := Reads.more (Reads.below h hb) hb.size
theorem add_lits (a : Addr) (j : Nat) (hj : 0 < j) : a.add j = ⟨a.block, a.off + j, none⟩ := by unfold Addr.add; rw [if_neg (by omega)]
/-- An event that comes in. -/
structure Ec where
  r : Int
  A : Option Addr
  cap : Nat
  af : List Int
instance : Inhabited Ec := ⟨⟨0, none, 0, []⟩⟩
def Ec.at_ (w : World) (p : Addr) (x : Ec) : Prop :=
  w.cell? p = some (.int .i64 x.r) ∧ w.cell? ⟨p.block, p.off + 1, none⟩ = some (.slice x.A x.af.length x.cap) ∧ Rd w w.heap.size x.A x.af ∧ x.af.length ≤ maxLen ∧ p.block < w.heap.size
def Evs (w : World) (A : Option Addr) (n : Nat) (F : Nat → Ec) : Prop := ∀ i, i < n → ∃ a, A = some a ∧ (F i).at_ w (a.add (i * 2))
theorem Evs.below {w w' : World} {A : Option Addr} {n : Nat} {F : Nat → Ec} (h : Evs w A n F) (hb : Below w.heap.size w w') : Evs w' A n F := fun i hi => by
  obtain ⟨a, rfl, c0, c1, hr, hm, hlt⟩ := h i hi
  exact ⟨a, rfl, (hb.cell hlt).trans c0, (hb.cell (p := ⟨_, _, none⟩) hlt).trans c1, rd_on hr hb, hm, Nat.lt_of_lt_of_le hlt hb.size⟩
section
variable {H : Type} {enc : TypeId × Value → H} {w : World} {base : Nat}
theorem row_of {fuel : Nat} {c : Value} {x : DataW H × List MemPlace} (h : DataW.trod enc Try.prog w base (fun _ => true) true fuel 28 [c] = some x) :
    ∃ (A : Option Addr) (row : List Int) (cap : Nat), c = .slice A row.length cap ∧ Rd w w.heap.size A row ∧ row.length ≤ maxLen := by
  rcases open_ints Try.underlying28 Try.underlying3 (by kernel_rfl) h with ⟨hcs, _⟩ | ⟨a, l, cap, zs, hcs, _, hl, hm, hz, _, hcell, hwz⟩
  · simp at hcs
    exact ⟨none, [], 0, hcs, ⟨rfl, fun h => absurd h (Nat.lt_irrefl 0)⟩, Nat.zero_le _⟩
  · rw [if_pos rfl] at hz
    simp at hcs
    have hlz : (zs.take l).length = l := by rw [List.length_take, hz]; omega
    refine ⟨some a, zs.take l, cap, by rw [hlz]; exact hcs, ⟨by simp [ints], fun h => ⟨a, rfl, ?_, fun j u hj => ?_⟩⟩, by rw [hlz]; omega⟩
    · rw [hlz] at h
      have := block_lt_of_cell (hcell 0 (by omega))
      rwa [block_of_add] at this
    · have hjl : j < (zs.take l).length := by
        have := (List.getElem?_eq_some_iff.1 hj).1
        simpa [ints] using this
      rw [ints_at _ _ hjl] at hj
      rw [hlz] at hjl
      have e : (zs.take l).getD j 0 = zs.getD j 0 := by rw [List.getD, List.getD, List.getElem?_take, if_pos hjl]
      rw [e] at hj
      rw [hcell j (by omega)]
      exact hj
theorem evs_of {v : Value} {d : DataW H} {p : List MemPlace} {b0 : Nat} (o : Value.okWide Try.prog w .any b0 22 v) (r : DataW.Trod enc Try.prog w 0 (fun _ => true) true 22 v d p) :
    ∃ (A : Option Addr) (n cap : Nat) (F : Nat → Ec), v = .slice A n cap ∧ n ≤ maxLen ∧ Evs w A n F := by
  obtain ⟨A0, n0, c0, rfl⟩ := okWide_slice Try.underlying22 o
  obtain ⟨fuel, hf⟩ := r
  rcases open_slice Try.underlying22 (show DataW.trod enc Try.prog w 0 (fun _ => true) true fuel 22 [.slice A0 n0 c0] = some (d, p) by simpa [Value.cells] using hf) with ⟨h0, _⟩ | ⟨a, len, cap, m, n, D, Pl, hcs, hb, hl, hm, hmm, hx, hi⟩
  · simp at h0
    obtain ⟨rfl, rfl, rfl⟩ := h0
    exact ⟨none, 0, 0, fun _ => default, rfl, Nat.zero_le _, fun i hi => absurd hi (Nat.not_lt_zero i)⟩
  · simp at hcs
    obtain ⟨rfl, rfl, rfl⟩ := hcs
    rw [if_pos rfl] at hmm
    have hC : Try.prog.cellsOf 56 = 2 := by kernel_rfl
    have each : ∀ i, i < n0 → ∃ x : Ec, x.at_ w (a.add (i * 2)) := by
      intro i hil
      obtain ⟨cs', hc, ht⟩ := hi i (by omega)
      rw [hC] at hc
      obtain ⟨_, hcl, hat⟩ := World.cells?_some hc
      match cs', hcl with
      | [k0, k1], _ =>
        obtain ⟨y0, y1, n, _, _, h0, h1⟩ := trod_struct2 Try.underlying56 ht
        have hC3 : Try.prog.cellsOf 28 = 1 := by kernel_rfl
        have hC4 : Try.prog.cellsOf 3 = 1 := by kernel_rfl
        have h0' : DataW.trod enc Try.prog w 0 (fun _ => true) true n 3 (([k0, k1].drop 0).take (Try.prog.cellsOf 3)) = some y0 := h0
        have h1' : DataW.trod enc Try.prog w 0 (fun _ => true) true n 28 (([k0, k1].drop 1).take (Try.prog.cellsOf 28)) = some y1 := h1
        rw [hC4] at h0'
        rw [hC3] at h1'
        have h0' : DataW.trod enc Try.prog w 0 (fun _ => true) true n 3 [k0] = some y0 := h0'
        have h1' : DataW.trod enc Try.prog w 0 (fun _ => true) true n 28 [k1] = some y1 := h1'
        obtain ⟨z0, e0, _, w0⟩ := DataW.trod_int Try.underlying3 h0'
        obtain ⟨A, row, rcap, e1, hr, hrm⟩ := row_of h1'
        simp at e0
        subst e0 e1
        have q0 := hat 0 (by omega)
        have q1 := hat 1 (by omega)
        have q0' : w.cell? (a.add (i * 2)) = some (.int .i64 z0) := by simpa [Addr.add] using q0
        refine ⟨⟨z0, A, rcap, row⟩, q0', ?_, hr, hrm, block_lt_of_cell q0'⟩
        rw [add_lits _ 1 (by omega)] at q1
        exact q1
    obtain ⟨F, hF⟩ := choose_lt each
    exact ⟨some a, n0, c0, F, rfl, by omega, fun i hi => ⟨a, rfl, hF i hi⟩⟩
end
def Small (F : Nat → Ec) (n : Nat) : Prop := (n ≤ 120 ∧ ∀ i, i < n → (F i).af.length ≤ 20) ∨ 2000 < n
set_option maxRecDepth 100000 in
set_option maxHeartbeats 4000000 in
theorem Great_a (A : Option Addr) (n cap : Nat) (F : Nat → Ec) (w : World) (hn : n ≤ maxLen) (h : Evs w A n F) :
    Calls Try.prog 9 #[.slice A n cap] w fun e w' => (e = .returned (.bool true) ∨ e = .returned (.bool false) ∧ Small F n) ∧ Below w.heap.size w w' := by
  have H := hide h
  have HN := hide hn
  clear h hn
  go_enter Try.func9, Try.ntmps9
  go_wp2_with fail
  go_loopw [3] (fun vi wr => ∃ (k : Nat), k ≤ n ∧ k ≤ 2001 ∧ vi = .int .i64 k ∧ Hid (∀ i, i < k → (F i).af.length ≤ 20) ∧ Hid (Below w.heap.size w wr)) (fun vi _ => n - (intOf vi).toNat)
  case atStart => exact ⟨0, by omega, by omega, rfl, hide (fun i hi => absurd hi (Nat.not_lt_zero i)), hide (Below.refl _ _)⟩
  case round =>
    obtain ⟨k, hk, hk2, rfl, HS, HB⟩ := hrel
    by_cases hlt : k < n
    · have hltI : (k : Int) < (n : Int) := by omega
      by_cases h20 : k ≤ 2000
      · have h20I : (k : Int) ≤ 2000 := by omega
        obtain ⟨a, rfl, c0, c1, hr, _, hal⟩ := H.out.below HB.out k hlt
        have HS2 := hide (fun (hs : (F k).af.length ≤ 20) i (hi : i < k + 1) => show (F i).af.length ≤ 20 from by
          by_cases e : i = k
          · rw [e]; exact hs
          · exact HS.out i (by omega))
        generalize hFk : F k = x at *
        obtain ⟨r, A', cap', af⟩ := x
        simp only at c0 c1 HS2
        clear hr hFk
        by_cases hs : 20 < af.length
        · have hsI : (20 : Int) < (af.length : Int) := by omega
          clear hs
          go_wp2_with fail
          go_ret
          exact ⟨.inl rfl, HB.out⟩
        · have hsI : ¬ (20 : Int) < (af.length : Int) := by omega
          have HS3 := hide (HS2.out (by omega))
          clear hs
          go_wp2_with fail
          go_roundw
          case rel => exact ⟨k + 1, by omega, by omega, by go_num, HS3, HB⟩
          case measure => simp [intOf]; omega
      · have h20I : ¬ (k : Int) ≤ 2000 := by omega
        have hbig : (2000 : Int) < (n : Int) := by omega
        have h120 : (120 : Int) < (n : Int) := by omega
        have h2000 : ¬ (n : Int) ≤ 2000 := by omega
        have FIN := hide (show Small F n from .inr (by omega))
        go_wp2_with fail
        go_ret
        exact ⟨.inr ⟨rfl, FIN.out⟩, HB.out⟩
    · have hk3 : k = n := by omega
      have hltI : ¬ (k : Int) < (n : Int) := by omega
      by_cases h120 : 120 < n
      · have h120I : (120 : Int) < (n : Int) := by omega
        by_cases h2 : n ≤ 2000
        · have h2I : (n : Int) ≤ 2000 := by omega
          clear hk3
          go_wp2_with fail
          go_ret
          exact ⟨.inl rfl, HB.out⟩
        · have h2I : ¬ (n : Int) ≤ 2000 := by omega
          have FIN := hide (show Small F n from .inr (by omega))
          clear hk3
          go_wp2_with fail
          go_ret
          exact ⟨.inr ⟨rfl, FIN.out⟩, HB.out⟩
      · have h120I : ¬ (120 : Int) < (n : Int) := by omega
        have FIN := hide (show Small F n from .inl ⟨by omega, fun i hi => HS.out i (by omega)⟩)
        clear hk3
        go_wp2_with fail
        go_ret
        exact ⟨.inr ⟨rfl, FIN.out⟩, HB.out⟩
/-- What a rank's event may not be. -/
def badK (pl : Int) (k : Int) : Bool := decide (k < 0 ∨ pl ≤ k)
set_option maxRecDepth 100000 in
set_option maxHeartbeats 4000000 in
theorem may1_c (k pl : Int) (g : Nat) (w : World) (h : w.cell? ⟨g, 0, none⟩ = some (.int .i64 pl)) :
    Calls Try.prog 44 #[.int .i64 k, .pointer (some ⟨g, 0, none⟩)] w fun e w' => e = .returned (.bool (badK pl k)) ∧ w = w' := by
  by_cases h1 : k < 0
  · have hb : badK pl k = true := decide_eq_true (.inl h1)
    rw [hb]
    go_enter Try.func44, Try.ntmps44
    go_wp2_with fail
    go_ret
    exact ⟨rfl, rfl⟩
  · by_cases h2 : pl ≤ k
    · have hb : badK pl k = true := decide_eq_true (.inr h2)
      rw [hb]
      go_enter Try.func44, Try.ntmps44
      go_wp2_with fail
      go_ret
      exact ⟨rfl, rfl⟩
    · have hb : badK pl k = false := decide_eq_false (by omega)
      rw [hb]
      go_enter Try.func44, Try.ntmps44
      go_wp2_with fail
      go_ret
      exact ⟨rfl, rfl⟩
set_option maxRecDepth 100000 in
set_option maxHeartbeats 4000000 in
theorem idx_c (A : Option Addr) (l : List Int) (cap B : Nat) (pl : Int) (g : Nat) (w : World) (hr : Rd w B A l) (hm : l.length ≤ maxLen) (h : w.cell? ⟨g, 0, none⟩ = some (.int .i64 pl)) :
    Calls Try.prog 42 #[.slice A l.length cap, .func (.func 44) #[] #[.pointer (some ⟨g, 0, none⟩)]] w fun e w' => (∃ z : Int, e = .returned (.int .i64 z) ∧ (0 ≤ z ↔ ∃ k ∈ l, badK pl k = true)) ∧ w = w' := by
  have HR := hide hr
  unfold maxLen at hm
  clear hr
  go_enter Try.func42, Try.ntmps42
  go_wp2_with fail
  go_loopw [8] (fun vi wr => ∃ (k : Nat), k ≤ l.length ∧ vi = .int .i64 k ∧ Hid (∀ x ∈ l.take k, badK pl x = false) ∧ wr = w) (fun vi _ => l.length - (intOf vi).toNat)
  case atStart => exact ⟨0, by omega, rfl, hide (fun x hx => by simp at hx), rfl⟩
  case round =>
    obtain ⟨k, hk, rfl, HS, rfl⟩ := hrel
    by_cases hlt : k < l.length
    · have hltI : (k : Int) < (l.length : Int) := by omega
      obtain ⟨ad, rfl, _, c⟩ := rd_at HR.out hlt
      have hmem : l.getD k 0 ∈ l := by
        rw [List.getD_eq_getElem?_getD, List.getElem?_eq_getElem hlt]
        exact List.getElem_mem hlt
      have MC := hide (may1_c (l.getD k 0) pl g wr h)
      have HT := hide (show l.take (k + 1) = l.take k ++ [l.getD k 0] by rw [List.take_succ_eq_append_getElem hlt, List.getD_eq_getElem?_getD, List.getElem?_eq_getElem hlt]; rfl)
      have HM := hide hmem
      clear hmem
      generalize l.getD k 0 = x at *
      cases hb : badK pl x with
      | true =>
        rw [hb] at MC
        have HB := hide hb
        clear hb
        go_wp2_with fail
        refine MC.out.mono ?_
        rintro e w' ⟨rfl, rfl⟩
        go_wp2_with fail
        go_ret
        exact ⟨⟨_, rfl, ⟨fun _ => ⟨x, HM.out, HB.out⟩, fun _ => by omega⟩⟩, rfl⟩
      | false =>
        rw [hb] at MC
        have HS2 : Hid (∀ y ∈ l.take (k + 1), badK pl y = false) := hide (fun y hy => by
          rw [HT.out] at hy
          rcases List.mem_append.1 hy with hy | hy
          · exact HS.out y hy
          · rw [List.mem_singleton.1 hy]; exact hb)
        clear hb
        go_wp2_with fail
        refine MC.out.mono ?_
        rintro e w' ⟨rfl, rfl⟩
        go_wp2_with fail
        go_roundw
        case rel => exact ⟨k + 1, by omega, by go_num, HS2, by first | trivial | rfl⟩
        case measure => simp [intOf]; omega
    · have hltI : ¬ (k : Int) < (l.length : Int) := by omega
      have HS2 : Hid (∀ y ∈ l, badK pl y = false) := hide (fun y hy => by
        have := HS.out
        rw [List.take_of_length_le (by omega)] at this
        exact this y hy)
      go_wp2_with fail
      go_ret
      exact ⟨⟨_, rfl, ⟨fun h => absurd h (by decide), fun ⟨x, hx, hb⟩ => by rw [HS2.out x hx] at hb; cases hb⟩⟩, rfl⟩
set_option maxRecDepth 100000 in
set_option maxHeartbeats 4000000 in
theorem has_c (A : Option Addr) (l : List Int) (cap B : Nat) (pl : Int) (g : Nat) (w : World) (hr : Rd w B A l) (hm : l.length ≤ maxLen) (h : w.cell? ⟨g, 0, none⟩ = some (.int .i64 pl)) :
    Calls Try.prog 29 #[.slice A l.length cap, .func (.func 44) #[] #[.pointer (some ⟨g, 0, none⟩)]] w fun e w' => e = .returned (.bool (decide (∃ k ∈ l, badK pl k = true))) ∧ w = w' := by
  have IC := hide (idx_c A l cap B pl g w hr hm h)
  clear hr hm h
  go_enter Try.func29, Try.ntmps29
  go_wp2_with fail
  refine IC.out.mono ?_
  rintro e w' ⟨⟨z, rfl, hz⟩, rfl⟩
  have HZ := hide hz
  clear hz
  by_cases h0 : 0 ≤ z
  · go_wp2_with fail
    go_ret
    exact ⟨by rw [decide_eq_true (HZ.out.1 h0)]; rfl, rfl⟩
  · go_wp2_with fail
    go_ret
    exact ⟨by rw [decide_eq_false (fun h => absurd (HZ.out.2 h) (by omega))]; show Ending.returned (.bool (decide (0 ≤ z))) = _; rw [decide_eq_false (by omega)], rfl⟩
/-- Whether an event may be at a place. -/
def mayE (n : Int) (i : Int) (r : Int) (af : List Int) : Bool := decide (0 ≤ r ∧ r < n ∧ ∀ k ∈ af, 0 ≤ k ∧ k < i)
theorem mayE_no {n i r : Int} {af : List Int} (h : r < 0 ∨ n ≤ r) : mayE n i r af = false := decide_eq_false (by omega)
theorem mayE_bad {n i r : Int} {af : List Int} (h : ∃ k ∈ af, badK i k = true) : mayE n i r af = false := decide_eq_false (by
  rintro ⟨_, _, h3⟩
  obtain ⟨k, hk, hb⟩ := h
  have := h3 k hk
  have := of_decide_eq_true hb
  omega)
theorem mayE_yes {n i r : Int} {af : List Int} (h1 : 0 ≤ r) (h2 : r < n) (h : ¬ ∃ k ∈ af, badK i k = true) : mayE n i r af = true := decide_eq_true ⟨h1, h2, fun k hk => by
  rcases Classical.em (badK i k = true) with hb | hb
  · exact absurd ⟨k, hk, hb⟩ h
  · have : ¬ (k < 0 ∨ i ≤ k) := fun h => hb (decide_eq_true h)
    omega⟩
set_option maxRecDepth 100000 in
set_option maxHeartbeats 4000000 in
theorem may_c (n i r : Int) (A : Option Addr) (cap : Nat) (af : List Int) (w : World) (hr : Rd w w.heap.size A af) (hm : af.length ≤ maxLen) :
    Calls Try.prog 35 #[.int .i64 n, .int .i64 i, .agg #[.int .i64 r, .slice A af.length cap]] w fun e w' => e = .returned (.bool (mayE n i r af)) ∧ Below w.heap.size w w' := by
  have hb1 := (Below.refl w.heap.size w).alloc (Nat.le_refl _) (.cells #[.int .i64 i] 3)
  have b1 := Blk.new w 3 #[.int .i64 i]
  have hs1 : (w.alloc (.cells #[.int .i64 i] 3)).heap.size = w.heap.size + 1 := by simp
  have hb2 := hb1.alloc (by omega) (.cells #[.int .i64 r, .slice A af.length cap] 56)
  have b2 := Blk.new (w.alloc (.cells #[.int .i64 i] 3)) 56 #[.int .i64 r, .slice A af.length cap]
  have b1 := b1.alloc (.cells #[.int .i64 r, .slice A af.length cap] 56)
  rw [hs1] at b2
  obtain ⟨W2, hW2⟩ : ∃ W2, (w.alloc (.cells #[.int .i64 i] 3)).alloc (.cells #[.int .i64 r, .slice A af.length cap] 56) = W2 := ⟨_, rfl⟩
  rw [hW2] at hb2 b1 b2
  have p0 : W2.cell? ⟨w.heap.size, 0, none⟩ = some (.int .i64 i) := b1.cell 0
  have e0 : W2.cell? ⟨w.heap.size + 1, 0, none⟩ = some (.int .i64 r) := b2.cell 0
  have e1 : W2.cell? ⟨w.heap.size + 1, 1, none⟩ = some (.slice A af.length cap) := b2.cell 1
  have HC := hide (has_c A af cap W2.heap.size i w.heap.size W2 (rd_on hr hb2) hm p0)
  have HB := hide hb2
  have HW2 := hide hW2
  clear hb1 hb2 b1 b2 hr hm hW2
  by_cases h1 : r < 0
  · rw [mayE_no (.inl h1)]
    go_enter Try.func35, Try.ntmps35
    go_wp2_with fail
    rw [HW2.out]
    go_wp2_with fail
    go_ret
    exact ⟨rfl, HB.out⟩
  by_cases h2 : n ≤ r
  · rw [mayE_no (.inr h2)]
    go_enter Try.func35, Try.ntmps35
    go_wp2_with fail
    rw [HW2.out]
    go_wp2_with fail
    go_ret
    exact ⟨rfl, HB.out⟩
  by_cases h3 : ∃ k ∈ af, badK i k = true
  · rw [mayE_bad h3]
    rw [decide_eq_true h3] at HC
    clear h3
    go_enter Try.func35, Try.ntmps35
    go_wp2_with fail
    rw [HW2.out]
    go_wp2_with fail
    refine HC.out.mono ?_
    rintro e w' ⟨rfl, rfl⟩
    go_wp2_with fail
    go_ret
    exact ⟨rfl, HB.out⟩
  · rw [mayE_yes (by omega) (by omega) h3]
    rw [decide_eq_false h3] at HC
    clear h3
    go_enter Try.func35, Try.ntmps35
    go_wp2_with fail
    rw [HW2.out]
    go_wp2_with fail
    refine HC.out.mono ?_
    rintro e w' ⟨rfl, rfl⟩
    go_wp2_with fail
    go_ret
    exact ⟨rfl, HB.out⟩
end Ord
end Go.Proofs.Ytflaikhkddjfjaa
