/- Great of the laws; the reference's Copy of a program. -/
import Derived.Test.YtegpimaakgledaaDoorRows
import Derived.Test.YtegpimaakgledaaDoorCodD
import Derived.Deep.AppendLies
import Derived.Lib.AppendZeros
namespace Go.Proofs.YtegpimaakgledaaDoor
open Go Go.RowKit
set_option linter.unusedVariables false
set_option linter.unusedSimpArgs false
namespace Cod
def grC (c a : Nat) : Bool := decide ((400 : Int) < (c : Int)) || decide ((100 : Int) < (a : Int))
set_option maxRecDepth 100000 in
set_option maxHeartbeats 4000000 in
theorem Great_c (C : Option Addr) (n cc : Nat) (vars : Int) (A : Option Addr) (m ca : Nat) (w : World) :
    Calls Tryd.prog 9 #[PrV C n cc vars A m ca] w fun e w' => e = .returned (.bool (grC n m)) ∧ Below w.heap.size w w' := by
  have hb1 := (Below.refl w.heap.size w).alloc (Nat.le_refl _) (.cells #[.slice C n cc, .int .i64 vars, .slice A m ca] 25)
  have k1 := Blk.new w 25 #[.slice C n cc, .int .i64 vars, .slice A m ca]
  unfold PrV
  unfold grC
  obtain ⟨w1, hW1⟩ : ∃ w1, w.alloc (.cells #[.slice C n cc, .int .i64 vars, .slice A m ca] 25) = w1 := ⟨_, rfl⟩
  rw [hW1] at hb1 k1
  have HB := hide hb1
  have p0 : w1.cell? ⟨w.heap.size, 0, none⟩ = some (.slice C n cc) := k1.cell 0
  have p2 : w1.cell? ⟨w.heap.size, 2, none⟩ = some (.slice A m ca) := k1.cell 2
  clear hb1 k1
  by_cases h1 : (400 : Int) < (n : Int)
  · go_enter Tryd.func9, Tryd.ntmps9
    go_wp2_with fail
    go_ret
    exact ⟨by rw [decide_eq_true h1]; rfl, HB.out⟩
  · by_cases h2 : (100 : Int) < (m : Int)
    · go_enter Tryd.func9, Tryd.ntmps9
      go_wp2_with fail
      go_ret
      exact ⟨rfl, HB.out⟩
    · go_enter Tryd.func9, Tryd.ntmps9
      go_wp2_with fail
      go_ret
      exact ⟨by rw [decide_eq_false (show ¬ (400 : Int) < (n : Int) by omega), decide_eq_false (show ¬ (100 : Int) < (m : Int) by omega)]; rfl, HB.out⟩
def codeCs (cs : List In) : List Value := cs.flatMap fun x => [.int .u8 x.op, .int .i64 x.n]
def intCs (l : List Int) : List Value := l.map fun z => .int .i64 z
theorem codeCs_len (cs : List In) : (codeCs cs).length = cs.length * 2 := by
  unfold codeCs
  induction cs with
  | nil => rfl
  | cons x l ih => rw [List.flatMap_cons, List.length_append, ih]; simp only [List.length_cons, List.length_nil]; omega
theorem codeCs_at : ∀ (cs : List In) (i : Nat) (hi : i < cs.length), (codeCs cs)[i * 2]? = some (.int .u8 cs[i].op) ∧ (codeCs cs)[i * 2 + 1]? = some (.int .i64 cs[i].n)
  | x :: l, 0, _ => ⟨rfl, rfl⟩
  | x :: l, i + 1, hi => by
    have := codeCs_at l i (by simpa using hi)
    have e1 : (i + 1) * 2 = i * 2 + 1 + 1 := by omega
    have e2 : (i + 1) * 2 + 1 = i * 2 + 1 + 1 + 1 := by omega
    rw [e1]
    exact this
theorem codeCs_one (cs : List In) : ∀ u ∈ codeCs cs, u.oneCell' = true := by
  intro u hu
  obtain ⟨x, _, hx⟩ := List.mem_flatMap.1 hu
  simp only [List.mem_cons, List.not_mem_nil, or_false] at hx
  rcases hx with rfl | rfl <;> rfl
theorem intCs_one (l : List Int) : ∀ u ∈ intCs l, u.oneCell' = true := by
  intro u hu
  obtain ⟨x, _, rfl⟩ := List.mem_map.1 hu
  rfl
theorem CodeAt.of_own {w : World} {B : Nat} {C : Option Addr} {n cc : Nat} {cs : List In} (h : w.ownsRow B 47 2 (.slice C n cc) n (codeCs cs)) (hok : ∀ x ∈ cs, x.ok) : CodeAt w C cs := fun h0 => by
  have hn : cs.length = n := by have := h.1; rw [codeCs_len] at this; omega
  obtain ⟨g, cap, hv, hB, hlt⟩ := h.form (by omega)
  have hC : C = some ⟨g, 0, none⟩ := by injection hv
  subst hC
  refine ⟨_, rfl, hlt, fun i hi => ⟨hok _ (List.getElem_mem hi), ?_, ?_⟩⟩
  · exact h.cells (g := g) rfl _ _ (codeCs_at cs i hi).1
  · have := h.cells (g := g) rfl _ _ (codeCs_at cs i hi).2
    have e : (⟨g, 0, none⟩ : Addr).add (i * 2 + 1) = ⟨((⟨g, 0, none⟩ : Addr).add (i * 2)).block, ((⟨g, 0, none⟩ : Addr).add (i * 2)).off + 1, none⟩ := by
      have a0 : ∀ j, (⟨g, 0, none⟩ : Addr).add j = ⟨g, 0 + j, none⟩ := fun j => by unfold Addr.add; split <;> simp_all
      rw [a0, a0]
      show (⟨g, 0 + (i * 2 + 1), none⟩ : Addr) = ⟨g, 0 + i * 2 + 1, none⟩
      rw [Nat.add_assoc]
    rw [← e]; exact this
theorem IntAt.of_own {w : World} {B : Nat} {A : Option Addr} {n cc : Nat} {l : List Int} (h : w.ownsRow B 3 1 (.slice A n cc) n (intCs l)) (hok : ∀ x ∈ l, -9223372036854775808 ≤ x ∧ x ≤ 9223372036854775807) : IntAt w A l := fun h0 => by
  have hn : l.length = n := by have := h.1; unfold intCs at this; rw [List.length_map] at this; omega
  obtain ⟨g, cap, hv, hB, hlt⟩ := h.form (by omega)
  have hC : A = some ⟨g, 0, none⟩ := by injection hv
  subst hC
  refine ⟨_, rfl, hlt, fun i hi => ⟨?_, hok _ (List.getElem_mem hi)⟩⟩
  exact h.cells (g := g) rfl _ _ (by unfold intCs; rw [List.getElem?_map, List.getElem?_eq_getElem hi]; rfl)
theorem instr_info : (Tryd.prog.info? 47).map (fun i => (i.zero, i.size, i.bytes)) = some (some (.agg #[.int .u8 0, .int .i64 0]), 2, 16) := by kernel_rfl
theorem cint_info : (Tryd.prog.info? 3).map (fun i => (i.zero, i.size, i.bytes)) = some (some (.int .i64 0), 1, 8) := by kernel_rfl
theorem CodeAt.reads {w : World} {C : Option Addr} {cs : List In} (h : CodeAt w C cs) : Reads w w.heap.size 2 C cs.length (codeCs cs) := by
  refine ⟨codeCs_len cs, fun h0 => ?_⟩
  obtain ⟨ad, rfl, hl, hc⟩ := h h0
  refine ⟨ad, rfl, hl, fun j u hj => ?_⟩
  have hjl : j < cs.length * 2 := by
    rcases Nat.lt_or_ge j (cs.length * 2) with h | h
    · exact h
    · rw [List.getElem?_eq_none (by rw [codeCs_len]; exact h)] at hj; cases hj
  obtain ⟨_, h1, h2⟩ := hc (j / 2) (by omega)
  obtain ⟨g1, g2⟩ := codeCs_at cs (j / 2) (by omega)
  rcases (show j = j / 2 * 2 ∨ j = j / 2 * 2 + 1 by omega) with e | e
  · rw [e] at hj ⊢
    rw [g1] at hj
    cases hj
    exact h1
  · rw [e] at hj ⊢
    rw [g2] at hj
    cases hj
    rw [← add_of_add]
    have hp : ((ad.add (j / 2 * 2)).add 1) = ⟨(ad.add (j / 2 * 2)).block, (ad.add (j / 2 * 2)).off + 1, none⟩ := rfl
    rw [hp]; exact h2
theorem IntAt.reads {w : World} {A : Option Addr} {l : List Int} (h : IntAt w A l) : Reads w w.heap.size 1 A l.length (intCs l) := by
  refine ⟨by unfold intCs; rw [List.length_map, Nat.mul_one], fun h0 => ?_⟩
  obtain ⟨ad, rfl, hl, hc⟩ := h h0
  refine ⟨ad, rfl, hl, fun j u hj => ?_⟩
  unfold intCs at hj
  rw [List.getElem?_map] at hj
  rcases Nat.lt_or_ge j l.length with h | h
  · rw [List.getElem?_eq_getElem h] at hj
    cases hj
    exact (hc j h).1
  · rw [List.getElem?_eq_none h] at hj; cases hj
theorem below_of_grown {w w' : World} (h : w.grownBy w' none) : Below w.heap.size w w' :=
  { os := h.os, tape := h.tape, output := h.output, size := h.size, block := fun i hi => h.block i hi (by simp) }
theorem own_belowR {w w' : World} {B size n : Nat} {e : TypeId} {v : Value} {xs : List Value} (h : w.ownsRow B e size v n xs) (hb : Below w.heap.size w w') : w'.ownsRow B e size v n xs := by
  refine ⟨h.1, h.2.imp id ?_⟩
  rintro ⟨g, cap, cur, rfl, hge, hh, r⟩
  exact ⟨g, cap, cur, rfl, hge, (hb.block g (Array.getElem?_eq_some_iff.1 hh).1).trans hh, r⟩
theorem own_setCell {w : World} {B size n : Nat} {e : TypeId} {v : Value} {xs : List Value} (h : w.ownsRow B e size v n xs) {p : Addr} (hp : v.ownBlock ≠ some p.block) (u : Value) : (w.setCell p u).ownsRow B e size v n xs := by
  refine ⟨h.1, h.2.imp id ?_⟩
  rintro ⟨g, cap, cur, rfl, hge, hh, r⟩
  have hne : g ≠ p.block := fun e => hp (by rw [← e]; rfl)
  exact ⟨g, cap, cur, rfl, hge, (Below.heap_setCell w p u g hne).trans hh, r⟩
/-- A program that was copied: its rows are its own. -/
structure Own (w : World) (B : Nat) (C : Option Addr) (cc : Nat) (cs : List In) (A : Option Addr) (ca : Nat) (l : List Int) : Prop where
  code : w.ownsRow B 47 2 (.slice C cs.length cc) cs.length (codeCs cs)
  arrs : w.ownsRow B 3 1 (.slice A l.length ca) l.length (intCs l)
theorem slice_of_own {w : World} {B : Nat} {e : TypeId} {size n : Nat} {v : Value} {xs : List Value} (h : w.ownsRow B e size v n xs) : ∃ A c, v = .slice A n c := by
  rcases h.2 with ⟨rfl, rfl⟩ | ⟨g, cap, cur, rfl, _⟩
  · exact ⟨none, 0, rfl⟩
  · exact ⟨_, _, rfl⟩
set_option maxRecDepth 100000 in
set_option maxHeartbeats 8000000 in
theorem Copy_c (C : Option Addr) (cc : Nat) (cs : List In) (vars : Int) (A : Option Addr) (ca : Nat) (arrs : List Int) (w : World) (hC : CodeAt w C cs) (hA : IntAt w A arrs) (hlc : cs.length ≤ 100000) (hla : arrs.length ≤ 100000) :
    Calls Tryd.prog 10 #[PrV C cs.length cc vars A arrs.length ca] w fun e w' => ∃ C' cc' A' ca', e = .returned (PrV C' cs.length cc' vars A' arrs.length ca') ∧ Own w' w.heap.size C' cc' cs A' ca' arrs ∧ Below w.heap.size w w' := by
  have HI := hide (info_parts instr_info)
  have HJ := hide (info_parts cint_info)
  unfold PrV
  have hb1 := (Below.refl w.heap.size w).alloc (Nat.le_refl _) (.cells #[.slice C cs.length cc, .int .i64 vars, .slice A arrs.length ca] 25)
  have k1 := Blk.new w 25 #[.slice C cs.length cc, .int .i64 vars, .slice A arrs.length ca]
  have HC := hide hC
  have HA := hide hA
  have HL := hide (And.intro hlc hla)
  clear hC hA hlc hla
  go_enter Tryd.func10, Tryd.ntmps10
  go_upto_region 3 with (fail)
  have hb2 := hb1.alloc hb1.size (.cells #[.slice none 0 0, .int .i64 0, .slice none 0 0] 25)
  have kP := k1.alloc (.cells #[.slice none 0 0, .int .i64 0, .slice none 0 0] 25)
  have kR := Blk.new (w.alloc (.cells #[.slice C cs.length cc, .int .i64 vars, .slice A arrs.length ca] 25)) 25 #[.slice none 0 0, .int .i64 0, .slice none 0 0]
  rw [show (w.alloc (.cells #[.slice C cs.length cc, .int .i64 vars, .slice A arrs.length ca] 25)).heap.size = w.heap.size + 1 by simp] at kR
  obtain ⟨w2, hw2⟩ : ∃ z, (w.alloc (.cells #[.slice C cs.length cc, .int .i64 vars, .slice A arrs.length ca] 25)).alloc (.cells #[.slice none 0 0, .int .i64 0, .slice none 0 0] 25) = z := ⟨_, rfl⟩
  rw [hw2] at hb2 kP kR ⊢
  clear hw2 hb1 k1
  obtain ⟨i0, hi0, hz0, hz1, hz2⟩ := HI.out
  obtain ⟨j0, hj0, hy0, hy1, hy2⟩ := HJ.out
  have hlc := HL.out.1
  have hla := HL.out.2
  have own0 : w2.ownsRow w.heap.size 47 2 (.slice none 0 0) 0 [] := ⟨by simp, .inl ⟨rfl, rfl⟩⟩
  obtain ⟨v1, w3, hr1, ho1, hg1, _⟩ := run_append_any (P := Tryd.prog) w2 w.heap.size 22 22 47 i0 _ 2 16 Tryd.underlying22 hi0 hz0 hz1 hz2 (by rfl) (by omega) _ _ _ own0 _ C cs.length cc _ (HC.out.below hb2).reads (codeCs_one cs) (by unfold maxLen; omega) (by omega) hb2.size
  rw [Nat.zero_add, List.nil_append] at ho1
  have hb3 := below_of_grown hg1
  obtain ⟨A1, c1, rfl⟩ := slice_of_own ho1
  have kP3 := kP.below hb3 kP.lt
  have kR3 := kR.below hb3 kR.lt
  have ne3 := own_blk_ne ho1 kP3 (by decide)
  have kP4 := kP3.set_ 0 (.slice A1 cs.length c1)
  have kR4 := kR3.far (p := ⟨w.heap.size, 0, none⟩) (by show w.heap.size + 1 ≠ w.heap.size; omega) (.slice A1 cs.length c1)
  have ho4 := own_setCell (p := ⟨w.heap.size, 0, none⟩) ho1 ne3 (.slice A1 cs.length c1)
  have hb4 := (hb2.trans (hb3.mono hb2.size)).setCell (p := ⟨w.heap.size, 0, none⟩) (Nat.le_refl _) (.slice A1 cs.length c1)
  have p0 : w2.cell? ⟨w.heap.size, 0, none⟩ = some (.slice C cs.length cc) := kP.cell 0
  have q0 : w3.cell? ⟨w.heap.size, 0, none⟩ = some (.slice C cs.length cc) := kP3.cell 0
  have f0 := kP3.frozen 0
  have RUN := hide hr1
  clear hr1 own0 hg1 hb3 ho1 kP3 kR3 ne3 kP kR hlc hla
  go_upto_region 4 with (at_builtin; refine Lib.wpList_append_run _ rfl _ _ 22 22 rfl _ _ rfl rfl _ _ RUN.out ?_)
  clear RUN p0 q0 f0
  obtain ⟨w4, hw4⟩ : ∃ z, w3.setCell ⟨w.heap.size, 0, none⟩ (.slice A1 cs.length c1) = z := ⟨_, rfl⟩
  rw [hw4] at kP4 kR4 ho4 hb4 ⊢
  clear hw4 w3 hb2
  have hlc := HL.out.1
  have hla := HL.out.2
  have own0 : w4.ownsRow w.heap.size 3 1 (.slice none 0 0) 0 [] := ⟨by simp, .inl ⟨rfl, rfl⟩⟩
  obtain ⟨v1, w5, hr1, ho5, hg1, _⟩ := run_append_any (P := Tryd.prog) w4 w.heap.size 23 23 3 j0 _ 1 8 Tryd.underlying23 hj0 hy0 hy1 hy2 (by rfl) (by omega) _ _ _ own0 _ A arrs.length ca _ (HA.out.below hb4).reads (intCs_one arrs) (by unfold maxLen; omega) (by omega) hb4.size
  rw [Nat.zero_add, List.nil_append] at ho5
  have hb5 := below_of_grown hg1
  obtain ⟨A2, c2, rfl⟩ := slice_of_own ho5
  have kP5 := kP4.below hb5 kP4.lt
  have kR5 := kR4.below hb5 kR4.lt
  have hc5 := own_belowR ho4 hb5
  have ne5 := own_blk_ne ho5 kP5 (by decide)
  have nc5 := own_blk_ne hc5 kP5 (by decide)
  have kP6 := kP5.set_ 2 (.slice A2 arrs.length c2)
  have kR6 := kR5.far (p := ⟨w.heap.size, 2, none⟩) (by show w.heap.size + 1 ≠ w.heap.size; omega) (.slice A2 arrs.length c2)
  have ho6 := own_setCell (p := ⟨w.heap.size, 2, none⟩) ho5 ne5 (.slice A2 arrs.length c2)
  have hc6 := own_setCell (p := ⟨w.heap.size, 2, none⟩) hc5 nc5 (.slice A2 arrs.length c2)
  have hb6 := (hb4.trans (hb5.mono hb4.size)).setCell (p := ⟨w.heap.size, 2, none⟩) (Nat.le_refl _) (.slice A2 arrs.length c2)
  have p2 : w4.cell? ⟨w.heap.size, 2, none⟩ = some (.slice A arrs.length ca) := kP4.cell 2
  have q2 : w5.cell? ⟨w.heap.size, 2, none⟩ = some (.slice A arrs.length ca) := kP5.cell 2
  have f2 := kP5.frozen 2
  have RUN := hide hr1
  clear hr1 own0 hg1 hb4 hb5 ho4 ho5 hc5 kP4 kR4 kP5 kR5 ne5 nc5 hlc hla
  go_upto_region 5 with (at_builtin; refine Lib.wpList_append_run _ rfl _ _ 23 23 rfl _ _ rfl rfl _ _ RUN.out ?_)
  clear RUN p2 q2 f2
  obtain ⟨w6, hw6⟩ : ∃ z, w5.setCell ⟨w.heap.size, 2, none⟩ (.slice A2 arrs.length c2) = z := ⟨_, rfl⟩
  rw [hw6] at kP6 kR6 ho6 hc6 hb6 ⊢
  clear hw6 w5
  have a0 : w6.cell? ⟨w.heap.size, 0, none⟩ = some (.slice A1 cs.length c1) := kP6.cell 0
  have a1 : w6.cell? ⟨w.heap.size, 1, none⟩ = some (.int .i64 vars) := kP6.cell 1
  have a2 : w6.cell? ⟨w.heap.size, 2, none⟩ = some (.slice A2 arrs.length c2) := kP6.cell 2
  have r0 : w6.cell? ⟨w.heap.size + 1, 0, none⟩ = some (.slice none 0 0) := kR6.cell 0
  have r1 : w6.cell? ⟨w.heap.size + 1, 1, none⟩ = some (.int .i64 0) := kR6.cell 1
  have r2 : w6.cell? ⟨w.heap.size + 1, 2, none⟩ = some (.slice none 0 0) := kR6.cell 2
  have g0 := kR6.frozen 0
  have g1 := kR6.frozen 1
  have g2 := kR6.frozen 2
  have neo := own_blk_ne ho6 kR6 (by decide)
  have nec := own_blk_ne hc6 kR6 (by decide)
  have FIN : Hid (Own (((w6.setCell ⟨w.heap.size + 1, 0, none⟩ (.slice A1 cs.length c1)).setCell ⟨w.heap.size + 1, 1, none⟩ (.int .i64 vars)).setCell ⟨w.heap.size + 1, 2, none⟩ (.slice A2 arrs.length c2)) w.heap.size A1 c1 cs A2 c2 arrs ∧ Below w.heap.size w (((w6.setCell ⟨w.heap.size + 1, 0, none⟩ (.slice A1 cs.length c1)).setCell ⟨w.heap.size + 1, 1, none⟩ (.int .i64 vars)).setCell ⟨w.heap.size + 1, 2, none⟩ (.slice A2 arrs.length c2))) := hide ⟨⟨own_setCell (p := ⟨w.heap.size + 1, 2, none⟩) (own_setCell (p := ⟨w.heap.size + 1, 1, none⟩) (own_setCell (p := ⟨w.heap.size + 1, 0, none⟩) hc6 nec _) nec _) nec _, own_setCell (p := ⟨w.heap.size + 1, 2, none⟩) (own_setCell (p := ⟨w.heap.size + 1, 1, none⟩) (own_setCell (p := ⟨w.heap.size + 1, 0, none⟩) ho6 neo _) neo _) neo _⟩, ((hb6.setCell (p := ⟨w.heap.size + 1, 0, none⟩) (Nat.le_succ _) _).setCell (p := ⟨w.heap.size + 1, 1, none⟩) (Nat.le_succ _) _).setCell (p := ⟨w.heap.size + 1, 2, none⟩) (Nat.le_succ _) _⟩
  have K9 := hide (((kR6.set_ 0 (.slice A1 cs.length c1)).set_ 1 (.int .i64 vars)).set_ 2 (.slice A2 arrs.length c2))
  clear kP6 kR6 ho6 hc6 hb6 neo nec
  go_wp2_with fail
  have k9 := K9.out
  have fin := FIN.out
  clear K9 FIN
  obtain ⟨w9, hw9⟩ : ∃ z, ((w6.setCell ⟨w.heap.size + 1, 0, none⟩ (.slice A1 cs.length c1)).setCell ⟨w.heap.size + 1, 1, none⟩ (.int .i64 vars)).setCell ⟨w.heap.size + 1, 2, none⟩ (.slice A2 arrs.length c2) = z := ⟨_, rfl⟩
  rw [hw9] at k9 fin ⊢
  have u0 : w9.cell? ⟨w.heap.size + 1, 0, none⟩ = some (.slice A1 cs.length c1) := k9.cell 0
  have u1 : w9.cell? ⟨w.heap.size + 1, 1, none⟩ = some (.int .i64 vars) := k9.cell 1
  have u2 : w9.cell? ⟨w.heap.size + 1, 2, none⟩ = some (.slice A2 arrs.length c2) := k9.cell 2
  exact bodyPost_ret (v := .agg #[.slice A1 cs.length c1, .int .i64 vars, .slice A2 arrs.length c2]) (by simp [results, Tryd.results10, go_sem, u0, u1, u2]) rfl ⟨_, _, _, _, rfl, fin⟩
end Cod
end Go.Proofs.YtegpimaakgledaaDoor
