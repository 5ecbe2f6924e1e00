/- The program's Of: its contract. -/
import Derived.Test.YtflaikhkddjfjaaRows
import Derived.Test.YtflaikhkddjfjaaOrdC
import Derived.LoopN
namespace Go.Proofs.Ytflaikhkddjfjaa
open Go Go.RowKit
set_option linter.unusedVariables false
set_option linter.unusedSimpArgs false
namespace Ord
/-- A history that may be. -/
def Good (ni : Int) (F : Nat → Ec) (len : Nat) : Prop := 1 ≤ ni ∧ ni ≤ 64 ∧ len ≤ 2000 ∧ okTo ni F len
theorem okTo_succ {ni : Int} {F : Nat → Ec} {k : Nat} (h : okTo ni F k) (h' : mayE ni k (F k).r (F k).af = true) : okTo ni F (k + 1) := fun i hi => by
  by_cases e : i = k
  · rw [e]; exact h'
  · exact h i (by omega)
theorem owned_at {w : World} {B g cap k : Nat} {l : List Int} (h : OwnRow w B g cap l) (hk : k < l.length) : w.cell? ⟨g, k, none⟩ = some (.int .i64 (l.getD k 0)) := h.cell k hk
theorem OwnRow.far {w : World} {B g cap : Nat} {l : List Int} (h : OwnRow w B g cap l) {p : Addr} (hp : g ≠ p.block) (u : Value) : OwnRow (w.setCell p u) B g cap l := h.of_block (Below.heap_setCell w p u g hp)
theorem OwnRow.keeps {tys : List TypeId} {w w' : World} {B g cap : Nat} {l : List Int} (h : OwnRow w B g cap l) (k : KeepsBut tys w w') (ht : ¬ 3 ∈ tys) : OwnRow w' B g cap l := by
  obtain ⟨cur, h0, hb, r⟩ := h
  exact ⟨cur, h0, (k.2 g _ _ (0, 0) hb ht).trans hb, r⟩
theorem natI_app (a b : List Nat) : natI (a ++ b) = natI a ++ natI b := by simp [natI]
theorem ints_app (a b : List Int) : ints (a ++ b) = ints a ++ ints b := by simp [ints]
def ofPost (ni : Int) (F : Nat → Ec) (len : Nat) (w : World) (e : Ending) (w' : World) : Prop :=
  ((e = .returned (.tuple #[.pointer none, .int .i64 2]) ∧ ¬ Good ni F len) ∨ ∃ (o : Nat) (es : List Eo), e = .returned (.tuple #[.pointer (some ⟨o, 0, none⟩), .int .i64 0]) ∧ Good ni F len ∧ w.heap.size ≤ o ∧ OrA w' o w.heap.size w.heap.size es ∧ Grow ni.toNat (evN F) es ∧ es.length = len) ∧ Below w.heap.size w w'
set_option maxRecDepth 100000 in
set_option maxHeartbeats 8000000 in
theorem Of_c (ni : Int) (A : Option Addr) (len cap : Nat) (F : Nat → Ec) (w : World) (hlen : len ≤ maxLen) (h : Evs w A len F) (hs : Small F len) :
    Calls Try.prog 24 #[.int .i64 ni, .slice A len cap] w fun e w' => ofPost ni F len w e w' := by
  by_cases h1 : ni < 1
  · have hno := hide (show ¬ Good ni F len from fun h => by have := h.1; omega)
    clear h hs
    go_enter Try.func24, Try.ntmps24
    go_wp2_with fail
    go_ret2
    exact ⟨.inl ⟨rfl, hno.out⟩, Below.refl _ _⟩
  by_cases h2 : 64 < ni
  · have hno := hide (show ¬ Good ni F len from fun h => by have := h.2.1; omega)
    clear h hs
    go_enter Try.func24, Try.ntmps24
    go_wp2_with fail
    go_ret2
    exact ⟨.inl ⟨rfl, hno.out⟩, Below.refl _ _⟩
  by_cases h3 : 2000 < len
  · have hno := hide (show ¬ Good ni F len from fun h => by have := h.2.2.1; omega)
    have h3I : (2000 : Int) < (len : Int) := by omega
    clear h hs h3
    go_enter Try.func24, Try.ntmps24
    go_wp2_with fail
    go_ret2
    exact ⟨.inl ⟨rfl, hno.out⟩, Below.refl _ _⟩
  have h3I : ¬ (2000 : Int) < (len : Int) := by omega
  have hs' : len ≤ 120 ∧ ∀ i, i < len → (F i).af.length ≤ 20 := by
    rcases hs with hs | hs
    · exact hs
    · omega
  obtain ⟨n, rfl⟩ : ∃ n : Nat, ni = (n : Int) := ⟨ni.toNat, by omega⟩
  have hn1 : 1 ≤ n := by omega
  have hn2 : n ≤ 64 := by omega
  have HEV := hide h
  have HSM := hide hs'
  have hl120 := hs'.1
  have hmk := fun W => run_make_row' (P := Try.prog) 28 3 (.int .i64 0) 8 Try.underlying28 int_info rfl .i64 .i64 n (by omega) (by omega) W
  -- the order's box
  have hbo := (Below.refl w.heap.size w).alloc (Nat.le_refl _) (.cells #[.slice none 0 0] 67)
  have bo := Blk.new w 67 #[.slice none 0 0]
  obtain ⟨w1, hw1⟩ : ∃ x, w.alloc (.cells #[.slice none 0 0] 67) = x := ⟨_, rfl⟩
  rw [hw1] at hbo bo
  have hbr := hbo.alloc hbo.size (.cells (madeCells #[Value.int .i64 0] n) 3)
  have orow := OwnRow.made w1 n (by unfold maxLen; omega)
  have bo2 := bo.alloc (.cells (madeCells #[Value.int .i64 0] n) 3)
  have HW1 := hide (show w.heap.size < w1.heap.size from bo.lt)
  have HZ2 : Hid (w.heap.size ≤ w1.heap.size + 1) := hide (by have := bo.lt; omega)
  have hsz : (w1.alloc (.cells (madeCells #[Value.int .i64 0] n) 3)).heap.size = w1.heap.size + 1 := by simp
  obtain ⟨w2, hw2⟩ : ∃ x, w1.alloc (.cells (madeCells #[Value.int .i64 0] n) 3) = x := ⟨_, rfl⟩
  have hmk1 := hmk w1
  rw [hw2] at hmk1
  have hw2' : w1.alloc (.cells (madeCells #[Value.int .i64 0] n) 3) = w2 := hw2
  rw [hw2] at hbr bo2 hsz
  rw [hw2'] at orow
  have R2 := hide (show OwnRow w2 w.heap.size w1.heap.size n (List.replicate n 0) from by obtain ⟨cur, a, b⟩ := orow; exact ⟨cur, Nat.le_of_lt HW1.out, b⟩)
  have B2 := hide bo2
  have HB2 := hide hbr
  clear h hs hs' hbo bo hbr orow bo2 hsz hw2' hmk
  go_enter Try.func24, Try.ntmps24
  go_wp2_with fail
  clear hw1 hw2 hmk1
  go_loopw [30] (fun vi wr => ∃ (i : Nat), i ≤ n ∧ vi = .int .i64 i ∧ Hid (OwnRow wr w.heap.size w1.heap.size n (List.replicate i (-1) ++ List.replicate (n - i) 0)) ∧ Hid (Blk wr w.heap.size 67 #[.slice none 0 0]) ∧ Hid (Below w.heap.size w wr)) (fun vi _ => n - (intOf vi).toNat)
  case atStart => exact ⟨0, by omega, rfl, hide (by simpa using R2.out), B2, HB2⟩
  case round =>
    clear R2 B2 HB2
    obtain ⟨i, hi, rfl, R, BO, HB⟩ := hrel
    by_cases hlt : i < n
    · have hltI : (i : Int) < (n : Int) := by omega
      have hll : (List.replicate i (-1 : Int) ++ List.replicate (n - i) 0).length = n := by simp; omega
      have c := R.out.cell i (by rw [hll]; exact hlt)
      have f := R.out.frozen i
      have R3 := hide (R.out.set_ i (-1))
      have e : (List.replicate i (-1 : Int) ++ List.replicate (n - i) 0).set i (-1) = List.replicate (i + 1) (-1) ++ List.replicate (n - (i + 1)) 0 := by
        rw [List.set_append_right _ _ (by simp)]
        obtain ⟨m, hm⟩ : ∃ m, n - i = m + 1 := ⟨n - i - 1, by omega⟩
        rw [hm, show n - (i + 1) = m by omega, List.length_replicate, Nat.sub_self, List.replicate_succ (n := m), List.set_cons_zero, List.replicate_succ' (n := i), List.append_assoc]
        rfl
      rw [e] at R3
      have BO3 := hide (BO.out.far (p := ⟨w1.heap.size, i, none⟩) (by show w.heap.size ≠ w1.heap.size; have := HW1.out; omega) (.int .i64 (-1)))
      have HB3 := hide (HB.out.setCell (p := ⟨w1.heap.size, i, none⟩) (Nat.le_of_lt HW1.out) (.int .i64 (-1)))
      clear hll e
      go_wp2_with fail
      go_roundw
      case rel => exact ⟨i + 1, by omega, by go_num, R3, BO3, HB3⟩
      case measure => simp [intOf]; omega
    have hltI : ¬ (i : Int) < (n : Int) := by omega
    obtain rfl : i = n := by omega
    have RL : Hid (OwnRow wr w.heap.size w1.heap.size i (lst i (evN F) 0)) := hide (by have := R.out; simpa [lst] using this)
    have OR : Hid (OrA wr w.heap.size w.heap.size (w1.heap.size + 1) []) := hide ⟨⟨_, BO.out, rfl, .inl ⟨rfl, rfl⟩⟩, fun i hi => absurd hi (Nat.not_lt_zero i)⟩
    clear R BO
    go_wp2_with fail
    go_loopw [39] (fun vi ws => ∃ (k : Nat) (es : List Eo), k ≤ len ∧ vi = .int .i64 k ∧ Hid (es.length = k) ∧ Hid (Grow i (evN F) es) ∧ Hid (okTo i F k) ∧ Hid (OrA ws w.heap.size w.heap.size (w1.heap.size + 1) es) ∧ Hid (OwnRow ws w.heap.size w1.heap.size i (lst i (evN F) k)) ∧ Hid (Below w.heap.size w ws)) (fun vi _ => len - (intOf vi).toNat)
    case atStart => exact ⟨0, [], by omega, rfl, hide rfl, hide Grow.nil, hide (fun i hi => absurd hi (Nat.not_lt_zero i)), OR, RL, HB⟩
    case round =>
      clear RL OR HB
      obtain ⟨k, es, hk, rfl, HLEN, HG, HOK, OR, RL, HB⟩ := hrel
      by_cases hlt : k < len
      rotate_left
      · have hltI : ¬ (k : Int) < (len : Int) := by omega
        have e : k = len := by omega
        have FIN := hide (show Good i F len ∧ es.length = len from ⟨⟨by omega, by omega, by omega, e ▸ HOK.out⟩, HLEN.out.trans e⟩)
        have HG2 := hide (show Grow ((i : Int)).toNat (evN F) es by rw [Int.toNat_natCast]; exact HG.out)
        clear e
        go_wp2_with fail
        go_ret2
        exact ⟨.inr ⟨_, es, rfl, FIN.out.1, Nat.le_refl _, OR.out.more (Nat.le_refl _) HZ2.out, HG2.out, FIN.out.2⟩, HB.out⟩
      have hltI : (k : Int) < (len : Int) := by omega
      obtain ⟨a, rfl, c0, c1, hrd, hmx, hal⟩ := HEV.out k hlt
      have haf := HSM.out.2 k hlt
      have HME := hide (fun (h : mayE i k (F k).r (F k).af = true) => And.intro (mayE_ev h) (okTo_succ HOK.out h))
      have HBAD := hide (fun (h : mayE i k (F k).r (F k).af = false) => (show ¬ Good i F len from fun hg => by have := hg.2.2.2 k hlt; rw [h] at this; cases this))
      obtain ⟨ev, hev⟩ : ∃ x, evN F k = x := ⟨_, rfl⟩
      rw [hev] at HME
      have HEVK := hide hev
      clear hev
      generalize F k = x at *
      obtain ⟨r, xA, xcap, af⟩ := x
      simp only at c0 c1 hrd hmx haf HME HBAD
      have c0 := (HB.out.cell hal).trans c0
      have c1 := (HB.out.cell (p := ⟨_, _, none⟩) hal).trans c1
      have hrd := rd_on hrd HB.out
      -- the event's box
      obtain ⟨bx, hbx⟩ := box2 wr 56 (.int .i64 0) (.slice none 0 0) (.int .i64 r) (.slice xA af.length xcap)
      have bz := Blk.new wr 56 #[.int .i64 0, .slice none 0 0]
      obtain ⟨wa, hwa⟩ : ∃ x, wr.alloc (.cells #[.int .i64 0, .slice none 0 0] 56) = x := ⟨_, rfl⟩
      rw [hwa] at bx hbx bz
      have z0 : wa.cell? ⟨wr.heap.size, 0, none⟩ = some (.int .i64 0) := bz.cell 0
      have z1 : wa.cell? ⟨wr.heap.size, 1, none⟩ = some (.slice none 0 0) := bz.cell 1
      have f0 := bz.frozen 0
      have f1 := bz.frozen 1
      obtain ⟨wb, hwb⟩ : ∃ x, (wa.setCell ⟨wr.heap.size, 0, none⟩ (.int .i64 r)).setCell ⟨wr.heap.size, 1, none⟩ (.slice xA af.length xcap) = x := ⟨_, rfl⟩
      rw [hwb] at bx hbx
      have ORb := hide (OR.out.below hbx)
      have RLb := hide (RL.out.below hbx RL.out.lt)
      have hrb := rd_on hrd hbx
      have HBb := hide (HB.out.trans (hbx.mono HB.out.size))
      have MC := hide (may_c i k r xA xcap af wb hrb hmx)
      have y0 : wb.cell? ⟨wr.heap.size, 0, none⟩ = some (.int .i64 r) := bx.cell 0
      have y1 : wb.cell? ⟨wr.heap.size, 1, none⟩ = some (.slice xA af.length xcap) := bx.cell 1
      have BXb := hide bx
      have HRD := hide (fun (w' : World) (hb : Below wb.heap.size wb w') => rd_on hrb hb)
      clear bz bx hbx hrd hrb
      go_wp2_with fail
      clear z0 z1 f0 f1 hwa hwb c0 c1
      cases hme : mayE i k r af with
      | false =>
        rw [hme] at MC
        have HBD := hide (HBAD.out hme)
        clear hme
        refine MC.out.mono ?_
        rintro e w5 ⟨rfl, hb5⟩
        have HB5 := hide (HBb.out.trans (hb5.mono HBb.out.size))
        clear hb5
        go_wp2_with fail
        go_ret2
        exact ⟨.inl ⟨rfl, HBD.out⟩, HB5.out⟩
      | true =>
        rw [hme] at MC
        obtain ⟨⟨er, hrn, eaf, halt⟩, hok2⟩ := HME.out hme
        have HOK2 := hide hok2
        have HALT := hide halt
        obtain ⟨q, l0⟩ := ev
        simp only at er hrn eaf halt
        have HALT : Hid (∀ k' ∈ l0, k' < k) := hide halt
        clear hme hok2 HBAD HME halt
        subst er
        subst eaf
        refine MC.out.mono ?_
        rintro e w5 ⟨rfl, hb5⟩
        have OR5 := hide (ORb.out.below hb5)
        have RL5 := hide (RLb.out.below hb5 RLb.out.lt)
        have BX5 := hide (BXb.out.below hb5 BXb.out.lt)
        have HB5 := hide (HBb.out.trans (hb5.mono HBb.out.size))
        have CI := hide (clone_i xA xcap w5.heap.size (natI l0) w5 (HRD.out w5 hb5) (Nat.le_refl _) (by omega))
        have v1 : w5.cell? ⟨wr.heap.size, 1, none⟩ = some (.slice xA (natI l0).length xcap) := BX5.out.cell 1
        have hqi : q < i := hrn
        clear hb5 y0 y1 MC HRD hrn
        go_wp2_with fail
        refine CI.out.mono ?_
        rintro e w6 ⟨v6, rfl, ho6, hb6⟩
        have OR6 := hide (OR5.out.below hb6)
        have RL6 := hide (RL5.out.below hb6 RL5.out.lt)
        have BX6 := hide (BX5.out.below hb6 BX5.out.lt)
        have HB6 := hide (HB5.out.trans (hb6.mono HB5.out.size))
        have HO6 := hide (own_more ho6 HB5.out.size)
        have u0 : w6.cell? ⟨wr.heap.size, 0, none⟩ = some (.int .i64 q) := BX6.out.cell 0
        have hll := lst_len i (evN F) k
        have ul := RL6.out.cell q (by rw [hll]; exact hqi)
        have ufz := RL6.out.frozen q
        have hqI : (q : Int) < (i : Int) := by omega
        have LS := lst_spec (n := i) (E := evN F) k q hqi
        have LA : lastL i (evN F) k = if 0 ≤ (lst i (evN F) k).getD q 0 then [((lst i (evN F) k).getD q 0).toNat] else [] := by unfold lastL; rw [HEVK.out]
        have LST : lst i (evN F) (k + 1) = (lst i (evN F) k).set q (k : Int) := by rw [lst, HEVK.out]
        have HLST := hide LST
        obtain ⟨z, hz⟩ : ∃ x, (lst i (evN F) k).getD q 0 = x := ⟨_, rfl⟩
        rw [hz] at ul LS LA
        have HLL := hide hll
        have HB56 := hide hb6
        have HO6b := hide ho6
        have HO6a := hide (own_more ho6 (show w1.heap.size + 1 ≤ w5.heap.size by have := RL5.out.lt; omega))
        clear ho6 hb6 v1 CI hll LST hz
        have HAL : Hid (aheadL i (evN F) k = l0 ++ lastL i (evN F) k) := hide (by unfold aheadL; rw [HEVK.out])
        have HGF := hide (HG.out.fit (by omega) (by omega) (by have := HLEN.out; omega))
        have HLT := hide (show ∀ k' ∈ aheadL i (evN F) k, k' < k from ahead_lt (by rw [HEVK.out]; exact hqi) (by rw [HEVK.out]; exact HALT.out))
        have HLL20 : Hid ((aheadL i (evN F) k).length ≤ 100) := hide (by
          rw [HAL.out, List.length_append]
          have h1 : (lastL i (evN F) k).length ≤ 1 := by unfold lastL; split <;> simp
          rw [natI_len] at haf
          omega)
        have HA6 := hide (show w1.heap.size + 1 ≤ w6.heap.size by have := RL6.out.lt; omega)
        have HA5 := hide (show w1.heap.size + 1 ≤ w5.heap.size by have := RL5.out.lt; omega)
        have SET : ∀ (w7 : World) (A7 : Option Addr) (c7 : Nat), w7.ownsRow (w1.heap.size + 1) 3 1 (.slice A7 (aheadL i (evN F) k).length c7) (aheadL i (evN F) k).length (ints (natI (aheadL i (evN F) k))) → Below w5.heap.size w5 w7 →
            OwnRow (w7.setCell ⟨w1.heap.size, q, none⟩ (.int .i64 k)) w.heap.size w1.heap.size i (lst i (evN F) (k + 1)) ∧ Blk (w7.setCell ⟨w1.heap.size, q, none⟩ (.int .i64 k)) wr.heap.size 56 #[.int .i64 q, .slice xA (natI l0).length xcap] ∧ Below w.heap.size w (w7.setCell ⟨w1.heap.size, q, none⟩ (.int .i64 k)) ∧
            Calls Try.prog 37 #[.pointer (some ⟨w.heap.size, 0, none⟩), .int .i64 i, .int .i64 q, .slice A7 (aheadL i (evN F) k).length c7, .agg #[.func (.func 38) #[] #[], .func (.func 39) #[] #[]]] (w7.setCell ⟨w1.heap.size, q, none⟩ (.int .i64 k)) fun e w' => e = .returned (.int .i64 0) ∧ (∃ C ccap, OrA w' w.heap.size w.heap.size (w1.heap.size + 1) (es ++ [(⟨q, A7, c7, aheadL i (evN F) k, C, ccap, tickL (foldM es (List.replicate i 0) (aheadL i (evN F) k)) q, foldD es 1 (aheadL i (evN F) k)⟩ : Eo)])) ∧ Below w.heap.size (w7.setCell ⟨w1.heap.size, q, none⟩ (.int .i64 k)) w' ∧ KeepsBut [64, 67] (w7.setCell ⟨w1.heap.size, q, none⟩ (.int .i64 k)) w' := fun w7 A7 c7 ho7 hb7 => by
          have r7 := RL5.out.below hb7 RL5.out.lt
          have o7 := OR5.out.below hb7
          have r8 := r7.set_ q (k : Int)
          rw [← HLST.out] at r8
          have ⟨cur, _, hbl, _⟩ := r7
          have o8 := o7.far (k := q) (u := .int .i64 k) hbl (by omega)
          have ho8 := own_setCell ho7 (p := ⟨w1.heap.size, q, none⟩) (fun e => by have h9 : w1.heap.size + 1 ≤ w1.heap.size := (own_block ho7 e).1; omega) (.int .i64 k)
          have hbx := (BX5.out.below hb7 BX5.out.lt).far (p := ⟨w1.heap.size, q, none⟩) (by show wr.heap.size ≠ w1.heap.size; have := RL.out.lt; omega) (.int .i64 k)
          have hbb := (HB5.out.trans (hb7.mono HB5.out.size)).setCell (p := ⟨w1.heap.size, q, none⟩) (by show w.heap.size ≤ w1.heap.size; have := HW1.out; omega) (.int .i64 k)
          refine ⟨r8, hbx, hbb, add_c w.heap.size w.heap.size (w1.heap.size + 1) i q es A7 c7 _ _ o8 (Nat.le_refl _) ?_ HGF.out hqi (by rw [HLEN.out]; exact HLT.out) (by have := HLL20.out; omega) ho8⟩
          have h1 := hb7.size
          have h2 := HA5.out
          simp [World.setCell]
          omega
        have HSET := hide SET
        have FINR : ∀ (w' : World) (es' : List Eo) (C : Option Addr) (ccap : Nat) (A7 : Option Addr) (c7 : Nat), es' = es ++ [(⟨q, A7, c7, aheadL i (evN F) k, C, ccap, tickL (foldM es (List.replicate i 0) (aheadL i (evN F) k)) q, foldD es 1 (aheadL i (evN F) k)⟩ : Eo)] → es'.length = k + 1 ∧ Grow i (evN F) es' := fun w' es' C ccap A7 c7 e => by
          subst e
          have h1 := HLEN.out
          refine ⟨by simp [h1], Grow.snoc HG.out (by rw [h1, HEVK.out]; exact hqi) (by rw [h1, HEVK.out]; exact HALT.out) (by rw [h1, HEVK.out]) (by rw [h1]) rfl rfl⟩
        have HFINR := hide FINR
        have HO6 : Hid (w6.ownsRow (w1.heap.size + 1) 3 1 v6 l0.length (ints (natI l0))) := hide (by
          have := HO6a.out
          rw [natI_len] at this
          exact this)
        have HZ := hide LS
        clear SET FINR LS
        obtain ⟨av, cv, rfl⟩ := own_form HO6.out
        have hl0 : (natI l0).length = l0.length := natI_len l0
        by_cases hz0 : 0 ≤ z
        · -- the last one of the rank
          obtain ⟨jz, rfl⟩ : ∃ j : Nat, z = (j : Int) := ⟨z.toNat, by omega⟩
          have HAL2 : Hid (aheadL i (evN F) k = l0 ++ [jz]) := hide (by rw [HAL.out, LA, if_pos hz0]; simp)
          clear LA
          have ba := (Below.refl w6.heap.size w6).alloc (Nat.le_refl _) (.cells #[.int .i64 jz] 3)
          have kb := Blk.new w6 3 #[.int .i64 jz]
          have ow := own_belowR HO6.out ba
          obtain ⟨Wz, hWz⟩ : ∃ x, w6.alloc (.cells #[.int .i64 jz] 3) = x := ⟨_, rfl⟩
          rw [hWz] at ba kb ow
          have hrd : Reads Wz Wz.heap.size 1 (some ⟨w6.heap.size, 0, none⟩) 1 [.int .i64 jz] := ⟨rfl, fun _ => ⟨_, rfl, kb.lt, fun j u hu => by rw [add_lit, kb.cell]; simpa using hu⟩⟩
          obtain ⟨i0, hi0, hz0', hz1, hz2⟩ := info_parts int_info
          have hll0 : l0.length ≤ 20 := by rw [hl0] at haf; exact haf
          obtain ⟨v11, w11, hrun, hown, hk11, _⟩ := run_append_any (P := Try.prog) Wz (w1.heap.size + 1) 28 28 3 i0 _ 1 8 Try.underlying28 hi0 hz0' hz1 hz2 (by rfl) (by omega) _ _ _ ow Wz.heap.size (some ⟨w6.heap.size, 0, none⟩) 1 1 _ hrd (by intro u hu; rw [List.mem_singleton.1 hu]; rfl) (by unfold maxLen; omega) (by omega) (by have := HA6.out; have := ba.size; omega)
          obtain ⟨A11, c11, rfl⟩ := own_form hown
          have HB511 := hide ((HB56.out.trans (ba.mono HB56.out.size)).grown hk11 (Nat.le_trans HB56.out.size ba.size) fun g e => (own_block HO6b.out e).1)
          have hlen : (aheadL i (evN F) k).length = l0.length + 1 := by rw [HAL2.out]; simp
          have HR7 := hide (RL5.out.below HB511.out RL5.out.lt)
          obtain ⟨r8, hbx8, hbb8, ADD⟩ := HSET.out w11 A11 c11 (by rw [hlen, HAL2.out, natI_app, ints_app]; exact hown) HB511.out
          rw [hlen] at ADD
          have m0 : w11.cell? ⟨wr.heap.size, 0, none⟩ = some (.int .i64 q) := (BX5.out.below HB511.out BX5.out.lt).cell 0
          have ml := HR7.out.cell q (by rw [lst_len]; exact hqi)
          have mf := HR7.out.frozen q
          have n0 : (w11.setCell ⟨w1.heap.size, q, none⟩ (.int .i64 k)).cell? ⟨wr.heap.size, 0, none⟩ = some (.int .i64 q) := hbx8.cell 0
          have R8 := hide r8
          have HB8 := hide hbb8
          have HADD := hide ADD
          clear r8 hbx8 hbb8 ADD hl0 hown hk11 ba kb ow hrd hi0 hz0' hz1 hz2 hlen
          go_wp2_with (at_builtin; refine Lib.wpList_append_run _ rfl (.tmp 58) (.tmp 64) _ _ rfl _ _ rfl rfl _ w11 hrun ?_)
          refine HADD.out.mono ?_
          rintro e w9 ⟨rfl, ⟨C9, cc9, ho9⟩, hb9, hk9⟩
          have HO9 := hide ho9
          have HR9 := hide (OwnRow.keeps R8.out hk9 (by decide))
          have HB9 := hide (HB8.out.trans hb9)
          have HF9 := hide (HFINR.out w9 _ C9 cc9 A11 c11 rfl)
          clear ho9 hb9 hk9 m0 ml mf n0
          go_wp2_with fail
          go_roundw
          case rel => exact ⟨k + 1, _, by omega, by go_num, hide HF9.out.1, hide HF9.out.2, HOK2, HO9, HR9, HB9⟩
          case measure => simp [intOf]; omega
        · have HAL2 : Hid (aheadL i (evN F) k = l0) := hide (by rw [HAL.out, LA, if_neg hz0]; simp)
          have hlen : (aheadL i (evN F) k).length = l0.length := by rw [HAL2.out]
          clear LA
          have HR7 := hide (RL5.out.below HB56.out RL5.out.lt)
          obtain ⟨r8, hbx8, hbb8, ADD⟩ := HSET.out w6 av cv (by rw [hlen, HAL2.out]; exact HO6.out) HB56.out
          rw [hlen] at ADD
          have m0 : w6.cell? ⟨wr.heap.size, 0, none⟩ = some (.int .i64 q) := (BX5.out.below HB56.out BX5.out.lt).cell 0
          have ml := HR7.out.cell q (by rw [lst_len]; exact hqi)
          have mf := HR7.out.frozen q
          have n0 : (w6.setCell ⟨w1.heap.size, q, none⟩ (.int .i64 k)).cell? ⟨wr.heap.size, 0, none⟩ = some (.int .i64 q) := hbx8.cell 0
          have R8 := hide r8
          have HB8 := hide hbb8
          have HADD := hide ADD
          clear r8 hbx8 hbb8 ADD hl0 hlen
          go_wp2_with fail
          refine HADD.out.mono ?_
          rintro e w9 ⟨rfl, ⟨C9, cc9, ho9⟩, hb9, hk9⟩
          have HO9 := hide ho9
          have HR9 := hide (OwnRow.keeps R8.out hk9 (by decide))
          have HB9 := hide (HB8.out.trans hb9)
          have HF9 := hide (HFINR.out w9 _ C9 cc9 av cv rfl)
          clear ho9 hb9 hk9 m0 ml mf n0
          go_wp2_with fail
          go_roundw
          case rel => exact ⟨k + 1, _, by omega, by go_num, hide HF9.out.1, hide HF9.out.2, HOK2, HO9, HR9, HB9⟩
          case measure => simp [intOf]; omega
end Ord
end Go.Proofs.Ytflaikhkddjfjaa
