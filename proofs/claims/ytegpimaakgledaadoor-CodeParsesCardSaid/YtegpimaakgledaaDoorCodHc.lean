/- The document's heights, by rounds. -/
import Derived.Test.YtegpimaakgledaaDoorRows
import Derived.Test.YtegpimaakgledaaDoorCodHb
import Derived.Test.YtegpimaakgledaaDoorCodW
import Derived.Deep.LoopGhost
namespace Go.Proofs.YtegpimaakgledaaDoor
open Go Go.RowKit
set_option linter.unusedVariables false
set_option linter.unusedSimpArgs false
namespace Cod
theorem intCs_at {l : List Int} {k : Nat} (hk : k < l.length) : (intCs l)[k]? = some (.int .i64 (l.getD k 0)) := by
  unfold intCs
  rw [List.getElem?_map, List.getElem?_eq_getElem hk, List.getD_eq_getElem?_getD, List.getElem?_eq_getElem hk]
  rfl
theorem intCs_set (l : List Int) (k : Nat) (b : Int) : (intCs l).set k (.int .i64 b) = intCs (l.set k b) := by
  unfold intCs
  rw [List.map_set]
/-- The row of heights so far. -/
def OutH (w : World) (B g N c : Nat) (h : List Int) : Prop := w.ownsRow B 3 1 (.slice (some ⟨g, 0, none⟩) N c) N (intCs h)
theorem OutH.parts {w : World} {B g N c : Nat} {h : List Int} (o : OutH w B g N c h) (hN : 0 < N) (hl : h.length = N) : B ≤ g ∧ g < w.heap.size ∧ (∀ k, w.frozen? ⟨g, k, none⟩ = false) ∧ ∀ k, k < N → w.cell? ⟨g, k, none⟩ = some (.int .i64 (h.getD k 0)) := by
  obtain ⟨g', e, hB, _, ⟨cs, hb⟩, hf, _, hc⟩ := own_cell o hN
  obtain rfl : g = g' := by injection e with e; injection e
  exact ⟨hB, hb.lt, hf, fun k hk => hc k _ (intCs_at (by rw [hl]; exact hk))⟩
theorem OutH.set {w : World} {B g N c : Nat} {h : List Int} (o : OutH w B g N c h) (k : Nat) (b : Int) : OutH (w.setCell ⟨g, k, none⟩ (.int .i64 b)) B g N c (h.set k b) := by
  unfold OutH
  rw [← intCs_set]
  exact own_set o _
theorem OutH.below {w w' : World} {B g N c : Nat} {h : List Int} (o : OutH w B g N c h) (hb : Below w.heap.size w w') : OutH w' B g N c h := own_belowR o hb
/-- What stands at a place of a round. -/
structure RS (w wr : World) (B X g N c : Nat) (pc : Array Value) (cs : List In) (h : List Int) : Prop where
  out : OutH wr B g N c h
  box : Blk wr X 25 pc
  bl : Below B w wr
  le : B ≤ wr.heap.size
  snd : Snd cs h
def fl (m : Bool) : Nat := if m then 1 else 0
theorem h0_cnt (i : Nat) : 2 * (h0 i).count (-1) + fl true ≤ 2 * i + 1 := by
  have h1 := List.count_le_length (a := (-1 : Int)) (l := h0 i)
  have h2 : (h0 i).length = i := by
    unfold h0
    rw [List.length_set, List.length_replicate]
  show 2 * (h0 i).count (-1) + 1 ≤ 2 * i + 1
  omega
theorem tkI_le (x : In) : tkI x ≤ 31 := by
  unfold tkI
  split
  · omega
  · have := (opO_small x.op).2.1; omega
theorem RS.below {w wr wr' : World} {B X g N c : Nat} {pc : Array Value} {cs : List In} {h : List Int} (s : RS w wr B X g N c pc cs h) (hb : Below wr.heap.size wr wr') : RS w wr' B X g N c pc cs h :=
  ⟨s.out.below hb, s.box.below hb s.box.lt, s.bl.trans (hb.mono s.le), Nat.le_trans s.le hb.size, s.snd⟩
theorem waysB_mem {cs : List In} (ok : CsOk cs) {o : Nat} {n : Int} {a : Nat} (ha : a < cs.length) (hx : cs.getD a default = ⟨(o : Int), n⟩) : ∀ i (hi : i < (waysB o n a).length), ∃ j : Nat, (waysB o n a)[i] = (j : Int) ∧ j < cs.length ∧ j ∈ waysI (cs.getD a default) a := by
  obtain ⟨e1, e2, e3, e4⟩ := ok.each a ha
  have hlt := ways_lt ok ha
  rw [hx] at e1 e2 e3 e4 hlt ⊢
  simp only at e1 e2 e3 e4
  intro i hi
  have key : ∀ y ∈ waysB o n a, ∃ j : Nat, y = (j : Int) ∧ j ∈ waysI ⟨(o : Int), n⟩ a := by
    intro y hy
    unfold waysB at hy
    unfold waysI
    by_cases h29 : o = 29
    · rw [if_pos h29] at hy; cases hy
    rw [if_neg h29] at hy
    rw [if_neg (show ¬ (o : Int) = 29 by omega)]
    by_cases h22 : o = 22
    · rw [if_pos h22] at hy
      rw [if_pos (show (o : Int) = 22 by omega)]
      have := e4 (by omega)
      exact ⟨n.toNat, by rw [List.mem_singleton.1 hy]; omega, List.mem_singleton.2 rfl⟩
    rw [if_neg h22] at hy
    rw [if_neg (show ¬ (o : Int) = 22 by omega)]
    by_cases h23 : o = 23 ∨ o = 24
    · rw [if_pos h23] at hy
      rw [if_pos (show (o : Int) = 23 ∨ (o : Int) = 24 by omega)]
      have := e4 (by omega)
      rcases List.mem_cons.1 hy with rfl | hy
      · exact ⟨a + 1, by simp, List.mem_cons_of_mem _ (List.mem_singleton.2 rfl)⟩
      · exact ⟨n.toNat, by rw [List.mem_singleton.1 hy]; omega, List.mem_cons_self⟩
    · rw [if_neg h23] at hy
      rw [if_neg (show ¬ ((o : Int) = 23 ∨ (o : Int) = 24) by omega)]
      exact ⟨a + 1, by rw [List.mem_singleton.1 hy]; simp, List.mem_singleton.2 rfl⟩
  obtain ⟨j, h1, h2⟩ := key _ (List.getElem_mem hi)
  exact ⟨j, h1, hlt j h2, h2⟩
theorem waysI_memB {o : Nat} {n : Int} {a j : Nat} (hn : o = 22 ∨ o = 23 ∨ o = 24 → 0 ≤ n) (hj : j ∈ waysI ⟨(o : Int), n⟩ a) : ∃ i, ∃ hi : i < (waysB o n a).length, (waysB o n a)[i] = (j : Int) := by
  have : (j : Int) ∈ waysB o n a := by
    unfold waysI at hj
    unfold waysB
    by_cases h29 : o = 29
    · rw [if_pos (show (o : Int) = 29 by omega)] at hj; cases hj
    rw [if_neg (show ¬ (o : Int) = 29 by omega)] at hj
    rw [if_neg h29]
    by_cases h22 : o = 22
    · rw [if_pos (show (o : Int) = 22 by omega)] at hj
      rw [if_pos h22]
      have := hn (by omega)
      rw [List.mem_singleton.1 hj]
      exact List.mem_singleton.2 (show (n.toNat : Int) = n by omega)
    rw [if_neg (show ¬ (o : Int) = 22 by omega)] at hj
    rw [if_neg h22]
    by_cases h23 : o = 23 ∨ o = 24
    · rw [if_pos (show (o : Int) = 23 ∨ (o : Int) = 24 by omega)] at hj
      rw [if_pos h23]
      have := hn (by omega)
      rcases List.mem_cons.1 hj with rfl | hj
      · exact List.mem_cons_of_mem _ (List.mem_singleton.2 (show (n.toNat : Int) = n by omega))
      · rw [List.mem_singleton.1 hj]
        simp
    · rw [if_neg (show ¬ ((o : Int) = 23 ∨ (o : Int) = 24) by omega)] at hj
      rw [if_neg h23]
      rw [List.mem_singleton.1 hj]
      simp
  obtain ⟨i, hi, h⟩ := List.getElem_of_mem this
  exact ⟨i, hi, h⟩
/-- What the document's Heights answers. -/
def HbPost (cs : List In) (vars : Int) (arrs : List Int) (w : World) (e : Ending) (w' : World) : Prop :=
  (∃ r, HrR cs vars arrs r ∧ ((r = none ∧ e = .returned (.tuple #[.slice none 0 0, .int .i64 50])) ∨ (∃ hs g c, r = some hs ∧ hs.length = cs.length ∧ e = .returned (.tuple #[.slice (some ⟨g, 0, none⟩) cs.length c, .int .i64 0]) ∧ OutH w' w.heap.size g cs.length c hs))) ∧ Below w.heap.size w w'
set_option maxRecDepth 100000 in
set_option maxHeartbeats 16000000 in
theorem Heights_b (C : Option Addr) (cc : Nat) (cs : List In) (vars : Int) (A : Option Addr) (ca : Nat) (arrs : List Int) (w : World) (hC : CodeAt w C cs) (hA : IntAt w A arrs) (hlc : cs.length ≤ 100000) (hla : arrs.length ≤ 100000) :
    Calls Tryd.prog 11 #[PrV C cs.length cc vars A arrs.length ca] w (HbPost cs vars arrs w) := by
  have hb1 := (Below.refl w.heap.size w).alloc (Nat.le_refl _) (.cells #[.slice C cs.length cc, .int .i64 vars, .slice A arrs.length ca] 25)
  have k1 := Blk.new w 25 #[.slice C cs.length cc, .int .i64 vars, .slice A arrs.length ca]
  have MN := hide (fun (w' : World) (h1 : CodeAt w' C cs) (h2 : IntAt w' A arrs) => whole_b C cc cs vars A ca arrs w' h1 h2 hlc hla)
  unfold PrV at MN ⊢
  go_enter Tryd.func11, Tryd.ntmps11
  go_upto_region 1 with (fail)
  obtain ⟨w1, hw1⟩ : ∃ z, w.alloc (.cells #[.slice C cs.length cc, .int .i64 vars, .slice A arrs.length ca] 25) = z := ⟨_, rfl⟩
  rw [hw1] at hb1 k1 ⊢
  obtain ⟨X, hX⟩ : ∃ X, w.heap.size = X := ⟨_, rfl⟩
  rw [hX] at k1 ⊢
  have HWX := hide hX
  have HCW := hide hC
  have HC := hide (hC.below (by rw [hX]; rw [hX] at hb1; exact hb1))
  have HA := hide (hA.below (by rw [hX]; rw [hX] at hb1; exact hb1))
  rw [hX] at hb1
  have HB := hide hb1
  have HK := hide k1
  have p0 : w1.cell? ⟨X, 0, none⟩ = some (.slice C cs.length cc) := k1.cell 0
  have p1 : w1.cell? ⟨X, 1, none⟩ = some (.int .i64 vars) := k1.cell 1
  have p2 : w1.cell? ⟨X, 2, none⟩ = some (.slice A arrs.length ca) := k1.cell 2
  clear hb1 k1 hC hA hw1 hX hla
  go_wp2_with fail
  refine (MN.out w1 HC.out HA.out).mono ?_
  rintro e w2 ⟨rfl, hb2⟩
  have HB2 := hide (HB.out.trans (hb2.mono (by rw [← HWX.out]; exact HB.out.size)))
  have HL2 := hide (show X ≤ w2.heap.size by rw [← HWX.out]; exact HB2.out.size)
  have HK2 := hide (HK.out.below hb2 HK.out.lt)
  clear hb2 p0 p1 p2 MN HK HB HC HA
  cases hm : mayNs cs vars arrs with
  | false =>
    have R : Hid (HrR cs vars arrs none) := hide (.inl ⟨hm, rfl⟩)
    clear hm
    go_wp2_with fail
    exact bodyPost_ret (v := .tuple #[.slice none 0 0, .int .i64 50]) (by simp [results, Tryd.results11, go_sem]) rfl ⟨⟨none, R.out, .inl ⟨rfl, rfl⟩⟩, by rw [HWX.out]; exact HB2.out⟩
  | true =>
    have K := hide (mayNs_csok hm)
    have MM := hide hm
    obtain ⟨_, _, _, _, _, _, hmn⟩ := mayNs_parts hm
    have HMN := hide hmn
    have RR : Hid (∀ r, HS cs r → HrR cs vars arrs r) := hide (fun r h => .inr ⟨hm, h⟩)
    clear hm hmn
    obtain ⟨ad, rfl, hadl, hcel⟩ := HCW.out K.out.pos
    have HCE := hide hcel
    have HAD := hide hadl
    clear hadl hcel HCW
    obtain ⟨N, hN⟩ : ∃ N, cs.length = N := ⟨_, rfl⟩
    have HN := hide hN
    have hN0 : 0 < N := by have := K.out.pos; omega
    have hN4 : N ≤ 4000 := by have := K.out.most; omega
    rw [hN] at HK2 hlc ⊢
    have HK3 := hide HK2.out
    clear hN
    have r0 : w2.cell? ⟨X, 0, none⟩ = some (.slice (some ad) N cc) := HK2.out.cell 0
    go_wp2_with fail
    clear r0
    go_loopw [4, 5] (fun v4 v5 wr => ∃ (i : Nat) (O : Option Addr) (oc : Nat), i ≤ N ∧ v4 = .slice O i oc ∧ v5 = .int .i64 i ∧ Hid (wr.ownsRow X 3 1 (.slice O i oc) i (intCs (List.replicate i (-1)))) ∧ Hid (Blk wr X 25 #[.slice (some ad) N cc, .int .i64 vars, .slice A arrs.length ca]) ∧ Hid (Below X w wr ∧ X ≤ wr.heap.size)) (fun _ v5 _ => N - (RowKit.intOf v5).toNat)
    case atStart => exact ⟨0, none, 0, Nat.zero_le _, rfl, rfl, hide ⟨by simp [intCs], .inl ⟨rfl, rfl⟩⟩, HK2, hide ⟨HB2.out, HL2.out⟩⟩
    case round =>
      obtain ⟨i, O, oc, hi, rfl, rfl, HO, HKr, HBr⟩ := hrel
      rename World => wr
      have r0 : wr.cell? ⟨X, 0, none⟩ = some (.slice (some ad) N cc) := HKr.out.cell 0
      by_cases hlt : i < N
      · have hltI : (i : Int) < (N : Int) := by omega
        have s1 : IntKind.i64.wrap ((i : Int) + 1) = (i : Int) + 1 := by rw [IntKind.wrap_i64]; omega
        obtain ⟨A1, c1, wy, hrun, hown, hbel, hky⟩ := push_int wr X O oc i (List.replicate i (-1)) (-1) (by simp) HO.out HBr.out.2 (by omega)
        rw [show List.replicate i (-1 : Int) ++ [-1] = List.replicate (i + 1) (-1) from (List.replicate_succ' ..).symm] at hown
        have HO2 := hide hown
        have HK4 := hide (KeepsBut.blk hky HKr.out (by decide))
        have HB4 := hide (And.intro (HBr.out.1.trans hbel) (Nat.le_trans HBr.out.2 hky.1))
        have RUN := hide hrun
        clear hrun hown hbel hky
        go_wp2_with (at_builtin; refine Lib.wpList_append_run _ rfl _ _ 23 23 rfl _ _ rfl rfl _ _ RUN.out ?_)
        go_roundw
        case rel => exact ⟨i + 1, A1, c1, by omega, rfl, by simp, HO2, HK4, HB4⟩
        case measure => simp [RowKit.intOf] <;> omega
      obtain rfl : i = N := by omega
      have hltI : ¬ (i : Int) < (i : Int) := by omega
      obtain ⟨g, cap, eg, hgX, _⟩ := HO.out.form hN0
      obtain rfl : O = some ⟨g, 0, none⟩ := by injection eg
      have o1 : OutH wr X g i oc (List.replicate i (-1)) := HO.out
      obtain ⟨_, hgl, hfz, hce⟩ := o1.parts hN0 (by simp)
      have c0 := hce 0 hN0
      have f0 := hfz 0
      have o2 := o1.set 0 0
      rw [show (List.replicate i (-1 : Int)).set 0 0 = h0 i from rfl] at o2
      have hneX : X ≠ g := by
        obtain ⟨_, _, _, _, ⟨_, hbg⟩, _⟩ := own_cell o1 hN0
        rename_i e9 _ _ _ _
        injection e9 with e9
        injection e9 with e9
        rw [e9]
        exact HKr.out.ne_ hbg (by decide)
      have k2 := HKr.out.far (p := ⟨g, 0, none⟩) hneX (.int .i64 0)
      have b2 := HBr.out.1.setCell (p := ⟨g, 0, none⟩) hgX (.int .i64 0)
      have HXG := hide (And.intro hgX hneX)
      have hiI : (0 : Int) < (i : Int) := by omega
      have R0 : Hid (RS w (wr.setCell ⟨g, 0, none⟩ (.int .i64 0)) X X g i oc #[.slice (some ad) i cc, .int .i64 vars, .slice A arrs.length ca] cs (h0 i)) := hide ⟨o2, k2, b2, by simpa [World.setCell] using HBr.out.2, Snd.start HN.out hN0⟩
      obtain ⟨w3, hw3⟩ : ∃ z, wr.setCell ⟨g, 0, none⟩ (.int .i64 0) = z := ⟨_, rfl⟩
      rw [hw3] at R0
      clear o1 o2 k2 b2 hgX hneX eg hce hfz hgl HO
      go_wp2_with fail
      clear hw3 c0 f0
      go_loopg [6] (2 * i + 1) (fun gk v6 wl => ∃ (h : List Int) (m : Bool), v6 = .bool m ∧ 2 * h.count (-1) + fl m ≤ gk ∧ Hid (RS w wl X X g i oc #[.slice (some ad) i cc, .int .i64 vars, .slice A arrs.length ca] cs h) ∧ Hid (m = false → ∀ k, k < cs.length → h.getD k 0 ≠ -1 → Cl cs h k))
      case atStart => exact ⟨h0 i, true, rfl, h0_cnt i, R0, hide (fun e => by cases e)⟩
      case round =>
        obtain ⟨h, m, rfl, hme, HR, HCL⟩ := hrel
        rename World => wl
        cases m with
        | false =>
          go_wp2_with fail
          exact bodyPost_ret (v := .tuple #[.slice (some ⟨g, 0, none⟩) i oc, .int .i64 0]) (by simp [results, Tryd.results11, go_sem]) rfl ⟨⟨some h, RR.out _ (.inr ⟨h, rfl, HR.out.snd, HCL.out (by first | rfl | trivial)⟩), .inr ⟨h, g, oc, rfl, HR.out.snd.len, by rw [HN.out], by rw [HWX.out, HN.out]; exact HR.out.out⟩⟩, by rw [HWX.out]; exact HR.out.bl⟩
        | true =>
          have hm2 : 2 * h.count (-1) + 1 ≤ gk := hme
          clear hme HCL
          go_wp2_with fail
          go_loopw [6, 7] (fun v6 v7 wk => ∃ (p : Nat) (h1 : List Int) (m1 : Bool), p ≤ i ∧ v7 = .int .i64 p ∧ v6 = .bool m1 ∧ Hid (h1.count (-1) + fl m1 ≤ h.count (-1)) ∧ Hid (RS w wk X X g i oc #[.slice (some ad) i cc, .int .i64 vars, .slice A arrs.length ca] cs h1) ∧ Hid (m1 = false → ∀ k, k < p → h1.getD k 0 ≠ -1 → Cl cs h1 k)) (fun _ v7 _ => i - (RowKit.intOf v7).toNat)
          case atStart => exact ⟨0, h, false, Nat.zero_le _, rfl, rfl, hide (Nat.le_refl _), HR, hide (fun _ k hk => absurd hk (Nat.not_lt_zero k))⟩
          case round =>
            obtain ⟨p, h1, m1, hp, rfl, rfl, HCT, HR1, HC1⟩ := hrel
            rename World => wk
            by_cases hlt : p < i
            rotate_left
            · have hltI : ¬ (p : Int) < (i : Int) := by omega
              go_wp2_with fail
              go_roundg (2 * h1.count (-1) + fl m1)
              case measure => have := HCT.out; omega
              case rel => exact ⟨h1, m1, rfl, Nat.le_refl _, HR1, hide (fun e k hk hn => HC1.out e k (by have := HN.out; omega) hn)⟩
            have hltI : (p : Int) < (i : Int) := by omega
            obtain ⟨_, hgl, hfz, hce⟩ := HR1.out.out.parts hN0 (by rw [HR1.out.snd.len, HN.out])
            have cp := hce p hlt
            obtain ⟨z, hz⟩ : ∃ z, h1.getD p 0 = z := ⟨_, rfl⟩
            rw [hz] at cp
            have HZ := hide hz
            have s1 : IntKind.i64.wrap ((p : Int) + 1) = (p : Int) + 1 := by rw [IntKind.wrap_i64]; omega
            have hpc : p < cs.length := by have := HN.out; omega
            have hbz := HR1.out.snd.bnd p hpc
            rw [hz] at hbz
            clear hz hgl hfz hce
            by_cases hneg : z = -1
            · subst hneg
              clear hbz
              go_wp2_with fail
              go_roundw
              case rel => exact ⟨p + 1, h1, m1, by omega, by simp, rfl, HCT, HR1, hide (fun e k hk hn => by
                rcases Nat.lt_or_ge k p with hh | hh
                · exact HC1.out e k hh hn
                · obtain rfl : k = p := by omega
                  exact absurd HZ.out hn)⟩
              case measure => simp [RowKit.intOf] <;> omega
            have hz0 : 0 ≤ z := by omega
            have hz1 : z ≤ 200 := by omega
            have hz2 : ¬ z < 0 := by omega
            obtain ⟨o, n, hx⟩ : ∃ (o : Nat) (n : Int), cs.getD p default = ⟨(o : Int), n⟩ := by
              obtain ⟨e1, _, _, _⟩ := K.out.each p hpc
              exact ⟨(cs.getD p default).op.toNat, (cs.getD p default).n, by rw [show (((cs.getD p default).op.toNat : Nat) : Int) = (cs.getD p default).op by omega]⟩
            obtain ⟨e1, e2, _, e4⟩ := K.out.each p hpc
            have hmp := HMN.out (cs.getD p default) (by rw [List.getD_eq_getElem?_getD, List.getElem?_eq_getElem hpc]; exact List.getElem_mem hpc)
            rw [hx] at e1 e2 e4 hmp
            have HE4 := hide e4
            have hcal : o = 28 → mayCl n = true := fun e => by
              subst e
              unfold mayN at hmp
              simp only [Bool.and_eq_true] at hmp
              exact hmp.2
            have hlo : 1 ≤ o := by simp only at e1; omega
            have hhi : o ≤ 29 := by simp only at e2; omega
            have HX := hide hx
            have hcp : cs[p]'hpc = ⟨(o : Int), n⟩ := by rw [← hx, List.getD_eq_getElem?_getD, List.getElem?_eq_getElem hpc]; rfl
            obtain ⟨_, k0, k1⟩ := HCE.out p hpc
            rw [hcp] at k0 k1
            have had : (ad.add (p * 2)).block < X := by rw [block_of_add, ← HWX.out]; exact HAD.out
            have i0 := (HR1.out.bl.cell had).trans k0
            have i1 := (HR1.out.bl.cell (p := ⟨_, _, none⟩) had).trans k1
            dsimp only at i0 i1
            have r0 : wk.cell? ⟨X, 0, none⟩ = some (.slice (some ad) i cc) := HR1.out.box.cell 0
            have TB := hide (takes_b o n hlo hhi hcal wk)
            unfold In.val at TB
            have DV := hide (HR1.out.snd.snd p hpc (by rw [HZ.out]; omega))
            have hz3 := hide (And.intro k0 k1)
            clear e1 e2 e4 hmp hcal hx hcp k0 k1 hbz hneg
            go_wp2_with fail
            refine TB.out.mono ?_
            rintro e wy ⟨rfl, hby⟩
            have HR2 := hide (HR1.out.below hby)
            clear hby cp i0 i1 r0 TB
            obtain ⟨_, hgl, hfz, hce⟩ := HR2.out.out.parts hN0 (by rw [HR2.out.snd.len, HN.out])
            have cp := hce p hlt
            rw [HZ.out] at cp
            have hgy := hide hgl
            clear hgl hfz hce
            have t0 := tkI_nonneg ⟨(o : Int), n⟩
            have t1 := tkI_le ⟨(o : Int), n⟩
            obtain ⟨_, _, a0, a1, _, _⟩ := opO_small (o : Int)
            have HST : Hid (stepI (cs.getD p default) (h1.getD p 0) = if tkI ⟨(o : Int), n⟩ ≤ z ∧ z - tkI ⟨(o : Int), n⟩ + adO (o : Int) ≤ 200 then some (z - tkI ⟨(o : Int), n⟩ + adO (o : Int)) else none) := hide (by rw [HX.out, HZ.out]; rfl)
            generalize tkI ⟨(o : Int), n⟩ = tk at *
            generalize adO (o : Int) = aj at *
            have s2 : IntKind.i64.wrap (z - tk) = z - tk := by rw [IntKind.wrap_i64]; omega
            have s3 : IntKind.i64.wrap (z - tk + aj) = z - tk + aj := by rw [IntKind.wrap_i64]; omega
            by_cases hb1 : z < tk
            · have BD := hide (show Bad cs from .inl ⟨p, _, hpc, DV.out, HST.out.trans (if_neg (fun hh => by omega))⟩)
              clear hlo hhi a0 a1 t0 t1
              go_wp2_with fail
              exact bodyPost_ret (v := .tuple #[.slice none 0 0, .int .i64 50]) (by simp [results, Tryd.results11, go_sem]) rfl ⟨⟨none, RR.out _ (.inl ⟨rfl, BD.out⟩), .inl ⟨rfl, rfl⟩⟩, by rw [HWX.out]; exact HR2.out.bl⟩
            by_cases hb2 : 200 < z - tk + aj
            · have BD := hide (show Bad cs from .inl ⟨p, _, hpc, DV.out, HST.out.trans (if_neg (fun hh => by omega))⟩)
              clear hlo hhi a0 a1 t0 t1
              go_wp2_with fail
              exact bodyPost_ret (v := .tuple #[.slice none 0 0, .int .i64 50]) (by simp [results, Tryd.results11, go_sem]) rfl ⟨⟨none, RR.out _ (.inl ⟨rfl, BD.out⟩), .inl ⟨rfl, rfl⟩⟩, by rw [HWX.out]; exact HR2.out.bl⟩
            have HS2 := hide (HST.out.trans (if_pos ⟨by omega, by omega⟩))
            have hbb : 0 ≤ z - tk + aj ∧ z - tk + aj ≤ 200 := by omega
            have HBB := hide hbb
            have r0 : wy.cell? ⟨X, 0, none⟩ = some (.slice (some ad) i cc) := HR2.out.box.cell 0
            have r1 : wy.cell? ⟨X, 1, none⟩ = some (.int .i64 vars) := HR2.out.box.cell 1
            have r2 : wy.cell? ⟨X, 2, none⟩ = some (.slice A arrs.length ca) := HR2.out.box.cell 2
            have WB := hide (ways_b ad i cc vars A arrs.length ca o n p hlt (by omega) wy (Nat.lt_of_lt_of_le (by rw [block_of_add] at had; exact had) HR2.out.le) ((HR2.out.bl.cell had).trans hz3.out.1) ((HR2.out.bl.cell (p := ⟨_, _, none⟩) had).trans hz3.out.2))
            unfold PrV at WB
            have WM := hide (waysB_mem K.out hpc HX.out)
            have WI := hide (fun (j : Nat) (hj : j ∈ waysI (cs.getD p default) p) => waysI_memB (o := o) (n := n) (a := p) (j := j) (fun e => (HE4.out (by show (o : Int) = 22 ∨ (o : Int) = 23 ∨ (o : Int) = 24; omega)).1) (by rw [HX.out] at hj; exact hj))
            obtain ⟨ws, hws⟩ : ∃ ws, waysB o n p = ws := ⟨_, rfl⟩
            rw [hws] at WB
            rw [hws] at WM
            simp only [hws] at WI
            have hwl : ws.length ≤ 2 := by
              rw [← hws]
              unfold waysB
              repeat' split
              all_goals simp
            obtain ⟨b, hb⟩ : ∃ b, z - tk + aj = b := ⟨_, rfl⟩
            rw [hb] at HS2 HBB s3 hb2
            clear HST hbb hlo hhi a0 a1 t0 t1 HE4 had hz3
            go_wp2_with fail
            try rw [hb]
            clear hb
            refine WB.out.mono ?_
            rintro e wz ⟨⟨WA, rfl, hwa⟩, hbz⟩
            have HR3 := hide (HR2.out.below hbz)
            have HWA : Hid (∀ j (hj : j < ws.length), ∃ g9, WA = some ⟨g9, 0, none⟩ ∧ g9 ≠ g ∧ wz.cell? ⟨g9, j, none⟩ = some (.int .i64 (ws[j]))) := hide (fun j hj => by
              obtain ⟨g9, q1, q2, q3, q4⟩ := hwa j hj
              exact ⟨g9, q1, by have := hgy.out; omega, q4⟩)
            clear hbz hwa WB r0 r1 r2 cp HR2 s1 s2 s3
            go_wp2_with fail
            go_loopw [6, 12] (fun v6 v12 wv => ∃ (k : Nat) (h2 : List Int) (m2 : Bool), k ≤ ws.length ∧ v12 = .int .i64 k ∧ v6 = .bool m2 ∧ Hid (h2.count (-1) + fl m2 ≤ h.count (-1)) ∧ Hid (RS w wv X X g i oc #[.slice (some ad) i cc, .int .i64 vars, .slice A arrs.length ca] cs h2) ∧ Hid (m2 = false → h2 = h1 ∧ m1 = false ∧ ∀ (i' : Nat) (hi : i' < ws.length), i' < k → h1.getD (ws[i']).toNat 0 = b) ∧ Hid (∀ j (hj : j < ws.length), ∃ g9, WA = some ⟨g9, 0, none⟩ ∧ g9 ≠ g ∧ wv.cell? ⟨g9, j, none⟩ = some (.int .i64 (ws[j])))) (fun _ v12 _ => ws.length - (RowKit.intOf v12).toNat)
            case atStart => exact ⟨0, h1, m1, Nat.zero_le _, rfl, rfl, HCT, HR3, hide (fun e => ⟨rfl, e, fun i' _ hk => absurd hk (Nat.not_lt_zero i')⟩), HWA⟩
            case round =>
              obtain ⟨k, h2, m2, hk, rfl, rfl, HCT2, HR4, HM2, HWA2⟩ := hrel
              rename World => wv
              have s4 : IntKind.i64.wrap ((k : Int) + 1) = (k : Int) + 1 := by rw [IntKind.wrap_i64]; omega
              by_cases hlt2 : k < ws.length
              rotate_left
              · have hltI2 : ¬ (k : Int) < (ws.length : Int) := by omega
                have s1 : IntKind.i64.wrap ((p : Int) + 1) = (p : Int) + 1 := by rw [IntKind.wrap_i64]; omega
                go_wp2_with fail
                go_roundw
                case rel => exact ⟨p + 1, h2, m2, by omega, by simp, rfl, HCT2, HR4, hide (fun e k' hk' hn => by
                  obtain ⟨q1, q2, q3⟩ := HM2.out e
                  rw [q1] at hn ⊢
                  rcases Nat.lt_or_ge k' p with hh | hh
                  · exact HC1.out q2 k' hh hn
                  · obtain rfl : k' = p := by omega
                    refine ⟨b, HS2.out, fun j hj => ?_⟩
                    obtain ⟨i', hi', e'⟩ := WI.out j hj
                    have := q3 i' hi' (by omega)
                    rw [e'] at this
                    exact this)⟩
                case measure => simp [RowKit.intOf] <;> omega
              have hltI2 : (k : Int) < (ws.length : Int) := by omega
              obtain ⟨g9, rfl, hg9, hcw⟩ := HWA2.out k hlt2
              obtain ⟨j, hj, hji, hjw⟩ := WM.out k hlt2
              rw [hj] at hcw
              have HJ := hide hj
              obtain ⟨hBg, hgl, hfz, hce⟩ := HR4.out.out.parts hN0 (by rw [HR4.out.snd.len, HN.out])
              have hj2 : j < i := by have := HN.out; omega
              have cj := hce j hj2
              have fj := hfz j
              have hjI : (j : Int) < (i : Int) := by omega
              have hjI0 : ¬ (j : Int) < 0 := by omega
              have DJ := hide (Dv.step p _ b j DV.out hpc HS2.out hjw)
              clear hj hce hfz
              by_cases hy : h2.getD j 0 = -1
              · rw [hy] at cj
                have bB := HBB.out
                have hneX : X ≠ g := HXG.out.2
                have R5 : Hid (RS w (wv.setCell ⟨g, j, none⟩ (.int .i64 b)) X X g i oc #[.slice (some ad) i cc, .int .i64 vars, .slice A arrs.length ca] cs (h2.set j b)) := hide ⟨HR4.out.out.set j b, HR4.out.box.far (p := ⟨g, j, none⟩) hneX _, HR4.out.bl.setCell (p := ⟨g, j, none⟩) hBg _, by simpa [World.setCell] using HR4.out.le, HR4.out.snd.set hji hy DJ.out bB⟩
                have HWA5 : Hid (∀ j' (hj : j' < ws.length), ∃ g', (some ⟨g9, 0, none⟩ : Option Addr) = some ⟨g', 0, none⟩ ∧ g' ≠ g ∧ (wv.setCell ⟨g, j, none⟩ (.int .i64 b)).cell? ⟨g', j', none⟩ = some (.int .i64 (ws[j']))) := hide (fun j' hj' => by
                  obtain ⟨g', q1, q2, q3⟩ := HWA2.out j' hj'
                  exact ⟨g', q1, q2, (World.cell?_of_block (w := wv) (a := ⟨g', j', none⟩) (Below.heap_setCell wv ⟨g, j, none⟩ _ g' q2)).trans q3⟩)
                have HCT5 : Hid ((h2.set j b).count (-1) + fl true ≤ h.count (-1)) := hide (by
                  have q1 := count_set_neg (h := h2) (k := j) (b := b) (by rw [HR4.out.snd.len]; exact hji) hy (by omega)
                  have q2 := HCT2.out
                  show (h2.set j b).count (-1) + 1 ≤ _
                  omega)
                obtain ⟨wn, hwn⟩ : ∃ x, wv.setCell ⟨g, j, none⟩ (.int .i64 b) = x := ⟨_, rfl⟩
                rw [hwn] at R5 HWA5
                obtain ⟨_, _, _, hce5⟩ := R5.out.out.parts hN0 (by rw [R5.out.snd.len, HN.out])
                have cj5 := hce5 j hj2
                rw [getD_set_same (by rw [HR4.out.snd.len]; exact hji)] at cj5
                obtain ⟨g', q1, _, cw5⟩ := HWA5.out k hlt2
                have q2 : g9 = g' := by injection q1 with q1; injection q1
                rw [← q2, HJ.out] at cw5
                have zb : (b != b) = false := by simp
                clear hce5 q1 q2 bB hy hBg HR4 HCT2 HM2 HWA2
                go_wp2_with fail
                go_roundw
                case rel => exact ⟨k + 1, h2.set j b, true, by omega, by simp, rfl, HCT5, R5, hide (fun e => by cases e), HWA5⟩
                case measure => simp [RowKit.intOf] <;> omega
              have hyb := HR4.out.snd.bnd j hji
              obtain ⟨y, hyy⟩ : ∃ y, h2.getD j 0 = y := ⟨_, rfl⟩
              have HY := hide hyy
              rw [hyy] at hy hyb cj
              have hy0 : ¬ y < 0 := by omega
              by_cases hye : y = b
              · subst hye
                have zb : (y != y) = false := by simp
                clear hyy hy hyb hBg
                go_wp2_with fail
                go_roundw
                case rel => exact ⟨k + 1, h2, m2, by omega, by simp, rfl, HCT2, HR4, hide (fun e => by
                  obtain ⟨q1, q2, q3⟩ := HM2.out e
                  refine ⟨q1, q2, fun i' hi' hk' => ?_⟩
                  rcases Nat.lt_or_ge i' k with hh | hh
                  · exact q3 i' hi' hh
                  · obtain rfl : i' = k := by omega
                    rw [HJ.out, ← q1]
                    exact HY.out), HWA2⟩
                case measure => simp [RowKit.intOf] <;> omega
              · have zb : (y != b) = true := by rw [bne_iff_ne]; exact hye
                have BD := hide (show Bad cs from .inr ⟨j, y, b, hji, by have := HR4.out.snd.snd j hji (by rw [HY.out]; exact hy); rwa [HY.out] at this, DJ.out, hye⟩)
                clear hyy hy hyb hye hBg
                go_wp2_with fail
                exact bodyPost_ret (v := .tuple #[.slice none 0 0, .int .i64 50]) (by simp [results, Tryd.results11, go_sem]) rfl ⟨⟨none, RR.out _ (.inl ⟨rfl, BD.out⟩), .inl ⟨rfl, rfl⟩⟩, by rw [HWX.out]; exact HR4.out.bl⟩
set_option maxRecDepth 100000 in
set_option maxHeartbeats 4000000 in
theorem May_b (C : Option Addr) (cc : Nat) (cs : List In) (vars : Int) (A : Option Addr) (ca : Nat) (arrs : List Int) (w : World) (hC : CodeAt w C cs) (hA : IntAt w A arrs) (hlc : cs.length ≤ 100000) (hla : arrs.length ≤ 100000) :
    Calls Tryd.prog 16 #[PrV C cs.length cc vars A arrs.length ca] w fun e w' => (∃ r, HrR cs vars arrs r ∧ e = .returned (.bool r.isSome)) ∧ Below w.heap.size w w' := by
  have hb1 := (Below.refl w.heap.size w).alloc (Nat.le_refl _) (.cells #[.slice C cs.length cc, .int .i64 vars, .slice A arrs.length ca] 25)
  have k1 := Blk.new w 25 #[.slice C cs.length cc, .int .i64 vars, .slice A arrs.length ca]
  have HT := hide (fun (w' : World) (h1 : CodeAt w' C cs) (h2 : IntAt w' A arrs) => Heights_b C cc cs vars A ca arrs w' h1 h2 hlc hla)
  unfold PrV at HT ⊢
  go_enter Tryd.func16, Tryd.ntmps16
  go_upto_region 1 with (fail)
  generalize w.alloc (.cells #[.slice C cs.length cc, .int .i64 vars, .slice A arrs.length ca] 25) = w1 at *
  have HC := hide (hC.below hb1)
  have HA := hide (hA.below hb1)
  have HB := hide hb1
  have p0 : w1.cell? ⟨w.heap.size, 0, none⟩ = some (.slice C cs.length cc) := k1.cell 0
  have p1 : w1.cell? ⟨w.heap.size, 1, none⟩ = some (.int .i64 vars) := k1.cell 1
  have p2 : w1.cell? ⟨w.heap.size, 2, none⟩ = some (.slice A arrs.length ca) := k1.cell 2
  clear hb1 k1 hC hA hlc hla
  go_wp2_with fail
  refine (HT.out w1 HC.out HA.out).mono ?_
  rintro e w2 ⟨⟨r, hr, hh⟩, hb2⟩
  have HB2 := hide (HB.out.trans (hb2.mono HB.out.size))
  have R := hide hr
  clear hb2 hr HT p0 p1 p2
  rcases hh with ⟨rfl, rfl⟩ | ⟨hs, g, c, rfl, h1, rfl, h4⟩
  · go_wp2_with fail
    go_ret
    exact ⟨⟨none, R.out, rfl⟩, HB2.out⟩
  · clear h1 h4
    go_wp2_with fail
    go_ret
    exact ⟨⟨some hs, R.out, rfl⟩, HB2.out⟩
end Cod
end Go.Proofs.YtegpimaakgledaaDoor
