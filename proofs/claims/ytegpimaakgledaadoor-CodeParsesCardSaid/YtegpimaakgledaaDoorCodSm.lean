/- Whether two programs are the same: the program's and the document's. -/
import Derived.Test.YtegpimaakgledaaDoorRows
import Derived.Test.YtegpimaakgledaaDoorCodH
import Derived.Test.YtegpimaakgledaaDoorQuietBelow
namespace Go.Proofs.YtegpimaakgledaaDoor
open Go Go.RowKit
set_option linter.unusedVariables false
set_option linter.unusedSimpArgs false
namespace Cod
set_option maxRecDepth 100000 in
theorem neqIn (x y : In) (w : World) : (binOp .neq 47 (.agg #[.int .u8 x.op, .int .i64 x.n]) (.agg #[.int .u8 y.op, .int .i64 y.n])).run Tryd.prog w = .ok (.bool (!decide (x = y))) w := by
  have u_u8 := Tryd.underlying5; have a_u8 := Tryd.isAgg5; have z_u8 := Tryd.sizeOf5
  have u_i64 := Tryd.underlying2; have a_i64 := Tryd.isAgg2; have z_i64 := Tryd.sizeOf2
  have hS : Tryd.prog.underlying 47 = some (.struct (Tryd.prog.fieldsOf 47)) := by kernel_rfl
  have hp : Tryd.prog.stoodInHeld 47 = false := by kernel_rfl
  rw [run_neq_struct, show (10000 : Nat) = 9999 + 1 from rfl, run_equalIn_agg w 9999 47 _ _ hS hp]
  simp only [Program.fieldsOf, Tryd.underlying47]
  clear hS hp
  go_simp
  obtain ⟨x0, x1⟩ := x
  obtain ⟨y0, y1⟩ := y
  dsimp only
  by_cases h0 : x0 = y0
  rotate_left
  · simp [h0]
  subst h0
  by_cases h1 : x1 = y1
  rotate_left
  · simp [h1]
  subst h1
  simp
set_option maxRecDepth 100000 in
set_option maxHeartbeats 8000000 in
theorem Same_a (C : Option Addr) (cc : Nat) (cs : List In) (vars : Int) (A : Option Addr) (ca : Nat) (l : List Int) (C2 : Option Addr) (dc : Nat) (ds : List In) (vars2 : Int) (A2 : Option Addr) (da : Nat) (m : List Int) (w : World) (hC : CodeAt w C cs) (hA : IntAt w A l) (hC2 : CodeAt w C2 ds) (hA2 : IntAt w A2 m) (h1 : cs.length ≤ 100000) (h2 : l.length ≤ 100000) :
    Calls Tryd.prog 17 #[PrV C cs.length cc vars A l.length ca, PrV C2 ds.length dc vars2 A2 m.length da] w fun e w' => e = .returned (.bool (decide (cs = ds ∧ vars = vars2 ∧ l = m))) ∧ Below w.heap.size w w' := by
  have hb1 := (Below.refl w.heap.size w).alloc (Nat.le_refl _) (.cells #[.slice C cs.length cc, .int .i64 vars, .slice A l.length ca] 25)
  have k1 := Blk.new w 25 #[.slice C cs.length cc, .int .i64 vars, .slice A l.length ca]
  have hs1 : (w.alloc (.cells #[.slice C cs.length cc, .int .i64 vars, .slice A l.length ca] 25)).heap.size = w.heap.size + 1 := by simp
  have hb2 := hb1.alloc hb1.size (.cells #[.slice C2 ds.length dc, .int .i64 vars2, .slice A2 m.length da] 25)
  have k2 := k1.alloc (.cells #[.slice C2 ds.length dc, .int .i64 vars2, .slice A2 m.length da] 25)
  have i2 := Blk.new (w.alloc (.cells #[.slice C cs.length cc, .int .i64 vars, .slice A l.length ca] 25)) 25 #[.slice C2 ds.length dc, .int .i64 vars2, .slice A2 m.length da]
  rw [hs1] at i2
  obtain ⟨w2, hw2⟩ : ∃ z, (w.alloc (.cells #[.slice C cs.length cc, .int .i64 vars, .slice A l.length ca] 25)).alloc (.cells #[.slice C2 ds.length dc, .int .i64 vars2, .slice A2 m.length da] 25) = z := ⟨_, rfl⟩
  rw [hw2] at hb2 k2 i2
  have HWW := hide hw2
  have HB := hide hb2
  have HC := hide (hC.below hb2)
  have HA := hide (hA.below hb2)
  have HC2 := hide (hC2.below hb2)
  have HA2 := hide (hA2.below hb2)
  have HK := hide k2
  have HI := hide i2
  have HL := hide (And.intro h1 h2)
  have DQ : ∀ {q : Prop} [Decidable q], ¬ q → decide q = false := fun h => decide_eq_false h
  clear hb1 k1 hs1 hb2 k2 i2 hw2 hC hA hC2 hA2 h1 h2
  obtain ⟨N, hN⟩ : ∃ N, cs.length = N := ⟨_, rfl⟩
  obtain ⟨N2, hN2⟩ : ∃ N, ds.length = N := ⟨_, rfl⟩
  obtain ⟨M, hM⟩ : ∃ N, l.length = N := ⟨_, rfl⟩
  obtain ⟨M2, hM2⟩ : ∃ N, m.length = N := ⟨_, rfl⟩
  obtain ⟨res, hres⟩ : ∃ r, decide (cs = ds ∧ vars = vars2 ∧ l = m) = r := ⟨_, rfl⟩
  rw [hres]
  have HY := hide (fun (h1 : cs = ds) (h2 : vars = vars2) (h3 : l = m) => hres.symm.trans (decide_eq_true ⟨h1, h2, h3⟩))
  have HNc := hide (fun (h : cs ≠ ds) => hres.symm.trans (DQ (fun h' => h h'.1)))
  have HNv := hide (fun (h : vars ≠ vars2) => hres.symm.trans (DQ (fun h' => h h'.2.1)))
  have HNm := hide (fun (h : l ≠ m) => hres.symm.trans (DQ (fun h' => h h'.2.2)))
  rw [hN, hM] at HK HWW
  rw [hN2, hM2] at HI HWW
  have p0 : w2.cell? ⟨w.heap.size, 0, none⟩ = some (.slice C N cc) := HK.out.cell 0
  have p1 : w2.cell? ⟨w.heap.size, 1, none⟩ = some (.int .i64 vars) := HK.out.cell 1
  have p2 : w2.cell? ⟨w.heap.size, 2, none⟩ = some (.slice A M ca) := HK.out.cell 2
  have q0 : w2.cell? ⟨w.heap.size + 1, 0, none⟩ = some (.slice C2 N2 dc) := HI.out.cell 0
  have q1 : w2.cell? ⟨w.heap.size + 1, 1, none⟩ = some (.int .i64 vars2) := HI.out.cell 1
  have q2 : w2.cell? ⟨w.heap.size + 1, 2, none⟩ = some (.slice A2 M2 da) := HI.out.cell 2
  have HN := hide (And.intro (And.intro hN hN2) (And.intro hM hM2))
  unfold PrV
  rw [hN, hN2, hM, hM2]
  clear hN hN2 hM hM2 hres
  go_enter Tryd.func17, Tryd.ntmps17
  go_upto_region 1 with (fail)
  rw [HWW.out]
  by_cases e1 : N = N2
  rotate_left
  · have ze1 : ((N : Int) != (N2 : Int)) = true := by rw [bne_iff_ne]; omega
    have E := hide (HNc.out (fun h => e1 (by have := HN.out; rw [← this.1.1, ← this.1.2, h])))
    clear e1
    go_wp2_with fail
    go_ret
    exact ⟨by rw [E.out]; rfl, HB.out⟩
  have ze1 : ((N : Int) != (N2 : Int)) = false := by rw [bne_eq_false_iff_eq]; omega
  by_cases e2 : vars = vars2
  rotate_left
  · have ze2 : (vars != vars2) = true := by rw [bne_iff_ne]; omega
    have E := hide (HNv.out e2)
    clear e2
    go_wp2_with fail
    go_ret
    exact ⟨by rw [E.out]; rfl, HB.out⟩
  have ze2 : (vars != vars2) = false := by rw [bne_eq_false_iff_eq]; omega
  by_cases e3 : M = M2
  rotate_left
  · have ze3 : ((M : Int) != (M2 : Int)) = true := by rw [bne_iff_ne]; omega
    have E := hide (HNm.out (fun h => e3 (by have := HN.out; rw [← this.2.1, ← this.2.2, h])))
    clear e3
    go_wp2_with fail
    go_ret
    exact ⟨by rw [E.out]; rfl, HB.out⟩
  have ze3 : ((M : Int) != (M2 : Int)) = false := by rw [bne_eq_false_iff_eq]; omega
  subst e1
  subst e2
  subst e3
  have y1 : ((N : Int) != (N : Int)) = false := by simp
  have y2 : (vars != vars) = false := by simp
  have y3 : ((M : Int) != (M : Int)) = false := by simp
  clear ze1 ze2 ze3
  go_wp2_with fail
  go_loopw [35] (fun v wr => ∃ k : Nat, k ≤ N ∧ v = .int .i64 k ∧ Hid (∀ i (h1 : i < cs.length) (h2 : i < ds.length), i < k → cs[i] = ds[i]) ∧ Hid (Below w2.heap.size w2 wr)) (fun v _ => N - (RowKit.intOf v).toNat)
  case atStart => exact ⟨0, Nat.zero_le _, rfl, hide (fun i _ _ h => absurd h (Nat.not_lt_zero i)), hide (Below.refl _ _)⟩
  case round =>
    obtain ⟨k, hk, rfl, HE, HBr⟩ := hrel
    rename World => wr
    have r0 : wr.cell? ⟨w.heap.size, 0, none⟩ = some (.slice C N cc) := (HK.out.below HBr.out HK.out.lt).cell 0
    have r2 : wr.cell? ⟨w.heap.size, 2, none⟩ = some (.slice A M ca) := (HK.out.below HBr.out HK.out.lt).cell 2
    have s1 : IntKind.i64.wrap ((k : Int) + 1) = (k : Int) + 1 := by rw [IntKind.wrap_i64]; have := HL.out.1; have := HN.out; omega
    by_cases hlt : k < N
    · have hltI : (k : Int) < (N : Int) := by omega
      obtain ⟨ad, rfl, hadl, hcel⟩ := (HC.out.below HBr.out) (by have := HN.out; omega)
      obtain ⟨ad2, rfl, hadl2, hcel2⟩ := (HC2.out.below HBr.out) (by have := HN.out; omega)
      obtain ⟨_, c0, c1⟩ := hcel k (by have := HN.out; omega)
      obtain ⟨_, d0, d1⟩ := hcel2 k (by have := HN.out; omega)
      have had : (ad.add (k * 2)).block < wr.heap.size := by rw [block_of_add]; exact hadl
      have had2 : (ad2.add (k * 2)).block < wr.heap.size := by rw [block_of_add]; exact hadl2
      have NQ := fun w => neqIn (cs[k]'(by have := HN.out; omega)) (ds[k]'(by have := HN.out; omega)) w
      have HEQ : Hid (∀ (x y : In), (cs[k]'(by have := HN.out; omega)) = x → (ds[k]'(by have := HN.out; omega)) = y → x = y → ∀ i (h1 : i < cs.length) (h2 : i < ds.length), i < k + 1 → cs[i] = ds[i]) := hide (fun x y hx hy e i h1 h2 hi => by
        rcases Nat.lt_or_ge i k with hh | hh
        · exact HE.out i h1 h2 hh
        · obtain rfl : i = k := by omega
          rw [hx, hy, e])
      have HNE : Hid (∀ (x y : In), (cs[k]'(by have := HN.out; omega)) = x → (ds[k]'(by have := HN.out; omega)) = y → x ≠ y → cs ≠ ds) := hide (fun x y hx hy e h => e (by
        subst h
        rw [← hx, ← hy]))
      obtain ⟨x, hx⟩ : ∃ z, cs[k]'(by have := HN.out; omega) = z := ⟨_, rfl⟩
      obtain ⟨y, hy⟩ : ∃ z, ds[k]'(by have := HN.out; omega) = z := ⟨_, rfl⟩
      rw [hx] at c0 c1 NQ
      rw [hy] at d0 d1 NQ
      have HX := hide (And.intro hx hy)
      obtain ⟨xo, xn⟩ := x
      obtain ⟨yo, yn⟩ := y
      simp only at c0 c1 d0 d1 NQ
      clear hcel hcel2 hx hy hadl hadl2
      have hba := (Below.refl wr.heap.size wr).alloc (Nat.le_refl _) (.cells #[.int .u8 xo, .int .i64 xn] 47)
      have HBa := hide (HBr.out.trans (hba.mono HBr.out.size))
      have bk := Blk.new wr 47 #[.int .u8 xo, .int .i64 xn]
      go_upto_region 6 with (fail)
      obtain ⟨wx, hwx⟩ : ∃ z, wr.alloc (.cells #[.int .u8 xo, .int .i64 xn] 47) = z := ⟨_, rfl⟩
      rw [hwx] at hba HBa bk ⊢
      obtain ⟨X, hX⟩ : ∃ X, wr.heap.size = X := ⟨_, rfl⟩
      have g0 : wx.cell? (ad2.add (k * 2)) = some (.int .u8 yo) := (hba.cell had2).trans d0
      have g1 : wx.cell? ⟨(ad2.add (k * 2)).block, (ad2.add (k * 2)).off + 1, none⟩ = some (.int .i64 yn) := (hba.cell (p := ⟨_, _, none⟩) had2).trans d1
      rw [hX] at bk ⊢
      have f0 : wx.cell? ⟨X, 0, none⟩ = some (.int .u8 xo) := bk.cell 0
      have f1 : wx.cell? ⟨X, 1, none⟩ = some (.int .i64 xn) := bk.cell 1
      have t0 : wx.cell? ⟨w.heap.size + 1, 0, none⟩ = some (.slice (some ad2) N dc) := (HI.out.below HBa.out HI.out.lt).cell 0
      have nilb : ((⟨X, 0, none⟩ : Addr).block < wx.heap.size) := bk.lt
      clear hba bk hwx hX r0 r2 c0 c1 d0 d1 had had2
      by_cases e : (⟨xo, xn⟩ : In) = ⟨yo, yn⟩
      · have HE2 := hide (HEQ.out _ _ HX.out.1 HX.out.2 e)
        rw [decide_eq_true e] at NQ
        simp only [Bool.not_true] at NQ
        clear e
        go_wp2_with fail
        go_quiet (fail)
        go_wp2_with fail
        go_roundw
        case rel => exact ⟨k + 1, by omega, by simp, HE2, hide (below_drewN HBa.out _)⟩
        case measure => simp [RowKit.intOf] <;> omega
      · have E := hide (HNc.out (HNE.out _ _ HX.out.1 HX.out.2 e))
        rw [decide_eq_false e] at NQ
        simp only [Bool.not_false] at NQ
        clear e
        go_wp2_with fail
        go_quiet (fail)
        go_wp2_with fail
        go_ret
        exact ⟨by rw [E.out]; rfl, HB.out.trans ((below_drewN HBa.out _).mono HB.out.size)⟩
    have hltI : ¬ (k : Int) < (N : Int) := by omega
    have EC := hide (show cs = ds from List.ext_getElem (by have := HN.out; omega) fun i h1 h2 => HE.out i h1 h2 (by have := HN.out; omega))
    clear HE
    obtain ⟨w3, hw3⟩ : ∃ z, wr = z := ⟨_, rfl⟩
    rw [hw3] at HBr r0 r2 ⊢
    have HB3 := HBr
    clear hw3
    go_wp2_with fail
    go_loopw [51] (fun v wr => ∃ k : Nat, k ≤ M ∧ v = .int .i64 k ∧ Hid (∀ i (h1 : i < l.length) (h2 : i < m.length), i < k → l[i] = m[i]) ∧ Hid (Below w2.heap.size w2 wr)) (fun v _ => M - (RowKit.intOf v).toNat)
    case atStart => exact ⟨0, Nat.zero_le _, rfl, hide (fun i _ _ h => absurd h (Nat.not_lt_zero i)), HB3⟩
    case round =>
      obtain ⟨k, hk, rfl, HE, HBr⟩ := hrel
      rename World => wr
      have s1 : IntKind.i64.wrap ((k : Int) + 1) = (k : Int) + 1 := by rw [IntKind.wrap_i64]; have := HL.out.2; have := HN.out; omega
      by_cases hlt : k < M
      · have hltI : (k : Int) < (M : Int) := by omega
        obtain ⟨ad, rfl, hadl, hcel⟩ := (HA.out.below HBr.out) (by have := HN.out; omega)
        obtain ⟨ad2, rfl, hadl2, hcel2⟩ := (HA2.out.below HBr.out) (by have := HN.out; omega)
        have c0 := (hcel k (by have := HN.out; omega)).1
        have d0 := (hcel2 k (by have := HN.out; omega)).1
        have t2 : wr.cell? ⟨w.heap.size + 1, 2, none⟩ = some (.slice (some ad2) M da) := (HI.out.below HBr.out HI.out.lt).cell 2
        have HEQ : Hid (l[k]'(by have := HN.out; omega) = m[k]'(by have := HN.out; omega) → ∀ i (h1 : i < l.length) (h2 : i < m.length), i < k + 1 → l[i] = m[i]) := hide (fun e i h1 h2 hi => by
          rcases Nat.lt_or_ge i k with hh | hh
          · exact HE.out i h1 h2 hh
          · obtain rfl : i = k := by omega
            exact e)
        have HNE : Hid (l[k]'(by have := HN.out; omega) ≠ m[k]'(by have := HN.out; omega) → l ≠ m) := hide (fun e h => e (by
          subst h
          rfl))
        obtain ⟨x, hx⟩ : ∃ z, l[k]'(by have := HN.out; omega) = z := ⟨_, rfl⟩
        obtain ⟨y, hy⟩ : ∃ z, m[k]'(by have := HN.out; omega) = z := ⟨_, rfl⟩
        rw [hx] at c0 HEQ HNE
        rw [hy] at d0 HEQ HNE
        clear hcel hcel2 hx hy hadl hadl2
        by_cases e : x = y
        · have HE2 := hide (HEQ.out e)
          have zb : (x != y) = false := by rw [bne_eq_false_iff_eq]; exact e
          clear e
          go_wp2_with fail
          go_roundw
          case rel => exact ⟨k + 1, by omega, by simp, HE2, HBr⟩
          case measure => simp [RowKit.intOf] <;> omega
        · have E := hide (HNm.out (HNE.out e))
          have zb : (x != y) = true := by rw [bne_iff_ne]; exact e
          clear e
          go_wp2_with fail
          go_ret
          exact ⟨by rw [E.out]; rfl, HB.out.trans (HBr.out.mono HB.out.size)⟩
      have hltI : ¬ (k : Int) < (M : Int) := by omega
      have E : Hid (res = true) := hide (HY.out EC.out (by first | rfl | trivial) (List.ext_getElem (by have := HN.out; omega) fun i h1 h2 => HE.out i h1 h2 (by have := HN.out; omega)))
      go_wp2_with fail
      go_ret
      exact ⟨by rw [E.out]; rfl, HB.out.trans (HBr.out.mono HB.out.size)⟩
set_option maxRecDepth 100000 in
set_option maxHeartbeats 8000000 in
theorem Same_b (C : Option Addr) (cc : Nat) (cs : List In) (vars : Int) (A : Option Addr) (ca : Nat) (l : List Int) (C2 : Option Addr) (dc : Nat) (ds : List In) (vars2 : Int) (A2 : Option Addr) (da : Nat) (m : List Int) (w : World) (hC : CodeAt w C cs) (hA : IntAt w A l) (hC2 : CodeAt w C2 ds) (hA2 : IntAt w A2 m) (h1 : cs.length ≤ 100000) (h2 : l.length ≤ 100000) :
    Calls Tryd.prog 18 #[PrV C cs.length cc vars A l.length ca, PrV C2 ds.length dc vars2 A2 m.length da] w fun e w' => e = .returned (.bool (decide (cs = ds ∧ vars = vars2 ∧ l = m))) ∧ Below w.heap.size w w' := by
  have hb1 := (Below.refl w.heap.size w).alloc (Nat.le_refl _) (.cells #[.slice C cs.length cc, .int .i64 vars, .slice A l.length ca] 25)
  have k1 := Blk.new w 25 #[.slice C cs.length cc, .int .i64 vars, .slice A l.length ca]
  have hs1 : (w.alloc (.cells #[.slice C cs.length cc, .int .i64 vars, .slice A l.length ca] 25)).heap.size = w.heap.size + 1 := by simp
  have hb2 := hb1.alloc hb1.size (.cells #[.slice C2 ds.length dc, .int .i64 vars2, .slice A2 m.length da] 25)
  have k2 := k1.alloc (.cells #[.slice C2 ds.length dc, .int .i64 vars2, .slice A2 m.length da] 25)
  have i2 := Blk.new (w.alloc (.cells #[.slice C cs.length cc, .int .i64 vars, .slice A l.length ca] 25)) 25 #[.slice C2 ds.length dc, .int .i64 vars2, .slice A2 m.length da]
  rw [hs1] at i2
  obtain ⟨w2, hw2⟩ : ∃ z, (w.alloc (.cells #[.slice C cs.length cc, .int .i64 vars, .slice A l.length ca] 25)).alloc (.cells #[.slice C2 ds.length dc, .int .i64 vars2, .slice A2 m.length da] 25) = z := ⟨_, rfl⟩
  rw [hw2] at hb2 k2 i2
  have HWW := hide hw2
  have HB := hide hb2
  have HC := hide (hC.below hb2)
  have HA := hide (hA.below hb2)
  have HC2 := hide (hC2.below hb2)
  have HA2 := hide (hA2.below hb2)
  have HK := hide k2
  have HI := hide i2
  have HL := hide (And.intro h1 h2)
  have DQ : ∀ {q : Prop} [Decidable q], ¬ q → decide q = false := fun h => decide_eq_false h
  clear hb1 k1 hs1 hb2 k2 i2 hw2 hC hA hC2 hA2 h1 h2
  obtain ⟨N, hN⟩ : ∃ N, cs.length = N := ⟨_, rfl⟩
  obtain ⟨N2, hN2⟩ : ∃ N, ds.length = N := ⟨_, rfl⟩
  obtain ⟨M, hM⟩ : ∃ N, l.length = N := ⟨_, rfl⟩
  obtain ⟨M2, hM2⟩ : ∃ N, m.length = N := ⟨_, rfl⟩
  obtain ⟨res, hres⟩ : ∃ r, decide (cs = ds ∧ vars = vars2 ∧ l = m) = r := ⟨_, rfl⟩
  rw [hres]
  have HY := hide (fun (h1 : cs = ds) (h2 : vars = vars2) (h3 : l = m) => hres.symm.trans (decide_eq_true ⟨h1, h2, h3⟩))
  have HNc := hide (fun (h : cs ≠ ds) => hres.symm.trans (DQ (fun h' => h h'.1)))
  have HNv := hide (fun (h : vars ≠ vars2) => hres.symm.trans (DQ (fun h' => h h'.2.1)))
  have HNm := hide (fun (h : l ≠ m) => hres.symm.trans (DQ (fun h' => h h'.2.2)))
  rw [hN, hM] at HK HWW
  rw [hN2, hM2] at HI HWW
  have p0 : w2.cell? ⟨w.heap.size, 0, none⟩ = some (.slice C N cc) := HK.out.cell 0
  have p1 : w2.cell? ⟨w.heap.size, 1, none⟩ = some (.int .i64 vars) := HK.out.cell 1
  have p2 : w2.cell? ⟨w.heap.size, 2, none⟩ = some (.slice A M ca) := HK.out.cell 2
  have q0 : w2.cell? ⟨w.heap.size + 1, 0, none⟩ = some (.slice C2 N2 dc) := HI.out.cell 0
  have q1 : w2.cell? ⟨w.heap.size + 1, 1, none⟩ = some (.int .i64 vars2) := HI.out.cell 1
  have q2 : w2.cell? ⟨w.heap.size + 1, 2, none⟩ = some (.slice A2 M2 da) := HI.out.cell 2
  have HN := hide (And.intro (And.intro hN hN2) (And.intro hM hM2))
  unfold PrV
  rw [hN, hN2, hM, hM2]
  clear hN hN2 hM hM2 hres
  go_enter Tryd.func18, Tryd.ntmps18
  go_upto_region 1 with (fail)
  rw [HWW.out]
  by_cases e2 : vars = vars2
  rotate_left
  · have ze2 : (vars != vars2) = true := by rw [bne_iff_ne]; omega
    have E := hide (HNv.out e2)
    clear e2
    go_wp2_with fail
    go_ret
    exact ⟨by rw [E.out]; rfl, HB.out⟩
  have ze2 : (vars != vars2) = false := by rw [bne_eq_false_iff_eq]; omega
  by_cases e1 : N = N2
  rotate_left
  · have ze1 : ((N : Int) != (N2 : Int)) = true := by rw [bne_iff_ne]; omega
    have E := hide (HNc.out (fun h => e1 (by have := HN.out; rw [← this.1.1, ← this.1.2, h])))
    clear e1
    go_wp2_with fail
    go_ret
    exact ⟨by rw [E.out]; rfl, HB.out⟩
  have ze1 : ((N : Int) != (N2 : Int)) = false := by rw [bne_eq_false_iff_eq]; omega
  by_cases e3 : M = M2
  rotate_left
  · have ze3 : ((M : Int) != (M2 : Int)) = true := by rw [bne_iff_ne]; omega
    have E := hide (HNm.out (fun h => e3 (by have := HN.out; rw [← this.2.1, ← this.2.2, h])))
    clear e3
    go_wp2_with fail
    go_ret
    exact ⟨by rw [E.out]; rfl, HB.out⟩
  have ze3 : ((M : Int) != (M2 : Int)) = false := by rw [bne_eq_false_iff_eq]; omega
  subst e1
  subst e2
  subst e3
  have y1 : ((N : Int) != (N : Int)) = false := by simp
  have y2 : (vars != vars) = false := by simp
  have y3 : ((M : Int) != (M : Int)) = false := by simp
  clear ze1 ze2 ze3
  go_wp2_with fail
  go_loopw [5] (fun v wr => ∃ k : Nat, k ≤ N ∧ v = .int .i64 k ∧ Hid (∀ i (h1 : i < cs.length) (h2 : i < ds.length), i < k → cs[i] = ds[i]) ∧ Hid (Below w2.heap.size w2 wr)) (fun v _ => N - (RowKit.intOf v).toNat)
  case atStart => exact ⟨0, Nat.zero_le _, rfl, hide (fun i _ _ h => absurd h (Nat.not_lt_zero i)), hide (Below.refl _ _)⟩
  case round =>
    obtain ⟨k, hk, rfl, HE, HBr⟩ := hrel
    rename World => wr
    have r0 : wr.cell? ⟨w.heap.size, 0, none⟩ = some (.slice C N cc) := (HK.out.below HBr.out HK.out.lt).cell 0
    have r2 : wr.cell? ⟨w.heap.size, 2, none⟩ = some (.slice A M ca) := (HK.out.below HBr.out HK.out.lt).cell 2
    have s1 : IntKind.i64.wrap ((k : Int) + 1) = (k : Int) + 1 := by rw [IntKind.wrap_i64]; have := HL.out.1; have := HN.out; omega
    by_cases hlt : k < N
    · have hltI : (k : Int) < (N : Int) := by omega
      obtain ⟨ad, rfl, hadl, hcel⟩ := (HC.out.below HBr.out) (by have := HN.out; omega)
      obtain ⟨ad2, rfl, hadl2, hcel2⟩ := (HC2.out.below HBr.out) (by have := HN.out; omega)
      obtain ⟨_, c0, c1⟩ := hcel k (by have := HN.out; omega)
      obtain ⟨_, d0, d1⟩ := hcel2 k (by have := HN.out; omega)
      have had : (ad.add (k * 2)).block < wr.heap.size := by rw [block_of_add]; exact hadl
      have had2 : (ad2.add (k * 2)).block < wr.heap.size := by rw [block_of_add]; exact hadl2
      have NQ := fun w => neqIn (cs[k]'(by have := HN.out; omega)) (ds[k]'(by have := HN.out; omega)) w
      have HEQ : Hid (∀ (x y : In), (cs[k]'(by have := HN.out; omega)) = x → (ds[k]'(by have := HN.out; omega)) = y → x = y → ∀ i (h1 : i < cs.length) (h2 : i < ds.length), i < k + 1 → cs[i] = ds[i]) := hide (fun x y hx hy e i h1 h2 hi => by
        rcases Nat.lt_or_ge i k with hh | hh
        · exact HE.out i h1 h2 hh
        · obtain rfl : i = k := by omega
          rw [hx, hy, e])
      have HNE : Hid (∀ (x y : In), (cs[k]'(by have := HN.out; omega)) = x → (ds[k]'(by have := HN.out; omega)) = y → x ≠ y → cs ≠ ds) := hide (fun x y hx hy e h => e (by
        subst h
        rw [← hx, ← hy]))
      obtain ⟨x, hx⟩ : ∃ z, cs[k]'(by have := HN.out; omega) = z := ⟨_, rfl⟩
      obtain ⟨y, hy⟩ : ∃ z, ds[k]'(by have := HN.out; omega) = z := ⟨_, rfl⟩
      rw [hx] at c0 c1 NQ
      rw [hy] at d0 d1 NQ
      have HX := hide (And.intro hx hy)
      obtain ⟨xo, xn⟩ := x
      obtain ⟨yo, yn⟩ := y
      simp only at c0 c1 d0 d1 NQ
      clear hcel hcel2 hx hy hadl hadl2
      have t0 : wr.cell? ⟨w.heap.size + 1, 0, none⟩ = some (.slice (some ad2) N dc) := (HI.out.below HBr.out HI.out.lt).cell 0
      clear r2 had had2
      by_cases e : (⟨xo, xn⟩ : In) = ⟨yo, yn⟩
      · have HE2 := hide (HEQ.out _ _ HX.out.1 HX.out.2 e)
        rw [decide_eq_true e] at NQ
        simp only [Bool.not_true] at NQ
        clear e
        go_wp2_with fail
        go_quiet (fail)
        go_wp2_with fail
        go_roundw
        case rel => exact ⟨k + 1, by omega, by simp, HE2, hide (below_drewN HBr.out _)⟩
        case measure => simp [RowKit.intOf] <;> omega
      · have E := hide (HNc.out (HNE.out _ _ HX.out.1 HX.out.2 e))
        rw [decide_eq_false e] at NQ
        simp only [Bool.not_false] at NQ
        clear e
        go_wp2_with fail
        go_quiet (fail)
        go_wp2_with fail
        go_ret
        exact ⟨by rw [E.out]; rfl, HB.out.trans ((below_drewN HBr.out _).mono HB.out.size)⟩
    have hltI : ¬ (k : Int) < (N : Int) := by omega
    have EC := hide (show cs = ds from List.ext_getElem (by have := HN.out; omega) fun i h1 h2 => HE.out i h1 h2 (by have := HN.out; omega))
    clear HE
    obtain ⟨w3, hw3⟩ : ∃ z, wr = z := ⟨_, rfl⟩
    rw [hw3] at HBr r0 r2 ⊢
    have HB3 := HBr
    clear hw3
    go_wp2_with fail
    go_loopw [6] (fun v wr => ∃ k : Nat, k ≤ M ∧ v = .int .i64 k ∧ Hid (∀ i (h1 : i < l.length) (h2 : i < m.length), i < k → l[i] = m[i]) ∧ Hid (Below w2.heap.size w2 wr)) (fun v _ => M - (RowKit.intOf v).toNat)
    case atStart => exact ⟨0, Nat.zero_le _, rfl, hide (fun i _ _ h => absurd h (Nat.not_lt_zero i)), HB3⟩
    case round =>
      obtain ⟨k, hk, rfl, HE, HBr⟩ := hrel
      rename World => wr
      have s1 : IntKind.i64.wrap ((k : Int) + 1) = (k : Int) + 1 := by rw [IntKind.wrap_i64]; have := HL.out.2; have := HN.out; omega
      have r2 : wr.cell? ⟨w.heap.size, 2, none⟩ = some (.slice A M ca) := (HK.out.below HBr.out HK.out.lt).cell 2
      by_cases hlt : k < M
      · have hltI : (k : Int) < (M : Int) := by omega
        obtain ⟨ad, rfl, hadl, hcel⟩ := (HA.out.below HBr.out) (by have := HN.out; omega)
        obtain ⟨ad2, rfl, hadl2, hcel2⟩ := (HA2.out.below HBr.out) (by have := HN.out; omega)
        have c0 := (hcel k (by have := HN.out; omega)).1
        have d0 := (hcel2 k (by have := HN.out; omega)).1
        have t2 : wr.cell? ⟨w.heap.size + 1, 2, none⟩ = some (.slice (some ad2) M da) := (HI.out.below HBr.out HI.out.lt).cell 2
        have HEQ : Hid (l[k]'(by have := HN.out; omega) = m[k]'(by have := HN.out; omega) → ∀ i (h1 : i < l.length) (h2 : i < m.length), i < k + 1 → l[i] = m[i]) := hide (fun e i h1 h2 hi => by
          rcases Nat.lt_or_ge i k with hh | hh
          · exact HE.out i h1 h2 hh
          · obtain rfl : i = k := by omega
            exact e)
        have HNE : Hid (l[k]'(by have := HN.out; omega) ≠ m[k]'(by have := HN.out; omega) → l ≠ m) := hide (fun e h => e (by
          subst h
          rfl))
        obtain ⟨x, hx⟩ : ∃ z, l[k]'(by have := HN.out; omega) = z := ⟨_, rfl⟩
        obtain ⟨y, hy⟩ : ∃ z, m[k]'(by have := HN.out; omega) = z := ⟨_, rfl⟩
        rw [hx] at c0 HEQ HNE
        rw [hy] at d0 HEQ HNE
        clear hcel hcel2 hx hy hadl hadl2
        by_cases e : x = y
        · have HE2 := hide (HEQ.out e)
          have zb : (x != y) = false := by rw [bne_eq_false_iff_eq]; exact e
          clear e
          go_wp2_with fail
          go_quiet (fail)
          go_wp2_with fail
          go_roundw
          case rel => exact ⟨k + 1, by omega, by simp, HE2, hide (below_drewN HBr.out _)⟩
          case measure => simp [RowKit.intOf] <;> omega
        · have E := hide (HNm.out (HNE.out e))
          have zb : (x != y) = true := by rw [bne_iff_ne]; exact e
          clear e
          go_wp2_with fail
          go_quiet (fail)
          go_wp2_with fail
          go_ret
          exact ⟨by rw [E.out]; rfl, HB.out.trans ((below_drewN HBr.out _).mono HB.out.size)⟩
      have hltI : ¬ (k : Int) < (M : Int) := by omega
      have E : Hid (res = true) := hide (HY.out EC.out (by first | rfl | trivial) (List.ext_getElem (by have := HN.out; omega) fun i h1 h2 => HE.out i h1 h2 (by have := HN.out; omega)))
      go_wp2_with fail
      go_ret
      exact ⟨by rw [E.out]; rfl, HB.out.trans (HBr.out.mono HB.out.size)⟩
end Cod
end Go.Proofs.YtegpimaakgledaaDoor
