/- The walk of the statement CodeTells. -/
import Derived.Test.YtegpimaakgledaaDoorRows
import Derived.Test.YtegpimaakgledaaDoorCodM
import Derived.Test.YtegpimaakgledaaDoorCodS
import Derived.Test.YtegpimaakgledaaDoorCodSm
import Derived.Test.YtegpimaakgledaaDoorCodTb
namespace Go.Proofs.YtegpimaakgledaaDoor.CodeTellsW
open Go Go.RowKit Go.Proofs.YtegpimaakgledaaDoor Go.Proofs.YtegpimaakgledaaDoor.Cod
set_option linter.unusedVariables false
set_option linter.unusedSimpArgs false
theorem HrR.det {cs : List In} {vars : Int} {arrs : List Int} {r q : Option (List Int)} (h : HrR cs vars arrs r) (k : HrR cs vars arrs q) : r = q := by
  rcases h with ⟨h1, rfl⟩ | ⟨h1, h2⟩ <;> rcases k with ⟨k1, rfl⟩ | ⟨k1, k2⟩
  · rfl
  · rw [h1] at k1; cases k1
  · rw [h1] at k1; cases k1
  · exact h2.det (mayNs_csok h1) k2
set_option maxRecDepth 100000 in
set_option maxHeartbeats 16000000 in
theorem walk {H : Type} {enc : TypeId × Value → H} {base : Nat} (W : World) (hO : Ops W) (hP : Pow W) (v0 : Value) (d0 : DataW H) (p0 : List MemPlace) (o0 : Value.okWide Tryd.prog W .any base 25 v0) (r0 : DataW.Trod enc Tryd.prog W 0 (fun _ => true) true 25 v0 d0 p0) (v1 : Value) (d1 : DataW H) (p1 : List MemPlace) (o1 : Value.okWide Tryd.prog W .any base 25 v1) (r1 : DataW.Trod enc Tryd.prog W 0 (fun _ => true) true 25 v1 d1 p1) :
    Calls Tryd.prog 3 #[v0, v1] W fun e w' => e = .returned (.bool true) ∧ Below W.heap.size W w' := by
  obtain ⟨C, cs, cc, vars, A, l, ca, rfl, hC, hA, hv⟩ := PrV.of o0 r0
  obtain ⟨D, ds, dc, vars2, E, m, ea, rfl, hD, hE, hv2⟩ := PrV.of o1 r1
  clear o0 r0 o1 r1
  have HO := hide hO
  have HP := hide hP
  have GR1 := hide (fun w => Great_c C cs.length cc vars A l.length ca w)
  have GR2 := hide (fun w => Great_c D ds.length dc vars2 E m.length ea w)
  have CP := hide (fun (w' : World) (h1 : CodeAt w' C cs) (h2 : IntAt w' A l) hlc hla => Copy_c C cc cs vars A ca l w' h1 h2 hlc hla)
  have HTB := hide (fun (w' : World) (h1 : CodeAt w' C cs) (h2 : IntAt w' A l) hlc hla => Heights_b C cc cs vars A ca l w' h1 h2 hlc hla)
  have okc : ∀ x ∈ cs, x.ok := fun x hx => by
    obtain ⟨i, hi, rfl⟩ := List.getElem_of_mem hx
    obtain ⟨_, _, _, hc⟩ := hC (by omega)
    exact (hc i hi).1
  have oka : ∀ x ∈ l, -9223372036854775808 ≤ x ∧ x ≤ 9223372036854775807 := fun x hx => by
    obtain ⟨i, hi, rfl⟩ := List.getElem_of_mem hx
    obtain ⟨_, _, _, hc⟩ := hA (by omega)
    exact (hc i hi).2
  have TXB := hide (fun (w' : World) (h1 : CodeAt w' C cs) (h2 : IntAt w' A l) hlc hla => Text_b C cc cs vars A ca l w' h1 h2 hlc hla hv okc oka)
  have OKC := hide okc
  have OKA := hide oka
  have HV := hide hv
  have hb1 := (Below.refl W.heap.size W).alloc (Nat.le_refl _) (.cells #[.slice C cs.length cc, .int .i64 vars, .slice A l.length ca] 25)
  have k1 := Blk.new W 25 #[.slice C cs.length cc, .int .i64 vars, .slice A l.length ca]
  have hs1 : (W.alloc (.cells #[.slice C cs.length cc, .int .i64 vars, .slice A l.length ca] 25)).heap.size = W.heap.size + 1 := by simp
  have hb2 := hb1.alloc hb1.size (.cells #[.slice D ds.length dc, .int .i64 vars2, .slice E m.length ea] 25)
  have k2 := k1.alloc (.cells #[.slice D ds.length dc, .int .i64 vars2, .slice E m.length ea] 25)
  have i2 := Blk.new (W.alloc (.cells #[.slice C cs.length cc, .int .i64 vars, .slice A l.length ca] 25)) 25 #[.slice D ds.length dc, .int .i64 vars2, .slice E m.length ea]
  rw [hs1] at i2
  obtain ⟨w0, hw0⟩ : ∃ z, (W.alloc (.cells #[.slice C cs.length cc, .int .i64 vars, .slice A l.length ca] 25)).alloc (.cells #[.slice D ds.length dc, .int .i64 vars2, .slice E m.length ea] 25) = z := ⟨_, rfl⟩
  rw [hw0] at hb2 k2 i2
  have HWW := hide hw0
  have HB0 := hide hb2
  have K0 := hide k2
  have I0 := hide i2
  have HC := hide hC
  have HA := hide hA
  have HD := hide hD
  have HE := hide hE
  have p0 : w0.cell? ⟨W.heap.size, 0, none⟩ = some (.slice C cs.length cc) := k2.cell 0
  have p1 : w0.cell? ⟨W.heap.size, 1, none⟩ = some (.int .i64 vars) := k2.cell 1
  have p2 : w0.cell? ⟨W.heap.size, 2, none⟩ = some (.slice A l.length ca) := k2.cell 2
  clear hb1 k1 hs1 hb2 k2 i2 hw0 hC hA hD hE hO hP okc oka hv hv2
  unfold PrV at GR1 GR2 CP HTB TXB ⊢
  go_enter Tryd.func3, Tryd.ntmps3
  go_upto_region 1 with (fail)
  rw [HWW.out]
  go_wp2_with fail
  refine (GR1.out w0).mono ?_
  rintro e w1 ⟨rfl, hb1⟩
  have HB1 := hide (HB0.out.trans (hb1.mono HB0.out.size))
  have K1 := hide (K0.out.below hb1 K0.out.lt)
  have I1 := hide (I0.out.below hb1 I0.out.lt)
  clear hb1 p0 p1 p2 GR1 HB0 K0 I0
  have p0 : w1.cell? ⟨W.heap.size + 1, 0, none⟩ = some (.slice D ds.length dc) := I1.out.cell 0
  have p1 : w1.cell? ⟨W.heap.size + 1, 1, none⟩ = some (.int .i64 vars2) := I1.out.cell 1
  have p2 : w1.cell? ⟨W.heap.size + 1, 2, none⟩ = some (.slice E m.length ea) := I1.out.cell 2
  cases hg : grC cs.length l.length with
  | true =>
    go_wp2_with fail
    go_ret
    exact ⟨rfl, HB1.out⟩
  | false =>
  have hgl : cs.length ≤ 400 ∧ l.length ≤ 100 := by
    unfold grC at hg
    simp only [Bool.or_eq_false_iff, decide_eq_false_iff_not] at hg
    omega
  have HGL := hide hgl
  clear hg hgl
  go_wp2_with fail
  refine (GR2.out w1).mono ?_
  rintro e w2 ⟨rfl, hb2⟩
  have HB2 := hide (HB1.out.trans (hb2.mono HB1.out.size))
  have K2 := hide (K1.out.below hb2 K1.out.lt)
  have I2 := hide (I1.out.below hb2 I1.out.lt)
  clear hb2 p0 p1 p2 GR2 HB1 K1 I1
  cases hg : grC ds.length m.length with
  | true =>
    go_wp2_with fail
    go_ret
    exact ⟨rfl, HB2.out⟩
  | false =>
  have hgl : ds.length ≤ 400 ∧ m.length ≤ 100 := by
    unfold grC at hg
    simp only [Bool.or_eq_false_iff, decide_eq_false_iff_not] at hg
    omega
  have HGL2 := hide hgl
  clear hg hgl
  have p0 : w2.cell? ⟨W.heap.size, 0, none⟩ = some (.slice C cs.length cc) := K2.out.cell 0
  have p1 : w2.cell? ⟨W.heap.size, 1, none⟩ = some (.int .i64 vars) := K2.out.cell 1
  have p2 : w2.cell? ⟨W.heap.size, 2, none⟩ = some (.slice A l.length ca) := K2.out.cell 2
  go_wp2_with fail
  refine (CP.out w2 (HC.out.below HB2.out) (HA.out.below HB2.out) (by have := HGL.out.1; omega) (by have := HGL.out.2; omega)).mono ?_
  rintro e w3 ⟨C2, cc2, A2, ca2, rfl, hown, hb3⟩
  obtain ⟨hoc, hoa⟩ := hown
  have hl4 := (Below.refl w3.heap.size w3).alloc (Nat.le_refl _) (.cells #[.slice C2 cs.length cc2, .int .i64 vars, .slice A2 l.length ca2] 25)
  have k4 := Blk.new w3 25 #[.slice C2 cs.length cc2, .int .i64 vars, .slice A2 l.length ca2]
  have hb34 := hb3.trans (hl4.mono hb3.size)
  have HB4 := hide (HB2.out.trans (hb34.mono HB2.out.size))
  have K4 := hide (K2.out.below hb34 K2.out.lt)
  have I4 := hide (I2.out.below hb34 I2.out.lt)
  have C4 := hide (CodeAt.of_own (own_belowR hoc hl4) OKC.out)
  have A4 := hide (IntAt.of_own (own_belowR hoa hl4) OKA.out)
  have M4 := hide k4
  clear hb3 hl4 k4 hb34 hoc hoa p0 p1 p2 CP HB2 K2 I2
  go_upto_region 4 with (fail)
  obtain ⟨w4, hw4⟩ : ∃ z, w3.alloc (.cells #[.slice C2 cs.length cc2, .int .i64 vars, .slice A2 l.length ca2] 25) = z := ⟨_, rfl⟩
  rw [hw4] at HB4 K4 I4 C4 A4 M4 ⊢
  obtain ⟨X, hX⟩ : ∃ X, w3.heap.size = X := ⟨_, rfl⟩
  rw [hX] at M4 ⊢
  clear hw4 hX w3
  have p0 : w4.cell? ⟨W.heap.size, 0, none⟩ = some (.slice C cs.length cc) := K4.out.cell 0
  have p1 : w4.cell? ⟨W.heap.size, 1, none⟩ = some (.int .i64 vars) := K4.out.cell 1
  have p2 : w4.cell? ⟨W.heap.size, 2, none⟩ = some (.slice A l.length ca) := K4.out.cell 2
  go_wp2_with fail
  refine (HTB.out w4 (HC.out.below HB4.out) (HA.out.below HB4.out) (by have := HGL.out.1; omega) (by have := HGL.out.2; omega)).mono ?_
  rintro e w5 ⟨⟨r, hr, hh⟩, hb5⟩
  have R := hide hr
  have HB5 := hide (HB4.out.trans (hb5.mono HB4.out.size))
  have K5 := hide (K4.out.below hb5 K4.out.lt)
  have I5 := hide (I4.out.below hb5 I4.out.lt)
  have M5 := hide (M4.out.below hb5 M4.out.lt)
  have C5 := hide (C4.out.below hb5)
  have A5 := hide (A4.out.below hb5)
  have TX := hide (TXB.out w5 (HC.out.below HB5.out) (HA.out.below HB5.out) (by have := HGL.out.1; omega) (by have := HGL.out.2; omega))
  clear hb5 p0 p1 p2 HB4 K4 I4 M4 C4 A4 hr HTB TXB
  have p0 : w5.cell? ⟨W.heap.size, 0, none⟩ = some (.slice C cs.length cc) := K5.out.cell 0
  have p1 : w5.cell? ⟨W.heap.size, 1, none⟩ = some (.int .i64 vars) := K5.out.cell 1
  have p2 : w5.cell? ⟨W.heap.size, 2, none⟩ = some (.slice A l.length ca) := K5.out.cell 2
  rcases hh with ⟨rfl, rfl⟩ | ⟨hs, u, uc, rfl, hlen, rfl, hut⟩
  · go_wp2_with fail
    refine TX.out.mono ?_
    rintro e w6 ⟨⟨r2, hr2, hh2⟩, hb6⟩
    have er := HrR.det hr2 R.out
    subst er
    have HB6 := hide (HB5.out.trans (hb6.mono HB5.out.size))
    have K6 := hide (K5.out.below hb6 K5.out.lt)
    have I6 := hide (I5.out.below hb6 I5.out.lt)
    have M6 := hide (M5.out.below hb6 M5.out.lt)
    have C6 := hide (C5.out.below hb6)
    have A6 := hide (A5.out.below hb6)
    clear hb6 hr2 TX HB5 K5 I5 M5 C5 A5 p0 p1 p2
    rcases hh2 with ⟨_, rfl⟩ | ⟨h1, _⟩
    rotate_left
    · cases h1
    have HTC := hide (fun (w' : World) (hb : Below w6.heap.size w6 w') => Heights_c C2 cc2 cs vars A2 ca2 l w' (C6.out.below hb) (A6.out.below hb) (by have := HGL.out.1; omega) (by have := HGL.out.2; omega) (HO.out.below (HB6.out.trans (hb.mono HB6.out.size)) (Nat.le_refl _)))
    have TXC := hide (fun (w' : World) (hb : Below w6.heap.size w6 w') => Text_c C2 cc2 cs vars A2 ca2 l w' (C6.out.below hb) (A6.out.below hb) (by have := HGL.out.1; omega) (by have := HGL.out.2; omega) (HO.out.below (HB6.out.trans (hb.mono HB6.out.size)) (Nat.le_refl _)) (HP.out.below (HB6.out.trans (hb.mono HB6.out.size)) (Nat.le_refl _)) HV.out OKC.out OKA.out)
    have MYC : Hid (∀ (w' : World) (hb : Below w6.heap.size w6 w'), Calls Tryd.prog 15 #[PrV C2 cs.length cc2 vars A2 l.length ca2] w' fun e w'' => e = .returned (.bool false) ∧ Below w'.heap.size w' w'') := hide (fun w' hb => (May_c C2 cc2 cs vars A2 ca2 l w' (C6.out.below hb) (A6.out.below hb) (by have := HGL.out.1; omega) (by have := HGL.out.2; omega) (HO.out.below (HB6.out.trans (hb.mono HB6.out.size)) (Nat.le_refl _))).mono (by
      rintro e w'' ⟨⟨q, hq, rfl⟩, hb'⟩
      rw [hq.same R.out]
      exact ⟨rfl, hb'⟩))
    have MYB : Hid (∀ (w' : World) (hb : Below w6.heap.size w6 w'), Calls Tryd.prog 16 #[PrV C cs.length cc vars A l.length ca] w' fun e w'' => e = .returned (.bool false) ∧ Below w'.heap.size w' w'') := hide (fun w' hb => (May_b C cc cs vars A ca l w' (HC.out.below (HB6.out.trans (hb.mono HB6.out.size))) (HA.out.below (HB6.out.trans (hb.mono HB6.out.size))) (by have := HGL.out.1; omega) (by have := HGL.out.2; omega)).mono (by
      rintro e w'' ⟨⟨q, hq, rfl⟩, hb'⟩
      rw [HrR.det hq R.out]
      exact ⟨rfl, hb'⟩))
    obtain ⟨sm, hsm⟩ : ∃ b, decide (cs = ds ∧ vars = vars2 ∧ l = m) = b := ⟨_, rfl⟩
    have SMA : Hid (∀ (w' : World) (hb : Below w6.heap.size w6 w'), Calls Tryd.prog 17 #[PrV C2 cs.length cc2 vars A2 l.length ca2, PrV D ds.length dc vars2 E m.length ea] w' fun e w'' => e = .returned (.bool sm) ∧ Below w'.heap.size w' w'') := hide (fun w' hb => by
      have := Same_a C2 cc2 cs vars A2 ca2 l D dc ds vars2 E ea m w' (C6.out.below hb) (A6.out.below hb) (HD.out.below (HB6.out.trans (hb.mono HB6.out.size))) (HE.out.below (HB6.out.trans (hb.mono HB6.out.size))) (by have := HGL.out.1; omega) (by have := HGL.out.2; omega)
      rwa [hsm] at this)
    have SMB : Hid (∀ (w' : World) (hb : Below w6.heap.size w6 w'), Calls Tryd.prog 18 #[PrV C cs.length cc vars A l.length ca, PrV D ds.length dc vars2 E m.length ea] w' fun e w'' => e = .returned (.bool sm) ∧ Below w'.heap.size w' w'') := hide (fun w' hb => by
      have := Same_b C cc cs vars A ca l D dc ds vars2 E ea m w' (HC.out.below (HB6.out.trans (hb.mono HB6.out.size))) (HA.out.below (HB6.out.trans (hb.mono HB6.out.size))) (HD.out.below (HB6.out.trans (hb.mono HB6.out.size))) (HE.out.below (HB6.out.trans (hb.mono HB6.out.size))) (by have := HGL.out.1; omega) (by have := HGL.out.2; omega)
      rwa [hsm] at this)
    have SMC : Hid (∀ (w' : World) (hb : Below w6.heap.size w6 w'), Calls Tryd.prog 18 #[PrV C2 cs.length cc2 vars A2 l.length ca2, PrV C cs.length cc vars A l.length ca] w' fun e w'' => e = .returned (.bool true) ∧ Below w'.heap.size w' w'') := hide (fun w' hb => by
      have := Same_b C2 cc2 cs vars A2 ca2 l C cc cs vars A ca l w' (C6.out.below hb) (A6.out.below hb) (HC.out.below (HB6.out.trans (hb.mono HB6.out.size))) (HA.out.below (HB6.out.trans (hb.mono HB6.out.size))) (by have := HGL.out.1; omega) (by have := HGL.out.2; omega)
      rwa [decide_eq_true (show cs = cs ∧ vars = vars ∧ l = l from ⟨rfl, rfl, rfl⟩)] at this)
    unfold PrV at HTC TXC MYC MYB SMA SMB SMC
    clear hsm
    obtain ⟨N, hN⟩ : ∃ N, cs.length = N := ⟨_, rfl⟩
    have HN := hide hN
    have hN4 : N ≤ 400 := by have := HGL.out.1; omega
    rw [hN] at HTC TXC MYC MYB SMA SMB SMC K6 M6 ⊢
    clear hN
    go_wp2_with fail
    go_loopw [10] (fun v10 wr => ∃ t : Nat, t ≤ 2 ∧ v10 = .int .i64 t ∧ Hid (Below w6.heap.size w6 wr)) (fun v10 _ => 2 - (RowKit.intOf v10).toNat)
    case atStart => exact ⟨0, by omega, rfl, hide (Below.refl _ _)⟩
    case round =>
      obtain ⟨t, ht, rfl, HT⟩ := hrel
      rename World => wr
      by_cases hlt : t < 2
      rotate_left
      · have hltI : ¬ (t : Int) < 2 := by omega
        go_wp2_with fail
        go_ret
        exact ⟨rfl, HB6.out.trans (HT.out.mono HB6.out.size)⟩
      have hltI : (t : Int) < 2 := by omega
      have s1 : IntKind.i64.wrap ((t : Int) + 1) = (t : Int) + 1 := by rw [IntKind.wrap_i64]; omega
      have HS1 := hide s1
      have m0 : wr.cell? ⟨X, 0, none⟩ = some (.slice C2 N cc2) := (M6.out.below HT.out M6.out.lt).cell 0
      have m1 : wr.cell? ⟨X, 1, none⟩ = some (.int .i64 vars) := (M6.out.below HT.out M6.out.lt).cell 1
      have m2 : wr.cell? ⟨X, 2, none⟩ = some (.slice A2 l.length ca2) := (M6.out.below HT.out M6.out.lt).cell 2
      clear s1
      go_wp2_with fail
      refine (HTC.out wr HT.out).mono ?_
      rintro e w7 ⟨⟨q, hq, hqq⟩, hb7⟩
      have eq := hq.same R.out
      subst eq
      have HT7 := hide (HT.out.trans (hb7.mono HT.out.size))
      clear hq hb7 m0 m1 m2
      rcases hqq with ⟨_, rfl⟩ | ⟨hs1, g, h1, _⟩
      rotate_left
      · cases h1
      have m0 : w7.cell? ⟨X, 0, none⟩ = some (.slice C2 N cc2) := (M6.out.below HT7.out M6.out.lt).cell 0
      have m1 : w7.cell? ⟨X, 1, none⟩ = some (.int .i64 vars) := (M6.out.below HT7.out M6.out.lt).cell 1
      have m2 : w7.cell? ⟨X, 2, none⟩ = some (.slice A2 l.length ca2) := (M6.out.below HT7.out M6.out.lt).cell 2
      go_wp2_with fail
      refine (TXC.out w7 HT7.out).mono ?_
      rintro e w8 ⟨⟨q, hq, hqq⟩, hb8⟩
      have eq := hq.same R.out
      subst eq
      have HT8 := hide (HT7.out.trans (hb8.mono HT7.out.size))
      clear hq hb8 m0 m1 m2
      rcases hqq with ⟨_, rfl⟩ | ⟨h1, _⟩
      rotate_left
      · cases h1
      have bm := M6.out.below HT8.out M6.out.lt
      have bk := K6.out.below HT8.out K6.out.lt
      have bi := I6.out.below HT8.out I6.out.lt
      have a0 : ∀ p : BelowOf w8, p.world.cell? ⟨X, 0, none⟩ = some (.slice C2 N cc2) := fun p => (bm.below p.below bm.lt).cell 0
      have a1 : ∀ p : BelowOf w8, p.world.cell? ⟨X, 1, none⟩ = some (.int .i64 vars) := fun p => (bm.below p.below bm.lt).cell 1
      have a2 : ∀ p : BelowOf w8, p.world.cell? ⟨X, 2, none⟩ = some (.slice A2 l.length ca2) := fun p => (bm.below p.below bm.lt).cell 2
      have b0 : ∀ p : BelowOf w8, p.world.cell? ⟨W.heap.size, 0, none⟩ = some (.slice C N cc) := fun p => (bk.below p.below bk.lt).cell 0
      have b1 : ∀ p : BelowOf w8, p.world.cell? ⟨W.heap.size, 1, none⟩ = some (.int .i64 vars) := fun p => (bk.below p.below bk.lt).cell 1
      have b2 : ∀ p : BelowOf w8, p.world.cell? ⟨W.heap.size, 2, none⟩ = some (.slice A l.length ca) := fun p => (bk.below p.below bk.lt).cell 2
      have c0 : ∀ p : BelowOf w8, p.world.cell? ⟨W.heap.size + 1, 0, none⟩ = some (.slice D ds.length dc) := fun p => (bi.below p.below bi.lt).cell 0
      have c1 : ∀ p : BelowOf w8, p.world.cell? ⟨W.heap.size + 1, 1, none⟩ = some (.int .i64 vars2) := fun p => (bi.below p.below bi.lt).cell 1
      have c2 : ∀ p : BelowOf w8, p.world.cell? ⟨W.heap.size + 1, 2, none⟩ = some (.slice E m.length ea) := fun p => (bi.below p.below bi.lt).cell 2
      have MYCp := hide (fun p : BelowOf w8 => MYC.out p.world (HT8.out.trans (p.below.mono HT8.out.size)))
      have MYBp := hide (fun p : BelowOf w8 => MYB.out p.world (HT8.out.trans (p.below.mono HT8.out.size)))
      have SMAp := hide (fun p : BelowOf w8 => SMA.out p.world (HT8.out.trans (p.below.mono HT8.out.size)))
      have SMBp := hide (fun p : BelowOf w8 => SMB.out p.world (HT8.out.trans (p.below.mono HT8.out.size)))
      have SMCp := hide (fun p : BelowOf w8 => SMC.out p.world (HT8.out.trans (p.below.mono HT8.out.size)))
      have NE : Nonempty (BelowOf w8) := ⟨⟨w8, Below.refl _ _⟩⟩
      have zs : (sm != sm) = false := by simp
      clear bm bk bi
      go_wp2_with fail
      refine wp_region_quiet_below (by kernel_rfl) (by kernel_rfl) ?_
      repeat (go_big_quiet_step (first
        | (go_at_call 15; refine calls_below (MYCp.out _))
        | (go_at_call 16; refine calls_below (MYBp.out _))
        | (go_at_call 17; refine calls_below (SMAp.out _))
        | (go_at_call_of 18 (Value.agg #[.slice D ds.length dc, .int .i64 vars2, .slice E m.length ea]); refine calls_below (SMBp.out _))
        | (go_at_call_of 18 (Value.agg #[.slice C2 N cc2, .int .i64 vars, .slice A2 l.length ca2]); refine calls_below (SMCp.out _))))
      refine wpQuiet_nil ?_
      rintro w9 ⟨⟨_, hq9⟩, rfl⟩
      have HT9 := hide (HT8.out.trans (hq9.mono HT8.out.size))
      clear hq9 a0 a1 a2 b0 b1 b2 c0 c1 c2 MYCp MYBp SMAp SMBp SMCp NE
      go_wp2_with fail
      go_loopw [15] (fun v15 wk => v15 = .int .i64 0 ∧ Hid (Below w6.heap.size w6 wk)) (fun v15 _ => 0)
      case atStart => exact ⟨rfl, HT9⟩
      case round =>
        obtain ⟨rfl, HTk⟩ := hrel
        rename World => wk
        have s1 := HS1.out
        go_wp2_with fail
        go_roundw
        case rel => exact ⟨t + 1, by omega, by simp, HTk⟩
        case measure => simp [RowKit.intOf] <;> omega
  · have HLN := hide hlen
    have HUT := hide hut
    clear hlen hut
    go_wp2_with fail
    refine TX.out.mono ?_
    rintro e w6 ⟨⟨r2, hr2, hh2⟩, hb6⟩
    have er := HrR.det hr2 R.out
    subst er
    have HB6 := hide (HB5.out.trans (hb6.mono HB5.out.size))
    have K6 := hide (K5.out.below hb6 K5.out.lt)
    have I6 := hide (I5.out.below hb6 I5.out.lt)
    have M6 := hide (M5.out.below hb6 M5.out.lt)
    have C6 := hide (C5.out.below hb6)
    have A6 := hide (A5.out.below hb6)
    have U6 := hide (HUT.out.below hb6)
    clear hb6 hr2 TX HB5 K5 I5 M5 C5 A5 p0 p1 p2 HUT
    rcases hh2 with ⟨h1, _⟩ | ⟨_, rfl⟩
    · cases h1
    have HTC := hide (fun (w' : World) (hb : Below w6.heap.size w6 w') => Heights_c C2 cc2 cs vars A2 ca2 l w' (C6.out.below hb) (A6.out.below hb) (by have := HGL.out.1; omega) (by have := HGL.out.2; omega) (HO.out.below (HB6.out.trans (hb.mono HB6.out.size)) (Nat.le_refl _)))
    have TXC := hide (fun (w' : World) (hb : Below w6.heap.size w6 w') => Text_c C2 cc2 cs vars A2 ca2 l w' (C6.out.below hb) (A6.out.below hb) (by have := HGL.out.1; omega) (by have := HGL.out.2; omega) (HO.out.below (HB6.out.trans (hb.mono HB6.out.size)) (Nat.le_refl _)) (HP.out.below (HB6.out.trans (hb.mono HB6.out.size)) (Nat.le_refl _)) HV.out OKC.out OKA.out)
    have MYC : Hid (∀ (w' : World) (hb : Below w6.heap.size w6 w'), Calls Tryd.prog 15 #[PrV C2 cs.length cc2 vars A2 l.length ca2] w' fun e w'' => e = .returned (.bool true) ∧ Below w'.heap.size w' w'') := hide (fun w' hb => (May_c C2 cc2 cs vars A2 ca2 l w' (C6.out.below hb) (A6.out.below hb) (by have := HGL.out.1; omega) (by have := HGL.out.2; omega) (HO.out.below (HB6.out.trans (hb.mono HB6.out.size)) (Nat.le_refl _))).mono (by
      rintro e w'' ⟨⟨q, hq, rfl⟩, hb'⟩
      rw [hq.same R.out]
      exact ⟨rfl, hb'⟩))
    have MYB : Hid (∀ (w' : World) (hb : Below w6.heap.size w6 w'), Calls Tryd.prog 16 #[PrV C cs.length cc vars A l.length ca] w' fun e w'' => e = .returned (.bool true) ∧ Below w'.heap.size w' w'') := hide (fun w' hb => (May_b C cc cs vars A ca l w' (HC.out.below (HB6.out.trans (hb.mono HB6.out.size))) (HA.out.below (HB6.out.trans (hb.mono HB6.out.size))) (by have := HGL.out.1; omega) (by have := HGL.out.2; omega)).mono (by
      rintro e w'' ⟨⟨q, hq, rfl⟩, hb'⟩
      rw [HrR.det hq R.out]
      exact ⟨rfl, hb'⟩))
    obtain ⟨sm, hsm⟩ : ∃ b, decide (cs = ds ∧ vars = vars2 ∧ l = m) = b := ⟨_, rfl⟩
    have SMA : Hid (∀ (w' : World) (hb : Below w6.heap.size w6 w'), Calls Tryd.prog 17 #[PrV C2 cs.length cc2 vars A2 l.length ca2, PrV D ds.length dc vars2 E m.length ea] w' fun e w'' => e = .returned (.bool sm) ∧ Below w'.heap.size w' w'') := hide (fun w' hb => by
      have := Same_a C2 cc2 cs vars A2 ca2 l D dc ds vars2 E ea m w' (C6.out.below hb) (A6.out.below hb) (HD.out.below (HB6.out.trans (hb.mono HB6.out.size))) (HE.out.below (HB6.out.trans (hb.mono HB6.out.size))) (by have := HGL.out.1; omega) (by have := HGL.out.2; omega)
      rwa [hsm] at this)
    have SMB : Hid (∀ (w' : World) (hb : Below w6.heap.size w6 w'), Calls Tryd.prog 18 #[PrV C cs.length cc vars A l.length ca, PrV D ds.length dc vars2 E m.length ea] w' fun e w'' => e = .returned (.bool sm) ∧ Below w'.heap.size w' w'') := hide (fun w' hb => by
      have := Same_b C cc cs vars A ca l D dc ds vars2 E ea m w' (HC.out.below (HB6.out.trans (hb.mono HB6.out.size))) (HA.out.below (HB6.out.trans (hb.mono HB6.out.size))) (HD.out.below (HB6.out.trans (hb.mono HB6.out.size))) (HE.out.below (HB6.out.trans (hb.mono HB6.out.size))) (by have := HGL.out.1; omega) (by have := HGL.out.2; omega)
      rwa [hsm] at this)
    have SMC : Hid (∀ (w' : World) (hb : Below w6.heap.size w6 w'), Calls Tryd.prog 18 #[PrV C2 cs.length cc2 vars A2 l.length ca2, PrV C cs.length cc vars A l.length ca] w' fun e w'' => e = .returned (.bool true) ∧ Below w'.heap.size w' w'') := hide (fun w' hb => by
      have := Same_b C2 cc2 cs vars A2 ca2 l C cc cs vars A ca l w' (C6.out.below hb) (A6.out.below hb) (HC.out.below (HB6.out.trans (hb.mono HB6.out.size))) (HA.out.below (HB6.out.trans (hb.mono HB6.out.size))) (by have := HGL.out.1; omega) (by have := HGL.out.2; omega)
      rwa [decide_eq_true (show cs = cs ∧ vars = vars ∧ l = l from ⟨rfl, rfl, rfl⟩)] at this)
    unfold PrV at HTC TXC MYC MYB SMA SMB SMC
    clear hsm
    obtain ⟨TXT, hTXT⟩ : ∃ z, bytes (txP vars l cs) = z := ⟨_, rfl⟩
    rw [hTXT]
    have HTXT := hide hTXT
    clear hTXT
    obtain ⟨N, hN⟩ : ∃ N, cs.length = N := ⟨_, rfl⟩
    have HN := hide hN
    have hN4 : N ≤ 400 := by have := HGL.out.1; omega
    rw [hN] at HTC TXC MYC MYB SMA SMB SMC K6 M6 ⊢
    rw [hN] at U6
    clear hN
    go_wp2_with fail
    go_loopw [10] (fun v10 wr => ∃ t : Nat, t ≤ 2 ∧ v10 = .int .i64 t ∧ Hid (Below w6.heap.size w6 wr)) (fun v10 _ => 2 - (RowKit.intOf v10).toNat)
    case atStart => exact ⟨0, by omega, rfl, hide (Below.refl _ _)⟩
    case round =>
      obtain ⟨t, ht, rfl, HT⟩ := hrel
      rename World => wr
      by_cases hlt : t < 2
      rotate_left
      · have hltI : ¬ (t : Int) < 2 := by omega
        go_wp2_with fail
        go_ret
        exact ⟨rfl, HB6.out.trans (HT.out.mono HB6.out.size)⟩
      have hltI : (t : Int) < 2 := by omega
      have s1 : IntKind.i64.wrap ((t : Int) + 1) = (t : Int) + 1 := by rw [IntKind.wrap_i64]; omega
      have HS1 := hide s1
      have m0 : wr.cell? ⟨X, 0, none⟩ = some (.slice C2 N cc2) := (M6.out.below HT.out M6.out.lt).cell 0
      have m1 : wr.cell? ⟨X, 1, none⟩ = some (.int .i64 vars) := (M6.out.below HT.out M6.out.lt).cell 1
      have m2 : wr.cell? ⟨X, 2, none⟩ = some (.slice A2 l.length ca2) := (M6.out.below HT.out M6.out.lt).cell 2
      clear s1
      go_wp2_with fail
      refine (HTC.out wr HT.out).mono ?_
      rintro e w7 ⟨⟨q, hq, hqq⟩, hb7⟩
      have eq := hq.same R.out
      subst eq
      have HT7 := hide (HT.out.trans (hb7.mono HT.out.size))
      clear hq hb7 m0 m1 m2
      rcases hqq with ⟨h1, _⟩ | ⟨hs1, g, h1, _, _, rfl, hgw, hgb⟩
      · cases h1
      cases h1
      rw [HN.out]
      have hgw' : w6.heap.size ≤ g := Nat.le_trans HT.out.size hgw
      have HGW := hide hgw'
      have HGB := hide hgb
      clear hgw hgw' hgb
      have m0 : w7.cell? ⟨X, 0, none⟩ = some (.slice C2 N cc2) := (M6.out.below HT7.out M6.out.lt).cell 0
      have m1 : w7.cell? ⟨X, 1, none⟩ = some (.int .i64 vars) := (M6.out.below HT7.out M6.out.lt).cell 1
      have m2 : w7.cell? ⟨X, 2, none⟩ = some (.slice A2 l.length ca2) := (M6.out.below HT7.out M6.out.lt).cell 2
      go_wp2_with fail
      refine (TXC.out w7 HT7.out).mono ?_
      rintro e w8 ⟨⟨q, hq, hqq⟩, hb8⟩
      have eq := hq.same R.out
      subst eq
      have HT8 := hide (HT7.out.trans (hb8.mono HT7.out.size))
      have HGB8 := hide (HGB.out.below hb8 HGB.out.lt)
      clear hq hb8 m0 m1 m2 HGB
      rcases hqq with ⟨h1, _⟩ | ⟨_, rfl⟩
      · cases h1
      rw [HTXT.out]
      have bm := M6.out.below HT8.out M6.out.lt
      have bk := K6.out.below HT8.out K6.out.lt
      have bi := I6.out.below HT8.out I6.out.lt
      have a0 : ∀ p : BelowOf w8, p.world.cell? ⟨X, 0, none⟩ = some (.slice C2 N cc2) := fun p => (bm.below p.below bm.lt).cell 0
      have a1 : ∀ p : BelowOf w8, p.world.cell? ⟨X, 1, none⟩ = some (.int .i64 vars) := fun p => (bm.below p.below bm.lt).cell 1
      have a2 : ∀ p : BelowOf w8, p.world.cell? ⟨X, 2, none⟩ = some (.slice A2 l.length ca2) := fun p => (bm.below p.below bm.lt).cell 2
      have b0 : ∀ p : BelowOf w8, p.world.cell? ⟨W.heap.size, 0, none⟩ = some (.slice C N cc) := fun p => (bk.below p.below bk.lt).cell 0
      have b1 : ∀ p : BelowOf w8, p.world.cell? ⟨W.heap.size, 1, none⟩ = some (.int .i64 vars) := fun p => (bk.below p.below bk.lt).cell 1
      have b2 : ∀ p : BelowOf w8, p.world.cell? ⟨W.heap.size, 2, none⟩ = some (.slice A l.length ca) := fun p => (bk.below p.below bk.lt).cell 2
      have c0 : ∀ p : BelowOf w8, p.world.cell? ⟨W.heap.size + 1, 0, none⟩ = some (.slice D ds.length dc) := fun p => (bi.below p.below bi.lt).cell 0
      have c1 : ∀ p : BelowOf w8, p.world.cell? ⟨W.heap.size + 1, 1, none⟩ = some (.int .i64 vars2) := fun p => (bi.below p.below bi.lt).cell 1
      have c2 : ∀ p : BelowOf w8, p.world.cell? ⟨W.heap.size + 1, 2, none⟩ = some (.slice E m.length ea) := fun p => (bi.below p.below bi.lt).cell 2
      have MYCp := hide (fun p : BelowOf w8 => MYC.out p.world (HT8.out.trans (p.below.mono HT8.out.size)))
      have MYBp := hide (fun p : BelowOf w8 => MYB.out p.world (HT8.out.trans (p.below.mono HT8.out.size)))
      have SMAp := hide (fun p : BelowOf w8 => SMA.out p.world (HT8.out.trans (p.below.mono HT8.out.size)))
      have SMBp := hide (fun p : BelowOf w8 => SMB.out p.world (HT8.out.trans (p.below.mono HT8.out.size)))
      have SMCp := hide (fun p : BelowOf w8 => SMC.out p.world (HT8.out.trans (p.below.mono HT8.out.size)))
      have NE : Nonempty (BelowOf w8) := ⟨⟨w8, Below.refl _ _⟩⟩
      have zs : (sm != sm) = false := by simp
      have zt1 : (TXT.toList == TXT.toList) = true := by simp
      have zt2 : (TXT.toList != TXT.toList) = false := by simp
      have zt3 : decide (TXT = TXT) = true := by simp
      clear bm bk bi
      go_wp2_with fail
      refine wp_region_quiet_below (by kernel_rfl) (by kernel_rfl) ?_
      repeat (go_big_quiet_step (first
        | (go_at_call 15; refine calls_below (MYCp.out _))
        | (go_at_call 16; refine calls_below (MYBp.out _))
        | (go_at_call 17; refine calls_below (SMAp.out _))
        | (go_at_call_of 18 (Value.agg #[.slice D ds.length dc, .int .i64 vars2, .slice E m.length ea]); refine calls_below (SMBp.out _))
        | (go_at_call_of 18 (Value.agg #[.slice C2 N cc2, .int .i64 vars, .slice A2 l.length ca2]); refine calls_below (SMCp.out _))))
      refine wpQuiet_nil ?_
      rintro w9 ⟨⟨_, hq9⟩, rfl⟩
      have HT9 := hide (HT8.out.trans (hq9.mono HT8.out.size))
      have HGB9 := hide (HGB8.out.below hq9 HGB8.out.lt)
      clear hq9 a0 a1 a2 b0 b1 b2 c0 c1 c2 MYCp MYBp SMAp SMBp SMCp NE HGB8
      go_wp2_with fail
      go_loopw [15] (fun v15 wk => ∃ (k : Nat) (cur : Array Value), k ≤ N ∧ v15 = .int .i64 k ∧ Hid (Blk wk g 3 cur ∧ ∀ j, k ≤ j → j < N → cur[j]? = some (.int .i64 (hs.getD j 0))) ∧ Hid (Below w6.heap.size w6 wk)) (fun v15 _ => N - (RowKit.intOf v15).toNat)
      case atStart => exact ⟨0, _, Nat.zero_le _, rfl, hide ⟨HGB9.out, fun j _ hj => hI_at (by rw [HLN.out, HN.out]; exact hj)⟩, HT9⟩
      case round =>
        obtain ⟨k, cur, hk, rfl, HG, HTk⟩ := hrel
        rename World => wk
        by_cases hlt2 : k < N
        rotate_left
        · have hltI2 : ¬ (k : Int) < (N : Int) := by omega
          have s1 := HS1.out
          go_wp2_with fail
          go_roundw
          case rel => exact ⟨t + 1, by omega, by simp, HTk⟩
          case measure => simp [RowKit.intOf] <;> omega
        have hltI2 : (k : Int) < (N : Int) := by omega
        have s1 : IntKind.i64.wrap ((k : Int) + 1) = (k : Int) + 1 := by rw [IntKind.wrap_i64]; omega
        obtain ⟨_, hul, _, huc⟩ := U6.out.parts (by omega) (by rw [HLN.out, HN.out])
        have x0 : wk.cell? ⟨u, k, none⟩ = some (.int .i64 (hs.getD k 0)) := (HTk.out.cell (p := ⟨u, k, none⟩) hul).trans (huc k hlt2)
        have y0 : wk.cell? ⟨g, k, none⟩ = some (.int .i64 (hs.getD k 0)) := by rw [HG.out.1.cell]; exact HG.out.2 k (Nat.le_refl _) hlt2
        have fg := HG.out.1.frozen k
        have HG2 : Hid (Blk (wk.setCell ⟨g, k, none⟩ (.int .i64 (-5))) g 3 (cur.setIfInBounds k (.int .i64 (-5))) ∧ ∀ j, k + 1 ≤ j → j < N → (cur.setIfInBounds k (.int .i64 (-5)))[j]? = some (.int .i64 (hs.getD j 0))) := hide ⟨HG.out.1.set_ k _, fun j h1 h2 => by
          rw [Array.getElem?_setIfInBounds_ne (by omega)]
          exact HG.out.2 j (by omega) h2⟩
        have HT2 := hide (HTk.out.setCell (p := ⟨g, k, none⟩) HGW.out (.int .i64 (-5)))
        obtain ⟨z, hz⟩ : ∃ z, hs.getD k 0 = z := ⟨_, rfl⟩
        rw [hz] at x0 y0
        have zb : (z != z) = false := by simp
        clear hz hul huc HG
        go_wp2_with fail
        go_quiet (fail)
        go_wp2_with fail
        go_roundw
        case rel => exact ⟨k + 1, _, by omega, by simp, hide ⟨HG2.out.1.drewN _, HG2.out.2⟩, hide (below_drewN HT2.out _)⟩
        case measure => simp [RowKit.intOf] <;> omega
end Go.Proofs.YtegpimaakgledaaDoor.CodeTellsW
