/- The walk of the statement CodeBack. -/
import Derived.Test.YtegpimaakgledaaDoorRows
import Derived.Test.YtegpimaakgledaaDoorCodR
import Derived.Test.YtegpimaakgledaaDoorCodS
import Derived.Test.YtegpimaakgledaaDoorCodPc
import Derived.Test.YtegpimaakgledaaDoorCodSm
import Derived.Test.YtegpimaakgledaaDoorCodEnv
namespace Go.Proofs.YtegpimaakgledaaDoor.CodeBackW
open Go Go.RowKit Go.Proofs.YtegpimaakgledaaDoor Go.Proofs.YtegpimaakgledaaDoor.Cod
set_option linter.unusedVariables false
set_option linter.unusedSimpArgs false
theorem txP_inj {cs cs' : List In} {v v' : Int} {l l' : List Int} {hs hs' : List Int} (h : HtR cs v l (some hs)) (w : Well cs v l) (h' : HtR cs' v' l' (some hs')) (w' : Well cs' v' l') (e : txP v' l' cs' = txP v l cs) : cs' = cs ∧ v' = v ∧ l' = l := by
  have a := RdR.text h.mays w.cd w.ar
  have b := RdR.text h'.mays w'.cd w'.ar
  rw [e] at b
  have c := b.det a
  injection c with c
  injection c with c1 c2
  injection c2 with c3 c4
  exact ⟨c4, c1, c3⟩
theorem txP_len {cs : List In} {v : Int} {l : List Int} (h : (txC v l cs cs.length).length ≤ 50 + l.length * 22 + cs.length * 40) (h1 : cs.length ≤ 400) (h2 : l.length ≤ 100) : (txP v l cs).length ≤ 90000 := by
  unfold txP
  omega
set_option maxRecDepth 100000 in
set_option maxHeartbeats 8000000 in
theorem walk {H : Type} {enc : TypeId × Value → H} {base : Nat} (W : World) (hAll : Ops W ∧ Pow W ∧ Env W) (v0 : Value) (d0 : DataW H) (p0 : List MemPlace) (o0 : Value.okWide Tryd.prog W .any base 25 v0) (r0 : DataW.Trod enc Tryd.prog W 0 (fun _ => true) true 25 v0 d0 p0) (a1 : ByteArray) (w1 : a1.size ≤ maxLen) :
    Calls Tryd.prog 5 #[v0, .string a1] W fun e w' => e = .returned (.bool true) ∧ Below W.heap.size W w' := by
  obtain ⟨C, cs, cc, vars, A, l, ca, rfl, hC, hA, hv⟩ := PrV.of o0 r0
  clear o0 r0 w1
  obtain ⟨hO, hP, hE⟩ := hAll
  obtain ⟨s, rfl⟩ : ∃ s, a1 = bytes s := ⟨a1.data.toList, by cases a1; simp [bytes]⟩
  have HE := hide hE
  have HO := hide hO
  have HP := hide hP
  have GR := hide (fun w => Great_c C cs.length cc vars A l.length ca w)
  have MY := hide (fun (w' : World) (h1 : CodeAt w' C cs) (h2 : IntAt w' A l) (h3 : Ops w') hlc hla => May_c C cc cs vars A ca l w' h1 h2 hlc hla h3)
  have okc : ∀ x ∈ cs, x.ok := fun x hx => by
    obtain ⟨i, hi, rfl⟩ := List.getElem_of_mem hx
    obtain ⟨_, _, _, hc⟩ := hC (by omega)
    exact (hc i hi).1
  have oka : ∀ x ∈ l, -9223372036854775808 ≤ x ∧ x ≤ 9223372036854775807 := fun x hx => by
    obtain ⟨i, hi, rfl⟩ := List.getElem_of_mem hx
    obtain ⟨_, _, _, hc⟩ := hA (by omega)
    exact (hc i hi).2
  have HWL := hide (Well.mk hv oka okc)
  have TXL := hide (txC_len vars l cs hv oka okc cs.length (Nat.le_refl _))
  clear okc oka
  have TXC := hide (fun (w' : World) (h1 : CodeAt w' C cs) (h2 : IntAt w' A l) (h3 : Ops w') (h4 : Pow w') hlc hla => Text_c C cc cs vars A ca l w' h1 h2 hlc hla h3 h4 hv HWL.out.cd HWL.out.ar)
  have hb1 := (Below.refl W.heap.size W).alloc (Nat.le_refl _) (.cells #[.slice C cs.length cc, .int .i64 vars, .slice A l.length ca] 25)
  have k1 := Blk.new W 25 #[.slice C cs.length cc, .int .i64 vars, .slice A l.length ca]
  have HC := hide hC
  have HA := hide hA
  clear hC hA hO hP hv hE
  unfold PrV at GR MY TXC ⊢
  go_enter Tryd.func5, Tryd.ntmps5
  go_upto_region 1 with (fail)
  obtain ⟨wb, hwb⟩ : ∃ z, W.alloc (.cells #[.slice C cs.length cc, .int .i64 vars, .slice A l.length ca] 25) = z := ⟨_, rfl⟩
  rw [hwb] at hb1 k1 ⊢
  have HB1 := hide hb1
  have K1 := hide k1
  clear hb1 k1 hwb
  go_wp2_with fail
  refine (awake_c wb (HO.out.below HB1.out (Nat.le_refl _)) (HP.out.below HB1.out (Nat.le_refl _))).mono ?_
  rintro e w2 ⟨rfl, hb2⟩
  have HB2 := hide (HB1.out.trans (hb2.mono HB1.out.size))
  have K2 := hide (K1.out.below hb2 K1.out.lt)
  clear hb2 K1 HB1
  have q0 : w2.cell? ⟨W.heap.size, 0, none⟩ = some (.slice C cs.length cc) := K2.out.cell 0
  have q1 : w2.cell? ⟨W.heap.size, 1, none⟩ = some (.int .i64 vars) := K2.out.cell 1
  have q2 : w2.cell? ⟨W.heap.size, 2, none⟩ = some (.slice A l.length ca) := K2.out.cell 2
  go_wp2_with fail
  refine (GR.out w2).mono ?_
  rintro e w3 ⟨rfl, hb3⟩
  have HB3 := hide (HB2.out.trans (hb3.mono HB2.out.size))
  have K3 := hide (K2.out.below hb3 K2.out.lt)
  clear hb3 K2 HB2 q0 q1 q2 GR
  cases hg : grC cs.length l.length with
  | true =>
    go_wp2_with fail
    go_ret
    exact ⟨rfl, HB3.out⟩
  | false =>
    have hgl : cs.length ≤ 400 ∧ l.length ≤ 100 := by
      unfold grC at hg
      simp only [Bool.or_eq_false_iff, decide_eq_false_iff_not] at hg
      omega
    have HGL := hide hgl
    clear hg hgl
    have hsz := bytes_size s
    have HSZ := hide hsz
    by_cases hbig : 6000 < s.length
    · have g1 : (6000 : Int) < ((bytes s).size : Int) := by rw [hsz]; omega
      clear hsz
      go_wp2_with fail
      go_ret
      exact ⟨rfl, HB3.out⟩
    have g1 : ¬ (6000 : Int) < ((bytes s).size : Int) := by rw [hsz]; omega
    have HSL := hide (show s.length ≤ 90000 by omega)
    clear hsz hbig
    have q0 : w3.cell? ⟨W.heap.size, 0, none⟩ = some (.slice C cs.length cc) := K3.out.cell 0
    have q1 : w3.cell? ⟨W.heap.size, 1, none⟩ = some (.int .i64 vars) := K3.out.cell 1
    have q2 : w3.cell? ⟨W.heap.size, 2, none⟩ = some (.slice A l.length ca) := K3.out.cell 2
    go_wp2_with fail
    refine (TXC.out w3 (HC.out.below HB3.out) (HA.out.below HB3.out) (HO.out.below HB3.out (Nat.le_refl _)) (HP.out.below HB3.out (Nat.le_refl _)) (by have := HGL.out.1; omega) (by have := HGL.out.2; omega)).mono ?_
    rintro e w4 ⟨⟨r, hr, hh⟩, hb4⟩
    have R := hide hr
    have HB4 := hide (HB3.out.trans (hb4.mono HB3.out.size))
    have K4 := hide (K3.out.below hb4 K3.out.lt)
    have MY2 := hide ((MY.out w4 (HC.out.below HB4.out) (HA.out.below HB4.out) (HO.out.below HB4.out (Nat.le_refl _)) (by have := HGL.out.1; omega) (by have := HGL.out.2; omega)).mono (R' := fun e w' => e = .returned (.bool r.isSome) ∧ Below w4.heap.size w4 w') (by
      rintro e w' ⟨⟨q, hq, rfl⟩, hb⟩
      rw [hq.det R.out]
      exact ⟨rfl, hb⟩))
    clear hb4 hr q0 q1 q2 HB3 K3 MY TXC g1
    have q0 : w4.cell? ⟨W.heap.size, 0, none⟩ = some (.slice C cs.length cc) := K4.out.cell 0
    have q1 : w4.cell? ⟨W.heap.size, 1, none⟩ = some (.int .i64 vars) := K4.out.cell 1
    have q2 : w4.cell? ⟨W.heap.size, 2, none⟩ = some (.slice A l.length ca) := K4.out.cell 2
    have EQN := bytes_nil []
    rcases hh with ⟨rfl, rfl⟩ | ⟨hsome, rfl⟩
    · go_wp2_with fail
      refine MY2.out.mono ?_
      rintro e w5 ⟨rfl, hb5⟩
      have HB5 := hide (HB4.out.trans (hb5.mono HB4.out.size))
      clear hb5 q0 q1 q2 HB4 K4 MY2
      have PS := hide (Parse_c s w5 (HO.out.below HB5.out (Nat.le_refl _)) (HP.out.below HB5.out (Nat.le_refl _)) (HE.out.below HB5.out (Nat.le_refl _)) HSL.out)
      go_wp2_with fail
      refine PS.out.mono ?_
      rintro e w9 ⟨hpp, hb9⟩
      have HB9 := hide (HB5.out.trans (hb9.mono HB5.out.size))
      clear PS hb9
      rcases hpp with ⟨v9, arrs9, cs9, hs9, C9, cc9, A9, ca9, hh9, hte9, hwl9, hla9, hlc9, rfl, hown9⟩ | ⟨rfl, _⟩
      rotate_left
      · have ha10 := (Below.refl w9.heap.size w9).alloc (Nat.le_refl _) (.cells #[.slice none 0 0, .int .i64 0, .slice none 0 0] 25)
        have HB10 := hide (HB9.out.trans (ha10.mono HB9.out.size))
        have p10 := Blk.new w9 25 #[.slice none 0 0, .int .i64 0, .slice none 0 0]
        go_upto_region 13 with (fail)
        obtain ⟨w10, hw10⟩ : ∃ z, w9.alloc (.cells #[.slice none 0 0, .int .i64 0, .slice none 0 0] 25) = z := ⟨_, rfl⟩
        rw [hw10] at HB10 p10 ⊢
        obtain ⟨Z, hZ⟩ : ∃ Z, w9.heap.size = Z := ⟨_, rfl⟩
        rw [hZ] at p10 ⊢
        have SM := Same_b none 0 [] 0 none 0 [] none 0 [] 0 none 0 [] w10 (fun h => absurd h (Nat.lt_irrefl 0)) (fun h => absurd h (Nat.lt_irrefl 0)) (fun h => absurd h (Nat.lt_irrefl 0)) (fun h => absurd h (Nat.lt_irrefl 0)) (by simp) (by simp)
        rw [decide_eq_true (show ([] : List In) = [] ∧ (0 : Int) = 0 ∧ ([] : List Int) = [] from ⟨rfl, rfl, rfl⟩)] at SM
        unfold PrV at SM
        simp only [List.length_nil] at SM
        have SM2 := hide SM
        have y0 : w10.cell? ⟨Z, 0, none⟩ = some (.slice none 0 0) := p10.cell 0
        have y1 : w10.cell? ⟨Z, 1, none⟩ = some (.int .i64 0) := p10.cell 1
        have y2 : w10.cell? ⟨Z, 2, none⟩ = some (.slice none 0 0) := p10.cell 2
        clear SM ha10 p10 hw10 hZ
        go_wp2_with fail
        refine SM2.out.mono ?_
        rintro e w11 ⟨rfl, hb11⟩
        have HB11 := hide (HB10.out.trans (hb11.mono HB10.out.size))
        clear hb11
        go_wp2_with fail
        go_ret
        exact ⟨rfl, HB11.out⟩
      have ha10 := (Below.refl w9.heap.size w9).alloc (Nat.le_refl _) (.cells #[.slice C9 cs9.length cc9, .int .i64 v9, .slice A9 arrs9.length ca9] 25)
      have HB10 := hide (HB9.out.trans (ha10.mono HB9.out.size))
      have p10 := Blk.new w9 25 #[.slice C9 cs9.length cc9, .int .i64 v9, .slice A9 arrs9.length ca9]
      have oc10 := own_belowR hown9.code ha10
      have oa10 := own_belowR hown9.arrs ha10
      unfold PrV
      go_upto_region 13 with (fail)
      obtain ⟨w10, hw10⟩ : ∃ z, w9.alloc (.cells #[.slice C9 cs9.length cc9, .int .i64 v9, .slice A9 arrs9.length ca9] 25) = z := ⟨_, rfl⟩
      rw [hw10] at HB10 p10 oc10 oa10 ⊢
      obtain ⟨Z, hZ⟩ : ∃ Z, w9.heap.size = Z := ⟨_, rfl⟩
      rw [hZ] at p10 ⊢
      have TX := Text_c C9 cc9 cs9 v9 A9 ca9 arrs9 w10 (CodeAt.of_own oc10 hwl9.cd) (IntAt.of_own oa10 hwl9.ar) (by omega) (by omega) (HO.out.below HB10.out (Nat.le_refl _)) (HP.out.below HB10.out (Nat.le_refl _)) hwl9.vr hwl9.cd hwl9.ar
      unfold PrV at TX
      have TX2 := hide TX
      have HH9 := hide hh9
      have HT9 := hide hte9
      have y0 : w10.cell? ⟨Z, 0, none⟩ = some (.slice C9 cs9.length cc9) := p10.cell 0
      have y1 : w10.cell? ⟨Z, 1, none⟩ = some (.int .i64 v9) := p10.cell 1
      have y2 : w10.cell? ⟨Z, 2, none⟩ = some (.slice A9 arrs9.length ca9) := p10.cell 2
      clear TX ha10 p10 oc10 oa10 hw10 hZ hwl9 hh9 hte9 hla9 hlc9 hown9
      go_wp2_with fail
      refine TX2.out.mono ?_
      rintro e w11 ⟨⟨q, hq, hqq⟩, hb11⟩
      have HB11 := hide (HB10.out.trans (hb11.mono HB10.out.size))
      have eq := hq.det HH9.out
      subst eq
      clear hb11 hq
      rcases hqq with ⟨h1, _⟩ | ⟨_, rfl⟩
      · cases h1
      rw [HT9.out]
      have EQ := bytes_eq s s
      rw [decide_eq_true (show s = s from rfl)] at EQ
      generalize bytes s = SS at *
      go_wp2_with fail
      go_ret
      exact ⟨rfl, HB11.out⟩
    · obtain ⟨hs, rfl⟩ : ∃ hs, r = some hs := Option.isSome_iff_exists.1 hsome
      have TL := hide (txP_len TXL.out HGL.out.1 HGL.out.2)
      have TXN := hide (fun w' (h : Below W.heap.size W w') => Parse_c (txP vars l cs) w' (HO.out.below h (Nat.le_refl _)) (HP.out.below h (Nat.le_refl _)) (HE.out.below h (Nat.le_refl _)) TL.out)
      obtain ⟨tx, htx⟩ : ∃ z, txP vars l cs = z := ⟨_, rfl⟩
      rw [htx] at TXN ⊢
      have HTX := hide htx
      clear htx hsome
      go_wp2_with fail
      refine MY2.out.mono ?_
      rintro e w5 ⟨rfl, hb5⟩
      have HB5 := hide (HB4.out.trans (hb5.mono HB4.out.size))
      have K5 := hide (K4.out.below hb5 K4.out.lt)
      clear hb5 q0 q1 q2 HB4 K4 MY2
      go_wp2_with fail
      refine (TXN.out w5 HB5.out).mono ?_
      rintro e w6 ⟨hpp, hb6⟩
      rcases hpp with ⟨v', arrs', cs', hs', C2, cc2, A2, ca2, hh', hte, hwl, _, _, rfl, hown⟩ | ⟨_, hno⟩
      rotate_left
      · exact absurd HTX.out (hno vars l cs hs R.out HWL.out)
      obtain ⟨e1, e2, e3⟩ := txP_inj R.out HWL.out hh' hwl (hte.trans HTX.out.symm)
      subst e1 e2 e3
      have HB6 := hide (HB5.out.trans (hb6.mono HB5.out.size))
      have K6 := hide (K5.out.below hb6 K5.out.lt)
      have ha7 := (Below.refl w6.heap.size w6).alloc (Nat.le_refl _) (.cells #[.slice C2 cs'.length cc2, .int .i64 v', .slice A2 arrs'.length ca2] 25)
      have oc7 := own_belowR hown.code ha7
      have oa7 := own_belowR hown.arrs ha7
      have p7 := Blk.new w6 25 #[.slice C2 cs'.length cc2, .int .i64 v', .slice A2 arrs'.length ca2]
      have HB7 := hide (HB6.out.trans (ha7.mono HB6.out.size))
      have K7 := hide (K6.out.below ha7 K6.out.lt)
      unfold PrV
      go_upto_region 10 with (fail)
      obtain ⟨w7, hw7⟩ : ∃ z, w6.alloc (.cells #[.slice C2 cs'.length cc2, .int .i64 v', .slice A2 arrs'.length ca2] 25) = z := ⟨_, rfl⟩
      rw [hw7] at oc7 oa7 p7 HB7 K7 ⊢
      obtain ⟨Y, hY⟩ : ∃ Y, w6.heap.size = Y := ⟨_, rfl⟩
      rw [hY] at p7 ⊢
      have SM := Same_b C cc cs' v' A ca arrs' C2 cc2 cs' v' A2 ca2 arrs' w7 (HC.out.below HB7.out) (HA.out.below HB7.out) (CodeAt.of_own oc7 HWL.out.cd) (IntAt.of_own oa7 HWL.out.ar) (by have := HGL.out.1; omega) (by have := HGL.out.2; omega)
      rw [decide_eq_true (show cs' = cs' ∧ v' = v' ∧ arrs' = arrs' from ⟨rfl, rfl, rfl⟩)] at SM
      unfold PrV at SM
      have SM2 := hide SM
      have q0 : w7.cell? ⟨W.heap.size, 0, none⟩ = some (.slice C cs'.length cc) := K7.out.cell 0
      have q1 : w7.cell? ⟨W.heap.size, 1, none⟩ = some (.int .i64 v') := K7.out.cell 1
      have q2 : w7.cell? ⟨W.heap.size, 2, none⟩ = some (.slice A arrs'.length ca) := K7.out.cell 2
      have y0 : w7.cell? ⟨Y, 0, none⟩ = some (.slice C2 cs'.length cc2) := p7.cell 0
      have y1 : w7.cell? ⟨Y, 1, none⟩ = some (.int .i64 v') := p7.cell 1
      have y2 : w7.cell? ⟨Y, 2, none⟩ = some (.slice A2 arrs'.length ca2) := p7.cell 2
      clear SM hb6 ha7 oc7 oa7 p7 hw7 hY hown hte hwl hh' HB6 K6 HB5 K5 TXN
      go_wp2_with fail
      refine SM2.out.mono ?_
      rintro e w8 ⟨rfl, hb8⟩
      have HB5 := hide (HB7.out.trans (hb8.mono HB7.out.size))
      obtain ⟨w5', hw5'⟩ : ∃ z, w8 = z := ⟨_, rfl⟩
      clear hw5' hb8 q0 q1 q2 y0 y1 y2 SM2 HB7 K7
      have PS := hide (Parse_c s w8 (HO.out.below HB5.out (Nat.le_refl _)) (HP.out.below HB5.out (Nat.le_refl _)) (HE.out.below HB5.out (Nat.le_refl _)) HSL.out)
      go_wp2_with fail
      refine PS.out.mono ?_
      rintro e w9 ⟨hpp, hb9⟩
      have HB9 := hide (HB5.out.trans (hb9.mono HB5.out.size))
      clear PS hb9
      rcases hpp with ⟨v9, arrs9, cs9, hs9, C9, cc9, A9, ca9, hh9, hte9, hwl9, hla9, hlc9, rfl, hown9⟩ | ⟨rfl, _⟩
      rotate_left
      · have ha10 := (Below.refl w9.heap.size w9).alloc (Nat.le_refl _) (.cells #[.slice none 0 0, .int .i64 0, .slice none 0 0] 25)
        have HB10 := hide (HB9.out.trans (ha10.mono HB9.out.size))
        have p10 := Blk.new w9 25 #[.slice none 0 0, .int .i64 0, .slice none 0 0]
        go_upto_region 13 with (fail)
        obtain ⟨w10, hw10⟩ : ∃ z, w9.alloc (.cells #[.slice none 0 0, .int .i64 0, .slice none 0 0] 25) = z := ⟨_, rfl⟩
        rw [hw10] at HB10 p10 ⊢
        obtain ⟨Z, hZ⟩ : ∃ Z, w9.heap.size = Z := ⟨_, rfl⟩
        rw [hZ] at p10 ⊢
        have SM := Same_b none 0 [] 0 none 0 [] none 0 [] 0 none 0 [] w10 (fun h => absurd h (Nat.lt_irrefl 0)) (fun h => absurd h (Nat.lt_irrefl 0)) (fun h => absurd h (Nat.lt_irrefl 0)) (fun h => absurd h (Nat.lt_irrefl 0)) (by simp) (by simp)
        rw [decide_eq_true (show ([] : List In) = [] ∧ (0 : Int) = 0 ∧ ([] : List Int) = [] from ⟨rfl, rfl, rfl⟩)] at SM
        unfold PrV at SM
        simp only [List.length_nil] at SM
        have SM2 := hide SM
        have y0 : w10.cell? ⟨Z, 0, none⟩ = some (.slice none 0 0) := p10.cell 0
        have y1 : w10.cell? ⟨Z, 1, none⟩ = some (.int .i64 0) := p10.cell 1
        have y2 : w10.cell? ⟨Z, 2, none⟩ = some (.slice none 0 0) := p10.cell 2
        clear SM ha10 p10 hw10 hZ
        go_wp2_with fail
        refine SM2.out.mono ?_
        rintro e w11 ⟨rfl, hb11⟩
        have HB11 := hide (HB10.out.trans (hb11.mono HB10.out.size))
        clear hb11
        go_wp2_with fail
        go_ret
        exact ⟨rfl, HB11.out⟩
      have ha10 := (Below.refl w9.heap.size w9).alloc (Nat.le_refl _) (.cells #[.slice C9 cs9.length cc9, .int .i64 v9, .slice A9 arrs9.length ca9] 25)
      have HB10 := hide (HB9.out.trans (ha10.mono HB9.out.size))
      have p10 := Blk.new w9 25 #[.slice C9 cs9.length cc9, .int .i64 v9, .slice A9 arrs9.length ca9]
      have oc10 := own_belowR hown9.code ha10
      have oa10 := own_belowR hown9.arrs ha10
      unfold PrV
      go_upto_region 13 with (fail)
      obtain ⟨w10, hw10⟩ : ∃ z, w9.alloc (.cells #[.slice C9 cs9.length cc9, .int .i64 v9, .slice A9 arrs9.length ca9] 25) = z := ⟨_, rfl⟩
      rw [hw10] at HB10 p10 oc10 oa10 ⊢
      obtain ⟨Z, hZ⟩ : ∃ Z, w9.heap.size = Z := ⟨_, rfl⟩
      rw [hZ] at p10 ⊢
      have TX := Text_c C9 cc9 cs9 v9 A9 ca9 arrs9 w10 (CodeAt.of_own oc10 hwl9.cd) (IntAt.of_own oa10 hwl9.ar) (by omega) (by omega) (HO.out.below HB10.out (Nat.le_refl _)) (HP.out.below HB10.out (Nat.le_refl _)) hwl9.vr hwl9.cd hwl9.ar
      unfold PrV at TX
      have TX2 := hide TX
      have HH9 := hide hh9
      have HT9 := hide hte9
      have y0 : w10.cell? ⟨Z, 0, none⟩ = some (.slice C9 cs9.length cc9) := p10.cell 0
      have y1 : w10.cell? ⟨Z, 1, none⟩ = some (.int .i64 v9) := p10.cell 1
      have y2 : w10.cell? ⟨Z, 2, none⟩ = some (.slice A9 arrs9.length ca9) := p10.cell 2
      clear TX ha10 p10 oc10 oa10 hw10 hZ hwl9 hh9 hte9 hla9 hlc9 hown9
      go_wp2_with fail
      refine TX2.out.mono ?_
      rintro e w11 ⟨⟨q, hq, hqq⟩, hb11⟩
      have HB11 := hide (HB10.out.trans (hb11.mono HB10.out.size))
      have eq := hq.det HH9.out
      subst eq
      clear hb11 hq
      rcases hqq with ⟨h1, _⟩ | ⟨_, rfl⟩
      · cases h1
      rw [HT9.out]
      have EQ := bytes_eq s s
      rw [decide_eq_true (show s = s from rfl)] at EQ
      generalize bytes s = SS at *
      go_wp2_with fail
      go_ret
      exact ⟨rfl, HB11.out⟩
end Go.Proofs.YtegpimaakgledaaDoor.CodeBackW
