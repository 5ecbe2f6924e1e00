/- The text of a program: Text. -/
import Derived.Test.YtegpimaakgledaaDoorRows
import Derived.Test.YtegpimaakgledaaDoorCodL
import Derived.LoopN
namespace Go.Proofs.YtegpimaakgledaaDoor
open Go Go.RowKit
open Go.Lib (itoa itoa_length_le)
set_option linter.unusedVariables false
set_option linter.unusedSimpArgs false
namespace Cod
def TxPost (cs : List In) (vars : Int) (arrs : List Int) (e : Ending) : Prop :=
  ∃ r, HtR cs vars arrs r ∧ ((r = none ∧ e = .returned (.tuple #[.string ⟨#[]⟩, .int .i64 50])) ∨ (r.isSome = true ∧ e = .returned (.tuple #[.string (bytes (txP vars arrs cs)), .int .i64 0])))
theorem bs (l : List UInt8) : (⟨l.toArray⟩ : ByteArray) = bytes l := rfl
set_option maxRecDepth 100000 in
set_option maxHeartbeats 8000000 in
theorem Text_c (C : Option Addr) (cc : Nat) (cs : List In) (vars : Int) (A : Option Addr) (ca : Nat) (arrs : List Int) (w : World) (hC : CodeAt w C cs) (hA : IntAt w A arrs) (hlc : cs.length ≤ 100000) (hla : arrs.length ≤ 100000) (H : Ops w) (hp : Pow w) (hv : -9223372036854775808 ≤ vars ∧ vars ≤ 9223372036854775807) (hk : ∀ x ∈ cs, x.ok) (ha : ∀ x ∈ arrs, -9223372036854775808 ≤ x ∧ x ≤ 9223372036854775807) :
    Calls Tryd.prog 14 #[PrV C cs.length cc vars A arrs.length ca] w fun e w' => TxPost cs vars arrs e ∧ Below w.heap.size w w' := by
  have hb1 := (Below.refl w.heap.size w).alloc (Nat.le_refl _) (.cells #[.slice C cs.length cc, .int .i64 vars, .slice A arrs.length ca] 25)
  have k1 := Blk.new w 25 #[.slice C cs.length cc, .int .i64 vars, .slice A arrs.length ca]
  have MY := hide (fun (w' : World) (h1 : CodeAt w' C cs) (h2 : IntAt w' A arrs) (h3 : Ops w') => May_c C cc cs vars A ca arrs w' h1 h2 hlc hla h3)
  have LA := hide (txA_len vars arrs hv ha)
  have LC := hide (txC_len vars arrs cs hv ha hk)
  have HV := hide hv
  have HL := hide (And.intro hlc hla)
  unfold PrV at MY ⊢
  go_enter Tryd.func14, Tryd.ntmps14
  go_upto_region 1 with (fail)
  generalize w.alloc (.cells #[.slice C cs.length cc, .int .i64 vars, .slice A arrs.length ca] 25) = w1 at *
  have HO := hide (H.below hb1 (Nat.le_refl _))
  have HC := hide (hC.below hb1)
  have HA := hide (hA.below hb1)
  have HP := hide (hp.below hb1 (Nat.le_refl _))
  have HB := hide hb1
  have HK := hide k1
  have p0 : w1.cell? ⟨w.heap.size, 0, none⟩ = some (.slice C cs.length cc) := k1.cell 0
  have p1 : w1.cell? ⟨w.heap.size, 1, none⟩ = some (.int .i64 vars) := k1.cell 1
  have p2 : w1.cell? ⟨w.heap.size, 2, none⟩ = some (.slice A arrs.length ca) := k1.cell 2
  clear hb1 k1 hC hA H hp hlc hla hv
  go_wp2_with fail
  refine (MY.out w1 HC.out HA.out HO.out).mono ?_
  rintro e w2 ⟨⟨r, hr, rfl⟩, hb2⟩
  have R := hide hr
  have HB2 := hide (HB.out.trans (hb2.mono HB.out.size))
  have HO2 := hide (HO.out.below hb2 (Nat.le_refl _))
  have HC2 := hide (HC.out.below hb2)
  have HA2 := hide (HA.out.below hb2)
  have HP2 := hide (HP.out.below hb2 (Nat.le_refl _))
  have HK2 := hide (HK.out.below hb2 HK.out.lt)
  clear hb2 p0 p1 p2 MY HO HC HA HP HB HK hr
  cases hr : r with
  | none =>
    subst hr
    dsimp only [Option.isSome]
    go_wp2_with fail
    exact bodyPost_ret (v := .tuple #[.string ⟨#[]⟩, .int .i64 50]) (by simp [results, Tryd.results14, go_sem]) rfl ⟨⟨none, R.out, .inl ⟨rfl, rfl⟩⟩, HB2.out⟩
  | some hs =>
    subst hr
    dsimp only [Option.isSome]
    have hlt2 := HK2.out.lt
    have i3 := Lib.fresh_isBuilder 60 5 w2
    have hb3 := (Below.refl w2.heap.size w2).alloc (Nat.le_refl _) (.cells #[.pointer none, .slice none 0 0] 60)
    have I3 := hide i3
    have HB3 := hide hb3
    have HK3 := hide (HK2.out.below hb3 hlt2)
    clear i3 hb3
    go_upto_region 4 with (fail)
    obtain ⟨w3, hw3⟩ : ∃ z, w2.alloc (.cells #[.pointer none, .slice none 0 0] 60) = z := ⟨_, rfl⟩
    rw [hw3] at I3 HB3 HK3 ⊢
    clear hw3
    have HP1 := HP2
    have HP3 := hide (HP2.out.below HB3.out (Nat.le_refl _))
    have p1 : w3.cell? ⟨w.heap.size, 1, none⟩ = some (.int .i64 vars) := HK3.out.cell 1
    go_wp2_with fail
    refine (itoa_a vars w3 HV.out.1 HV.out.2 HP3.out).mono ?_
    rintro e w4 ⟨rfl, hb4⟩
    have I4 := hide (isB_belowT I3.out hb4)
    have HB4 := hide (HB3.out.trans (hb4.mono HB3.out.size))
    have z1 : (bytes (itoa vars)).size ≤ 21 := by rw [bytes_size]; exact itoa_length_le _ HV.out.1 HV.out.2
    have E0 : Hid (((⟨#[118, 97, 114, 115, 32]⟩ : ByteArray) ++ bytes (itoa vars)) ++ ⟨#[10, 97, 114, 114, 97, 121, 115]⟩ = bytes (txA vars arrs 0)) := hide (by
      rw [show (⟨#[118, 97, 114, 115, 32]⟩ : ByteArray) = bytes [118, 97, 114, 115, 32] from rfl, show (⟨#[10, 97, 114, 114, 97, 121, 115]⟩ : ByteArray) = bytes [10, 97, 114, 114, 97, 121, 115] from rfl, bytes_app, bytes_app]
      simp [txA])
    have hs4 := HB4.out.size
    have WS := hide (ws_c w2.heap.size w2.heap.size [] (txA vars arrs 0) w4 I4.out (by have := LA.out 0 (Nat.zero_le _); simp; omega) hs4)
    rw [← E0.out] at WS
    generalize bytes (itoa vars) = T at *
    clear hb4 p1 HP3 HK3 I3 hs4
    go_wp2_with fail
    refine WS.out.mono ?_
    rintro e w5 ⟨rfl, i5, hb5, _⟩
    have I5 := hide i5
    have HB5 := hide (HB4.out.trans hb5)
    have HK5 := hide (HK2.out.below HB5.out hlt2)
    have p2 : w5.cell? ⟨w.heap.size, 2, none⟩ = some (.slice A arrs.length ca) := HK5.out.cell 2
    clear i5 hb5 WS E0 z1 I4 HB4 HB3 HP2
    go_wp2_with fail
    clear p2
    obtain ⟨AN, hAN⟩ : ∃ AN, arrs.length = AN := ⟨_, rfl⟩
    have HAN := hide hAN
    have hAB : AN ≤ 100000 := by have := HL.out.2; omega
    rw [hAN]
    clear hAN
    go_loopw [21] (fun vi wr => ∃ k : Nat, k ≤ AN ∧ vi = .int .i64 k ∧ Hid (Lib.IsBuilder 60 5 w2.heap.size w2.heap.size (Lib.byteCells (txA vars arrs k)) wr) ∧ Hid (Below w2.heap.size w2 wr)) (fun vi _ => AN - (RowKit.intOf vi).toNat)
    case atStart => exact ⟨0, Nat.zero_le _, rfl, hide (by have := I5.out; rwa [List.nil_append] at this), HB5⟩
    case round =>
      obtain ⟨k, hk2, rfl, HI, HB6⟩ := hrel
      rename World => wr
      by_cases hlt : k < AN
      · have hltI : (k : Int) < (AN : Int) := by omega
        obtain ⟨ad, rfl, hadl, hc⟩ := (HA2.out.below HB6.out) (by have := HAN.out; omega)
        obtain ⟨c0, n0, n1⟩ := hc k (by have := HAN.out; omega)
        have S1 := hide (txA_s vars arrs k (by have := HAN.out; omega))
        have LK := LA.out k (by have := HAN.out; omega)
        have la := HL.out.2
        have lk : (txA vars arrs k).length ≤ 3000000 := by have := HAN.out; omega
        obtain ⟨nn, hnn⟩ : ∃ z, arrs[k]'(by have := HAN.out; omega) = z := ⟨_, rfl⟩
        rw [hnn] at c0 n0 n1 S1
        have PW := hide (HP1.out.below (HB6.out.mono (Nat.le_refl _)) (Nat.le_refl _))
        have IT := hide (itoa_a nn wr n0 n1 PW.out)
        have z1 : (bytes (itoa nn)).size ≤ 21 := by rw [bytes_size]; exact itoa_length_le _ n0 n1
        have E1 : Hid ((⟨#[32]⟩ : ByteArray) ++ bytes (itoa nn) = bytes (32 :: itoa nn)) := hide (by rw [show (⟨#[32]⟩ : ByteArray) = bytes [32] from rfl, bytes_app]; rfl)
        have WS := hide (fun w' (h : Lib.IsBuilder 60 5 w2.heap.size w2.heap.size (Lib.byteCells (txA vars arrs k)) w') hs => ws_c w2.heap.size w2.heap.size (txA vars arrs k) (32 :: itoa nn) w' h (by rw [bytes_size] at z1; rw [List.length_cons]; omega) hs)
        rw [← E1.out] at WS
        clear hc hnn LK la n0 n1 lk
        go_wp2_with fail
        refine IT.out.mono ?_
        rintro e w6 ⟨rfl, hb6⟩
        have I6 := hide (isB_belowT HI.out hb6)
        have HB7 := hide (HB6.out.trans (hb6.mono HB6.out.size))
        generalize bytes (itoa nn) = T at *
        clear hb6
        go_wp2_with fail
        refine (WS.out w6 I6.out HB7.out.size).mono ?_
        rintro e w7 ⟨rfl, i7, hb7, _⟩
        have I8 : Hid (Lib.IsBuilder 60 5 w2.heap.size w2.heap.size (Lib.byteCells (txA vars arrs (k + 1))) w7) := hide (by rw [S1.out]; exact i7)
        have HB8 := hide (HB7.out.trans hb7)
        clear i7 hb7 WS
        go_wp2_with fail
        go_roundw
        case rel => exact ⟨k + 1, by omega, by go_num, I8, HB8⟩
        case measure => simp [RowKit.intOf] <;> omega
      have hltI : ¬ (k : Int) < (AN : Int) := by omega
      have hkA : k = AN := by omega
      subst hkA
      have WS2 := hide (ws_c w2.heap.size w2.heap.size (txA vars arrs k) [10] wr HI.out (by have := LA.out k (by have := HAN.out; omega); simp; omega) HB6.out.size)
      rw [show bytes [10] = (⟨#[10]⟩ : ByteArray) from rfl] at WS2
      go_wp2_with fail
      refine WS2.out.mono ?_
      rintro e w6 ⟨rfl, i6, hb6, _⟩
      have I6 : Hid (Lib.IsBuilder 60 5 w2.heap.size w2.heap.size (Lib.byteCells (txC vars arrs cs 0)) w6) := hide (by
        have e : txC vars arrs cs 0 = txA vars arrs k ++ [10] := by unfold txC; rw [HAN.out]; simp
        rw [e]; exact i6)
      have HB7 := hide (HB6.out.trans hb6)
      have HK7 := hide (HK2.out.below HB7.out hlt2)
      have p0 : w6.cell? ⟨w.heap.size, 0, none⟩ = some (.slice C cs.length cc) := HK7.out.cell 0
      clear i6 hb6 WS2 HI HB6 hltI
      go_wp2_with fail
      clear p0
      obtain ⟨CN, hCN⟩ : ∃ CN, cs.length = CN := ⟨_, rfl⟩
      have HCN := hide hCN
      have hCB : CN ≤ 100000 := by have := HL.out.1; omega
      rw [hCN]
      clear hCN
      go_loopw [34] (fun vi wr => ∃ k : Nat, k ≤ CN ∧ vi = .int .i64 k ∧ Hid (Lib.IsBuilder 60 5 w2.heap.size w2.heap.size (Lib.byteCells (txC vars arrs cs k)) wr) ∧ Hid (Below w2.heap.size w2 wr)) (fun vi _ => CN - (RowKit.intOf vi).toNat)
      case atStart => exact ⟨0, Nat.zero_le _, rfl, I6, HB7⟩
      case round =>
        obtain ⟨j, hj, rfl, HI, HB6⟩ := hrel
        rename World => wr
        by_cases hlt : j < CN
        · have hltI : (j : Int) < (CN : Int) := by omega
          obtain ⟨ad, rfl, hadl, hc⟩ := (HC2.out.below HB6.out) (by have := HCN.out; omega)
          obtain ⟨⟨x0, x1, x2, x3⟩, c0, c1⟩ := hc j (by have := HCN.out; omega)
          have S1 := hide (txC_s vars arrs cs j (by have := HCN.out; omega))
          have LK := LC.out j (by have := HCN.out; omega)
          have lk : (txC vars arrs cs j).length ≤ 9000000 := by have := HAN.out; omega
          obtain ⟨x, hx⟩ : ∃ z, cs[j]'(by have := HCN.out; omega) = z := ⟨_, rfl⟩
          rw [hx] at c0 c1 x0 x1 x2 x3 S1
          obtain ⟨xo, n⟩ := x
          simp only at c0 c1 x0 x1 x2 x3
          obtain ⟨o, rfl⟩ : ∃ o : Nat, xo = (o : Int) := ⟨xo.toNat, by omega⟩
          have hba := (Below.refl wr.heap.size wr).alloc (Nat.le_refl _) (.cells #[.int .u8 o, .int .i64 n] 47)
          have HBa := hide (HB6.out.trans (hba.mono HB6.out.size))
          have bk := Blk.new wr 47 #[.int .u8 o, .int .i64 n]
          have Ia := hide (isB_alloc HI.out (.cells #[.int .u8 o, .int .i64 n] 47))
          have NM := hide (fun w' (h : Ops w') => Name_c o (by omega) w' h)
          have hsz := HB6.out.size
          have hbl := isB_lt HI.out
          have hne : wr.heap.size ≠ w2.heap.size := by omega
          obtain ⟨wa, hwa⟩ : ∃ z, wr.alloc (.cells #[.int .u8 o, .int .i64 n] 47) = z := ⟨_, rfl⟩
          rw [hwa] at HBa bk Ia
          have g0 : wa.cell? ⟨wr.heap.size, 0, none⟩ = some (.int .u8 o) := bk.cell 0
          have BK := hide bk
          have ELN : (opO o).nm = bytes (opO o).nm.data.toList := by
            cases (opO o).nm
            simp [bytes]
          have nl : (opO o).nm.data.toList.length ≤ 6 := nm_len o
          have TX : Hid (txI ⟨o, n⟩ = (opO o).nm.data.toList ++ ((if n = 0 then [] else 32 :: itoa n) ++ [10])) := hide rfl
          rw [ELN] at NM
          obtain ⟨NL, hNL⟩ : ∃ z, (opO o).nm.data.toList = z := ⟨_, rfl⟩
          rw [hNL] at NM nl TX
          have HOa := hide (HO2.out.below HBa.out (Nat.le_refl _))
          have HNE := hide hne
          have HSZ := hide hsz
          have HXN := hide (And.intro x2 x3)
          clear hba hc bk LK hx ELN hNL hsz hbl hne x0 x1 x2 x3
          go_wp2_with fail
          refine (NM.out wa HOa.out).mono ?_
          rintro e wb ⟨rfl, rfl⟩
          have WS := hide (ws_c w2.heap.size w2.heap.size (txC vars arrs cs j) NL wa Ia.out (by omega) HBa.out.size)
          generalize bytes NL = NB at *
          go_wp2_with fail
          refine WS.out.mono ?_
          rintro e wc ⟨rfl, ic, hbc, kc⟩
          have kb := kc wr.heap.size _ BK.out (by have := HNE.out; simpa using this) (by intro c fz; simp)
          have HBc := hide (HBa.out.trans hbc)
          have Ic := hide ic
          have g1 : wc.cell? ⟨wr.heap.size, 1, none⟩ = some (.int .i64 n) := by rw [Lib.cell_of_heap kb]; rfl
          clear ic hbc kc kb WS BK HNE HSZ NM HOa Ia g0
          by_cases hn : n = 0
          · have hz : (n != 0) = false := by rw [hn]; rfl
            have HNN := hide hn
            clear hn
            have WT := hide (ws_c w2.heap.size w2.heap.size (txC vars arrs cs j ++ NL) [10] wc Ic.out (by simp only [List.length_append, List.length_cons, List.length_nil]; omega) HBc.out.size)
            rw [show bytes [10] = (⟨#[10]⟩ : ByteArray) from rfl] at WT
            go_wp2_with fail
            refine WT.out.mono ?_
            rintro e wz ⟨rfl, iz, hbz, _⟩
            have Iz : Hid (Lib.IsBuilder 60 5 w2.heap.size w2.heap.size (Lib.byteCells (txC vars arrs cs (j + 1))) wz) := hide (by
              have e : txC vars arrs cs (j + 1) = (txC vars arrs cs j ++ NL) ++ [10] := by rw [S1.out, TX.out, if_pos HNN.out]; simp
              rw [e]; exact iz)
            have HBz := hide (HBc.out.trans hbz)
            clear iz hbz WT
            go_wp2_with fail
            go_roundw
            case rel => exact ⟨j + 1, by omega, by go_num, Iz, HBz⟩
            case measure => simp [RowKit.intOf] <;> omega
          · have hz : (n != 0) = true := by rw [bne_iff_ne]; exact hn
            have HNN := hide hn
            have PW := hide (HP1.out.below HBc.out (Nat.le_refl _))
            have IT := hide (formatInt_a n wc HXN.out.1 HXN.out.2 PW.out)
            have il := itoa_length_le n HXN.out.1 HXN.out.2
            have z1 : (bytes (itoa n)).size ≤ 21 := by rw [bytes_size]; exact il
            have E1 : Hid ((⟨#[32]⟩ : ByteArray) ++ bytes (itoa n) = bytes (32 :: itoa n)) := hide (by rw [show (⟨#[32]⟩ : ByteArray) = bytes [32] from rfl, bytes_app]; rfl)
            have WU := hide (fun w' (h : Lib.IsBuilder 60 5 w2.heap.size w2.heap.size (Lib.byteCells (txC vars arrs cs j ++ NL)) w') hs => ws_c w2.heap.size w2.heap.size (txC vars arrs cs j ++ NL) (32 :: itoa n) w' h (by rw [List.length_append, List.length_cons]; omega) hs)
            rw [← E1.out] at WU
            clear hn
            go_wp2_with fail
            refine IT.out.mono ?_
            rintro e wd ⟨rfl, hbd⟩
            have Id := hide (isB_belowT Ic.out hbd)
            have HBd := hide (HBc.out.trans (hbd.mono HBc.out.size))
            obtain ⟨NT, hNT⟩ : ∃ z, itoa n = z := ⟨_, rfl⟩
            rw [hNT] at WU z1 il TX ⊢
            clear hbd g1 IT E1 hNT
            generalize bytes NT = NU at *
            go_wp2_with fail
            refine (WU.out wd Id.out HBd.out.size).mono ?_
            rintro e we ⟨rfl, ie, hbe, _⟩
            have Ie := hide ie
            have HBe := hide (HBd.out.trans hbe)
            clear ie hbe WU
            have WT := hide (ws_c w2.heap.size w2.heap.size (txC vars arrs cs j ++ NL ++ (32 :: NT)) [10] we Ie.out (by simp only [List.length_append, List.length_cons, List.length_nil]; omega) HBe.out.size)
            rw [show bytes [10] = (⟨#[10]⟩ : ByteArray) from rfl] at WT
            go_wp2_with fail
            refine WT.out.mono ?_
            rintro e wz ⟨rfl, iz, hbz, _⟩
            have Iz : Hid (Lib.IsBuilder 60 5 w2.heap.size w2.heap.size (Lib.byteCells (txC vars arrs cs (j + 1))) wz) := hide (by
              have e : txC vars arrs cs (j + 1) = (txC vars arrs cs j ++ NL ++ (32 :: NT)) ++ [10] := by rw [S1.out, TX.out, if_neg HNN.out]; simp
              rw [e]; exact iz)
            have HBz := hide (HBe.out.trans hbz)
            clear iz hbz WT
            go_wp2_with fail
            go_roundw
            case rel => exact ⟨j + 1, by omega, by go_num, Iz, HBz⟩
            case measure => simp [RowKit.intOf] <;> omega
        have hltI : ¬ (j : Int) < (CN : Int) := by omega
        have hjC : j = CN := by omega
        subst hjC
        have hne : txC vars arrs cs j ≠ [] := by simp [txC, txA]
        have BS := hide (Tryd.Builder_String w2.heap.size w2.heap.size (txC vars arrs cs j) wr HI.out hne)
        have TP : Hid (bytes (txC vars arrs cs j) = bytes (txP vars arrs cs)) := hide (by unfold txP; rw [HCN.out])
        have HBF := hide (HB2.out.trans (HB6.out.mono HB2.out.size))
        have HSW := hide HB6.out.size
        clear hne HI HB6 hltI
        go_wp2_with fail
        refine BS.out.mono ?_
        rintro e w9 ⟨rfl, hb9⟩
        have HB9 := hide (HBF.out.trans (hb9.mono HB2.out.size))
        clear hb9 BS
        rw [show (⟨(txC vars arrs cs j).toArray⟩ : ByteArray) = bytes (txC vars arrs cs j) from rfl, TP.out]
        go_wp2_with fail
        exact bodyPost_ret (v := .tuple #[.string (bytes (txP vars arrs cs)), .int .i64 0]) (by simp [results, Tryd.results14, go_sem]) rfl ⟨⟨some hs, R.out, .inr ⟨rfl, rfl⟩⟩, HB9.out⟩
end Cod
end Go.Proofs.YtegpimaakgledaaDoor
