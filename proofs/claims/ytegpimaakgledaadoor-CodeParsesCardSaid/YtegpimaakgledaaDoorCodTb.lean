/- The document's names, the document's text of a program. -/
import Derived.Test.YtegpimaakgledaaDoorRows
import Derived.Test.YtegpimaakgledaaDoorCodHc
import Derived.Test.YtegpimaakgledaaDoorCodL
import Derived.Test.YtegpimaakgledaaDoorNum05
namespace Go.Proofs.YtegpimaakgledaaDoor
open Go Go.RowKit
open Go.Lib (itoa itoa_length_le)
set_option linter.unusedVariables false
set_option linter.unusedSimpArgs false
namespace Cod
def nmsA : Array Value := #[.string ⟨#[110, 117, 109]⟩, .string ⟨#[103, 101, 116]⟩, .string ⟨#[115, 101, 116]⟩, .string ⟨#[97, 116]⟩, .string ⟨#[112, 117, 116]⟩, .string ⟨#[114, 111, 119]⟩, .string ⟨#[119, 111, 114, 100]⟩, .string ⟨#[110, 101, 103]⟩, .string ⟨#[110, 111, 116]⟩, .string ⟨#[109, 117, 108]⟩, .string ⟨#[100, 105, 118]⟩, .string ⟨#[109, 111, 100]⟩, .string ⟨#[97, 100, 100]⟩, .string ⟨#[115, 117, 98]⟩, .string ⟨#[108, 101, 115, 115]⟩, .string ⟨#[108, 101, 115, 115, 101, 113]⟩, .string ⟨#[109, 111, 114, 101]⟩, .string ⟨#[109, 111, 114, 101, 101, 113]⟩, .string ⟨#[115, 97, 109, 101]⟩, .string ⟨#[111, 116, 104, 101, 114]⟩, .string ⟨#[116, 114, 117, 116, 104]⟩, .string ⟨#[106, 117, 109, 112]⟩, .string ⟨#[122, 101, 114, 111]⟩, .string ⟨#[101, 108, 115, 101]⟩, .string ⟨#[112, 111, 112]⟩, .string ⟨#[100, 117, 112]⟩, .string ⟨#[97, 115, 115, 101, 114, 116]⟩, .string ⟨#[99, 97, 108, 108]⟩, .string ⟨#[115, 116, 111, 112]⟩]
theorem nmsA_at (o : Nat) (h1 : 1 ≤ o) (h2 : o ≤ 29) : nmsA[o - 1]? = some (.string (opO o).nm) := by
  have hc : o = 1 ∨ o = 2 ∨ o = 3 ∨ o = 4 ∨ o = 5 ∨ o = 6 ∨ o = 7 ∨ o = 8 ∨ o = 9 ∨ o = 10 ∨ o = 11 ∨ o = 12 ∨ o = 13 ∨ o = 14 ∨ o = 15 ∨ o = 16 ∨ o = 17 ∨ o = 18 ∨ o = 19 ∨ o = 20 ∨ o = 21 ∨ o = 22 ∨ o = 23 ∨ o = 24 ∨ o = 25 ∨ o = 26 ∨ o = 27 ∨ o = 28 ∨ o = 29 := by omega
  rcases hc with rfl | rfl | rfl | rfl | rfl | rfl | rfl | rfl | rfl | rfl | rfl | rfl | rfl | rfl | rfl | rfl | rfl | rfl | rfl | rfl | rfl | rfl | rfl | rfl | rfl | rfl | rfl | rfl | rfl <;> rfl
theorem nm_none (o : Nat) (h : ¬ (1 ≤ o ∧ o ≤ 29)) : (opO o).nm = ⟨#[]⟩ := by
  rcases Nat.eq_zero_or_pos o with h0 | h0
  · subst h0; rfl
  · unfold opO
    rw [Int.toNat_natCast, List.getD_eq_getElem?_getD, List.getElem?_eq_none (by show 30 ≤ o; omega)]
    rfl
set_option maxRecDepth 100000 in
set_option maxHeartbeats 4000000 in
theorem Name_b (o : Nat) (ho : o < 256) (w : World) : Calls Tryd.prog 26 #[.int .u8 o] w fun e w' => e = .returned (.string (opO o).nm) ∧ Below w.heap.size w w' := by
  have cv : IntKind.i64.wrap (o : Int) = (o : Int) := by rw [IntKind.wrap_i64]; omega
  have hb := (Below.refl w.heap.size w).alloc (Nat.le_refl _) (.cells nmsA 9)
  have bk := Blk.new w 9 nmsA
  by_cases h1 : 1 ≤ o
  · by_cases h2 : o ≤ 29
    · have c0 := bk.cell (o - 1)
      rw [nmsA_at o h1 h2] at c0
      obtain ⟨m, hm⟩ : ∃ m, o - 1 = m := ⟨_, rfl⟩
      rw [hm] at c0
      have s1 : IntKind.u8.wrap ((o : Int) - 1) = (m : Int) := by rw [IntKind.wrap_u8]; omega
      have g1 : ¬ (o : Int) < 1 := by omega
      have g2 : ¬ (29 : Int) < (o : Int) := by omega
      have g3 : (m : Int) < 29 := by omega
      have g4 : m < 29 := by omega
      generalize (opO o).nm = s at *
      have HB := hide hb
      clear hm hb
      go_enter Tryd.func26, Tryd.ntmps26
      go_upto_region 2 with (fail)
      rw [show #[.string (⟨#[110, 117, 109]⟩ : ByteArray), .string (⟨#[103, 101, 116]⟩ : ByteArray), .string (⟨#[115, 101, 116]⟩ : ByteArray), .string (⟨#[97, 116]⟩ : ByteArray), .string (⟨#[112, 117, 116]⟩ : ByteArray), .string (⟨#[114, 111, 119]⟩ : ByteArray), .string (⟨#[119, 111, 114, 100]⟩ : ByteArray), .string (⟨#[110, 101, 103]⟩ : ByteArray), .string (⟨#[110, 111, 116]⟩ : ByteArray), .string (⟨#[109, 117, 108]⟩ : ByteArray), .string (⟨#[100, 105, 118]⟩ : ByteArray), .string (⟨#[109, 111, 100]⟩ : ByteArray), .string (⟨#[97, 100, 100]⟩ : ByteArray), .string (⟨#[115, 117, 98]⟩ : ByteArray), .string (⟨#[108, 101, 115, 115]⟩ : ByteArray), .string (⟨#[108, 101, 115, 115, 101, 113]⟩ : ByteArray), .string (⟨#[109, 111, 114, 101]⟩ : ByteArray), .string (⟨#[109, 111, 114, 101, 101, 113]⟩ : ByteArray), .string (⟨#[115, 97, 109, 101]⟩ : ByteArray), .string (⟨#[111, 116, 104, 101, 114]⟩ : ByteArray), .string (⟨#[116, 114, 117, 116, 104]⟩ : ByteArray), .string (⟨#[106, 117, 109, 112]⟩ : ByteArray), .string (⟨#[122, 101, 114, 111]⟩ : ByteArray), .string (⟨#[101, 108, 115, 101]⟩ : ByteArray), .string (⟨#[112, 111, 112]⟩ : ByteArray), .string (⟨#[100, 117, 112]⟩ : ByteArray), .string (⟨#[97, 115, 115, 101, 114, 116]⟩ : ByteArray), .string (⟨#[99, 97, 108, 108]⟩ : ByteArray), .string (⟨#[115, 116, 111, 112]⟩ : ByteArray)] = nmsA from rfl]
      have hsz : w.heap.size < (w.alloc (.cells nmsA 9)).heap.size := by simp
      obtain ⟨w1, hw1⟩ : ∃ x, w.alloc (.cells nmsA 9) = x := ⟨_, rfl⟩
      rw [hw1] at c0 HB hsz ⊢
      clear hw1 bk
      go_wp2_with fail
      go_ret
      exact ⟨rfl, HB.out⟩
    · have E := hide (nm_none o (fun h => h2 h.2))
      have g1 : ¬ (o : Int) < 1 := by omega
      have g2 : (29 : Int) < (o : Int) := by omega
      have HB := hide hb
      clear hb bk
      go_enter Tryd.func26, Tryd.ntmps26
      go_wp2_with fail
      go_ret
      exact ⟨by rw [E.out]; rfl, HB.out⟩
  · have E := hide (nm_none o (fun h => h1 h.1))
    have g1 : (o : Int) < 1 := by omega
    have HB := hide hb
    clear hb bk
    go_enter Tryd.func26, Tryd.ntmps26
    go_wp2_with fail
    go_ret
    exact ⟨by rw [E.out]; rfl, HB.out⟩
/-- What the document's Text tells. -/
def TbPost (cs : List In) (vars : Int) (arrs : List Int) (e : Ending) : Prop :=
  ∃ r, HrR cs vars arrs r ∧ ((r = none ∧ e = .returned (.tuple #[.string ⟨#[]⟩, .int .i64 50])) ∨ (r.isSome = true ∧ e = .returned (.tuple #[.string (bytes (txP vars arrs cs)), .int .i64 0])))
theorem bapp (a b : ByteArray) (x y z : List UInt8) (ha : a = bytes x) (hb : b = bytes y) (hz : x ++ y = z) : a ++ b = bytes z := by rw [ha, hb, bytes_app, hz]
set_option maxRecDepth 100000 in
set_option maxHeartbeats 8000000 in
theorem Text_b (C : Option Addr) (cc : Nat) (cs : List In) (vars : Int) (A : Option Addr) (ca : Nat) (arrs : List Int) (w : World) (hC : CodeAt w C cs) (hA : IntAt w A arrs) (hlc : cs.length ≤ 100000) (hla : arrs.length ≤ 100000) (hv : -9223372036854775808 ≤ vars ∧ vars ≤ 9223372036854775807) (hk : ∀ x ∈ cs, x.ok) (ha : ∀ x ∈ arrs, -9223372036854775808 ≤ x ∧ x ≤ 9223372036854775807) :
    Calls Tryd.prog 12 #[PrV C cs.length cc vars A arrs.length ca] w fun e w' => TbPost cs vars arrs e ∧ Below w.heap.size w w' := by
  have hb1 := (Below.refl w.heap.size w).alloc (Nat.le_refl _) (.cells #[.slice C cs.length cc, .int .i64 vars, .slice A arrs.length ca] 25)
  have k1 := Blk.new w 25 #[.slice C cs.length cc, .int .i64 vars, .slice A arrs.length ca]
  have MY := hide (fun (w' : World) (h1 : CodeAt w' C cs) (h2 : IntAt w' A arrs) => May_b C cc cs vars A ca arrs w' h1 h2 hlc hla)
  have LA := hide (txA_len vars arrs hv ha)
  have LC := hide (txC_len vars arrs cs hv ha hk)
  have HV := hide hv
  have HL := hide (And.intro hlc hla)
  unfold PrV at MY ⊢
  go_enter Tryd.func12, Tryd.ntmps12
  go_upto_region 1 with (fail)
  generalize w.alloc (.cells #[.slice C cs.length cc, .int .i64 vars, .slice A arrs.length ca] 25) = w1 at *
  have HC := hide (hC.below hb1)
  have HA := hide (hA.below hb1)
  have HB := hide hb1
  have HK := hide k1
  have p0 : w1.cell? ⟨w.heap.size, 0, none⟩ = some (.slice C cs.length cc) := k1.cell 0
  have p1 : w1.cell? ⟨w.heap.size, 1, none⟩ = some (.int .i64 vars) := k1.cell 1
  have p2 : w1.cell? ⟨w.heap.size, 2, none⟩ = some (.slice A arrs.length ca) := k1.cell 2
  clear hb1 k1 hC hA hlc hla hv hk ha
  go_wp2_with fail
  refine (MY.out w1 HC.out HA.out).mono ?_
  rintro e w2 ⟨⟨r, hr, rfl⟩, hb2⟩
  have R := hide hr
  have HB2 := hide (HB.out.trans (hb2.mono HB.out.size))
  have HK2 := hide (HK.out.below hb2 HK.out.lt)
  have HC2 := hide (HC.out.below hb2)
  have HA2 := hide (HA.out.below hb2)
  clear hr hb2 MY p0 p1 p2 HB HK HC HA
  cases r with
  | none =>
    go_wp2_with fail
    exact bodyPost_ret (v := .tuple #[.string ⟨#[]⟩, .int .i64 50]) (by simp [results, Tryd.results12, go_sem]) rfl ⟨⟨none, R.out, .inl ⟨rfl, rfl⟩⟩, HB2.out⟩
  | some hs =>
    have p1 : w2.cell? ⟨w.heap.size, 1, none⟩ = some (.int .i64 vars) := HK2.out.cell 1
    have NB := hide (number05_b vars HV.out.1 HV.out.2 w2)
    have z1 : (bytes (itoa vars)).size ≤ 21 := by rw [bytes_size]; exact itoa_length_le _ HV.out.1 HV.out.2
    have E0 : Hid ((⟨#[118, 97, 114, 115, 32]⟩ : ByteArray) ++ bytes (itoa vars) ++ ⟨#[10, 97, 114, 114, 97, 121, 115]⟩ = bytes (txA vars arrs 0)) := hide (bapp _ _ _ _ _ (bapp _ _ _ _ _ (show _ = bytes [118, 97, 114, 115, 32] from rfl) rfl rfl) (show _ = bytes [10, 97, 114, 114, 97, 121, 115] from rfl) (by unfold txA; simp))
    generalize bytes (itoa vars) = T at *
    have l1 : ¬ 9223372036854775807 < 5 + T.size := by omega
    have l2 : ¬ 9223372036854775807 < 5 + T.size + 7 := by omega
    clear z1
    go_wp2_with fail
    refine NB.out.mono ?_
    rintro e w3 ⟨rfl, hb3⟩
    have HK3 := hide (HK2.out.below hb3 HK2.out.lt)
    have HC3 := hide (HC2.out.below hb3)
    have HA3 := hide (HA2.out.below hb3)
    have HB3 := hide (HB2.out.trans (hb3.mono HB2.out.size))
    clear hb3 p1 NB HK2 HC2 HA2 HB2
    obtain ⟨AN, hAN⟩ : ∃ AN, arrs.length = AN := ⟨_, rfl⟩
    have HAN := hide hAN
    have hAB : AN ≤ 100000 := by have := HL.out.2; omega
    obtain ⟨CN, hCN⟩ : ∃ CN, cs.length = CN := ⟨_, rfl⟩
    have HCN := hide hCN
    have hCB : CN ≤ 100000 := by have := HL.out.1; omega
    rw [hAN, hCN] at HK3 ⊢
    clear hAN hCN
    have hl3 := HK3.out.lt
    go_wp2_with fail
    go_loopw [4, 5] (fun v4 v5 wr => ∃ k : Nat, k ≤ AN ∧ v5 = .int .i64 k ∧ v4 = .string (bytes (txA vars arrs k)) ∧ Hid (Below w3.heap.size w3 wr)) (fun _ vi _ => AN - (RowKit.intOf vi).toNat)
    case atStart => exact ⟨0, Nat.zero_le _, rfl, by rw [← E0.out], hide (Below.refl _ _)⟩
    case round =>
      obtain ⟨k, hk2, rfl, rfl, HB6⟩ := hrel
      rename World => wr
      have p2 : wr.cell? ⟨w.heap.size, 2, none⟩ = some (.slice A AN ca) := (HK3.out.below HB6.out HK3.out.lt).cell 2
      have s1 : IntKind.i64.wrap ((k : Int) + 1) = (k : Int) + 1 := by rw [IntKind.wrap_i64]; omega
      by_cases hlt : k < AN
      · have hltI : (k : Int) < (AN : Int) := by omega
        obtain ⟨ad, rfl, hadl, hc⟩ := (HA3.out.below HB6.out) (by have := HAN.out; omega)
        obtain ⟨c0, n0, n1⟩ := hc k (by have := HAN.out; omega)
        have S1 := txA_s vars arrs k (by have := HAN.out; omega)
        have LK := LA.out k (by have := HAN.out; omega)
        obtain ⟨nn, hnn⟩ : ∃ z, arrs[k]'(by have := HAN.out; omega) = z := ⟨_, rfl⟩
        rw [hnn] at c0 n0 n1 S1
        have IT := hide (number05_b nn n0 n1 wr)
        have z1 : (bytes (itoa nn)).size ≤ 21 := by rw [bytes_size]; exact itoa_length_le _ n0 n1
        have z2 : (bytes (txA vars arrs k)).size ≤ 3000000 := by rw [bytes_size]; omega
        have E1 : Hid (bytes (txA vars arrs k) ++ ⟨#[32]⟩ ++ bytes (itoa nn) = bytes (txA vars arrs (k + 1))) := hide (bapp _ _ _ _ _ (bapp _ _ _ _ _ rfl (show _ = bytes [32] from rfl) rfl) rfl (by rw [S1]; simp))
        generalize bytes (itoa nn) = T2 at *
        generalize bytes (txA vars arrs k) = S2 at *
        have l3 : ¬ 9223372036854775807 < S2.size + 1 := by omega
        have l4 : ¬ 9223372036854775807 < S2.size + 1 + T2.size := by omega
        clear hc hnn LK n0 n1 S1 z1 z2
        go_wp2_with fail
        refine IT.out.mono ?_
        rintro e w6 ⟨rfl, hb6⟩
        have HB7 := hide (HB6.out.trans (hb6.mono HB6.out.size))
        clear hb6
        go_wp2_with fail
        go_roundw
        case rel => exact ⟨k + 1, by omega, by simp, by rw [← E1.out], HB7⟩
        case measure => simp [RowKit.intOf] <;> omega
      have hltI : ¬ (k : Int) < (AN : Int) := by omega
      have hkA : k = AN := by omega
      subst hkA
      have p0 : wr.cell? ⟨w.heap.size, 0, none⟩ = some (.slice C CN cc) := (HK3.out.below HB6.out HK3.out.lt).cell 0
      have LK := LA.out k (by have := HAN.out; omega)
      have z2 : (bytes (txA vars arrs k)).size ≤ 3000000 := by rw [bytes_size]; omega
      have E2 : Hid (bytes (txA vars arrs k) ++ ⟨#[10]⟩ = bytes (txC vars arrs cs 0)) := hide (bapp _ _ _ _ _ rfl (show _ = bytes [10] from rfl) (by unfold txC; rw [HAN.out]; simp))
      generalize bytes (txA vars arrs k) = S2 at *
      have l3 : ¬ 9223372036854775807 < S2.size + 1 := by omega
      clear LK z2 hltI hlt
      obtain ⟨w4, hw4⟩ : ∃ z, wr = z := ⟨_, rfl⟩
      rw [hw4] at HB6 p0 p2 ⊢
      clear hw4
      go_wp2_with fail
      go_loopw [4, 6] (fun v4 v6 wr => ∃ j : Nat, j ≤ CN ∧ v6 = .int .i64 j ∧ v4 = .string (bytes (txC vars arrs cs j)) ∧ Hid (Below w3.heap.size w3 wr)) (fun _ vi _ => CN - (RowKit.intOf vi).toNat)
      case atStart => exact ⟨0, Nat.zero_le _, rfl, by rw [← E2.out], HB6⟩
      case round =>
        obtain ⟨j, hj, rfl, rfl, HB8⟩ := hrel
        rename World => wr
        have p0 : wr.cell? ⟨w.heap.size, 0, none⟩ = some (.slice C CN cc) := (HK3.out.below HB8.out HK3.out.lt).cell 0
        have s1 : IntKind.i64.wrap ((j : Int) + 1) = (j : Int) + 1 := by rw [IntKind.wrap_i64]; omega
        by_cases hlt : j < CN
        · have hltI : (j : Int) < (CN : Int) := by omega
          obtain ⟨ad, rfl, hadl, hc⟩ := HC3.out (by have := HCN.out; omega)
          obtain ⟨⟨x0, x1, x2, x3⟩, k0, k1⟩ := hc j (by have := HCN.out; omega)
          have had : (ad.add (j * 2)).block < w3.heap.size := by rw [block_of_add]; exact hadl
          have S1 := txC_s vars arrs cs j (by have := HCN.out; omega)
          have LK := LC.out j (by have := HCN.out; omega)
          obtain ⟨x, hx⟩ : ∃ z, cs[j]'(by have := HCN.out; omega) = z := ⟨_, rfl⟩
          rw [hx] at k0 k1 x0 x1 x2 x3 S1
          obtain ⟨xo, n⟩ := x
          simp only at k0 k1 x0 x1 x2 x3
          obtain ⟨o, rfl⟩ : ∃ o : Nat, xo = (o : Int) := ⟨xo.toNat, by omega⟩
          have HAD := hide (And.intro had (And.intro k0 k1))
          have c0 : wr.cell? (ad.add (j * 2)) = some (.int .u8 (o : Int)) := (HB8.out.cell had).trans k0
          have NM := hide (Name_b o (by omega) wr)
          have nl : (opO o).nm.size ≤ 6 := nm_len o
          have z2 : (bytes (txC vars arrs cs j)).size ≤ 9000000 := by rw [bytes_size]; have := HAN.out; omega
          have il := itoa_length_le n x2 x3
          have z1 : (bytes (itoa n)).size ≤ 21 := by rw [bytes_size]; exact il
          have ELN : (opO o).nm = bytes (opO o).nm.data.toList := by
            cases (opO o).nm
            simp [bytes]
          have E0' : Hid (n = 0 → bytes (txC vars arrs cs j) ++ (opO o).nm ++ ⟨#[10]⟩ = bytes (txC vars arrs cs (j + 1))) := hide (fun hn => bapp _ _ _ _ _ (bapp _ _ _ _ _ rfl ELN rfl) (show _ = bytes [10] from rfl) (by rw [S1]; unfold txI; simp [hn]))
          have E1' : Hid (n ≠ 0 → bytes (txC vars arrs cs j) ++ (opO o).nm ++ ⟨#[32]⟩ ++ bytes (itoa n) ++ ⟨#[10]⟩ = bytes (txC vars arrs cs (j + 1))) := hide (fun hn => bapp _ _ _ _ _ (bapp _ _ _ _ _ (bapp _ _ _ _ _ (bapp _ _ _ _ _ rfl ELN rfl) (show _ = bytes [32] from rfl) rfl) rfl rfl) (show _ = bytes [10] from rfl) (by rw [S1]; unfold txI; simp [hn]))
          have IT := hide (fun w' => number05_b n x2 x3 w')
          generalize bytes (itoa n) = T2 at *
          generalize bytes (txC vars arrs cs j) = S3 at *
          generalize (opO o).nm = NMS at *
          have l4 : ¬ 9223372036854775807 < S3.size + NMS.size := by omega
          have l5 : ¬ 9223372036854775807 < S3.size + NMS.size + 1 := by omega
          have l6 : ¬ 9223372036854775807 < S3.size + NMS.size + 1 + T2.size := by omega
          have l7 : ¬ 9223372036854775807 < S3.size + NMS.size + 1 + T2.size + 1 := by omega
          clear hc hx LK S1 z1 z2 il nl ELN x0 x1 x2 x3 k0 k1 had hadl
          go_wp2_with fail
          refine NM.out.mono ?_
          rintro e w6 ⟨rfl, hb6⟩
          have HB9 := hide (HB8.out.trans (hb6.mono HB8.out.size))
          have p3 : w6.cell? ⟨w.heap.size, 0, none⟩ = some (.slice (some ad) CN cc) := (HK3.out.below HB9.out HK3.out.lt).cell 0
          have c1 : w6.cell? ⟨(ad.add (j * 2)).block, (ad.add (j * 2)).off + 1, none⟩ = some (.int .i64 n) := (HB9.out.cell (p := ⟨_, _, none⟩) HAD.out.1).trans HAD.out.2.2
          clear hb6 c0 NM
          by_cases hn : n = 0
          · have hz : (n != 0) = false := by rw [hn]; rfl
            have E3 := hide (E0'.out hn)
            clear hn
            go_wp2_with fail
            go_roundw
            case rel => exact ⟨j + 1, by omega, by simp, by rw [← E3.out], HB9⟩
            case measure => simp [RowKit.intOf] <;> omega
          · have hz : (n != 0) = true := by rw [bne_iff_ne]; exact hn
            have E3 := hide (E1'.out hn)
            have IT2 := hide (IT.out w6)
            clear hn
            go_wp2_with fail
            refine IT2.out.mono ?_
            rintro e w7 ⟨rfl, hb7⟩
            have HB10 := hide (HB9.out.trans (hb7.mono HB9.out.size))
            clear hb7
            go_wp2_with fail
            go_roundw
            case rel => exact ⟨j + 1, by omega, by simp, by rw [← E3.out], HB10⟩
            case measure => simp [RowKit.intOf] <;> omega
        have hltI : ¬ (j : Int) < (CN : Int) := by omega
        have hjC : j = CN := by omega
        subst hjC
        have TP : Hid (bytes (txC vars arrs cs j) = bytes (txP vars arrs cs)) := hide (by unfold txP; rw [HCN.out])
        rw [TP.out]
        have HB10 := hide (HB3.out.trans (HB8.out.mono HB3.out.size))
        go_wp2_with fail
        exact bodyPost_ret (v := .tuple #[.string (bytes (txP vars arrs cs)), .int .i64 0]) (by simp [results, Tryd.results12, go_sem]) rfl ⟨⟨some hs, R.out, .inr ⟨rfl, rfl⟩⟩, HB10.out⟩
end Cod
end Go.Proofs.YtegpimaakgledaaDoor
