/- The walk of the statement QueueLeft: of any acts; without conditions. -/
import Derived.Test.YtomladbdebfikaaRows
import Derived.Test.YtomladbdebfikaaQuXh
import Derived.Test.YtomladbdebfikaaRelG
import Derived.Test.YtomladbdebfikaaQuietBelow
import Derived.BigQuiet
namespace Go.Proofs.Ytomladbdebfikaa.QueueLeftW
open Go Go.Joins Go.ChangeShapes Go.WideShapes Go.RowKit Go.Deep Go.Lib Go.Proofs.Ytomladbdebfikaa Go.Proofs.Ytomladbdebfikaa.Qu
set_option linter.unusedVariables false
set_option linter.unusedSimpArgs false
def anyF (r : List Int) (f : Int) (k : Nat) : Bool := (r.take k).any fun x => x == f
theorem anyF_step {r : List Int} {f : Int} {k : Nat} {x : Int} (h : r[k]? = some x) : anyF r f (k + 1) = (anyF r f k || (x == f)) := by
  obtain ⟨hl, he⟩ := List.getElem?_eq_some_iff.1 h
  unfold anyF
  rw [List.take_succ_eq_append_getElem hl, he, List.any_append]
  simp
theorem anyF_all {r : List Int} {f : Int} (h : f ∈ r) : anyF r f r.length = true := by
  unfold anyF
  rw [List.take_length, List.any_eq_true]
  exact ⟨f, h, by simp⟩
set_option maxRecDepth 100000 in
set_option maxHeartbeats 32000000 in
theorem walk {H : Type} {enc : TypeId × Value → H} {base : Nat} (W : World) (v0 : Value) (d0 : DataW H) (p0 : List MemPlace) (o0 : Value.okWide Try.prog W .any base 22 v0) (r0 : DataW.Trod enc Try.prog W 0 (fun _ => true) true 22 v0 d0 p0) :
    Calls Try.prog 7 #[v0] W fun e w' => e = .returned (.bool true) ∧ Below W.heap.size W w' := by
  obtain ⟨A, n, cap, F, rfl, hn, hF⟩ := acts_of o0 r0
  have AW := hide (awake_c W)
  have GR := hide (fun (w : World) (h : Acts w A n F) => Great_c cap h)
  have HF := hide hF
  clear o0 r0 hF hn
  go_enter Try.func7, Try.ntmps7
  go_wp2_with fail
  refine AW.out.mono ?_
  rintro e wa ⟨rfl, hba⟩
  have HBA := hide hba
  have G1 := hide (GR.out wa (HF.out.below hba))
  clear hba AW
  cases hg : grt n F with
  | true =>
    rw [hg] at G1
    go_wp2_with fail
    refine G1.out.mono ?_
    rintro e w2 ⟨rfl, hw2⟩
    subst hw2
    go_wp2_with fail
    go_ret
    exact ⟨rfl, HBA.out⟩
  | false =>
  rw [hg] at G1
  have hn2 : n ≤ 200 := by
    unfold grt at hg
    simp at hg
    omega
  have HN2 := hide hn2
  clear hg hn2
  go_wp2_with fail
  refine G1.out.mono ?_
  rintro e w2 ⟨rfl, hw2⟩
  subst hw2
  have NC := hide (New_c wa)
  go_wp2_with fail
  refine NC.out.mono ?_
  rintro e wn ⟨q, L0, rfl, hq, hfo, hbn⟩
  have hbw := HBA.out.trans (hbn.mono HBA.out.size)
  have HQ0 := hide (show Q1 wn W.heap.size q L0 [] from ⟨hq, fun b hb => Nat.le_trans HBA.out.size (hfo b hb)⟩)
  have HB0 := hide hbw
  clear hq hfo hbn hbw NC G1
  go_wp2_with fail
  go_loopw [4, 5, 6, 7, 8, 9] (fun v4 v5 _ _ _ _ wr => ∃ (i : Nat) (l : List Msg) (L : QL) (mn : Nat), i ≤ n ∧ v5 = .int .i64 i ∧ v4 = .int .i64 mn ∧ Hid ((untaken l).length = mn) ∧ Hid (l.length ≤ i) ∧ Hid (Q1 wr W.heap.size q L l) ∧ Hid (Below W.heap.size W wr)) (fun _ v5 _ _ _ _ _ => n - (RowKit.intOf v5).toNat)
  case atStart => exact ⟨0, [], L0, 0, Nat.zero_le _, rfl, rfl, hide rfl, hide (Nat.le_refl _), HQ0, HB0⟩
  case round =>
    obtain ⟨i, l, L, mn, hi, rfl, rfl, HMN, HLL, HQR, HBW⟩ := hrel
    rename World => wr
    have hn1 := HN2.out
    have hmn : mn ≤ 200 := by
      have h1 := untaken_len l
      have := HMN.out
      have := HLL.out
      omega
    have HMNL := hide hmn
    by_cases hlt : i < n
    rotate_left
    · have hltI : ¬ (i : Int) < (n : Int) := by omega
      clear hlt
      have LC := hide (Left_c HQR.out.qs (by have := HLL.out; omega))
      go_wp2_with fail
      refine LC.out.mono ?_
      rintro e w6 ⟨A4, c4, K, rfl, hk, hown, hb6⟩
      have hlen : K.length = mn := by rw [(isLeft_perm hk).length_eq]; exact HMN.out
      rw [hlen]
      rw [hlen] at hown
      have HQ6 := hide (HQR.out.below hb6)
      have HBW6 := hide (HBW.out.trans (hb6.mono HBW.out.size))
      have HK := hide hk
      have MRK := hide (MRow.of_own hown hlen)
      have HCP := hide (own_cap hown)
      have HKL := hide hlen
      have HUQ := hide HQR.out.qs.uq
      have HOK := hide HQR.out.qs.ok
      have HLM := hide (show l.length ≤ 200 by have := HLL.out; omega)
      clear hk hown hb6 hlen LC
      go_wp2_with fail
      go_loopw [11, 12, 13, 14, 15, 16, 17, 18] (fun v11 _ _ _ _ _ _ _ wr => ∃ (i2 : Nat), i2 ≤ mn ∧ v11 = .int .i64 i2 ∧ Hid (Below w6.heap.size w6 wr)) (fun v11 _ _ _ _ _ _ _ _ => mn - (RowKit.intOf v11).toNat)
      case atStart => exact ⟨0, Nat.zero_le _, rfl, hide (Below.refl _ _)⟩
      case round =>
        obtain ⟨i2, hi2, rfl, HB7⟩ := hrel
        rename World => w7
        have hmn1 := HMNL.out
        by_cases hlt2 : i2 < mn
        rotate_left
        · have hltJ : ¬ (i2 : Int) < (mn : Int) := by omega
          have HBE := hide (HBW6.out.trans (HB7.out.mono HBW6.out.size))
          clear hlt2
          go_wp2_with fail
          go_ret
          exact ⟨rfl, HBE.out⟩
        have hltJ : (i2 : Int) < (mn : Int) := by omega
        have hgeJ : (0 : Int) ≤ (i2 : Int) := by omega
        obtain ⟨⟨mk, mf, mt, mc, mg, mv, mz, mb⟩, hm⟩ : ∃ m, K[i2]? = some m := ⟨_, List.getElem?_eq_getElem (by rw [HKL.out]; exact hlt2)⟩
        obtain ⟨g, hA4, hg, hit⟩ := (MRK.out.below HB7.out).it i2 _ hm
        subst hA4
        have n0 : w7.cell? ⟨g, i2 * 8, none⟩ = some (.string mk) := hit 0 _ rfl
        have n1 : w7.cell? ⟨g, i2 * 8 + 1, none⟩ = some (.int .i64 mf) := hit 1 _ rfl
        have n2 : w7.cell? ⟨g, i2 * 8 + 2, none⟩ = some (.int .i64 mt) := hit 2 _ rfl
        have n3 : w7.cell? ⟨g, i2 * 8 + 3, none⟩ = some (.int .i64 mc) := hit 3 _ rfl
        have n4 : w7.cell? ⟨g, i2 * 8 + 4, none⟩ = some (.int .i64 mg) := hit 4 _ rfl
        have n5 : w7.cell? ⟨g, i2 * 8 + 5, none⟩ = some (.int .i64 mv) := hit 5 _ rfl
        have n6 : w7.cell? ⟨g, i2 * 8 + 6, none⟩ = some (.int .i64 mz) := hit 6 _ rfl
        have n7 : w7.cell? ⟨g, i2 * 8 + 7, none⟩ = some (.bool mb) := hit 7 _ rfl
        obtain ⟨hml, hmt⟩ := left_mem HK.out (List.mem_of_getElem? hm)
        obtain rfl : false = mb := hmt.symm
        obtain ⟨pi, _, _, hfind⟩ := find_it HUQ.out hml
        have hwho : (Msg.who ⟨mk, mf, mt, mc, mg, mv, mz, false⟩) = ⟨mf, mc⟩ := rfl
        rw [hwho] at hfind
        have hok := HOK.out _ hml
        have hsin := sender_in hml hmt ⟨hok.1, hok.2.1⟩
        have hah := ahead_left HUQ.out HK.out hm
        rw [hwho] at hah
        have hQ7 := HQ6.out.below HB7.out
        have HM2 := hide hm
        have HFI := hide hfind
        have HSI := hide hsin
        have HAH := hide hah
        have HLT2 := hide hlt2
        -- the message's box
        have ba := (Below.refl w7.heap.size w7).alloc (Nat.le_refl _) (.cells #[.string mk, .int .i64 mf, .int .i64 mt, .int .i64 mc, .int .i64 mg, .int .i64 mv, .int .i64 mz, .bool false] 31)
        have kx := Blk.new w7 31 #[.string mk, .int .i64 mf, .int .i64 mt, .int .i64 mc, .int .i64 mg, .int .i64 mv, .int .i64 mz, .bool false]
        obtain ⟨w8, hw8⟩ : ∃ z, w7.alloc (.cells #[.string mk, .int .i64 mf, .int .i64 mt, .int .i64 mc, .int .i64 mg, .int .i64 mv, .int .i64 mz, .bool false] 31) = z := ⟨_, rfl⟩
        obtain ⟨X12, hX⟩ : ∃ z, w7.heap.size = z := ⟨_, rfl⟩
        rw [hw8] at ba kx
        have HB8 := hide (HB7.out.trans (ba.mono HB7.out.size))
        rw [hX] at kx
        have KX := hide kx
        have HE := hide (And.intro hw8 hX)
        clear ba kx hw8 hX hit hg hm hml hmt hfind hwho hok hsin hah hQ7 hlt2
        go_upto_region 27 with (fail)
        rw [HE.out.1, HE.out.2]
        clear HE n0 n1 n2 n3 n4 n5 n6 n7
        have y1 : w8.cell? ⟨X12, 1, none⟩ = some (.int .i64 mf) := KX.out.cell 1
        have y3 : w8.cell? ⟨X12, 3, none⟩ = some (.int .i64 mc) := KX.out.cell 3
        have FD : Hid (Calls Try.prog 20 #[.pointer (some ⟨q, 0, none⟩), .int .i64 mf, .int .i64 mc] w8 fun e w' => e = .returned (.tuple #[.agg #[.string mk, .int .i64 mf, .int .i64 mt, .int .i64 mc, .int .i64 mg, .int .i64 mv, .int .i64 mz, .bool false], .bool true]) ∧ Below w8.heap.size w8 w') := hide (by
          have := Find_c (HQ6.out.below HB8.out).qs ⟨mf, mc⟩ (by have := HLM.out; omega)
          unfold tellV at this
          rw [HFI.out] at this
          exact this)
        go_wp2_with fail
        refine FD.out.mono ?_
        rintro e w9 ⟨rfl, hb9⟩
        have ba := (Below.refl w9.heap.size w9).alloc (Nat.le_refl _) (.cells #[.string mk, .int .i64 mf, .int .i64 mt, .int .i64 mc, .int .i64 mg, .int .i64 mv, .int .i64 mz, .bool false] 31)
        have kx := Blk.new w9 31 #[.string mk, .int .i64 mf, .int .i64 mt, .int .i64 mc, .int .i64 mg, .int .i64 mv, .int .i64 mz, .bool false]
        obtain ⟨w10, hw10⟩ : ∃ z, w9.alloc (.cells #[.string mk, .int .i64 mf, .int .i64 mt, .int .i64 mc, .int .i64 mg, .int .i64 mv, .int .i64 mz, .bool false] 31) = z := ⟨_, rfl⟩
        obtain ⟨X13, hX⟩ : ∃ z, w9.heap.size = z := ⟨_, rfl⟩
        rw [hw10] at ba kx
        have hbx := hb9.trans (ba.mono hb9.size)
        rw [hX] at kx
        have HB10 := hide (HB8.out.trans (hbx.mono HB8.out.size))
        have KX := hide (KX.out.below hbx KX.out.lt)
        have KZ := hide kx
        have HE := hide (And.intro hw10 hX)
        clear hb9 ba kx hw10 hX hbx FD y1 y3
        go_upto_region 28 with (fail)
        rw [HE.out.1, HE.out.2]
        clear HE
        go_cut [137] from 101 to 136 (fun x wx => x = .bool false ∧ Hid (Below w10.heap.size w10 wx))
        case first =>
          have u0 : w10.cell? ⟨X12, 0, none⟩ = some (.string mk) := KX.out.cell 0
          have u1 : w10.cell? ⟨X12, 1, none⟩ = some (.int .i64 mf) := KX.out.cell 1
          have u2 : w10.cell? ⟨X12, 2, none⟩ = some (.int .i64 mt) := KX.out.cell 2
          have u3 : w10.cell? ⟨X12, 3, none⟩ = some (.int .i64 mc) := KX.out.cell 3
          have u4 : w10.cell? ⟨X12, 4, none⟩ = some (.int .i64 mg) := KX.out.cell 4
          have u5 : w10.cell? ⟨X12, 5, none⟩ = some (.int .i64 mv) := KX.out.cell 5
          have u6 : w10.cell? ⟨X12, 6, none⟩ = some (.int .i64 mz) := KX.out.cell 6
          have u7 : w10.cell? ⟨X12, 7, none⟩ = some (.bool false) := KX.out.cell 7
          have s0 : w10.cell? ⟨X13, 0, none⟩ = some (.string mk) := KZ.out.cell 0
          have s1 : w10.cell? ⟨X13, 1, none⟩ = some (.int .i64 mf) := KZ.out.cell 1
          have s2 : w10.cell? ⟨X13, 2, none⟩ = some (.int .i64 mt) := KZ.out.cell 2
          have s3 : w10.cell? ⟨X13, 3, none⟩ = some (.int .i64 mc) := KZ.out.cell 3
          have s4 : w10.cell? ⟨X13, 4, none⟩ = some (.int .i64 mg) := KZ.out.cell 4
          have s5 : w10.cell? ⟨X13, 5, none⟩ = some (.int .i64 mv) := KZ.out.cell 5
          have s6 : w10.cell? ⟨X13, 6, none⟩ = some (.int .i64 mz) := KZ.out.cell 6
          have s7 : w10.cell? ⟨X13, 7, none⟩ = some (.bool false) := KZ.out.cell 7
          have hs := str_eq mk
          rcases Nat.eq_zero_or_pos i2 with h0 | h0
          · subst h0
            go_quiet (fail)
            go_wp2_with fail
            go_meet
            exact ⟨rfl, hide (below_drewN (Below.refl _ _) _)⟩
          · obtain ⟨p, hp⟩ : ∃ p, i2 = p + 1 := ⟨i2 - 1, by omega⟩
            have hpI : (i2 : Int) - 1 = (p : Int) := by omega
            have hplt : (p : Int) < (mn : Int) := by omega
            have hpge : (0 : Int) ≤ (p : Int) := by omega
            have h0I : (0 : Int) < (i2 : Int) := by omega
            obtain ⟨⟨pk, pf, pt, pc, pg, pv, pz, pb⟩, hpm⟩ : ∃ m, K[p]? = some m := ⟨_, List.getElem?_eq_getElem (by rw [HKL.out]; omega)⟩
            have hap := left_apart HUQ.out HK.out hpm (by rw [← hp]; exact HM2.out)
            simp only at hap
            obtain ⟨g', hg', _, hit⟩ := (MRK.out.below HB10.out).it p _ hpm
            cases hg'
            have q1 : w10.cell? ⟨g, p * 8 + 1, none⟩ = some (.int .i64 pf) := hit 1 _ rfl
            have q3 : w10.cell? ⟨g, p * 8 + 3, none⟩ = some (.int .i64 pc) := hit 3 _ rfl
            have HP := hide hp
            clear hit hpm hp
            by_cases hpf : pf = mf
            · have e1 : (pf == mf) = true := by simpa using hpf
              have e3 : (pc == mc) = false := by
                rw [beq_eq_false_iff_ne]
                exact fun h => hap ⟨hpf, h⟩
              clear hap hpf
              go_quiet (fail)
              go_wp2_with fail
              go_meet
              exact ⟨rfl, hide (below_drewN (Below.refl _ _) _)⟩
            · have e1 : (pf == mf) = false := by simpa using hpf
              clear hap hpf
              go_quiet (fail)
              go_wp2_with fail
              go_meet
              exact ⟨rfl, hide (below_drewN (Below.refl _ _) _)⟩
        obtain ⟨rfl, HBC⟩ := hcut
        rename World => w11
        have HB11 := hide (HB10.out.trans (HBC.out.mono HB10.out.size))
        have KX := hide (KX.out.below HBC.out KX.out.lt)
        clear HBC KZ
        have y0 : w11.cell? ⟨X12, 0, none⟩ = some (.string mk) := KX.out.cell 0
        have y2 : w11.cell? ⟨X12, 2, none⟩ = some (.int .i64 mt) := KX.out.cell 2
        obtain ⟨sn, hsn⟩ : ∃ z, sendersL l ⟨mk, mt⟩ = z := ⟨_, rfl⟩
        obtain ⟨ns, hns⟩ : ∃ z, sn.length = z := ⟨_, rfl⟩
        have HSN := hide (show sn.length = ns ∧ ns ≤ 64 from ⟨hns, by
          rw [← hns, ← hsn]
          exact Nat.le_trans (List.length_filter_le _ _) (by simp [upto])⟩)
        have HIN := hide (show mf ∈ sn by rw [← hsn]; exact HSI.out)
        have SE : Hid (Calls Try.prog 27 #[.pointer (some ⟨q, 0, none⟩), .string mk, .int .i64 mt] w11 fun e w' => ∃ A1 c1, e = .returned (.slice A1 ns c1) ∧ NRow w' A1 sn ∧ Below w11.heap.size w11 w') := hide (by
          refine (Senders_c (HQ6.out.below HB11.out).qs ⟨mk, mt⟩ (by have := HLM.out; omega)).mono ?_
          rintro e w' ⟨A1, c1, he, hown, hb⟩
          rw [hsn, hns] at he
          rw [hsn] at hown
          exact ⟨A1, c1, he, NRow.of_own hown rfl, hb⟩)
        clear hsn hns
        go_wp2_with fail
        refine SE.out.mono ?_
        rintro e w12 ⟨A5, c5, rfl, hrow5, hb12⟩
        have HB12 := hide (HB11.out.trans (hb12.mono HB11.out.size))
        have KX := hide (KX.out.below hb12 KX.out.lt)
        have HR5 := hide hrow5
        clear hb12 hrow5 SE y0 y2
        go_wp2_with fail
        go_loopw [16, 17] (fun v16 v17 wr => ∃ (k : Nat), k ≤ ns ∧ v17 = .int .i64 k ∧ v16 = .bool (anyF sn mf k) ∧ Hid (Below w12.heap.size w12 wr)) (fun _ v17 _ => ns - (RowKit.intOf v17).toNat)
        case atStart => exact ⟨0, Nat.zero_le _, rfl, rfl, hide (Below.refl _ _)⟩
        case round =>
          obtain ⟨k, hk, rfl, rfl, HBK⟩ := hrel
          rename World => wk
          have hns1 := HSN.out.2
          by_cases hltk : k < ns
          rotate_left
          · have hltK : ¬ (k : Int) < (ns : Int) := by omega
            obtain rfl : ns = k := by omega
            have hany : anyF sn mf ns = true := by rw [← HSN.out.1]; exact anyF_all HIN.out
            rw [hany]
            clear hltk hany hk
            have HB13 := hide (HB12.out.trans (HBK.out.mono HB12.out.size))
            have KX := hide (KX.out.below HBK.out KX.out.lt)
            obtain ⟨ah, hah⟩ : ∃ z, aheadL l ⟨mf, mc⟩ = z := ⟨_, rfl⟩
            obtain ⟨na, hna⟩ : ∃ z, ah.length = z := ⟨_, rfl⟩
            have HAL2 := hide (show ah.length = na ∧ na ≤ 200 from ⟨hna, by
              have h1 : (aheadL l ⟨mf, mc⟩).length ≤ l.length := by
                unfold aheadL
                split
                · simp
                · exact Nat.le_trans (List.length_filter_le _ _) (by rw [List.length_take]; omega)
              rw [hah, hna] at h1
              have := HLM.out
              omega⟩)
            obtain ⟨wq, hwq⟩ : ∃ z, wk = z := ⟨_, rfl⟩
            subst hwq
            have HBQ := hide HBK.out
            have OFC : Hid (∀ wx, Below wk.heap.size wk wx → Calls Try.prog 30 #[.slice (some ⟨g, 0, none⟩) i2 c4, .string mk, .int .i64 mf, .int .i64 mt] wx fun e w' => ∃ A1 c1, e = .returned (.slice A1 na c1) ∧ w'.ownsRow 0 31 8 (.slice A1 na c1) na (msgCs ah) ∧ Below wx.heap.size wx w') := hide (fun wx hb => by
              have hr := (MRK.out.below (HB13.out.trans (hb.mono HB13.out.size))).take i2
              refine (of_c (some ⟨g, 0, none⟩) c4 i2 (K.take i2) ⟨mk, mf, mt⟩ hr (by rw [List.length_take, HKL.out]; have := HLT2.out; omega) (by have := HLT2.out; have := HMNL.out; omega)).mono ?_
              rintro e w' ⟨A1, c1, he, hown, hbb⟩
              have he2 : ofL (K.take i2) ⟨mk, mf, mt⟩ = ah := by rw [← hah]; exact HAH.out.symm
              rw [he2, hna] at he hown
              exact ⟨A1, c1, he, own_more hown (Nat.zero_le _), hbb⟩)
            have AHC : Hid (∀ wx, Below wk.heap.size wk wx → Calls Try.prog 24 #[.pointer (some ⟨q, 0, none⟩), .agg #[.string mk, .int .i64 mf, .int .i64 mt, .int .i64 mc, .int .i64 mg, .int .i64 mv, .int .i64 mz, .bool false]] wx fun e w' => ∃ A1 c1, e = .returned (.slice A1 na c1) ∧ MRow w' A1 ah ∧ Below wx.heap.size wx w') := hide (fun wx hb => by
              refine (Ahead_c (HQ6.out.below (HB13.out.trans (hb.mono HB13.out.size))).qs ⟨mk, mf, mt, mc, mg, mv, mz, false⟩ (by have := HLM.out; omega)).mono ?_
              rintro e w' ⟨A1, c1, he, hown, hbb⟩
              have hah' : aheadL l (Msg.who ⟨mk, mf, mt, mc, mg, mv, mz, false⟩) = ah := hah
              rw [hah', hna] at he
              rw [hah'] at hown
              exact ⟨A1, c1, he, MRow.of_own hown rfl, hbb⟩)
            have hcap1 : mn ≤ c4 := HCP.out
            have hcapI : (i2 : Int) ≤ (c4 : Int) := by omega
            clear hah hna
            go_upto_region 36 with (fail)
            let R : Nat → Value → World → Prop := fun sl u w1 => match sl with
              | 18 => ∃ A1 c1, u = .slice A1 na c1 ∧ w1.ownsRow 0 31 8 (.slice A1 na c1) na (msgCs ah)
              | 160 => u = .slice (some ⟨g, 0, none⟩) mn c4
              | 161 => u = .int .i64 i2
              | 162 => u = .slice (some ⟨g, 0, none⟩) i2 c4
              | 163 => u = .pointer (some ⟨X12, 0, none⟩)
              | 164 => u = .string mk
              | 165 => u = .pointer (some ⟨X12, 1, none⟩)
              | 166 => u = .int .i64 mf
              | 167 => u = .pointer (some ⟨X12, 2, none⟩)
              | 168 => u = .int .i64 mt
              | 169 => ∃ A1 c1, u = .slice A1 na c1 ∧ w1.ownsRow 0 31 8 (.slice A1 na c1) na (msgCs ah)
              | _ => True
            refine wp_region_relGW [] R (fun a b => Below a.heap.size a b) (fun _ w => Below wk.heap.size wk w) (by kernel_rfl) (by kernel_rfl) (by kernel_rfl) (by kernel_rfl) ?mono (fun w => Below.refl _ _) ((Below.refl _ _).drew) ?gs ?step ?fin
            case mono =>
              intro sl u wx wy h hk
              match sl with
              | 169 =>
                obtain ⟨A1, c1, h1, h2⟩ := h
                exact ⟨A1, c1, h1, own_belowR h2 hk⟩
              | 18 =>
                obtain ⟨A1, c1, h1, h2⟩ := h
                exact ⟨A1, c1, h1, own_belowR h2 hk⟩
              | 0 | 1 | 2 | 3 | 4 | 5 | 6 | 7 | 8 | 9 | 10 | 11 | 12 | 13 | 14 | 15 | 16 | 17 | 19 | 20 | 21 | 22 | 23 | 24 | 25 | 26 | 27 | 28 | 29 | 30 | 31 | 32 | 33 | 34 | 35 | 36 | 37 | 38 | 39 | 40 | 41 | 42 | 43 | 44 | 45 | 46 | 47 | 48 | 49 | 50 | 51 | 52 | 53 | 54 | 55 | 56 | 57 | 58 | 59 | 60 | 61 | 62 | 63 | 64 | 65 | 66 | 67 | 68 | 69 | 70 | 71 | 72 | 73 | 74 | 75 | 76 | 77 | 78 | 79 | 80 | 81 | 82 | 83 | 84 | 85 | 86 | 87 | 88 | 89 | 90 | 91 | 92 | 93 | 94 | 95 | 96 | 97 | 98 | 99 | 100 | 101 | 102 | 103 | 104 | 105 | 106 | 107 | 108 | 109 | 110 | 111 | 112 | 113 | 114 | 115 | 116 | 117 | 118 | 119 | 120 | 121 | 122 | 123 | 124 | 125 | 126 | 127 | 128 | 129 | 130 | 131 | 132 | 133 | 134 | 135 | 136 | 137 | 138 | 139 | 140 | 141 | 142 | 143 | 144 | 145 | 146 | 147 | 148 | 149 | 150 | 151 | 152 | 153 | 154 | 155 | 156 | 157 | 158 | 159 | 160 | 161 | 162 | 163 | 164 | 165 | 166 | 167 | 168 | _ + 170 => exact h
            case gs =>
              intro p hp u w1 h
              cases hp
            case step =>
              intro j o ho
              match j, ho with
              | 0, ho =>
                cases ho
                intro V aa wx hV hdep hval hj hsm hr
                have e10 : aa.tmps.getD 10 undef = .slice (some ⟨g, 0, none⟩) mn c4 := hsm 10 (by decide)
                rw [Array.getD_eq_getD_getElem?] at e10
                unfold Oper.wp
                simp only [execOp, Act.eval, Array.getD_eq_getD_getElem?, e10]
                go_simp
                first | exact ⟨_, rfl, rfl, Below.refl _ _⟩ | exact ⟨_, rfl, rfl, Below.refl _ _, hj⟩ | exact ⟨_, rfl, Below.refl _ _, hj⟩ | exact ⟨_, rfl, hj⟩
              | 1, ho =>
                cases ho
                intro V aa wx hV hdep hval hj hsm hr
                have e11 : aa.tmps.getD 11 undef = .int .i64 i2 := hsm 11 (by decide)
                rw [Array.getD_eq_getD_getElem?] at e11
                unfold Oper.wp
                simp only [execOp, Act.eval, Array.getD_eq_getD_getElem?, e11]
                go_simp
                first | exact ⟨_, rfl, rfl, Below.refl _ _⟩ | exact ⟨_, rfl, rfl, Below.refl _ _, hj⟩ | exact ⟨_, rfl, Below.refl _ _, hj⟩ | exact ⟨_, rfl, hj⟩
              | 2, ho =>
                cases ho
                intro V aa wx hV hdep hval hj hsm hr
                have e160 : aa.tmps.getD 160 undef = .slice (some ⟨g, 0, none⟩) mn c4 := hr 160 (by decide) (by apply Array.mem_toList_iff.1; repeat (first | exact List.Mem.head _ | apply List.Mem.tail))
                have e161 : aa.tmps.getD 161 undef = .int .i64 i2 := hr 161 (by decide) (by apply Array.mem_toList_iff.1; repeat (first | exact List.Mem.head _ | apply List.Mem.tail))
                rw [Array.getD_eq_getD_getElem?] at e160
                rw [Array.getD_eq_getD_getElem?] at e161
                unfold Oper.wp
                simp only [execOp, Act.eval, Array.getD_eq_getD_getElem?, e160, e161]
                go_simp
                first | exact ⟨_, rfl, rfl, Below.refl _ _⟩ | exact ⟨_, rfl, rfl, Below.refl _ _, hj⟩ | exact ⟨_, rfl, Below.refl _ _, hj⟩ | exact ⟨_, rfl, hj⟩
              | 3, ho =>
                cases ho
                intro V aa wx hV hdep hval hj hsm hr
                have e12 : aa.tmps.getD 12 undef = .pointer (some ⟨X12, 0, none⟩) := hsm 12 (by decide)
                rw [Array.getD_eq_getD_getElem?] at e12
                unfold Oper.wp
                simp only [execOp, Act.eval, Array.getD_eq_getD_getElem?, e12]
                go_simp
                first | exact ⟨_, rfl, rfl, Below.refl _ _⟩ | exact ⟨_, rfl, rfl, Below.refl _ _, hj⟩ | exact ⟨_, rfl, Below.refl _ _, hj⟩ | exact ⟨_, rfl, hj⟩
              | 4, ho =>
                cases ho
                intro V aa wx hV hdep hval hj hsm hr
                have e163 : aa.tmps.getD 163 undef = .pointer (some ⟨X12, 0, none⟩) := hr 163 (by decide) (by apply Array.mem_toList_iff.1; repeat (first | exact List.Mem.head _ | apply List.Mem.tail))
                have hk := KX.out.below hj KX.out.lt
                have x0 : wx.cell? ⟨X12, 0, none⟩ = some (.string mk) := hk.cell 0
                rw [Array.getD_eq_getD_getElem?] at e163
                unfold Oper.wp
                simp only [execOp, Act.eval, Array.getD_eq_getD_getElem?, e163]
                go_simp
                first | exact ⟨_, rfl, rfl, Below.refl _ _⟩ | exact ⟨_, rfl, rfl, Below.refl _ _, hj⟩ | exact ⟨_, rfl, Below.refl _ _, hj⟩ | exact ⟨_, rfl, hj⟩
              | 5, ho =>
                cases ho
                intro V aa wx hV hdep hval hj hsm hr
                have e12 : aa.tmps.getD 12 undef = .pointer (some ⟨X12, 0, none⟩) := hsm 12 (by decide)
                rw [Array.getD_eq_getD_getElem?] at e12
                unfold Oper.wp
                simp only [execOp, Act.eval, Array.getD_eq_getD_getElem?, e12]
                go_simp
                first | exact ⟨_, rfl, rfl, Below.refl _ _⟩ | exact ⟨_, rfl, rfl, Below.refl _ _, hj⟩ | exact ⟨_, rfl, Below.refl _ _, hj⟩ | exact ⟨_, rfl, hj⟩
              | 6, ho =>
                cases ho
                intro V aa wx hV hdep hval hj hsm hr
                have e165 : aa.tmps.getD 165 undef = .pointer (some ⟨X12, 1, none⟩) := hr 165 (by decide) (by apply Array.mem_toList_iff.1; repeat (first | exact List.Mem.head _ | apply List.Mem.tail))
                have hk := KX.out.below hj KX.out.lt
                have x1 : wx.cell? ⟨X12, 1, none⟩ = some (.int .i64 mf) := hk.cell 1
                rw [Array.getD_eq_getD_getElem?] at e165
                unfold Oper.wp
                simp only [execOp, Act.eval, Array.getD_eq_getD_getElem?, e165]
                go_simp
                first | exact ⟨_, rfl, rfl, Below.refl _ _⟩ | exact ⟨_, rfl, rfl, Below.refl _ _, hj⟩ | exact ⟨_, rfl, Below.refl _ _, hj⟩ | exact ⟨_, rfl, hj⟩
              | 7, ho =>
                cases ho
                intro V aa wx hV hdep hval hj hsm hr
                have e12 : aa.tmps.getD 12 undef = .pointer (some ⟨X12, 0, none⟩) := hsm 12 (by decide)
                rw [Array.getD_eq_getD_getElem?] at e12
                unfold Oper.wp
                simp only [execOp, Act.eval, Array.getD_eq_getD_getElem?, e12]
                go_simp
                first | exact ⟨_, rfl, rfl, Below.refl _ _⟩ | exact ⟨_, rfl, rfl, Below.refl _ _, hj⟩ | exact ⟨_, rfl, Below.refl _ _, hj⟩ | exact ⟨_, rfl, hj⟩
              | 8, ho =>
                cases ho
                intro V aa wx hV hdep hval hj hsm hr
                have e167 : aa.tmps.getD 167 undef = .pointer (some ⟨X12, 2, none⟩) := hr 167 (by decide) (by apply Array.mem_toList_iff.1; repeat (first | exact List.Mem.head _ | apply List.Mem.tail))
                have hk := KX.out.below hj KX.out.lt
                have x2 : wx.cell? ⟨X12, 2, none⟩ = some (.int .i64 mt) := hk.cell 2
                rw [Array.getD_eq_getD_getElem?] at e167
                unfold Oper.wp
                simp only [execOp, Act.eval, Array.getD_eq_getD_getElem?, e167]
                go_simp
                first | exact ⟨_, rfl, rfl, Below.refl _ _⟩ | exact ⟨_, rfl, rfl, Below.refl _ _, hj⟩ | exact ⟨_, rfl, Below.refl _ _, hj⟩ | exact ⟨_, rfl, hj⟩
              | 9, ho =>
                cases ho
                intro V aa wx hV hdep hval hj hsm hr
                have e162 : aa.tmps.getD 162 undef = .slice (some ⟨g, 0, none⟩) i2 c4 := hr 162 (by decide) (by apply Array.mem_toList_iff.1; repeat (first | exact List.Mem.head _ | apply List.Mem.tail))
                have e164 : aa.tmps.getD 164 undef = .string mk := hr 164 (by decide) (by apply Array.mem_toList_iff.1; repeat (first | exact List.Mem.head _ | apply List.Mem.tail))
                have e166 : aa.tmps.getD 166 undef = .int .i64 mf := hr 166 (by decide) (by apply Array.mem_toList_iff.1; repeat (first | exact List.Mem.head _ | apply List.Mem.tail))
                have e168 : aa.tmps.getD 168 undef = .int .i64 mt := hr 168 (by decide) (by apply Array.mem_toList_iff.1; repeat (first | exact List.Mem.head _ | apply List.Mem.tail))
                rw [Array.getD_eq_getD_getElem?] at e162
                rw [Array.getD_eq_getD_getElem?] at e164
                rw [Array.getD_eq_getD_getElem?] at e166
                rw [Array.getD_eq_getD_getElem?] at e168
                unfold Oper.wp
                simp only [execOp, Act.eval, Array.getD_eq_getD_getElem?, e162, e164, e166, e168]
                go_simp
                refine (OFC.out wx hj).mono ?_
                rintro e w' ⟨A1, c1, rfl, hown, hb⟩
                exact ⟨_, rfl, ⟨A1, c1, rfl, hown⟩, hb, hj.trans (hb.mono hj.size)⟩
              | 10, ho =>
                cases ho
                intro V aa wx hV hdep hval hj hsm hr
                have r169 := hr 169 (by decide) (by apply Array.mem_toList_iff.1; repeat (first | exact List.Mem.head _ | apply List.Mem.tail))
                obtain ⟨A1, c1, hx169, hown⟩ := r169
                have e169 : aa.tmps.getD 169 undef = .slice A1 na c1 := hx169
                rw [Array.getD_eq_getD_getElem?] at e169
                unfold Oper.wp
                simp only [execOp, Act.eval, Array.getD_eq_getD_getElem?, e169]
                go_simp
                first | exact ⟨_, rfl, ⟨A1, c1, rfl, hown⟩, Below.refl _ _⟩ | exact ⟨_, rfl, ⟨A1, c1, rfl, hown⟩, Below.refl _ _, hj⟩ | exact ⟨_, rfl, Below.refl _ _, hj⟩ | exact ⟨rfl, Below.refl _ _, hj⟩ | exact ⟨_, rfl, hj⟩
              | _ + 11, ho => cases ho
            case fin =>
              intro ff V wz hV hj hr
              have e18 : ∃ A1 c1, ff 18 = .slice A1 na c1 ∧ wz.ownsRow 0 31 8 (.slice A1 na c1) na (msgCs ah) := hr 18 (by decide)
              obtain ⟨A6, c6, e18, hown6⟩ := e18
              have HJ := hide hj
              have OW6 := hide hown6
              have KX2 := hide (KX.out.below hj KX.out.lt)
              have AC := hide (AHC.out wz hj)
              clear hV hr hj hown6
              simp only [putAll, slotsOf, List.filterMap_cons, List.filterMap_nil, List.foldl_cons, List.foldl_nil, Act.put, e18]
              simp only [List.setIfInBounds_toArray, List.set_cons_succ, List.set_cons_zero]
              have u0 : wz.cell? ⟨X12, 0, none⟩ = some (.string mk) := KX2.out.cell 0
              have u1 : wz.cell? ⟨X12, 1, none⟩ = some (.int .i64 mf) := KX2.out.cell 1
              have u2 : wz.cell? ⟨X12, 2, none⟩ = some (.int .i64 mt) := KX2.out.cell 2
              have u3 : wz.cell? ⟨X12, 3, none⟩ = some (.int .i64 mc) := KX2.out.cell 3
              have u4 : wz.cell? ⟨X12, 4, none⟩ = some (.int .i64 mg) := KX2.out.cell 4
              have u5 : wz.cell? ⟨X12, 5, none⟩ = some (.int .i64 mv) := KX2.out.cell 5
              have u6 : wz.cell? ⟨X12, 6, none⟩ = some (.int .i64 mz) := KX2.out.cell 6
              have u7 : wz.cell? ⟨X12, 7, none⟩ = some (.bool false) := KX2.out.cell 7
              go_wp2_with fail
              refine AC.out.mono ?_
              rintro e w15 ⟨A7, c7, rfl, hr7, hb15⟩
              have SM := hide (Same_b A7 A6 c7 c6 na ah hr7 (MRow.of_own (own_belowR OW6.out hb15) HAL2.out.1) HAL2.out.1 (by have := HAL2.out.2; omega))
              have HB15 := hide ((HB13.out.trans (HJ.out.mono HB13.out.size)).trans (hb15.mono (HB13.out.trans (HJ.out.mono HB13.out.size)).size))
              clear hr7 hb15 AC u0 u1 u2 u3 u4 u5 u6 u7
              go_wp2_with fail
              refine SM.out.mono ?_
              rintro e w16 ⟨rfl, hb16⟩
              have HB16 := hide (HB15.out.trans (hb16.mono HB15.out.size))
              clear hb16 SM
              go_wp2_with fail
              go_roundw
              case rel => exact ⟨i2 + 1, HLT2.out, by go_num, HB16⟩
              case measure => have := HLT2.out; simp [RowKit.intOf] <;> omega
          have hltK : (k : Int) < (ns : Int) := by omega
          have hgeK : (0 : Int) ≤ (k : Int) := by omega
          obtain ⟨f, hf⟩ : ∃ f, sn[k]? = some f := ⟨_, List.getElem?_eq_getElem (by rw [HSN.out.1]; exact hltk)⟩
          obtain ⟨gs, rfl, _, ck⟩ := (HR5.out.below HBK.out).it k f hf
          have y1 : wk.cell? ⟨X12, 1, none⟩ = some (.int .i64 mf) := (KX.out.below HBK.out KX.out.lt).cell 1
          have HST := hide (anyF_step (f := mf) hf)
          have HLTK := hide hltk
          have HBK2 := hide (fun j => below_drewN HBK.out j)
          clear hltk hf
          cases han : anyF sn mf k with
          | true =>
            rw [han] at HST
            have HU : Hid (anyF sn mf (k + 1) = true) := hide (by rw [HST.out]; rfl)
            clear han
            go_wp2_with fail
            go_quiet (fail)
            go_wp2_with fail
            go_roundw
            case rel => exact ⟨k + 1, HLTK.out, by go_num, by rw [HU.out], hide (HBK2.out _)⟩
            case measure => have := HLTK.out; simp [RowKit.intOf] <;> omega
          | false =>
            rw [han] at HST
            clear han
            by_cases hfm : f = mf
            · have e1 : (f == mf) = true := by simpa using hfm
              have HU : Hid (anyF sn mf (k + 1) = true) := hide (by rw [HST.out, e1]; rfl)
              clear hfm
              go_wp2_with fail
              go_quiet (fail)
              go_wp2_with fail
              go_roundw
              case rel => exact ⟨k + 1, HLTK.out, by go_num, by rw [HU.out], hide (HBK2.out _)⟩
              case measure => have := HLTK.out; simp [RowKit.intOf] <;> omega
            · have e1 : (f == mf) = false := by simpa using hfm
              have HU : Hid (anyF sn mf (k + 1) = false) := hide (by rw [HST.out, e1]; rfl)
              clear hfm
              go_wp2_with fail
              go_quiet (fail)
              go_wp2_with fail
              go_roundw
              case rel => exact ⟨k + 1, HLTK.out, by go_num, by rw [HU.out], hide (HBK2.out _)⟩
              case measure => have := HLTK.out; simp [RowKit.intOf] <;> omega
    have hltI : (i : Int) < (n : Int) := by omega
    have hge : (0 : Int) ≤ (i : Int) := by omega
    obtain ⟨a, rfl, k0, k1, c0, hc⟩ := (HF.out.below HBW.out).cells hlt
    have HAL := hide (show a.block < W.heap.size by obtain ⟨_, _, a', e, hal, _⟩ := HF.out i hlt; cases e; exact hal)
    obtain ⟨x, hx⟩ : ∃ z, F i = z := ⟨_, rfl⟩
    rw [hx] at k0 k1 c0 hc
    obtain ⟨kind, ⟨xk, xf, xt, xc, xg, xv, xz, xb⟩⟩ := x
    simp only at k0 k1 c0 hc
    have c1 : wr.cell? ⟨(a.add (i * 9)).block, (a.add (i * 9)).off + 1, none⟩ = some (.string xk) := hc 0 _ rfl
    have c2 : wr.cell? ⟨(a.add (i * 9)).block, (a.add (i * 9)).off + 2, none⟩ = some (.int .i64 xf) := hc 1 _ rfl
    have c3 : wr.cell? ⟨(a.add (i * 9)).block, (a.add (i * 9)).off + 3, none⟩ = some (.int .i64 xt) := hc 2 _ rfl
    have c4 : wr.cell? ⟨(a.add (i * 9)).block, (a.add (i * 9)).off + 4, none⟩ = some (.int .i64 xc) := hc 3 _ rfl
    have c5 : wr.cell? ⟨(a.add (i * 9)).block, (a.add (i * 9)).off + 5, none⟩ = some (.int .i64 xg) := hc 4 _ rfl
    have c6 : wr.cell? ⟨(a.add (i * 9)).block, (a.add (i * 9)).off + 6, none⟩ = some (.int .i64 xv) := hc 5 _ rfl
    have c7 : wr.cell? ⟨(a.add (i * 9)).block, (a.add (i * 9)).off + 7, none⟩ = some (.int .i64 xz) := hc 6 _ rfl
    have c8 : wr.cell? ⟨(a.add (i * 9)).block, (a.add (i * 9)).off + 8, none⟩ = some (.bool xb) := hc 7 _ rfl
    have HLT := hide hlt
    have ba := (Below.refl wr.heap.size wr).alloc (Nat.le_refl _) (.cells #[.string xk, .int .i64 xf, .int .i64 xt, .int .i64 xc, .int .i64 xg, .int .i64 xv, .int .i64 xz, .bool xb] 31)
    have kx := Blk.new wr 31 #[.string xk, .int .i64 xf, .int .i64 xt, .int .i64 xc, .int .i64 xg, .int .i64 xv, .int .i64 xz, .bool xb]
    have cs := (ba.cell (p := a.add (i * 9)) (by rw [Qu.block_add]; have := HAL.out; have := HBW.out.size; omega)).trans c0
    obtain ⟨w3, hw3⟩ : ∃ z, wr.alloc (.cells #[.string xk, .int .i64 xf, .int .i64 xt, .int .i64 xc, .int .i64 xg, .int .i64 xv, .int .i64 xz, .bool xb] 31) = z := ⟨_, rfl⟩
    obtain ⟨X6, hX⟩ : ∃ z, wr.heap.size = z := ⟨_, rfl⟩
    have hf6 : ¬ X6 ∈ L.foot q := fun hm => by have := HQR.out.qs.lt X6 hm; omega
    rw [hw3] at ba kx cs
    have HQ3 := hide (HQR.out.below ba)
    have HBW3 := hide (HBW.out.trans (ba.mono HBW.out.size))
    rw [hX] at kx
    have K6 := hide kx
    have F6 := hide hf6
    have HE := hide (And.intro hw3 hX)
    clear ba kx hw3 hX hf6 hc hx hlt k0 k1
    go_upto_region 11 with (fail)
    rw [HE.out.1, HE.out.2]
    clear HE c0 c1 c2 c3 c4 c5 c6 c7 c8
    have c0 := cs
    clear cs
    obtain ⟨tb, htb⟩ : ∃ b, (Int.tmod kind 4 == 2) = b := ⟨_, rfl⟩
    go_upto_if 41 with (fail)
    clear htb c0
    cases tb with
    | true =>
      have y1 : w3.cell? ⟨X6, 1, none⟩ = some (.int .i64 xf) := K6.out.cell 1
      have y3 : w3.cell? ⟨X6, 3, none⟩ = some (.int .i64 xc) := K6.out.cell 3
      obtain ⟨⟨zk, zf, zt, zc, zg, zv, zz, zb⟩, hz⟩ : ∃ z, (findL l ⟨xf, xc⟩).getD m0 = z := ⟨_, rfl⟩
      obtain ⟨ib, hib⟩ : ∃ z, (findL l ⟨xf, xc⟩).isSome = z := ⟨_, rfl⟩
      have HZ := hide (And.intro hz hib)
      have FD : Hid (Calls Try.prog 20 #[.pointer (some ⟨q, 0, none⟩), .int .i64 xf, .int .i64 xc] w3 fun e w' => e = .returned (.tuple #[.agg #[.string zk, .int .i64 zf, .int .i64 zt, .int .i64 zc, .int .i64 zg, .int .i64 zv, .int .i64 zz, .bool zb], .bool ib]) ∧ Below w3.heap.size w3 w') := hide (by
        have := Find_c HQ3.out.qs ⟨xf, xc⟩ (by have := HLL.out; omega)
        unfold tellV at this
        rw [hz, hib] at this
        exact this)
      clear hz hib
      go_wp2_with fail
      refine FD.out.mono ?_
      rintro e w4 ⟨rfl, hb4⟩
      have ba := (Below.refl w4.heap.size w4).alloc (Nat.le_refl _) (.cells #[.string zk, .int .i64 zf, .int .i64 zt, .int .i64 zc, .int .i64 zg, .int .i64 zv, .int .i64 zz, .bool zb] 31)
      have kx := Blk.new w4 31 #[.string zk, .int .i64 zf, .int .i64 zt, .int .i64 zc, .int .i64 zg, .int .i64 zv, .int .i64 zz, .bool zb]
      obtain ⟨w5, hw5⟩ : ∃ z, w4.alloc (.cells #[.string zk, .int .i64 zf, .int .i64 zt, .int .i64 zc, .int .i64 zg, .int .i64 zv, .int .i64 zz, .bool zb] 31) = z := ⟨_, rfl⟩
      obtain ⟨X7, hX⟩ : ∃ z, w4.heap.size = z := ⟨_, rfl⟩
      have hq4 := HQ3.out.below hb4
      have hf7 : ¬ X7 ∈ L.foot q := fun hm => by have := hq4.qs.lt X7 hm; omega
      rw [hw5] at ba kx
      have hbx := hb4.trans (ba.mono hb4.size)
      rw [hX] at kx
      have HQ5 := hide (HQ3.out.below hbx)
      have HBW5 := hide (HBW3.out.trans (hbx.mono HBW3.out.size))
      have K6 := hide (K6.out.below hbx K6.out.lt)
      have K7 := hide kx
      have F7 := hide hf7
      have HE := hide (And.intro hw5 hX)
      clear hb4 ba kx hw5 hX hq4 hf7 hbx FD y1 y3
      go_upto_region 13 with (fail)
      rw [HE.out.1, HE.out.2]
      clear HE
      have y1 : w5.cell? ⟨X6, 1, none⟩ = some (.int .i64 xf) := K6.out.cell 1
      have y3 : w5.cell? ⟨X6, 3, none⟩ = some (.int .i64 xc) := K6.out.cell 3
      have TC := hide (Take_c HQ5.out.qs ⟨xf, xc⟩ (by have := HLL.out; omega))
      by_cases ht0 : takeE l ⟨xf, xc⟩ = 0
      · obtain ⟨m, hf, hmt, hlen⟩ := take_zero ht0
        have hzb : ib = true ∧ zb = false := by
          have h1 := HZ.out.1
          have h2 := HZ.out.2
          rw [hf] at h1 h2
          have h1' : m = ⟨zk, zf, zt, zc, zg, zv, zz, zb⟩ := h1
          rw [h1'] at hmt
          exact ⟨h2.symm, hmt⟩
        obtain ⟨rfl, rfl⟩ := hzb
        rw [ht0] at TC
        have HUN := hide hlen
        clear ht0 hf hmt hlen
        go_wp2_with fail
        refine TC.out.mono ?_
        rintro e w10 ⟨rfl, hg⟩
        have K7 := hide (Goes.kept HQ5.out hg K7.out F7.out)
        obtain ⟨L', hq', hbw⟩ := HQ5.out.go hg
        have HQ10 := hide hq'
        have HBW10 := hide (HBW5.out.trans hbw)
        have HTL := hide (show (takeL l ⟨xf, xc⟩).length ≤ i + 1 by rw [takeL_len]; have := HLL.out; omega)
        obtain ⟨mm, hmm⟩ : ∃ z, (untaken (takeL l ⟨xf, xc⟩)).length = z := ⟨_, rfl⟩
        have hmq : mm + 1 = mn := by rw [← hmm]; rw [HUN.out]; exact HMN.out
        subst hmq
        have HMM := hide hmm
        have hmm1 : mm ≤ 200 := by omega
        clear hg hq' hbw hmm TC y1 y3
        have z7 : w10.cell? ⟨X7, 7, none⟩ = some (.bool false) := K7.out.cell 7
        go_wp2_with fail
        go_roundw
        case rel => exact ⟨i + 1, (takeL l ⟨xf, xc⟩), L', mm, HLT.out, by go_num, by go_num, HMM, HTL, HQ10, HBW10⟩
        case measure => have := HLT.out; simp [RowKit.intOf] <;> omega
      · obtain ⟨ht2, htl, hzz⟩ := take_same ht0
        have hzb : (ib && !zb) = false := by
          have h1 := HZ.out.1
          have h2 := HZ.out.2
          rw [← h2, ← show (Msg.tk ⟨zk, zf, zt, zc, zg, zv, zz, zb⟩) = zb from rfl, ← h1]
          exact hzz
        rw [ht2] at TC
        rw [htl] at TC
        have HZB := hide hzb
        clear ht0 ht2 htl hzz hzb
        go_wp2_with fail
        refine TC.out.mono ?_
        rintro e w10 ⟨rfl, hg⟩
        have K7 := hide (Goes.kept HQ5.out hg K7.out F7.out)
        obtain ⟨L', hq', hbw⟩ := HQ5.out.go hg
        have HQ10 := hide hq'
        have HBW10 := hide (HBW5.out.trans hbw)
        have HTL := hide (show l.length ≤ i + 1 by have := HLL.out; omega)
        clear hg hq' hbw TC y1 y3
        have z7 : w10.cell? ⟨X7, 7, none⟩ = some (.bool zb) := K7.out.cell 7
        cases ib with
        | false =>
          go_wp2_with fail
          go_roundw
          case rel => exact ⟨i + 1, l, L', mn, HLT.out, by go_num, by go_num, HMN, HTL, HQ10, HBW10⟩
          case measure => have := HLT.out; simp [RowKit.intOf] <;> omega
        | true =>
          have hzt : zb = true := by have := HZB.out; cases zb with | false => cases this | true => rfl
          subst hzt
          go_wp2_with fail
          go_roundw
          case rel => exact ⟨i + 1, l, L', mn, HLT.out, by go_num, by go_num, HMN, HTL, HQ10, HBW10⟩
          case measure => have := HLT.out; simp [RowKit.intOf] <;> omega
    | false =>
      have s0 : w3.cell? ⟨X6, 0, none⟩ = some (.string xk) := K6.out.cell 0
      have s1 : w3.cell? ⟨X6, 1, none⟩ = some (.int .i64 xf) := K6.out.cell 1
      have s2 : w3.cell? ⟨X6, 2, none⟩ = some (.int .i64 xt) := K6.out.cell 2
      have s3 : w3.cell? ⟨X6, 3, none⟩ = some (.int .i64 xc) := K6.out.cell 3
      have s4 : w3.cell? ⟨X6, 4, none⟩ = some (.int .i64 xg) := K6.out.cell 4
      have s5 : w3.cell? ⟨X6, 5, none⟩ = some (.int .i64 xv) := K6.out.cell 5
      have s6 : w3.cell? ⟨X6, 6, none⟩ = some (.int .i64 xz) := K6.out.cell 6
      have s7 : w3.cell? ⟨X6, 7, none⟩ = some (.bool xb) := K6.out.cell 7
      have SC := hide (Send_c HQ3.out.qs ⟨xk, xf, xt, xc, xg, xv, xz, xb⟩ (by have := HLL.out; omega))
      have HTL := hide (show (sendL l ⟨xk, xf, xt, xc, xg, xv, xz, xb⟩).length ≤ i + 1 by have := sendL_len l ⟨xk, xf, xt, xc, xg, xv, xz, xb⟩; have := HLL.out; omega)
      rcases send_two (l := l) (m := ⟨xk, xf, xt, xc, xg, xv, xz, xb⟩) with ⟨h0, h1⟩ | ⟨h0, h1⟩
      · rw [h0] at SC
        have HM1 := hide (show (untaken (sendL l ⟨xk, xf, xt, xc, xg, xv, xz, xb⟩)).length = mn + 1 by rw [h1, HMN.out])
        clear h0 h1
        go_wp2_with fail
        refine SC.out.mono ?_
        rintro e w10 ⟨rfl, hg⟩
        obtain ⟨L', hq', hbw⟩ := HQ3.out.go hg
        have HQ10 := hide hq'
        have HBW10 := hide (HBW3.out.trans hbw)
        clear hg hq' hbw SC s0 s1 s2 s3 s4 s5 s6 s7
        go_wp2_with fail
        go_roundw
        case rel => exact ⟨i + 1, (sendL l ⟨xk, xf, xt, xc, xg, xv, xz, xb⟩), L', (mn + 1), HLT.out, by go_num, by go_num, HM1, HTL, HQ10, HBW10⟩
        case measure => have := HLT.out; simp [RowKit.intOf] <;> omega
      · rw [h0] at SC
        have HM1 := hide (show (untaken (sendL l ⟨xk, xf, xt, xc, xg, xv, xz, xb⟩)).length = mn by rw [h1, HMN.out])
        clear h0 h1
        go_wp2_with fail
        refine SC.out.mono ?_
        rintro e w10 ⟨rfl, hg⟩
        obtain ⟨L', hq', hbw⟩ := HQ3.out.go hg
        have HQ10 := hide hq'
        have HBW10 := hide (HBW3.out.trans hbw)
        clear hg hq' hbw SC s0 s1 s2 s3 s4 s5 s6 s7
        go_wp2_with fail
        go_roundw
        case rel => exact ⟨i + 1, (sendL l ⟨xk, xf, xt, xc, xg, xv, xz, xb⟩), L', mn, HLT.out, by go_num, by go_num, HM1, HTL, HQ10, HBW10⟩
        case measure => have := HLT.out; simp [RowKit.intOf] <;> omega
end Go.Proofs.Ytomladbdebfikaa.QueueLeftW
