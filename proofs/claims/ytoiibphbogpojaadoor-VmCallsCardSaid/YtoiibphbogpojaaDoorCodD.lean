/- Whether a program's numbers may be: mayNumbers. -/
import Derived.Test.YtoiibphbogpojaaDoorRows
import Derived.Test.YtoiibphbogpojaaDoorCodC
import Derived.LoopN
namespace Go.Proofs.YtoiibphbogpojaaDoor
open Go Go.RowKit
set_option linter.unusedVariables false
set_option linter.unusedSimpArgs false
namespace Cod
def In.ok (x : In) : Prop := 0 ≤ x.op ∧ x.op ≤ 255 ∧ -9223372036854775808 ≤ x.n ∧ x.n ≤ 9223372036854775807
/-- Instructions as they lie. -/
def CodeAt (w : World) (C : Option Addr) (cs : List In) : Prop := 0 < cs.length → ∃ ad, C = some ad ∧ ad.block < w.heap.size ∧ ∀ i (hi : i < cs.length), (cs[i]).ok ∧ w.cell? (ad.add (i * 2)) = some (.int .u8 cs[i].op) ∧ w.cell? ⟨(ad.add (i * 2)).block, (ad.add (i * 2)).off + 1, none⟩ = some (.int .i64 cs[i].n)
theorem CodeAt.below {w w' : World} {C : Option Addr} {cs : List In} (h : CodeAt w C cs) (hb : Below w.heap.size w w') : CodeAt w' C cs := fun h0 => by
  obtain ⟨ad, rfl, hl, hc⟩ := h h0
  refine ⟨ad, rfl, Nat.lt_of_lt_of_le hl hb.size, fun i hi => ?_⟩
  obtain ⟨h1, h2, h3⟩ := hc i hi
  have e : (ad.add (i * 2)).block < w.heap.size := by rw [block_of_add]; exact hl
  exact ⟨h1, (hb.cell e).trans h2, (hb.cell (p := ⟨_, _, none⟩) e).trans h3⟩
/-- Numbers as they lie. -/
def IntAt (w : World) (A : Option Addr) (l : List Int) : Prop := 0 < l.length → ∃ ad, A = some ad ∧ ad.block < w.heap.size ∧ ∀ i (hi : i < l.length), w.cell? (ad.add i) = some (.int .i64 l[i]) ∧ -9223372036854775808 ≤ l[i] ∧ l[i] ≤ 9223372036854775807
theorem IntAt.below {w w' : World} {A : Option Addr} {l : List Int} (h : IntAt w A l) (hb : Below w.heap.size w w') : IntAt w' A l := fun h0 => by
  obtain ⟨ad, rfl, hl, hc⟩ := h h0
  refine ⟨ad, rfl, Nat.lt_of_lt_of_le hl hb.size, fun i hi => ⟨(hb.cell (by rw [block_of_add]; exact hl)).trans (hc i hi).1, (hc i hi).2⟩⟩
theorem mayNs_no {cs : List In} {vars : Int} {arrs : List Int} (h : ¬ (0 < cs.length ∧ cs.length ≤ 4000 ∧ (cs.getD (cs.length - 1) default).op = 29 ∧ 0 ≤ vars ∧ vars ≤ 64)) : mayNs cs vars arrs = false := by
  cases hm : mayNs cs vars arrs with
  | false => rfl
  | true =>
    exfalso
    apply h
    unfold mayNs at hm
    simp only [Bool.and_eq_true, decide_eq_true_eq] at hm
    exact ⟨hm.1.1.1.1.1.1, hm.1.1.1.1.1.2, hm.1.1.1.1.2, hm.1.1.1.2, hm.1.1.2⟩
theorem mayNs_yes {cs : List In} {vars : Int} {arrs : List Int} (h : 0 < cs.length ∧ cs.length ≤ 4000 ∧ (cs.getD (cs.length - 1) default).op = 29 ∧ 0 ≤ vars ∧ vars ≤ 64) : mayNs cs vars arrs = (arrOk arrs 0 && cs.all (mayN cs.length vars arrs.length)) := by
  unfold mayNs
  rw [decide_eq_true h.1, decide_eq_true h.2.1, decide_eq_true h.2.2.1, decide_eq_true h.2.2.2.1, decide_eq_true h.2.2.2.2]
  rfl
set_option maxRecDepth 100000 in
set_option maxHeartbeats 8000000 in
theorem mayNumbers_c (C : Option Addr) (cc : Nat) (cs : List In) (vars : Int) (A : Option Addr) (ca : Nat) (arrs : List Int) (w : World) (hC : CodeAt w C cs) (hA : IntAt w A arrs) (hlc : cs.length ≤ 100000) (hla : arrs.length ≤ 100000) (H : Ops w) :
    Calls Tryd.prog 43 #[PrV C cs.length cc vars A arrs.length ca] w fun e w' => e = .returned (.bool (mayNs cs vars arrs)) ∧ Below w.heap.size w w' := by
  have hb1 := (Below.refl w.heap.size w).alloc (Nat.le_refl _) (.cells #[.slice C cs.length cc, .int .i64 vars, .slice A arrs.length ca] 27)
  have k1 := Blk.new w 27 #[.slice C cs.length cc, .int .i64 vars, .slice A arrs.length ca]
  have MN := hide (fun (o : Nat) (n : Int) (ho : o < 256) (hn : n ≤ 9223372036854775807) (w' : World) (h' : Ops w') => mayNumber_c C cs.length cc vars A arrs.length ca o n ho hn w' h')
  unfold PrV at MN ⊢
  go_enter Tryd.func43, Tryd.ntmps43
  go_upto_region 1 with (fail)
  generalize w.alloc (.cells #[.slice C cs.length cc, .int .i64 vars, .slice A arrs.length ca] 27) = w1 at *
  have HO := hide (H.below hb1 (Nat.le_refl _))
  have HC := hide (hC.below hb1)
  have HA := hide (hA.below hb1)
  have HB := hide hb1
  have p0 : w1.cell? ⟨w.heap.size, 0, none⟩ = some (.slice C cs.length cc) := k1.cell 0
  have p1 : w1.cell? ⟨w.heap.size, 1, none⟩ = some (.int .i64 vars) := k1.cell 1
  have p2 : w1.cell? ⟨w.heap.size, 2, none⟩ = some (.slice A arrs.length ca) := k1.cell 2
  have HK := hide k1
  have NO := hide (fun h => mayNs_no (cs := cs) (vars := vars) (arrs := arrs) h)
  have YES := hide (fun h => mayNs_yes (cs := cs) (vars := vars) (arrs := arrs) h)
  clear hb1 k1 hC hA H
  obtain ⟨L, hL⟩ : ∃ L, cs.length = L := ⟨_, rfl⟩
  rw [hL] at p0 NO YES hlc MN
  rw [hL] at HK ⊢
  have HL := hide hL
  rcases Nat.eq_zero_or_pos L with h0 | h0
  · have E := hide (NO.out (fun h => by omega))
    rw [h0] at p0 ⊢
    clear hL
    go_wp2_with fail
    go_ret
    exact ⟨by rw [E.out]; rfl, HB.out⟩
  have e0 : ((L : Int) == 0) = false := by rw [beq_eq_false_iff_ne]; omega
  by_cases h4 : L ≤ 4000
  rotate_left
  · have E := hide (NO.out (fun h => h4 h.2.1))
    have i4 : (4000 : Int) < (L : Int) := by omega
    go_wp2_with fail
    go_ret
    exact ⟨by rw [E.out]; rfl, HB.out⟩
  have i4 : ¬ (4000 : Int) < (L : Int) := by omega
  obtain ⟨ad, rfl, hadb, hcs⟩ := HC.out (by omega)
  obtain ⟨m, hm⟩ : ∃ m, L = m + 1 := ⟨L - 1, by omega⟩
  have hlast := (hcs m (by omega)).2.1
  have eg : cs.getD (L - 1) default = cs[m]'(by omega) := by rw [show L - 1 = m by omega, List.getD_eq_getElem?_getD, List.getElem?_eq_getElem (by omega)]; rfl
  rw [eg] at NO YES
  have lw : IntKind.i64.wrap ((L : Int) - 1) = (m : Int) := by rw [IntKind.wrap_i64]; omega
  have lw2 : (L : Int) - 1 = (m : Int) := by omega
  have lw3 : (m : Int) < (L : Int) := by omega
  obtain ⟨lo, hlo⟩ : ∃ z, (cs[m]'(by omega)).op = z := ⟨_, rfl⟩
  rw [hlo] at hlast NO YES
  clear eg hlo hcs hm hL
  by_cases h29 : lo = 29
  rotate_left
  · have E := hide (NO.out (fun h => h29 h.2.2.1))
    have e29 : (lo != 29) = true := by simp [h29]
    go_wp2_with fail
    go_ret
    exact ⟨by rw [E.out]; rfl, HB.out⟩
  have e29 : (lo != 29) = false := by simp [h29]
  by_cases hv : 0 ≤ vars
  rotate_left
  · have E := hide (NO.out (fun h => hv h.2.2.2.1))
    have iv : vars < 0 := by omega
    go_wp2_with fail
    go_ret
    exact ⟨by rw [E.out]; rfl, HB.out⟩
  have iv : ¬ vars < 0 := by omega
  by_cases hv2 : vars ≤ 64
  rotate_left
  · have E := hide (NO.out (fun h => hv2 h.2.2.2.2))
    have iv2 : 64 < vars := by omega
    go_wp2_with fail
    go_ret
    exact ⟨by rw [E.out]; rfl, HB.out⟩
  have iv2 : ¬ 64 < vars := by omega
  have RES := hide (YES.out ⟨h0, h4, h29, hv, hv2⟩)
  clear NO YES
  obtain ⟨AN, hAN⟩ : ∃ z, arrs.length = z := ⟨_, rfl⟩
  rw [hAN] at p2 MN RES hla HK
  rw [hAN]
  have HAN := hide hAN
  clear hAN
  go_wp2_with fail
  clear lw lw2 lw3 hlast h29 e29 hv hv2 iv iv2 e0 i4
  go_loop [3, 43] (fun vc vi => ∃ (i : Nat) (c : Int), i ≤ AN ∧ vi = .int .i64 i ∧ vc = .int .i64 c ∧ 0 ≤ c ∧ c ≤ 1000 ∧ Hid (arrOk arrs 0 = arrOk (arrs.drop i) c)) (fun vc vi => AN - (RowKit.intOf vi).toNat)
  case atStart => exact ⟨0, 0, Nat.zero_le _, rfl, rfl, by omega, by omega, hide rfl⟩
  case round =>
    obtain ⟨i, c, hi, rfl, rfl, c0, c1, HR⟩ := hrel
    by_cases hlt : i < AN
    · have hltI : (i : Int) < (AN : Int) := by omega
      obtain ⟨aa, rfl, haa, hca⟩ := HA.out (by have := HAN.out; omega)
      obtain ⟨hcx, n0, n1⟩ := hca i (by have := HAN.out; omega)
      have DR : arrs.drop i = arrs[i]'(by have := HAN.out; omega) :: arrs.drop (i + 1) := List.drop_eq_getElem_cons (by have := HAN.out; omega)
      have HR2 := HR.out
      rw [DR, arrOk] at HR2
      obtain ⟨n, hn⟩ : ∃ z, arrs[i]'(by have := HAN.out; omega) = z := ⟨_, rfl⟩
      rw [hn] at hcx n0 n1 HR2
      have HR3 := hide HR2
      have w1k : IntKind.i64.wrap (1000 - c) = 1000 - c := by rw [IntKind.wrap_i64]; omega
      clear DR hn hca HR2
      by_cases hn1 : n < 1
      · have E : Hid (mayNs cs vars arrs = false) := hide (by rw [RES.out, HR3.out, decide_eq_false (show ¬ 1 ≤ n by omega)]; rfl)
        go_wp2_with fail
        go_ret
        exact ⟨by rw [E.out]; rfl, HB.out⟩
      by_cases hn2 : 1000 - c < n
      · have E : Hid (mayNs cs vars arrs = false) := hide (by rw [RES.out, HR3.out, decide_eq_false (show ¬ n ≤ 1000 - c by omega), Bool.and_false]; rfl)
        go_wp2_with fail
        go_ret
        exact ⟨by rw [E.out]; rfl, HB.out⟩
      have w2k : IntKind.i64.wrap (c + n) = c + n := by rw [IntKind.wrap_i64]; omega
      have HR4 : Hid (arrOk arrs 0 = arrOk (arrs.drop (i + 1)) (c + n)) := hide (by rw [HR3.out, decide_eq_true (show 1 ≤ n by omega), decide_eq_true (show n ≤ 1000 - c by omega)]; rfl)
      go_wp2_with fail
      go_round
      case rel => exact ⟨i + 1, c + n, by omega, by go_num, rfl, by omega, by omega, HR4⟩
      case measure => simp [RowKit.intOf] <;> omega
    have hltI : ¬ (i : Int) < (AN : Int) := by omega
    have RES2 : Hid (mayNs cs vars arrs = cs.all (mayN L vars AN)) := hide (by
      rw [RES.out, HR.out, List.drop_eq_nil_of_le (by have := HAN.out; omega)]
      rfl)
    clear RES HR
    go_wp2_with fail
    go_loopw [62] (fun vi wr => ∃ k : Nat, k ≤ L ∧ vi = .int .i64 k ∧ Hid (∀ j (hj : j < k) (hl : j < cs.length), mayN L vars AN cs[j] = true) ∧ Hid (Below w1.heap.size w1 wr)) (fun vi _ => L - (RowKit.intOf vi).toNat)
    case atStart => exact ⟨0, Nat.zero_le _, rfl, hide (fun j hj => absurd hj (Nat.not_lt_zero j)), hide (Below.refl _ _)⟩
    case round =>
      obtain ⟨k, hk, rfl, HJ, HW⟩ := hrel
      rename World => wr
      by_cases hlt2 : k < L
      · have hltI2 : (k : Int) < (L : Int) := by omega
        obtain ⟨ad2, e2, hadr, hcr⟩ := (HC.out.below HW.out) (by have := HL.out; omega)
        cases e2
        obtain ⟨⟨x0, x1, x2, x3⟩, hx, hy⟩ := hcr k (by have := HL.out; omega)
        have STEP : Hid (mayN L vars AN (cs[k]'(by have := HL.out; omega)) = true → ∀ j (hj : j < k + 1) (hl : j < cs.length), mayN L vars AN cs[j] = true) := hide fun h j hj hl => by
          rcases Nat.lt_or_ge j k with h9 | h9
          · exact HJ.out j h9 hl
          · obtain rfl : j = k := by omega
            exact h
        have FALS : Hid (mayN L vars AN (cs[k]'(by have := HL.out; omega)) = false → mayNs cs vars arrs = false) := hide fun h => by
          rw [RES2.out]
          cases hall : cs.all (mayN L vars AN) with
          | false => rfl
          | true =>
            have := List.all_eq_true.1 hall _ (List.getElem_mem (show k < cs.length by have := HL.out; omega))
            rw [h] at this
            cases this
        obtain ⟨x, hxx⟩ : ∃ z, cs[k]'(by have := HL.out; omega) = z := ⟨_, rfl⟩
        rw [hxx] at x0 x1 x2 x3 hx hy STEP FALS
        obtain ⟨xo, n⟩ := x
        simp only at x0 x1 x2 x3 hx hy
        obtain ⟨o, rfl⟩ : ∃ o : Nat, xo = (o : Int) := ⟨xo.toNat, by omega⟩
        have hba := (Below.refl wr.heap.size wr).alloc (Nat.le_refl _) (.cells #[.int .u8 o, .int .i64 n] 23)
        have HWa := hide (HW.out.trans (hba.mono HW.out.size))
        have bk := Blk.new wr 23 #[.int .u8 o, .int .i64 n]
        have bx := HK.out.below HWa.out HK.out.lt
        have MC := hide (MN.out o n (by omega) x3 (wr.alloc (.cells #[.int .u8 o, .int .i64 n] 23)) (HO.out.below HWa.out (Nat.le_refl _)))
        obtain ⟨wa, hwa⟩ : ∃ z, wr.alloc (.cells #[.int .u8 o, .int .i64 n] 23) = z := ⟨_, rfl⟩
        rw [hwa] at HWa bk bx MC
        have q0 : wa.cell? ⟨w.heap.size, 0, none⟩ = some (.slice (some ad) L cc) := bx.cell 0
        have q1 : wa.cell? ⟨w.heap.size, 1, none⟩ = some (.int .i64 vars) := bx.cell 1
        have q2 : wa.cell? ⟨w.heap.size, 2, none⟩ = some (.slice A AN ca) := bx.cell 2
        have g0 : wa.cell? ⟨wr.heap.size, 0, none⟩ = some (.int .u8 o) := bk.cell 0
        have g1 : wa.cell? ⟨wr.heap.size, 1, none⟩ = some (.int .i64 n) := bk.cell 1
        unfold In.val at MC
        simp only at MC
        clear hcr hba bk bx hxx x0 x1 x2 x3
        go_wp2_with fail
        refine MC.out.mono ?_
        rintro e wz ⟨rfl, hbz⟩
        have HWz := hide (HWa.out.trans (hbz.mono HWa.out.size))
        clear hbz MC q0 q1 q2 g0 g1 hwa
        cases hr : mayN L vars AN ⟨o, n⟩ with
        | false =>
          have E := hide (FALS.out hr)
          go_wp2_with fail
          go_ret
          exact ⟨by rw [E.out]; rfl, HB.out.trans (HWz.out.mono HB.out.size)⟩
        | true =>
          have HJ2 := hide (STEP.out hr)
          go_wp2_with fail
          go_roundw
          case rel => exact ⟨k + 1, by omega, by go_num, HJ2, HWz⟩
          case measure => simp [RowKit.intOf] <;> omega
      have hltI2 : ¬ (k : Int) < (L : Int) := by omega
      have E : Hid (mayNs cs vars arrs = true) := hide (by
        rw [RES2.out, List.all_eq_true]
        intro x hx
        obtain ⟨j, hj, rfl⟩ := List.getElem_of_mem hx
        exact HJ.out j (by have := HL.out; omega) hj)
      go_wp2_with fail
      go_ret
      exact ⟨by rw [E.out]; rfl, HB.out.trans (HW.out.mono HB.out.size)⟩
end Cod
end Go.Proofs.YtoiibphbogpojaaDoor
