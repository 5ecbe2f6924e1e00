/- Whether a program is whole but for heights, as the document says. -/
import Derived.Test.YtegpimaakgledaaDoorRows
import Derived.Test.YtegpimaakgledaaDoorCodHa
import Derived.Test.YtegpimaakgledaaDoorQuietBelow
import Derived.LoopN
namespace Go.Proofs.YtegpimaakgledaaDoor
open Go Go.RowKit
set_option linter.unusedVariables false
set_option linter.unusedSimpArgs false
namespace Cod
set_option maxRecDepth 100000 in
set_option maxHeartbeats 8000000 in
theorem whole_b (C : Option Addr) (cc : Nat) (cs : List In) (vars : Int) (A : Option Addr) (ca : Nat) (arrs : List Int) (w : World) (hC : CodeAt w C cs) (hA : IntAt w A arrs) (hlc : cs.length ≤ 100000) (hla : arrs.length ≤ 100000) :
    Calls Tryd.prog 23 #[PrV C cs.length cc vars A arrs.length ca] w fun e w' => e = .returned (.bool (mayNs cs vars arrs)) ∧ Below w.heap.size w w' := by
  have hb1 := (Below.refl w.heap.size w).alloc (Nat.le_refl _) (.cells #[.slice C cs.length cc, .int .i64 vars, .slice A arrs.length ca] 25)
  have k1 := Blk.new w 25 #[.slice C cs.length cc, .int .i64 vars, .slice A arrs.length ca]
  have MN := hide (fun (o : Nat) (n : Int) (w' : World) => fits_b C cs.length cc vars A arrs.length ca o n w')
  unfold PrV at MN ⊢
  go_enter Tryd.func23, Tryd.ntmps23
  go_upto_region 1 with (fail)
  generalize w.alloc (.cells #[.slice C cs.length cc, .int .i64 vars, .slice A arrs.length ca] 25) = w1 at *
  have HC := hide (hC.below hb1)
  have HA := hide (hA.below hb1)
  have HB := hide hb1
  have p0 : w1.cell? ⟨w.heap.size, 0, none⟩ = some (.slice C cs.length cc) := k1.cell 0
  have p1 : w1.cell? ⟨w.heap.size, 1, none⟩ = some (.int .i64 vars) := k1.cell 1
  have p2 : w1.cell? ⟨w.heap.size, 2, none⟩ = some (.slice A arrs.length ca) := k1.cell 2
  have HK := hide k1
  have NO := hide (fun h => mayNs_no (cs := cs) (vars := vars) (arrs := arrs) h)
  have YES := hide (fun h => mayNs_yes (cs := cs) (vars := vars) (arrs := arrs) h)
  clear hb1 k1 hC hA
  obtain ⟨L, hL⟩ : ∃ L, cs.length = L := ⟨_, rfl⟩
  rw [hL] at p0 NO YES hlc MN
  rw [hL] at HK ⊢
  have HL := hide hL
  rcases Nat.eq_zero_or_pos L with h0 | h0
  · have E := hide (NO.out (fun h => by omega))
    rw [h0] at p0 ⊢
    clear hL
    go_wp2_with fail
    go_ret
    exact ⟨by rw [E.out]; rfl, HB.out⟩
  have e0 : ¬ (L : Int) < 1 := by omega
  by_cases h4 : L ≤ 4000
  rotate_left
  · have E := hide (NO.out (fun h => h4 h.2.1))
    have i4 : (4000 : Int) < (L : Int) := by omega
    go_wp2_with fail
    go_ret
    exact ⟨by rw [E.out]; rfl, HB.out⟩
  have i4 : ¬ (4000 : Int) < (L : Int) := by omega
  obtain ⟨ad, rfl, hadb, hcs⟩ := HC.out (by omega)
  obtain ⟨m, hm⟩ : ∃ m, L = m + 1 := ⟨L - 1, by omega⟩
  have hlast := (hcs m (by omega)).2.1
  have eg : cs.getD (L - 1) default = cs[m]'(by omega) := by rw [show L - 1 = m by omega, List.getD_eq_getElem?_getD, List.getElem?_eq_getElem (by omega)]; rfl
  rw [eg] at NO YES
  have lw : IntKind.i64.wrap ((L : Int) - 1) = (m : Int) := by rw [IntKind.wrap_i64]; omega
  have lw2 : (L : Int) - 1 = (m : Int) := by omega
  have lw3 : (m : Int) < (L : Int) := by omega
  obtain ⟨lo, hlo⟩ : ∃ z, (cs[m]'(by omega)).op = z := ⟨_, rfl⟩
  rw [hlo] at hlast NO YES
  clear eg hlo hcs hm hL
  by_cases hv : 0 ≤ vars
  rotate_left
  · have E := hide (NO.out (fun h => hv h.2.2.2.1))
    have iv : vars < 0 := by omega
    go_wp2_with fail
    go_ret
    exact ⟨by rw [E.out]; rfl, HB.out⟩
  have iv : ¬ vars < 0 := by omega
  by_cases hv2 : vars ≤ 64
  rotate_left
  · have E := hide (NO.out (fun h => hv2 h.2.2.2.2))
    have iv2 : 64 < vars := by omega
    go_wp2_with fail
    go_ret
    exact ⟨by rw [E.out]; rfl, HB.out⟩
  have iv2 : ¬ 64 < vars := by omega
  by_cases h29 : lo = 29
  rotate_left
  · have E := hide (NO.out (fun h => h29 h.2.2.1))
    have e29 : (lo != 29) = true := by simp [h29]
    go_wp2_with fail
    go_ret
    exact ⟨by rw [E.out]; rfl, HB.out⟩
  have e29 : (lo != 29) = false := by simp [h29]
  have RES := hide (YES.out ⟨h0, h4, h29, hv, hv2⟩)
  clear NO YES
  obtain ⟨AN, hAN⟩ : ∃ z, arrs.length = z := ⟨_, rfl⟩
  rw [hAN] at p2 MN RES hla HK
  rw [hAN]
  have HAN := hide hAN
  clear hAN
  go_wp2_with fail
  clear lw lw2 lw3 hlast h29 e29 hv hv2 iv iv2 e0 i4
  go_loop [3, 4] (fun vc vi => ∃ (i : Nat) (c : Int), i ≤ AN ∧ vi = .int .i64 i ∧ vc = .int .i64 c ∧ 0 ≤ c ∧ c ≤ 1000 ∧ Hid (arrOk arrs 0 = arrOk (arrs.drop i) c)) (fun vc vi => AN - (RowKit.intOf vi).toNat)
  case atStart => exact ⟨0, 0, Nat.zero_le _, rfl, rfl, by omega, by omega, hide rfl⟩
  case round =>
    obtain ⟨i, c, hi, rfl, rfl, c0, c1, HR⟩ := hrel
    by_cases hlt : i < AN
    · have hltI : (i : Int) < (AN : Int) := by omega
      obtain ⟨aa, rfl, haa, hca⟩ := HA.out (by have := HAN.out; omega)
      obtain ⟨hcx, n0, n1⟩ := hca i (by have := HAN.out; omega)
      have DR : arrs.drop i = arrs[i]'(by have := HAN.out; omega) :: arrs.drop (i + 1) := List.drop_eq_getElem_cons (by have := HAN.out; omega)
      have HR2 := HR.out
      rw [DR, arrOk] at HR2
      obtain ⟨n, hn⟩ : ∃ z, arrs[i]'(by have := HAN.out; omega) = z := ⟨_, rfl⟩
      rw [hn] at hcx n0 n1 HR2
      have HR3 := hide HR2
      have w1k : IntKind.i64.wrap (1000 - c) = 1000 - c := by rw [IntKind.wrap_i64]; omega
      clear DR hn hca HR2
      by_cases hn1 : n < 1
      · have E : Hid (mayNs cs vars arrs = false) := hide (by rw [RES.out, HR3.out, decide_eq_false (show ¬ 1 ≤ n by omega)]; rfl)
        go_wp2_with fail
        go_ret
        exact ⟨by rw [E.out]; rfl, HB.out⟩
      by_cases hn3 : 1000 < n
      · have E : Hid (mayNs cs vars arrs = false) := hide (by rw [RES.out, HR3.out, decide_eq_false (show ¬ n ≤ 1000 - c by omega), Bool.and_false]; rfl)
        go_wp2_with fail
        go_ret
        exact ⟨by rw [E.out]; rfl, HB.out⟩
      by_cases hn2 : 1000 - c < n
      · have E : Hid (mayNs cs vars arrs = false) := hide (by rw [RES.out, HR3.out, decide_eq_false (show ¬ n ≤ 1000 - c by omega), Bool.and_false]; rfl)
        go_wp2_with fail
        go_ret
        exact ⟨by rw [E.out]; rfl, HB.out⟩
      have w2k : IntKind.i64.wrap (c + n) = c + n := by rw [IntKind.wrap_i64]; omega
      have HR4 : Hid (arrOk arrs 0 = arrOk (arrs.drop (i + 1)) (c + n)) := hide (by rw [HR3.out, decide_eq_true (show 1 ≤ n by omega), decide_eq_true (show n ≤ 1000 - c by omega)]; rfl)
      go_wp2_with fail
      go_round
      case rel => exact ⟨i + 1, c + n, by omega, by go_num, rfl, by omega, by omega, HR4⟩
      case measure => simp [RowKit.intOf] <;> omega
    have hltI : ¬ (i : Int) < (AN : Int) := by omega
    have RES2 : Hid (mayNs cs vars arrs = cs.all (mayN L vars AN)) := hide (by
      rw [RES.out, HR.out, List.drop_eq_nil_of_le (by have := HAN.out; omega)]
      rfl)
    clear RES HR
    go_wp2_with fail
    go_loopw [5] (fun vi wr => ∃ k : Nat, k ≤ L ∧ vi = .int .i64 k ∧ Hid (∀ j (hj : j < k) (hl : j < cs.length), mayN L vars AN cs[j] = true) ∧ Hid (Below w1.heap.size w1 wr)) (fun vi _ => L - (RowKit.intOf vi).toNat)
    case atStart => exact ⟨0, Nat.zero_le _, rfl, hide (fun j hj => absurd hj (Nat.not_lt_zero j)), hide (Below.refl _ _)⟩
    case round =>
      obtain ⟨k, hk, rfl, HJ, HW⟩ := hrel
      rename World => wr
      have r0 : wr.cell? ⟨w.heap.size, 0, none⟩ = some (.slice (some ad) L cc) := (HK.out.below HW.out HK.out.lt).cell 0
      by_cases hlt2 : k < L
      · have hltI2 : (k : Int) < (L : Int) := by omega
        obtain ⟨ad2, e2, hadr, hcr⟩ := (HC.out.below HW.out) (by have := HL.out; omega)
        cases e2
        obtain ⟨⟨x0, x1, x2, x3⟩, hx, hy⟩ := hcr k (by have := HL.out; omega)
        have STEP : Hid (mayN L vars AN (cs[k]'(by have := HL.out; omega)) = true → ∀ j (hj : j < k + 1) (hl : j < cs.length), mayN L vars AN cs[j] = true) := hide fun h j hj hl => by
          rcases Nat.lt_or_ge j k with h9 | h9
          · exact HJ.out j h9 hl
          · obtain rfl : j = k := by omega
            exact h
        have FALS : Hid (mayN L vars AN (cs[k]'(by have := HL.out; omega)) = false → mayNs cs vars arrs = false) := hide fun h => by
          rw [RES2.out]
          cases hall : cs.all (mayN L vars AN) with
          | false => rfl
          | true =>
            have := List.all_eq_true.1 hall _ (List.getElem_mem (show k < cs.length by have := HL.out; omega))
            rw [h] at this
            cases this
        obtain ⟨x, hxx⟩ : ∃ z, cs[k]'(by have := HL.out; omega) = z := ⟨_, rfl⟩
        rw [hxx] at x0 x1 x2 x3 hx hy STEP FALS
        obtain ⟨xo, n⟩ := x
        simp only at x0 x1 x2 x3 hx hy
        obtain ⟨o, rfl⟩ : ∃ o : Nat, xo = (o : Int) := ⟨xo.toNat, by omega⟩
        have MC := hide (fun p : BelowOf wr => MN.out o n p.world)
        have hadb : (ad.add (k * 2)).block < wr.heap.size := by rw [block_of_add]; exact hadr
        have bx := HK.out.below HW.out HK.out.lt
        have q0 : ∀ p : BelowOf wr, p.world.cell? ⟨w.heap.size, 0, none⟩ = some (.slice (some ad) L cc) := fun p => (bx.below p.below bx.lt).cell 0
        have q1 : ∀ p : BelowOf wr, p.world.cell? ⟨w.heap.size, 1, none⟩ = some (.int .i64 vars) := fun p => (bx.below p.below bx.lt).cell 1
        have q2 : ∀ p : BelowOf wr, p.world.cell? ⟨w.heap.size, 2, none⟩ = some (.slice A AN ca) := fun p => (bx.below p.below bx.lt).cell 2
        have g0 : ∀ p : BelowOf wr, p.world.cell? (ad.add (k * 2)) = some (.int .u8 o) := fun p => (p.below.cell hadb).trans hx
        have g1 : ∀ p : BelowOf wr, p.world.cell? ⟨(ad.add (k * 2)).block, (ad.add (k * 2)).off + 1, none⟩ = some (.int .i64 n) := fun p => (p.below.cell (p := ⟨_, _, none⟩) hadb).trans hy
        have NE : Nonempty (BelowOf wr) := ⟨⟨wr, Below.refl _ _⟩⟩
        unfold In.val at MC
        simp only at MC
        clear hcr hxx x0 x1 x2 x3 hx hy bx hadb hadr
        go_wp2_with fail
        refine wp_region_quiet_below (by kernel_rfl) (by kernel_rfl) ?_
        repeat (go_big_quiet_step (first
          | (go_at_call 40; refine calls_below (MC.out _))))
        refine wpQuiet_nil ?_
        rintro Wq ⟨⟨_, hq⟩, rfl⟩
        have HWz := hide (HW.out.trans (hq.mono HW.out.size))
        clear hq MC q0 q1 q2 g0 g1 r0 NE
        cases hr : mayN L vars AN ⟨o, n⟩ with
        | false =>
          have E := hide (FALS.out hr)
          go_wp2_with fail
          go_ret
          exact ⟨by rw [E.out]; rfl, HB.out.trans (HWz.out.mono HB.out.size)⟩
        | true =>
          have HJ2 := hide (STEP.out hr)
          go_wp2_with fail
          go_roundw
          case rel => exact ⟨k + 1, by omega, by go_num, HJ2, HWz⟩
          case measure => simp [RowKit.intOf] <;> omega
      have hltI2 : ¬ (k : Int) < (L : Int) := by omega
      have E : Hid (mayNs cs vars arrs = true) := hide (by
        rw [RES2.out, List.all_eq_true]
        intro x hx
        obtain ⟨j, hj, rfl⟩ := List.getElem_of_mem hx
        exact HJ.out j (by have := HL.out; omega) hj)
      go_wp2_with fail
      go_ret
      exact ⟨by rw [E.out]; rfl, HB.out.trans (HW.out.mono HB.out.size)⟩
end Cod
end Go.Proofs.YtegpimaakgledaaDoor
