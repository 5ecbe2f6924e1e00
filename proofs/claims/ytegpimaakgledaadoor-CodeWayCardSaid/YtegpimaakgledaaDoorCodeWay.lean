/- The walk of the statement CodeWay. -/
import Derived.Test.YtegpimaakgledaaDoorRows
import Derived.Test.YtegpimaakgledaaDoorCodR
import Derived.Test.YtegpimaakgledaaDoorCodS
import Derived.Test.YtegpimaakgledaaDoorCodX
import Derived.Test.YtegpimaakgledaaDoorCodY
namespace Go.Proofs.YtegpimaakgledaaDoor.CodeWayW
open Go Go.RowKit Go.Proofs.YtegpimaakgledaaDoor Go.Proofs.YtegpimaakgledaaDoor.Cod
set_option linter.unusedVariables false
set_option linter.unusedSimpArgs false
/-- Yes and no as they lie. -/
def BoolAt (w : World) (A : Option Addr) (l : List Bool) : Prop := 0 < l.length → ∃ ad, A = some ad ∧ ad.block < w.heap.size ∧ ∀ i (hi : i < l.length), w.cell? (ad.add i) = some (.bool l[i])
open Go.Joins Go.ChangeShapes Go.WideShapes Go.Deep in
set_option maxRecDepth 100000 in
theorem BoolAt.of {H : Type} {enc : TypeId × Value → H} {w : World} {b0 base : Nat} {spare : Nat → Bool} {held : Bool} {v : Value} {d : DataW H} {p : List MemPlace} (o : Value.okWide Tryd.prog w .any b0 45 v) (r : DataW.Trod enc Tryd.prog w base spare held 45 v d p) :
    ∃ A l cap, v = .slice A (List.length l) cap ∧ BoolAt w A l := by
  obtain ⟨a0, n0, c0, rfl⟩ := Go.WideShapes.okWide_slice Tryd.underlying45 o
  obtain ⟨fuel, hf⟩ := r
  have h : DataW.trod enc Tryd.prog w base spare held fuel 45 [.slice a0 n0 c0] = some (d, p) := hf
  rcases flat_slice (ks := [.b]) (f := 30) Tryd.underlying45 (by kernel_rfl) (by kernel_rfl) h with h0 | ⟨a, len, cap, h0, hl, hm, hi⟩
  · obtain ⟨rfl, rfl, rfl⟩ : a0 = none ∧ n0 = 0 ∧ c0 = 0 := by simpa using h0
    exact ⟨none, [], 0, rfl, fun h => absurd h (Nat.lt_irrefl 0)⟩
  · obtain ⟨rfl, rfl, rfl⟩ : a0 = some a ∧ n0 = len ∧ c0 = cap := by simpa using h0
    have h : ∀ i, i < n0 → ∃ t : Bool, w.cell? (a.add i) = some (.bool t) := by
      intro i hik
      obtain ⟨v0, g0, f0⟩ := hi i hik 0 _ rfl
      obtain ⟨z0, rfl⟩ := f0
      rw [show i * ([.b] : List Kd).length + 0 = i by simp] at g0
      exact ⟨z0, g0⟩
    obtain ⟨T, hT⟩ := choose_lt h
    have hlen : ((List.range n0).map T).length = n0 := by simp
    refine ⟨some a, (List.range n0).map T, c0, by rw [hlen], fun h0 => ⟨a, rfl, ?_, fun i hi' => ?_⟩⟩
    · rw [hlen] at h0
      have := block_lt_of_cell (hT 0 h0)
      rwa [block_of_add] at this
    · rw [hlen] at hi'
      simp only [List.getElem_map, List.getElem_range]
      exact hT i hi'
set_option maxRecDepth 100000 in
set_option maxHeartbeats 8000000 in
theorem walk {H : Type} {enc : TypeId × Value → H} {base : Nat} (W : World) (hO : Ops W) (hP : Pow W) (v0 : Value) (d0 : DataW H) (p0 : List MemPlace) (o0 : Value.okWide Tryd.prog W .any base 25 v0) (r0 : DataW.Trod enc Tryd.prog W 0 (fun _ => true) true 25 v0 d0 p0) (v1 : Value) (d1 : DataW H) (p1 : List MemPlace) (o1 : Value.okWide Tryd.prog W .any base 45 v1) (r1 : DataW.Trod enc Tryd.prog W 0 (fun _ => true) true 45 v1 d1 p1) :
    Calls Tryd.prog 6 #[v0, v1] W fun e w' => e = .returned (.bool true) ∧ Below W.heap.size W w' := by
  obtain ⟨C, cs, cc, vars, A, l, ca, rfl, hC, hA, hv⟩ := PrV.of o0 r0
  obtain ⟨B, tl, tc, rfl, hB⟩ := BoolAt.of o1 r1
  clear o0 r0 o1 r1
  have HBL := hide hB
  have HO := hide hO
  have HP := hide hP
  have GR := hide (fun w => Great_c C cs.length cc vars A l.length ca w)
  have HT := hide (fun (w' : World) (h1 : CodeAt w' C cs) (h2 : IntAt w' A l) (h3 : Ops w') hlc hla => Heights_c C cc cs vars A ca l w' h1 h2 hlc hla h3)
  have hb1 := (Below.refl W.heap.size W).alloc (Nat.le_refl _) (.cells #[.slice C cs.length cc, .int .i64 vars, .slice A l.length ca] 25)
  have k1 := Blk.new W 25 #[.slice C cs.length cc, .int .i64 vars, .slice A l.length ca]
  have HC := hide hC
  have HA := hide hA
  have HVV := hide hv
  clear hC hA hO hP hB hv
  unfold PrV at GR HT ⊢
  go_enter Tryd.func6, Tryd.ntmps6
  go_upto_region 1 with (fail)
  obtain ⟨wb, hwb⟩ : ∃ z, W.alloc (.cells #[.slice C cs.length cc, .int .i64 vars, .slice A l.length ca] 25) = z := ⟨_, rfl⟩
  rw [hwb] at hb1 k1 ⊢
  have HB1 := hide hb1
  have K1 := hide k1
  clear hb1 k1 hwb
  go_wp2_with fail
  refine (awake_c wb (HO.out.below HB1.out (Nat.le_refl _)) (HP.out.below HB1.out (Nat.le_refl _))).mono ?_
  rintro e w2 ⟨rfl, hb2⟩
  have HB2 := hide (HB1.out.trans (hb2.mono HB1.out.size))
  have K2 := hide (K1.out.below hb2 K1.out.lt)
  clear hb2 K1 HB1
  have q0 : w2.cell? ⟨W.heap.size, 0, none⟩ = some (.slice C cs.length cc) := K2.out.cell 0
  have q1 : w2.cell? ⟨W.heap.size, 1, none⟩ = some (.int .i64 vars) := K2.out.cell 1
  have q2 : w2.cell? ⟨W.heap.size, 2, none⟩ = some (.slice A l.length ca) := K2.out.cell 2
  go_wp2_with fail
  refine (GR.out w2).mono ?_
  rintro e w3 ⟨rfl, hb3⟩
  have HB3 := hide (HB2.out.trans (hb3.mono HB2.out.size))
  have K3 := hide (K2.out.below hb3 K2.out.lt)
  clear hb3 K2 HB2 q0 q1 q2 GR
  cases hg : grC cs.length l.length with
  | true =>
    go_wp2_with fail
    go_ret
    exact ⟨rfl, HB3.out⟩
  | false =>
    have hgl : cs.length ≤ 400 ∧ l.length ≤ 100 := by
      unfold grC at hg
      simp only [Bool.or_eq_false_iff, decide_eq_false_iff_not] at hg
      omega
    have HGL := hide hgl
    clear hg hgl
    have q0 : w3.cell? ⟨W.heap.size, 0, none⟩ = some (.slice C cs.length cc) := K3.out.cell 0
    have q1 : w3.cell? ⟨W.heap.size, 1, none⟩ = some (.int .i64 vars) := K3.out.cell 1
    have q2 : w3.cell? ⟨W.heap.size, 2, none⟩ = some (.slice A l.length ca) := K3.out.cell 2
    go_wp2_with fail
    refine (HT.out w3 (HC.out.below HB3.out) (HA.out.below HB3.out) (HO.out.below HB3.out (Nat.le_refl _)) (by have := HGL.out.1; omega) (by have := HGL.out.2; omega)).mono ?_
    rintro e w4 ⟨⟨r, hr, hh⟩, hb4⟩
    have HB4 := hide (HB3.out.trans (hb4.mono HB3.out.size))
    have K4 := hide (K3.out.below hb4 K3.out.lt)
    have R := hide hr
    clear hb4 K3 HB3 q0 q1 q2 hr HT
    rcases hh with ⟨rfl, rfl⟩ | ⟨hs, g, rfl, hlen, hbd, rfl, hgw, hgb⟩
    · go_wp2_with fail
      go_ret
      exact ⟨rfl, HB4.out⟩
    have WY := hide (fun p (hp : p < cs.length) hn => HtR.wayAt R.out hbd hp hn)
    obtain ⟨hN0, hz0⟩ := HtR.first R.out
    obtain ⟨N, hN⟩ : ∃ N, cs.length = N := ⟨_, rfl⟩
    have HN := hide hN
    have hlN : hs.length = N := by omega
    have HLN := hide hlN
    have HZ0 := hide hz0
    have HGB := hide hgb
    have hN4 : N ≤ 400 := by have := HGL.out.1; omega
    rw [hN] at hN0 WY ⊢
    obtain ⟨ad, rfl, hadl, hcel⟩ := HC.out (by omega)
    have HCE := hide hcel
    have HAD := hide hadl
    clear hlen hbd hgw hgb hN hlN hz0 hadl hcel
    have q0 : w4.cell? ⟨W.heap.size, 0, none⟩ = some (.slice (some ad) N cc) := by rw [← HN.out]; exact K4.out.cell 0
    go_wp2_with fail
    go_loopw [7, 8, 9, 10] (fun v7 v8 v9 v10 wr => ∃ p s a : Nat, p < N ∧ s ≤ 500 ∧ a ≤ s ∧ v7 = .int .i64 p ∧ v8 = .int .i64 (htAt hs p) ∧ v9 = .int .i64 a ∧ v10 = .int .i64 s ∧ Hid (htAt hs p ≠ -1) ∧ Hid (Blk wr g 3 (hI hs).toArray) ∧ Hid (Blk wr W.heap.size 25 #[.slice (some ad) cs.length cc, .int .i64 vars, .slice A l.length ca]) ∧ Hid (Below W.heap.size W wr)) (fun _ _ _ v10 _ => 500 - (RowKit.intOf v10).toNat)
    case atStart => exact ⟨0, 0, 0, hN0, Nat.zero_le _, Nat.le_refl _, rfl, by rw [HZ0.out], rfl, rfl, hide (by rw [HZ0.out]; decide), HGB, K4, HB4⟩
    case round =>
      obtain ⟨p, s, a, hp, hs5, ha, rfl, rfl, rfl, rfl, HNZ, HG9, K9, HB9⟩ := hrel
      rename World => wr
      by_cases hlt : s < 500
      rotate_left
      · have hltI : ¬ (s : Int) < 500 := by omega
        go_wp2_with fail
        go_ret
        exact ⟨rfl, HB9.out⟩
      have hltI : (s : Int) < 500 := by omega
      obtain ⟨o, n, WW⟩ := WY.out p hp HNZ.out
      have HWW := hide WW
      have rr0 := HG9.out.cell p
      rw [hI_at (by have := HLN.out; omega)] at rr0
      have hcp : cs[p]'(by have := HN.out; omega) = ⟨o, n⟩ := by rw [← WW.it, List.getD_eq_getElem?_getD, List.getElem?_eq_getElem (by have := HN.out; omega)]; rfl
      obtain ⟨_, k0, k1⟩ := HCE.out p (by have := HN.out; omega)
      rw [hcp] at k0 k1
      have e0 := (HB9.out.cell (by rw [block_of_add]; exact HAD.out)).trans k0
      have e1 := (HB9.out.cell (p := ⟨_, _, none⟩) (by show (ad.add (p * 2)).block < _; rw [block_of_add]; exact HAD.out)).trans k1
      have q0 : wr.cell? ⟨W.heap.size, 0, none⟩ = some (.slice (some ad) N cc) := by rw [← HN.out]; exact K9.out.cell 0
      have r0 : wr.cell? ⟨g, p, none⟩ = some (.int .i64 (htAt hs p)) := rr0
      have hpI : (p : Int) < (N : Int) := by omega
      have hpI2 : ¬ (N : Int) ≤ (p : Int) := by omega
      have hpI3 : ¬ (p : Int) < 0 := by omega
      obtain ⟨z, hz⟩ : ∃ z, htAt hs p = z := ⟨_, rfl⟩
      have zf : (z != z) = false := by simp
      have hz1 := WW.h0
      have hz2 := WW.h1
      rw [hz] at r0 hz1 hz2 ⊢
      have HZ := hide hz
      dsimp only at e0 e1
      clear hz WW hcp k0 k1 rr0
      go_upto_region 17 with (fail)
      have bx := HB9.out.alloc HB9.out.size (.cells #[.int .u8 (o : Int), .int .i64 n] 47)
      have kx := Blk.new wr 47 #[.int .u8 (o : Int), .int .i64 n]
      have K10 := hide (K9.out.alloc (.cells #[.int .u8 (o : Int), .int .i64 n] 47))
      have HG10 := hide (HG9.out.alloc (.cells #[.int .u8 (o : Int), .int .i64 n] 47))
      obtain ⟨wx, hwx⟩ : ∃ x, wr.alloc (.cells #[.int .u8 (o : Int), .int .i64 n] 47) = x := ⟨_, rfl⟩
      rw [hwx] at bx kx K10 HG10 ⊢
      obtain ⟨X, hX⟩ : ∃ X, wr.heap.size = X := ⟨_, rfl⟩
      rw [hX] at kx ⊢
      have HKX := hide kx
      have HBX := hide bx
      have i0 : wx.cell? ⟨X, 0, none⟩ = some (.int .u8 (o : Int)) := kx.cell 0
      have i1 : wx.cell? ⟨X, 1, none⟩ = some (.int .i64 n) := kx.cell 1
      have TB := hide (takes_b o n HWW.out.lo HWW.out.hi HWW.out.cal wx)
      unfold In.val at TB
      clear bx kx hwx hX q0 r0 e0 e1 K9 HG9 HB9
      go_wp2_with fail
      refine TB.out.mono ?_
      rintro e wy ⟨rfl, hby⟩
      have HB11 := hide (HBX.out.trans (hby.mono HBX.out.size))
      have K11 := hide (K10.out.below hby K10.out.lt)
      have HG11 := hide (HG10.out.below hby HG10.out.lt)
      have kx := HKX.out.below hby HKX.out.lt
      have j0 : wy.cell? ⟨X, 0, none⟩ = some (.int .u8 (o : Int)) := kx.cell 0
      have j1 : wy.cell? ⟨X, 1, none⟩ = some (.int .i64 n) := kx.cell 1
      have t0 := HWW.out.t0
      have t1 := HWW.out.t1
      have a0 := HWW.out.a0
      have a1 := HWW.out.a1
      have b1 := HWW.out.bh
      have JM := hide HWW.out.jmp
      have NX := hide HWW.out.nxt
      have hlo := HWW.out.lo
      have hhi := HWW.out.hi
      rw [HZ.out] at t1 b1 JM NX
      generalize tkI ⟨(o : Int), n⟩ = tk at *
      generalize adO (o : Int) = aj at *
      have s1 : IntKind.i64.wrap (z - tk) = z - tk := by rw [IntKind.wrap_i64]; omega
      have s2 : IntKind.i64.wrap (z - tk + aj) = z - tk + aj := by rw [IntKind.wrap_i64]; omega
      have s3 : IntKind.i64.wrap ((p : Int) + 1) = (p : Int) + 1 := by rw [IntKind.wrap_i64]; omega
      have s4 : IntKind.i64.wrap ((s : Int) + 1) = (s : Int) + 1 := by rw [IntKind.wrap_i64]; omega
      have s5 : IntKind.i64.wrap ((a : Int) + 1) = (a : Int) + 1 := by rw [IntKind.wrap_i64]; omega
      have t2 : ¬ z < tk := by omega
      have b2 : ¬ 200 < z - tk + aj := by omega
      have hb0 : 0 ≤ z - tk + aj := by omega
      clear hby kx K10 HG10 HKX HBX i0 i1 TB HWW
      by_cases h29 : o = 29
      · have e29 : ((o : Int) == 29) = true := by simp [h29]
        clear h29
        go_wp2_with fail
        go_ret
        exact ⟨rfl, HB11.out⟩
      have e29 : ((o : Int) == 29) = false := by rw [beq_eq_false_iff_ne]; omega
      by_cases h22 : o = 22
      · have e22 : ((o : Int) == 22) = true := by simp [h22]
        obtain ⟨k, rfl, hk, hk2⟩ := JM.out (.inl h22)
        have HK2 := hide hk2
        clear h22 h29 hk2
        go_wp2_with fail
        go_roundw
        case rel => exact ⟨k, s + 1, a, by have := HN.out; omega, by omega, by omega, rfl, by rw [HK2.out], rfl, by simp, hide (by rw [HK2.out]; omega), HG11, K11, HB11⟩
        case measure => simp [RowKit.intOf] <;> omega
      have e22 : ((o : Int) == 22) = false := by rw [beq_eq_false_iff_ne]; omega
      obtain ⟨hp1, hnx⟩ := NX.out h22 h29
      have HNX := hide hnx
      clear hnx
      by_cases h23 : o = 23 ∨ o = 24
      · obtain ⟨k, rfl, hk, hk2⟩ := JM.out (.inr h23)
        have HK2 := hide hk2
        clear hk2
        by_cases hat : a < tl.length
        · have hatI : (a : Int) < (tl.length : Int) := by omega
          obtain ⟨bd, rfl, hbdl, hbc⟩ := HBL.out (by omega)
          have c0 := (HB11.out.cell (by rw [block_of_add]; exact hbdl)).trans (hbc a hat)
          cases hta : tl[a] with
          | true =>
            rw [hta] at c0
            clear hta hbc
            rcases h23 with h23 | h23
            · have e23 : ((o : Int) == 23) = true := by simp [h23]
              clear h23 h22 h29
              go_wp2_with fail
              go_roundw
              case rel => exact ⟨k, s + 1, a + 1, by have := HN.out; omega, by omega, by omega, rfl, by rw [HK2.out], by simp, by simp, hide (by rw [HK2.out]; omega), HG11, K11, HB11⟩
              case measure => simp [RowKit.intOf] <;> omega
            · have e23 : ((o : Int) == 23) = false := by simp [h23]
              have e24 : ((o : Int) == 24) = true := by simp [h23]
              clear h23 h22 h29
              go_wp2_with fail
              go_roundw
              case rel => exact ⟨k, s + 1, a + 1, by have := HN.out; omega, by omega, by omega, rfl, by rw [HK2.out], by simp, by simp, hide (by rw [HK2.out]; omega), HG11, K11, HB11⟩
              case measure => simp [RowKit.intOf] <;> omega
          | false =>
            rw [hta] at c0
            clear hta hbc
            rcases h23 with h23 | h23
            · have e23 : ((o : Int) == 23) = true := by simp [h23]
              clear h23 h22 h29
              go_wp2_with fail
              go_roundw
              case rel => exact ⟨p + 1, s + 1, a + 1, by have := HN.out; omega, by omega, by omega, by simp, by rw [HNX.out], by simp, by simp, hide (by rw [HNX.out]; omega), HG11, K11, HB11⟩
              case measure => simp [RowKit.intOf] <;> omega
            · have e23 : ((o : Int) == 23) = false := by simp [h23]
              have e24 : ((o : Int) == 24) = true := by simp [h23]
              clear h23 h22 h29
              go_wp2_with fail
              go_roundw
              case rel => exact ⟨p + 1, s + 1, a + 1, by have := HN.out; omega, by omega, by omega, by simp, by rw [HNX.out], by simp, by simp, hide (by rw [HNX.out]; omega), HG11, K11, HB11⟩
              case measure => simp [RowKit.intOf] <;> omega
        · have hatI : ¬ (a : Int) < (tl.length : Int) := by omega
          rcases h23 with h23 | h23
          · have e23 : ((o : Int) == 23) = true := by simp [h23]
            clear h23 h22 h29
            go_wp2_with fail
            go_roundw
            case rel => exact ⟨p + 1, s + 1, a + 1, by have := HN.out; omega, by omega, by omega, by simp, by rw [HNX.out], by simp, by simp, hide (by rw [HNX.out]; omega), HG11, K11, HB11⟩
            case measure => simp [RowKit.intOf] <;> omega
          · have e23 : ((o : Int) == 23) = false := by simp [h23]
            have e24 : ((o : Int) == 24) = true := by simp [h23]
            clear h23 h22 h29
            go_wp2_with fail
            go_roundw
            case rel => exact ⟨p + 1, s + 1, a + 1, by have := HN.out; omega, by omega, by omega, by simp, by rw [HNX.out], by simp, by simp, hide (by rw [HNX.out]; omega), HG11, K11, HB11⟩
            case measure => simp [RowKit.intOf] <;> omega
      · have e23 : ((o : Int) == 23) = false := by rw [beq_eq_false_iff_ne]; omega
        have e24 : ((o : Int) == 24) = false := by rw [beq_eq_false_iff_ne]; omega
        clear h23 h22 h29
        go_wp2_with fail
        go_roundw
        case rel => exact ⟨p + 1, s + 1, a, by have := HN.out; omega, by omega, by omega, by simp, by rw [HNX.out], rfl, by simp, hide (by rw [HNX.out]; omega), HG11, K11, HB11⟩
        case measure => simp [RowKit.intOf] <;> omega
end Go.Proofs.YtegpimaakgledaaDoor.CodeWayW
