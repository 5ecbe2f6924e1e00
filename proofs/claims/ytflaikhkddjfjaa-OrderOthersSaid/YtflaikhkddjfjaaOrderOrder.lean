/- OrderOrder. -/
import Derived.Test.YtflaikhkddjfjaaRows
import Derived.Test.YtflaikhkddjfjaaOrdV
import Derived.Test.YtflaikhkddjfjaaOrderTells
import Derived.LoopN
namespace Go.Proofs.Ytflaikhkddjfjaa.OrderOrderW
open Go Go.RowKit Go.Proofs.Ytflaikhkddjfjaa Go.Proofs.Ytflaikhkddjfjaa.Ord
set_option linter.unusedVariables false
set_option linter.unusedSimpArgs false
open Go.Proofs.Ytflaikhkddjfjaa.OrderTellsW (Awake)
theorem rem_in (a : Int) (n : Nat) (h1 : 1 ≤ n) (h2 : n ≤ 120) : ∃ p : Nat, p < n ∧ wrap64 ((IntKind.u64.wrap a).tmod n) = (p : Int) := by
  rw [IntKind.wrap_u64]
  generalize hx : a % 18446744073709551616 = x
  have hx0 : 0 ≤ x := by omega
  rw [Int.tmod_eq_emod_of_nonneg hx0]
  have h3 := Int.emod_nonneg x (show (n : Int) ≠ 0 by omega)
  have h4 := Int.emod_lt_of_pos x (show (0 : Int) < n by omega)
  obtain ⟨p, hp⟩ := Int.eq_ofNat_of_zero_le h3
  refine ⟨p, by omega, ?_⟩
  rw [hp]
  unfold wrap64; omega
set_option maxRecDepth 100000 in
set_option maxHeartbeats 8000000 in
theorem walkA (hA : Awake) {H : Type} {enc : TypeId × Value → H} {base : Nat} (W : World) (a0 : Int) (w0 : (Lit.int .i64 a0).wf = true) (v1 : Value) (d1 : DataW H) (p1 : List MemPlace) (o1 : Value.okWide Try.prog W .any base 22 v1) (r1 : DataW.Trod enc Try.prog W 0 (fun _ => true) true 22 v1 d1 p1) (a2 : Int) (w2 : (Lit.int .i64 a2).wf = true) (a3 : Int) (w3 : (Lit.int .i64 a3).wf = true) (a4 : Int) (w4 : (Lit.int .i64 a4).wf = true) :
    Calls Try.prog 7 #[.int .i64 a0, v1, .int .i64 a2, .int .i64 a3, .int .i64 a4] W fun e w' => e = .returned (.bool true) ∧ Below W.heap.size W w' := by
  obtain ⟨A, len, cap, F, rfl, hlen, hev⟩ := evs_of o1 r1
  have AW := hide (hA W)
  have GR := hide (fun (w' : World) (hb : Below W.heap.size W w') => Great_a A len cap F w' hlen (hev.below hb))
  have OC := hide (fun (w' : World) (hb : Below W.heap.size W w') (hs : Small F len) => Of_c a0 A len cap F w' hlen (hev.below hb) hs)
  have HEV := hide hev
  clear o1 r1 hev w0 w2 w3 w4 hA
  go_enter Try.func7, Try.ntmps7
  go_wp2_with fail
  refine AW.out.mono ?_
  rintro e Wa ⟨rfl, hba⟩
  have HBa := hide hba
  have GR1 := hide (GR.out Wa hba)
  clear hba
  go_wp2_with fail
  refine GR1.out.mono ?_
  rintro e W1 ⟨rfl | ⟨rfl, hs⟩, hb1⟩
  · have HB1 := hide (HBa.out.trans (hb1.mono HBa.out.size))
    clear hb1
    go_wp2_with fail
    go_ret
    exact ⟨rfl, HB1.out⟩
  by_cases hl0 : len = 0
  · subst hl0
    have HB1 := hide (HBa.out.trans (hb1.mono HBa.out.size))
    clear hb1 hs
    go_wp2_with fail
    go_ret
    exact ⟨rfl, HB1.out⟩
  have hl0I : ¬ (len : Int) = 0 := by omega
  have HB1 := hide (HBa.out.trans (hb1.mono HBa.out.size))
  have OC1 := hide (OC.out W1 HB1.out hs)
  have SM := hide hs
  clear hs hb1
  go_wp2_with fail
  refine OC1.out.mono ?_
  rintro e W2 ⟨⟨rfl, _⟩ | ⟨o, es, rfl, hg, _, ho, hgr, hel⟩, hb2⟩
  · have HB2 := hide (HB1.out.trans (hb2.mono HB1.out.size))
    clear hb2
    go_wp2_with fail
    go_ret
    exact ⟨rfl, HB2.out⟩
  have HB2 := hide (HB1.out.trans (hb2.mono HB1.out.size))
  have hle : len ≤ 120 := by
    rcases SM.out with h | h
    · exact h.1
    · have := hg.2.2.1; omega
  obtain ⟨n, hn⟩ : ∃ x, a0.toNat = x := ⟨_, rfl⟩
  have hn1 : 1 ≤ n := by have := hg.1; omega
  have hn64 : n ≤ 64 := by have := hg.2.1; omega
  rw [hn] at hgr
  have HN := hide (show a0 = (n : Int) by have := hg.1; omega)
  have TW := hide (⟨hgr.sound hn1 hn64 (by omega), hgr.fit hn1 hn64 (by omega)⟩ : Two n (evN F) es)
  have HO := hide ho
  have HEL := hide hel
  have HG := hide hg
  clear hb2 hg ho hgr hel hn
  go_wp2_with fail
  go_quiet (fail)
  go_wp2_with fail
  obtain ⟨i, hi, ei⟩ := rem_in a2 len (by omega) hle
  obtain ⟨k, hk, ek⟩ := rem_in a3 len (by omega) hle
  obtain ⟨j, hj, ej⟩ := rem_in a4 len (by omega) hle
  rw [ei, ek, ej]
  clear ei ek ej
  have HIE := hide (show i < es.length by rw [HEL.out]; exact hi)
  have HKE := hide (show k < es.length by rw [HEL.out]; exact hk)
  have HJE := hide (show j < es.length by rw [HEL.out]; exact hj)
  obtain ⟨ad, rfl, ci0, ci1, hrdi, hmxi, hali⟩ := HEV.out i hi
  obtain ⟨ad', had', ck0, _, _, _, halk⟩ := HEV.out k hk
  injection had' with had'
  subst had'
  have C0I := hide (fun (w' : World) (hb : Below W.heap.size W w') => (hb.cell hali).trans ci0)
  have C1I := hide (fun (w' : World) (hb : Below W.heap.size W w') => (hb.cell (p := ⟨_, _, none⟩) hali).trans ci1)
  have C0K := hide (fun (w' : World) (hb : Below W.heap.size W w') => (hb.cell halk).trans ck0)
  have HRD := hide hrdi
  have haf : (F i).af.length ≤ 20 := SM.out.elim (fun h => h.2 i hi) (fun h => by omega)
  have hiI : (i : Int) < (len : Int) := by omega
  have hkI : (k : Int) < (len : Int) := by omega
  clear ci0 ci1 ck0 hrdi hali halk
  have HBq := hide (fun (m : Nat) => below_drewN (Below.refl W2.heap.size W2) m)
  have DI := hide (fun (w' : World) (hb : Below W2.heap.size W2 w') => by
    have := Depth_c o W1.heap.size W1.heap.size es i w' (HO.out.below hb)
    rw [inB_yes HIE.out, if_pos rfl, Int.toNat_natCast] at this
    exact this)
  have DK := hide (fun (w' : World) (hb : Below W2.heap.size W2 w') => by
    have := Depth_c o W1.heap.size W1.heap.size es k w' (HO.out.below hb)
    rw [inB_yes HKE.out, if_pos rfl, Int.toNat_natCast] at this
    exact this)
  have AH := hide (fun (p q : Int) (x : Bool) (hx : aheadB es p q = x) (w' : World) (hb : Below W2.heap.size W2 w') => by
    have := Ahead_b o W1.heap.size W1.heap.size n es (evN F) p q w' (HO.out.below hb) TW.out.s
    rw [hx] at this
    exact this)
  have AHQ := hide (fun (p q : Int) (x : Bool) (hx : aheadB es p q = x) (w' : World) (hb : Below W2.heap.size W2 w') (m : Nat) => by
    have := Ahead_c o W1.heap.size W1.heap.size n es (evN F) p q (w'.drewN m) ((HO.out.below hb).drewN m) TW.out.s
    rw [hx] at this
    exact this)
  have aii : aheadB es i i = false := by
    cases h : aheadB es i i with
    | false => rfl
    | true => exact absurd rfl ((TW.out.ahead HIE.out HIE.out).1 h).1
  have dep : aheadB es i k = true → i < k ∧ (es.getD i default).d < (es.getD k default).d := fun h => by
    have h1 := ((TW.out.ahead HIE.out HKE.out).1 h).2
    exact ⟨h1.lt, (TW.out.s.d k HKE.out _).2 (.inr ⟨i, h1, by show _ < 1 + (es.getD i default).d; omega⟩)⟩
  have tra : aheadB es i k = true → aheadB es k j = true → aheadB es i j = true := fun h h' => by
    have h1 := ((TW.out.ahead HIE.out HKE.out).1 h).2
    have h2 := ((TW.out.ahead HKE.out HJE.out).1 h').2
    have h3 := h2.trans h1
    exact (TW.out.ahead HIE.out HJE.out).2 ⟨fun e => by have := h3.lt; omega, h3⟩
  have rks : i < k → (F i).r = (F k).r → aheadB es i k = true := fun h1 h2 => by
    obtain ⟨b1, _⟩ := mayE_ev (n := n) (i := i) (F := F) (by have := HG.out.2.2.2 i hi; rwa [show a0 = (n : Int) from HN.out] at this)
    obtain ⟨b2, _⟩ := mayE_ev (n := n) (i := k) (F := F) (by have := HG.out.2.2.2 k hk; rwa [show a0 = (n : Int) from HN.out] at this)
    exact (TW.out.ahead HIE.out HKE.out).2 ⟨by omega, same_rank h1 (by rw [b1, b2] at h2; omega)⟩
  have aft : ∀ p, p < (F i).af.length → aheadB es ((F i).af.getD p 0) i = true := fun p hp => by
    obtain ⟨_, _, b3, b4⟩ := mayE_ev (n := n) (i := i) (F := F) (by have := HG.out.2.2.2 i hi; rwa [show a0 = (n : Int) from HN.out] at this)
    have hm : (F i).af.getD p 0 ∈ (F i).af := by
      rw [List.getD_eq_getElem?_getD, List.getElem?_eq_getElem hp]
      exact List.getElem_mem hp
    rw [b3] at hm
    unfold natI at hm
    obtain ⟨y, hy, e⟩ := List.mem_map.1 hm
    have e' : (F i).af.getD p 0 = (y : Int) := by rw [b3]; exact e.symm
    rw [e']
    have hyi := b4 y hy
    exact (TW.out.ahead (by have := HIE.out; omega) HIE.out).2 ⟨by omega, .dir ⟨hyi, .inr hy⟩⟩
  have REST := hide (And.intro rks aft)
  have DEP := hide dep
  have TRA := hide tra
  have hdI := TW.out.f.at_ HIE.out
  have hd1 : (es.getD i default).d ≤ 120 := by have := hdI.2; have := TW.out.f.le; omega
  have hd2 : (es.getD k default).d ≤ 120 := by have := (TW.out.f.at_ HKE.out).2; have := TW.out.f.le; omega
  clear dep tra rks aft hdI
  obtain ⟨di, hdi⟩ : ∃ x, (es.getD i default).d = x := ⟨_, rfl⟩
  obtain ⟨dk, hdk⟩ : ∃ x, (es.getD k default).d = x := ⟨_, rfl⟩
  rw [hdi] at DI DEP hd1
  rw [hdk] at DK DEP hd2
  clear hdi hdk
  have R1 := hide (DI.out _ (HBq.out nq))
  have R2 := hide (DK.out _ (HBq.out nq))
  have R3 := hide (AH.out i i false aii _ (HBq.out nq))
  refine R1.out.mono ?_
  rintro e w' ⟨rfl, rfl⟩
  go_wp2_with fail
  refine R2.out.mono ?_
  rintro e w' ⟨rfl, rfl⟩
  go_wp2_with fail
  refine R3.out.mono ?_
  rintro e w3 ⟨rfl, hb3⟩
  have HB3 := hide ((HBq.out nq).trans (hb3.mono (HBq.out nq).size))
  clear hb3
  cases hik : aheadB es i k with
  | false =>
    have R4 := hide (AH.out i k false hik _ HB3.out)
    go_wp2_with fail
    refine R4.out.mono ?_
    rintro e w4 ⟨rfl, hb4⟩
    have HB4 := hide (HB3.out.trans (hb4.mono HB3.out.size))
    clear hb4
    have R5 := hide (AH.out i k false hik _ HB4.out)
    go_wp2_with fail
    refine R5.out.mono ?_
    rintro e w5 ⟨rfl, hb5⟩
    have HB5 := hide (HB4.out.trans (hb5.mono HB4.out.size))
    clear hb5
    have HBt := hide (HB2.out.trans (HB5.out.mono HB2.out.size))
    have t0 := C0I.out _ HBt.out
    have t1 := C0K.out _ HBt.out
    by_cases hik2 : i < k
    rotate_left
    · have hik2I : ¬ (i : Int) < (k : Int) := by omega
      clear t0 t1
      go_wp2_with fail
      go_quiet (fail)
      go_wp2_with fail
      go_loopw [21] (fun vp ws => ∃ p : Nat, p ≤ (F i).af.length ∧ vp = .int .i64 p ∧ Hid (Below W2.heap.size W2 ws)) (fun vp _ => (F i).af.length - (intOf vp).toNat)
      case atStart => exact ⟨0, by omega, rfl, hide (below_drewN HB5.out _)⟩
      case round =>
        obtain ⟨p, hp, rfl, HBp⟩ := hrel
        rename World => Wp
        have HBWp := hide (HB2.out.trans (HBp.out.mono HB2.out.size))
        have c1 := C1I.out Wp HBWp.out
        by_cases hpl : p < (F i).af.length
        rotate_left
        · have hplI : ¬ (p : Int) < ((F i).af.length : Int) := by omega
          go_wp2_with fail
          go_ret
          exact ⟨rfl, HBWp.out⟩
        have hplI : (p : Int) < ((F i).af.length : Int) := by omega
        obtain ⟨ad2, hA2, hbl, cx⟩ := rd_at HRD.out hpl
        have cx := (HBWp.out.cell (p := ad2.add p) (by simpa [block_of_add] using hbl)).trans cx
        rw [hA2] at c1
        have AF := hide (AH.out ((F i).af.getD p 0) i true (REST.out.2 p hpl) Wp HBp.out)
        clear hA2 hbl
        generalize (F i).af.getD p 0 = x at *
        go_wp2_with fail
        refine AF.out.mono ?_
        rintro e Wn ⟨rfl, hbn⟩
        have HBn := hide (HBp.out.trans (hbn.mono HBp.out.size))
        clear hbn
        go_wp2_with fail
        go_roundw
        case rel => exact ⟨p + 1, by omega, by go_num, HBn⟩
        case measure => simp [intOf] <;> omega
    have hik2I : (i : Int) < (k : Int) := by omega
    by_cases er : (F i).r = (F k).r
    rotate_left
    · have ebI : ((F i).r == (F k).r) = false := by simp [er]
      clear er
      generalize hri : (F i).r = ri at t0 ebI
      generalize hrk : (F k).r = rk at t1 ebI
      clear hri hrk
      go_wp2_with fail
      go_quiet (fail)
      clear t0 t1 ebI
      go_wp2_with fail
      go_loopw [21] (fun vp ws => ∃ p : Nat, p ≤ (F i).af.length ∧ vp = .int .i64 p ∧ Hid (Below W2.heap.size W2 ws)) (fun vp _ => (F i).af.length - (intOf vp).toNat)
      case atStart => exact ⟨0, by omega, rfl, hide (below_drewN HB5.out _)⟩
      case round =>
        obtain ⟨p, hp, rfl, HBp⟩ := hrel
        rename World => Wp
        have HBWp := hide (HB2.out.trans (HBp.out.mono HB2.out.size))
        have c1 := C1I.out Wp HBWp.out
        by_cases hpl : p < (F i).af.length
        rotate_left
        · have hplI : ¬ (p : Int) < ((F i).af.length : Int) := by omega
          go_wp2_with fail
          go_ret
          exact ⟨rfl, HBWp.out⟩
        have hplI : (p : Int) < ((F i).af.length : Int) := by omega
        obtain ⟨ad2, hA2, hbl, cx⟩ := rd_at HRD.out hpl
        have cx := (HBWp.out.cell (p := ad2.add p) (by simpa [block_of_add] using hbl)).trans cx
        rw [hA2] at c1
        have AF := hide (AH.out ((F i).af.getD p 0) i true (REST.out.2 p hpl) Wp HBp.out)
        clear hA2 hbl
        generalize (F i).af.getD p 0 = x at *
        go_wp2_with fail
        refine AF.out.mono ?_
        rintro e Wn ⟨rfl, hbn⟩
        have HBn := hide (HBp.out.trans (hbn.mono HBp.out.size))
        clear hbn
        go_wp2_with fail
        go_roundw
        case rel => exact ⟨p + 1, by omega, by go_num, HBn⟩
        case measure => simp [intOf] <;> omega
    exact absurd (REST.out.1 hik2 er) (by rw [hik]; exact Bool.noConfusion)
  | true =>
    obtain ⟨hik9, hdd9⟩ := DEP.out hik
    have hge1 : ¬ (k : Int) ≤ (i : Int) := by omega
    have hge2 : ¬ (dk : Int) ≤ (di : Int) := by omega
    have hgb1 : decide (k ≤ i) = false := decide_eq_false (by omega)
    have hgb2 : decide (dk ≤ di) = false := decide_eq_false (by omega)
    have R4 := hide (AH.out i k true hik _ HB3.out)
    go_wp2_with fail
    refine R4.out.mono ?_
    rintro e w4 ⟨rfl, hb4⟩
    have HB4 := hide (HB3.out.trans (hb4.mono HB3.out.size))
    clear hb4
    have R5 := hide (AH.out i k true hik _ HB4.out)
    go_wp2_with fail
    refine R5.out.mono ?_
    rintro e w5 ⟨rfl, hb5⟩
    have HB5 := hide (HB4.out.trans (hb5.mono HB4.out.size))
    clear hb5
    cases hkj : aheadB es k j with
    | false =>
      have R6 := hide (AH.out k j false hkj _ HB5.out)
      go_wp2_with fail
      refine R6.out.mono ?_
      rintro e w6 ⟨rfl, hb6⟩
      have HB6 := hide (HB5.out.trans (hb6.mono HB5.out.size))
      clear hb6
      have HBt := hide (HB2.out.trans (HB6.out.mono HB2.out.size))
      have t0 := C0I.out _ HBt.out
      have t1 := C0K.out _ HBt.out
      have hik2 := hik9
      have hik2I : (i : Int) < (k : Int) := by omega
      by_cases er : (F i).r = (F k).r
      rotate_left
      · have ebI : ((F i).r == (F k).r) = false := by simp [er]
        clear er
        generalize hri : (F i).r = ri at t0 ebI
        generalize hrk : (F k).r = rk at t1 ebI
        clear hri hrk
        go_wp2_with fail
        go_quiet (fail)
        clear t0 t1 ebI
        go_wp2_with fail
        clear hge1 hge2 hgb1 hgb2 hdd9 hik hik2 hik2I hik9
        go_loopw [21] (fun vp ws => ∃ p : Nat, p ≤ (F i).af.length ∧ vp = .int .i64 p ∧ Hid (Below W2.heap.size W2 ws)) (fun vp _ => (F i).af.length - (intOf vp).toNat)
        case atStart => exact ⟨0, by omega, rfl, hide (below_drewN HB6.out _)⟩
        case round =>
          obtain ⟨p, hp, rfl, HBp⟩ := hrel
          rename World => Wp
          have HBWp := hide (HB2.out.trans (HBp.out.mono HB2.out.size))
          have c1 := C1I.out Wp HBWp.out
          by_cases hpl : p < (F i).af.length
          rotate_left
          · have hplI : ¬ (p : Int) < ((F i).af.length : Int) := by omega
            go_wp2_with fail
            go_ret
            exact ⟨rfl, HBWp.out⟩
          have hplI : (p : Int) < ((F i).af.length : Int) := by omega
          obtain ⟨ad2, hA2, hbl, cx⟩ := rd_at HRD.out hpl
          have cx := (HBWp.out.cell (p := ad2.add p) (by simpa [block_of_add] using hbl)).trans cx
          rw [hA2] at c1
          have AF := hide (AH.out ((F i).af.getD p 0) i true (REST.out.2 p hpl) Wp HBp.out)
          clear hA2 hbl
          generalize (F i).af.getD p 0 = x at *
          go_wp2_with fail
          refine AF.out.mono ?_
          rintro e Wn ⟨rfl, hbn⟩
          have HBn := hide (HBp.out.trans (hbn.mono HBp.out.size))
          clear hbn
          go_wp2_with fail
          go_roundw
          case rel => exact ⟨p + 1, by omega, by go_num, HBn⟩
          case measure => simp [intOf] <;> omega
      have ebI : ((F i).r == (F k).r) = true := by simp [er]
      have AQ := hide (AHQ.out i k true hik _ HB6.out)
      clear er
      generalize hri : (F i).r = ri at t0 ebI
      generalize hrk : (F k).r = rk at t1 ebI
      clear hri hrk
      go_wp2_with fail
      go_quiet ((go_at_call 17; exact Calls.quiet_of (AQ.out _)))
      clear t0 t1 ebI
      go_wp2_with fail
      clear hge1 hge2 hgb1 hgb2 hdd9 hik hik2 hik2I hik9
      go_loopw [21] (fun vp ws => ∃ p : Nat, p ≤ (F i).af.length ∧ vp = .int .i64 p ∧ Hid (Below W2.heap.size W2 ws)) (fun vp _ => (F i).af.length - (intOf vp).toNat)
      case atStart => exact ⟨0, by omega, rfl, hide (below_drewN HB6.out _)⟩
      case round =>
        obtain ⟨p, hp, rfl, HBp⟩ := hrel
        rename World => Wp
        have HBWp := hide (HB2.out.trans (HBp.out.mono HB2.out.size))
        have c1 := C1I.out Wp HBWp.out
        by_cases hpl : p < (F i).af.length
        rotate_left
        · have hplI : ¬ (p : Int) < ((F i).af.length : Int) := by omega
          go_wp2_with fail
          go_ret
          exact ⟨rfl, HBWp.out⟩
        have hplI : (p : Int) < ((F i).af.length : Int) := by omega
        obtain ⟨ad2, hA2, hbl, cx⟩ := rd_at HRD.out hpl
        have cx := (HBWp.out.cell (p := ad2.add p) (by simpa [block_of_add] using hbl)).trans cx
        rw [hA2] at c1
        have AF := hide (AH.out ((F i).af.getD p 0) i true (REST.out.2 p hpl) Wp HBp.out)
        clear hA2 hbl
        generalize (F i).af.getD p 0 = x at *
        go_wp2_with fail
        refine AF.out.mono ?_
        rintro e Wn ⟨rfl, hbn⟩
        have HBn := hide (HBp.out.trans (hbn.mono HBp.out.size))
        clear hbn
        go_wp2_with fail
        go_roundw
        case rel => exact ⟨p + 1, by omega, by go_num, HBn⟩
        case measure => simp [intOf] <;> omega
    | true =>
      have hij := TRA.out hik hkj
      have R6 := hide (AH.out k j true hkj _ HB5.out)
      go_wp2_with fail
      refine R6.out.mono ?_
      rintro e w6 ⟨rfl, hb6⟩
      have HB6 := hide (HB5.out.trans (hb6.mono HB5.out.size))
      clear hb6
      have R7 := hide (AH.out i j true hij _ HB6.out)
      go_wp2_with fail
      refine R7.out.mono ?_
      rintro e w7 ⟨rfl, hb7⟩
      have HB7 := hide (HB6.out.trans (hb7.mono HB6.out.size))
      clear hb7
      have HBt := hide (HB2.out.trans (HB7.out.mono HB2.out.size))
      have t0 := C0I.out _ HBt.out
      have t1 := C0K.out _ HBt.out
      have hik2 := hik9
      have hik2I : (i : Int) < (k : Int) := by omega
      by_cases er : (F i).r = (F k).r
      rotate_left
      · have ebI : ((F i).r == (F k).r) = false := by simp [er]
        clear er
        generalize hri : (F i).r = ri at t0 ebI
        generalize hrk : (F k).r = rk at t1 ebI
        clear hri hrk
        go_wp2_with fail
        go_quiet (fail)
        clear t0 t1 ebI
        go_wp2_with fail
        clear hge1 hge2 hgb1 hgb2 hdd9 hik hik2 hik2I hik9
        go_loopw [21] (fun vp ws => ∃ p : Nat, p ≤ (F i).af.length ∧ vp = .int .i64 p ∧ Hid (Below W2.heap.size W2 ws)) (fun vp _ => (F i).af.length - (intOf vp).toNat)
        case atStart => exact ⟨0, by omega, rfl, hide (below_drewN HB7.out _)⟩
        case round =>
          obtain ⟨p, hp, rfl, HBp⟩ := hrel
          rename World => Wp
          have HBWp := hide (HB2.out.trans (HBp.out.mono HB2.out.size))
          have c1 := C1I.out Wp HBWp.out
          by_cases hpl : p < (F i).af.length
          rotate_left
          · have hplI : ¬ (p : Int) < ((F i).af.length : Int) := by omega
            go_wp2_with fail
            go_ret
            exact ⟨rfl, HBWp.out⟩
          have hplI : (p : Int) < ((F i).af.length : Int) := by omega
          obtain ⟨ad2, hA2, hbl, cx⟩ := rd_at HRD.out hpl
          have cx := (HBWp.out.cell (p := ad2.add p) (by simpa [block_of_add] using hbl)).trans cx
          rw [hA2] at c1
          have AF := hide (AH.out ((F i).af.getD p 0) i true (REST.out.2 p hpl) Wp HBp.out)
          clear hA2 hbl
          generalize (F i).af.getD p 0 = x at *
          go_wp2_with fail
          refine AF.out.mono ?_
          rintro e Wn ⟨rfl, hbn⟩
          have HBn := hide (HBp.out.trans (hbn.mono HBp.out.size))
          clear hbn
          go_wp2_with fail
          go_roundw
          case rel => exact ⟨p + 1, by omega, by go_num, HBn⟩
          case measure => simp [intOf] <;> omega
      have ebI : ((F i).r == (F k).r) = true := by simp [er]
      have AQ := hide (AHQ.out i k true hik _ HB7.out)
      clear er
      generalize hri : (F i).r = ri at t0 ebI
      generalize hrk : (F k).r = rk at t1 ebI
      clear hri hrk
      go_wp2_with fail
      go_quiet ((go_at_call 17; exact Calls.quiet_of (AQ.out _)))
      clear t0 t1 ebI
      go_wp2_with fail
      clear hge1 hge2 hgb1 hgb2 hdd9 hik hik2 hik2I hik9
      go_loopw [21] (fun vp ws => ∃ p : Nat, p ≤ (F i).af.length ∧ vp = .int .i64 p ∧ Hid (Below W2.heap.size W2 ws)) (fun vp _ => (F i).af.length - (intOf vp).toNat)
      case atStart => exact ⟨0, by omega, rfl, hide (below_drewN HB7.out _)⟩
      case round =>
        obtain ⟨p, hp, rfl, HBp⟩ := hrel
        rename World => Wp
        have HBWp := hide (HB2.out.trans (HBp.out.mono HB2.out.size))
        have c1 := C1I.out Wp HBWp.out
        by_cases hpl : p < (F i).af.length
        rotate_left
        · have hplI : ¬ (p : Int) < ((F i).af.length : Int) := by omega
          go_wp2_with fail
          go_ret
          exact ⟨rfl, HBWp.out⟩
        have hplI : (p : Int) < ((F i).af.length : Int) := by omega
        obtain ⟨ad2, hA2, hbl, cx⟩ := rd_at HRD.out hpl
        have cx := (HBWp.out.cell (p := ad2.add p) (by simpa [block_of_add] using hbl)).trans cx
        rw [hA2] at c1
        have AF := hide (AH.out ((F i).af.getD p 0) i true (REST.out.2 p hpl) Wp HBp.out)
        clear hA2 hbl
        generalize (F i).af.getD p 0 = x at *
        go_wp2_with fail
        refine AF.out.mono ?_
        rintro e Wn ⟨rfl, hbn⟩
        have HBn := hide (HBp.out.trans (hbn.mono HBp.out.size))
        clear hbn
        go_wp2_with fail
        go_roundw
        case rel => exact ⟨p + 1, by omega, by go_num, HBn⟩
        case measure => simp [intOf] <;> omega
theorem walk {H : Type} {enc : TypeId × Value → H} {base : Nat} (W : World) (a0 : Int) (w0 : (Lit.int .i64 a0).wf = true) (v1 : Value) (d1 : DataW H) (p1 : List MemPlace) (o1 : Value.okWide Try.prog W .any base 22 v1) (r1 : DataW.Trod enc Try.prog W 0 (fun _ => true) true 22 v1 d1 p1) (a2 : Int) (w2 : (Lit.int .i64 a2).wf = true) (a3 : Int) (w3 : (Lit.int .i64 a3).wf = true) (a4 : Int) (w4 : (Lit.int .i64 a4).wf = true) :
    Calls Try.prog 7 #[.int .i64 a0, v1, .int .i64 a2, .int .i64 a3, .int .i64 a4] W fun e w' => e = .returned (.bool true) ∧ Below W.heap.size W w' :=
  walkA awake_c W a0 w0 v1 d1 p1 o1 r1 a2 w2 a3 w3 a4 w4
end Go.Proofs.Ytflaikhkddjfjaa.OrderOrderW
