/- The walk of the statement SignJoins. -/
import Derived.Test.YtnmaclpjddafnaaRows
import Derived.Test.YtnmaclpjddafnaaSignVm
import Derived.Test.YtnmaclpjddafnaaSignPq
namespace Go.Proofs.Ytnmaclpjddafnaa.SignJoinsW
open Go.Joins Go.ChangeShapes Go.WideShapes Go.RowKit Go.Deep Go.Sort Go.Proofs.Ytnmaclpjddafnaa Go.Proofs.Ytnmaclpjddafnaa.Jn
set_option linter.unusedVariables false
set_option linter.unusedSimpArgs false
theorem own_row {H : Type} {enc : TypeId × Value → H} {base : Nat} {W : World} {v : Value} {d : DataW H} {p : List MemPlace} (o : Value.okWide Try.prog W .any base 22 v) (r : DataW.Trod enc Try.prog W 0 (fun _ => true) true 22 v d p) :
    ∃ A l c, v = .slice A (List.length l) c ∧ CRow W A l := by
  obtain ⟨A0, n0, c0, rfl⟩ := okWide_slice Try.underlying22 o
  obtain ⟨fuel, hf⟩ := r
  obtain ⟨A, l, c, hv, hR, _⟩ := CRow.of (show DataW.trod enc Try.prog W 0 (fun _ => true) true fuel 22 [.slice A0 n0 c0] = some (d, p) by simpa [Value.cells] using hf)
  exact ⟨A, l, c, hv, hR⟩
theorem row_ok {w : World} {A : Option Addr} {l : List Ch} (h : CRow w A l) : ∀ t ∈ l, t.ok := fun t ht => by
  obtain ⟨i, hi, rfl⟩ := List.getElem_of_mem ht
  obtain ⟨_, _, _, hok, _⟩ := h.at_ hi
  exact hok
theorem ok77 : (⟨77, 0, 0, 0, 0⟩ : Ch).ok := by
  unfold Ch.ok Fit64
  simp
theorem crow_take {w : World} {A : Option Addr} {l : List Ch} {n : Nat} (h : CRow w A l) : CRow w A (l.take n) := by
  refine ⟨Nat.le_trans (by rw [List.length_take]; omega) h.1, fun h0 => ?_⟩
  rw [List.length_take] at h0
  obtain ⟨a, rfl, ha, hc⟩ := h.2 (by omega)
  refine ⟨a, rfl, ha, fun i hi => ?_⟩
  rw [List.length_take] at hi
  rw [List.getElem_take]
  exact hc i (by omega)
/-- A row copied: append([]Choice{}, row...), the block of the empty row at hand. -/
theorem copy_c (w : World) (B : Nat) (A : Option Addr) (ca : Nat) (a : List Ch) (h : CRow w A a) (hB : B ≤ w.heap.size) (hl : a.length ≤ 1000) :
    ∃ v w', (Builtin.append_ #[22, 22] 22 #[.slice (some ⟨w.heap.size, 0, none⟩) 0 0, .slice A a.length ca]).run Try.prog (w.alloc (.cells #[] 24)) = .ok v w' ∧ w'.ownsRow B 24 5 v a.length (chs a) ∧ Below w.heap.size w w' := by
  obtain ⟨i0, hi0, hz0, hz1, hz2⟩ := info_parts ch_info
  obtain ⟨v, w', hrun, ho, hb⟩ := run_append_empty (P := Try.prog) (w.alloc (.cells #[] 24)) B 22 22 24 i0 chZ 5 40 Try.underlying22 hi0 hz0 hz1 hz2 rfl w.heap.size (Blk.new w 24 #[]) hB (by simp; omega) w.heap.size A a.length ca (chs a) ((crow_reads h).alloc (Nat.le_refl _) _) (chs_one' a) (by omega) (by decide)
  exact ⟨v, w', hrun, ho, ((Below.refl w.heap.size w).alloc (Nat.le_refl _) _).trans (hb.mono (by simp))⟩
set_option maxRecDepth 100000 in
set_option maxHeartbeats 16000000 in
theorem walk {H : Type} {enc : TypeId × Value → H} {base : Nat} (W : World) (v0 : Value) (d0 : DataW H) (p0 : List MemPlace) (o0 : Value.okWide Try.prog W .any base 22 v0) (r0 : DataW.Trod enc Try.prog W 0 (fun _ => true) true 22 v0 d0 p0) (v1 : Value) (d1 : DataW H) (p1 : List MemPlace) (o1 : Value.okWide Try.prog W .any base 22 v1) (r1 : DataW.Trod enc Try.prog W 0 (fun _ => true) true 22 v1 d1 p1) (v2 : Value) (d2 : DataW H) (p2 : List MemPlace) (o2 : Value.okWide Try.prog W .any base 24 v2) (r2 : DataW.Trod enc Try.prog W 0 (fun _ => true) true 24 v2 d2 p2) :
    Calls Try.prog 3 #[v0, v1, v2] W fun e w' => e = .returned (.bool true) ∧ Below W.heap.size W w' := by
  obtain ⟨A, a, ca, rfl, ha⟩ := own_row o0 r0
  obtain ⟨B, b, cb, rfl, hb⟩ := own_row o1 r1
  obtain ⟨x, rfl⟩ := arg_ch o2 r2
  clear o0 r0 o1 r1 o2 r2
  have hok := row_ok ha
  have hokb := row_ok hb
  by_cases hla : a.length ≤ 200
  rotate_left
  · have gI : (200 : Int) < (a.length : Int) := by omega
    clear ha hb
    obtain ⟨xr, xc, xf, xs, xv⟩ := x
    unfold Ch.val
    go_enter Try.func3, Try.ntmps3
    go_wp2_with fail
    go_ret
    exact ⟨rfl, (Below.refl _ _).alloc (Nat.le_refl _) _⟩
  have ga : ¬ (200 : Int) < (a.length : Int) := by omega
  by_cases hlb : b.length ≤ 200
  rotate_left
  · have gI : (200 : Int) < (b.length : Int) := by omega
    clear ha hb
    obtain ⟨xr, xc, xf, xs, xv⟩ := x
    unfold Ch.val
    go_enter Try.func3, Try.ntmps3
    go_wp2_with fail
    go_ret
    exact ⟨rfl, (Below.refl _ _).alloc (Nat.le_refl _) _⟩
  have gb : ¬ (200 : Int) < (b.length : Int) := by omega
  have OKA := hide hok
  have OKB := hide hokb
  have HA := hide ha
  have HB := hide hb
  have PB := hide (fun (w' : World) (h : Below W.heap.size W w') => Put_bU A ca a x w' (ha.below h) (by omega))
  have PAU := hide (fun (V : Option Addr) (c : Nat) (w' : World) (h : CRow w' V a) => Put_aU V c a x w' h (by omega))
  have MOK := hide (mmP_ok a x)
  have MLEN := hide (mmP_len a x)
  obtain ⟨mm, hmm⟩ : ∃ z, mmP a x = z := ⟨_, rfl⟩
  obtain ⟨ep, hep⟩ : ∃ z, errP a x = z := ⟨_, rfl⟩
  rw [hmm, hep] at PB PAU
  rw [hmm] at MOK MLEN
  clear hmm hep ha hb hok hokb
  obtain ⟨xr, xc, xf, xs, xv⟩ := x
  unfold Ch.val at PB PAU ⊢
  simp only at PB PAU ⊢
  have hb1 := (Below.refl W.heap.size W).alloc (Nat.le_refl _) (.cells #[.int .i64 xr, .int .i64 xc, .int .i64 xf, .int .i64 xs, .int .i64 xv] 24)
  have bx1 := Blk.new W 24 #[.int .i64 xr, .int .i64 xc, .int .i64 xf, .int .i64 xs, .int .i64 xv]
  obtain ⟨w1, hw1⟩ : ∃ z, W.alloc (.cells #[.int .i64 xr, .int .i64 xc, .int .i64 xf, .int .i64 xs, .int .i64 xv] 24) = z := ⟨_, rfl⟩
  rw [hw1] at hb1 bx1
  -- the copies
  obtain ⟨vx, w2, hrx, hox, hbx⟩ := copy_c w1 W.heap.size A ca a (HA.out.below hb1) hb1.size (by omega)
  have hb2 := hb1.trans (hbx.mono hb1.size)
  obtain ⟨vy, w3, hry, hoy, hby⟩ := copy_c w2 W.heap.size B cb b (HB.out.below hb2) hb2.size (by omega)
  have hb3 := hb2.trans (hby.mono hb2.size)
  obtain ⟨X, xcap, rfl, hcx⟩ := own_crow (own_belowR hox hby) (fun i hi => OKA.out _ (List.getElem_mem hi)) (by unfold maxLen; omega)
  obtain ⟨Y, ycap, rfl, hcy⟩ := own_crow hoy (fun i hi => OKB.out _ (List.getElem_mem hi)) (by unfold maxLen; omega)
  have RX := hide hrx
  have RY := hide hry
  have HB3 := hide hb3
  have BX3 := hide ((bx1.below hbx bx1.lt).below hby (bx1.below hbx bx1.lt).lt)
  have HX3 := hide hcx
  have HY3 := hide hcy
  have HW1 := hide hw1
  clear hrx hry hb1 bx1 hox hbx hb2 hoy hby hb3 hcx hcy hw1
  go_enter Try.func3, Try.ntmps3
  go_upto_region 3 with (fail)
  rw [HW1.out]
  clear HW1
  go_wp2_with (at_builtin; first
    | (refine Lib.wpList_append_run _ rfl _ _ _ _ rfl _ _ rfl rfl _ _ RX.out ?_; clear RX)
    | (refine Lib.wpList_append_run _ rfl _ _ _ _ rfl _ _ rfl rfl _ _ RY.out ?_; clear RY))
  refine (Join_bU A B ca cb a b w3 (HA.out.below HB3.out) (HB.out.below HB3.out) (by omega) (by omega)).mono ?_
  rintro e w4 ⟨⟨l, ej, VW, hJ, rfl, how⟩, hb4⟩
  have HJ := hide hJ
  have hll : l.length ≤ 400 := by have := hJ.len; omega
  have HB4 := hide (HB3.out.trans (hb4.mono HB3.out.size))
  obtain ⟨VW, wcap, rfl, hcw⟩ := own_crow how (fun i hi => hJ.ok _ (List.getElem_mem hi)) (by unfold maxLen; omega)
  have HW4 := hide hcw
  have BX4 := hide (BX3.out.below hb4 BX3.out.lt)
  have HX4 := hide (HX3.out.below hb4)
  have HY4 := hide (HY3.out.below hb4)
  clear hJ how hcw hb4 BX3 HX3 HY3 HB3
  have y0 : w4.cell? ⟨W.heap.size, 0, none⟩ = some (.int .i64 xr) := BX4.out.cell 0
  have y1 : w4.cell? ⟨W.heap.size, 1, none⟩ = some (.int .i64 xc) := BX4.out.cell 1
  have y2 : w4.cell? ⟨W.heap.size, 2, none⟩ = some (.int .i64 xf) := BX4.out.cell 2
  have y3 : w4.cell? ⟨W.heap.size, 3, none⟩ = some (.int .i64 xs) := BX4.out.cell 3
  have y4 : w4.cell? ⟨W.heap.size, 4, none⟩ = some (.int .i64 xv) := BX4.out.cell 4
  go_wp2_with fail
  refine (PB.out w4 HB4.out).mono ?_
  clear y0 y1 y2 y3 y4
  rintro e w5 ⟨⟨VM, rfl, hom⟩, hb5⟩
  have hml : mm.length ≤ 201 := by have := MLEN.out; omega
  have HB5 := hide (HB4.out.trans (hb5.mono HB4.out.size))
  obtain ⟨VM, mcap, rfl, hcm⟩ := own_crow hom (fun i hi => MOK.out _ (List.getElem_mem hi)) (by unfold maxLen; omega)
  have HM5 := hide hcm
  have HW5 := hide (HW4.out.below hb5)
  have BX5 := hide (BX4.out.below hb5 BX4.out.lt)
  have HX5 := hide (HX4.out.below hb5)
  have HY5 := hide (HY4.out.below hb5)
  have HA5 := hide (HA.out.below HB5.out)
  have HC5 := hide (HB.out.below HB5.out)
  clear hom hcm hb5 BX4 HX4 HY4 HB4 HW4 PB
  have ej1 : (ej != ej) = false := by simp
  have ep1 : (ep != ep) = false := by simp
  go_wp2_with fail
  go_loopw [13] (fun v13 wr => ∃ t : Nat, t ≤ 2 ∧ v13 = .int .i64 t ∧ Hid (Below w5.heap.size w5 wr)) (fun v13 _ => 2 - (RowKit.intOf v13).toNat)
  case atStart => exact ⟨0, by omega, rfl, hide (Below.refl _ _)⟩
  case round =>
    obtain ⟨t, ht, rfl, HR⟩ := hrel
    rename World => wr
    by_cases hlt : t < 2
    rotate_left
    · have hltI : ¬ (t : Int) < 2 := by omega
      go_wp2_with fail
      go_ret
      exact ⟨rfl, HB5.out.trans (HR.out.mono HB5.out.size)⟩
    have hltI : (t : Int) < 2 := by omega
    have JA := hide (Join_aU X Y xcap ycap a b l ej wr HJ.out (HX5.out.below HR.out) (HY5.out.below HR.out) (by omega) (by omega))
    go_wp2_with fail
    refine JA.out.mono ?_
    rintro e wj ⟨⟨V, vc, rfl, hjr⟩, hbj⟩
    have HRj := hide (HR.out.trans (hbj.mono HR.out.size))
    have HVj := hide hjr
    have HGJ : Hid (0 < l.length → ∀ g, V = some ⟨g, 0, none⟩ → g < wj.heap.size) := hide fun h0 g e => by
      obtain ⟨g9, e9, _, h8, _⟩ := hjr h0
      rw [e] at e9
      cases e9
      exact h8
    have hwj := HRj.out.size
    have hrs := HR.out.size
    obtain ⟨vE, wE, hrE, hoE, hbE⟩ := copy_c wj wj.heap.size A ca a (HA5.out.below HRj.out) (Nat.le_refl _) (by omega)
    obtain ⟨vR, wR, hrR, hoR, hbR⟩ := push_ch wE wj.heap.size vE a 77 0 0 0 0 hoE hbE.size (by omega)
    have hbjR : Below wj.heap.size wj wR := hbE.trans hbR
    obtain ⟨RA, rc, rfl, hcR⟩ := own_crow hoR (fun i hi => by
      rcases List.mem_append.1 (List.getElem_mem hi) with h | h
      · exact OKA.out _ h
      · rw [List.mem_singleton.1 h]; exact ok77) (by rw [List.length_append, List.length_singleton]; unfold maxLen; omega)
    obtain ⟨rg, hRA, hrg, _, ⟨rcs, hrbk⟩, _, _, hrc⟩ := own_cell hoR (by rw [List.length_append, List.length_singleton]; omega)
    subst hRA
    have hrcap : a.length + 1 ≤ rc := by
      obtain ⟨_, _, e9, h9⟩ := Jn.own_form hoR
      injection e9 with _ _ e10
      have h8 := (h9 (by rw [List.length_append, List.length_singleton]; omega)).1
      rw [List.length_append, List.length_singleton] at h8
      omega
    have c77 : wR.cell? ⟨rg, a.length * 5, none⟩ = some (.int .i64 77) := by
      refine hrc (a.length * 5) _ ?_
      have h9 := chs_at (a ++ [(⟨77, 0, 0, 0, 0⟩ : Ch)]) a.length (by rw [List.length_append, List.length_singleton]; omega) 0 (by omega)
      rw [Nat.add_zero] at h9
      rw [h9]
      simp [chC]
    have hcA : CRow wR (some ⟨rg, 0, none⟩) a := by
      have h9 := crow_take (n := a.length) hcR
      rwa [show (a ++ [(⟨77, 0, 0, 0, 0⟩ : Ch)]).take a.length = a by simp] at h9
    rw [show (a ++ [(⟨77, 0, 0, 0, 0⟩ : Ch)]).length = a.length + 1 by rw [List.length_append, List.length_singleton]] at hrR
    have RE := hide hrE
    have RR := hide hrR
    have HRR := hide (HRj.out.trans (hbjR.mono HRj.out.size))
    have HVR := hide (jrow_kept HVj.out (fun h0 a9 h9 => by
      obtain ⟨g9, e9, _, h8, _⟩ := HVj.out h0
      rw [e9] at h9
      cases h9
      exact hbjR.block _ h8) hbjR.size)
    have HCA := hide hcA
    have H77 := hide c77
    have BXR := hide (BX5.out.below HRR.out BX5.out.lt)
    have hrgR := hrbk.lt
    have hjR := hbjR.size
    have PU := hide (fun (w' : World) (h : Below wR.heap.size wR w') => (PAU.out (some ⟨rg, 0, none⟩) rc w' (HCA.out.below h)).mono (R' := fun e w'' => (∃ v, e = .returned (.tuple #[v, .int .i64 ep]) ∧ w''.ownsRow wR.heap.size 24 5 v mm.length (chs mm)) ∧ Below w'.heap.size w' w'') (by rintro e w'' ⟨⟨v, h1, h2⟩, h3⟩; exact ⟨⟨v, h1, own_base h2 h.size⟩, h3⟩))
    have hNI : (a.length : Int) < (a.length : Int) + 1 := by omega
    have hcI : (a.length : Int) ≤ (rc : Int) := by omega
    have hcN : a.length ≤ rc := by omega
    clear hjr hbj hrE hoE hbE hrR hoR hbR hbjR hcR hrbk hrc c77 hcA HVj JA
    let RRL : Nat → Value → World → Prop := fun sl u w9 => match sl with
      | 64 => u = .slice (some ⟨rg, 0, none⟩) (a.length + 1) rc
      | 65 => u = .slice A a.length ca
      | 66 => u = .int .i64 (a.length : Int)
      | 67 => u = .slice (some ⟨rg, 0, none⟩) a.length rc
      | 68 => u = .agg #[.int .i64 xr, .int .i64 xc, .int .i64 xf, .int .i64 xs, .int .i64 xv]
      | 69 | 63 => ∃ v9, u = .tuple #[v9, .int .i64 ep] ∧ w9.ownsRow wR.heap.size 24 5 v9 mm.length (chs mm)
      | 70 | 17 => w9.ownsRow wR.heap.size 24 5 u mm.length (chs mm)
      | 71 | 18 => u = .int .i64 ep
      | _ => True
    go_wp2_with (at_builtin; first
      | (refine Lib.wpList_append_run _ rfl _ _ _ _ rfl _ _ rfl rfl _ _ RE.out ?_; clear RE)
      | (refine Lib.wpList_append_run _ rfl _ _ _ _ rfl _ _ rfl rfl _ _ RR.out ?_; clear RR))
    refine wp_region_rel RRL (by kernel_rfl) (by kernel_rfl) (by kernel_rfl) ?mono11 ?step11 ?fin11
    case mono11 =>
      intro t9 u w8 w9 h hb
      match t9 with
      | 69 | 63 =>
        obtain ⟨v9, h1, h2⟩ := h
        exact ⟨v9, h1, own_belowR h2 hb⟩
      | 70 | 17 => exact own_belowR h hb
      | 64 | 65 | 66 | 67 | 68 | 71 | 18 => exact h
      | 0 | 1 | 2 | 3 | 4 | 5 | 6 | 7 | 8 | 9 | 10 | 11 | 12 | 13 | 14 | 15 | 16 | 19 | 20 | 21 | 22 | 23 | 24 | 25 | 26 | 27 | 28 | 29 | 30 | 31 | 32 | 33 | 34 | 35 | 36 | 37 | 38 | 39 | 40 | 41 | 42 | 43 | 44 | 45 | 46 | 47 | 48 | 49 | 50 | 51 | 52 | 53 | 54 | 55 | 56 | 57 | 58 | 59 | 60 | 61 | 62 => trivial
      | _ + 72 => trivial
    case step11 =>
      intro op hop
      simp only [List.mem_cons, List.not_mem_nil, or_false] at hop
      rcases hop with rfl | rfl | rfl | rfl | rfl | rfl | rfl | rfl | rfl | rfl | rfl
      · intro a9 w1 hb hs hr
        have e16 : a9.tmps.getD 16 undef = .slice (some ⟨rg, 0, none⟩) (a.length + 1) rc := hs 16 (by decide)
        rw [Array.getD_eq_getD_getElem?] at e16
        unfold Oper.wp
        simp only [execOp, Act.eval, Array.getD_eq_getD_getElem?, e16]
        go_simp
        exact ⟨_, rfl, rfl, Below.refl _ _⟩
      · intro a9 w1 hb hs hr
        have e0 : a9.tmps.getD 0 undef = .slice A a.length ca := hs 0 (by decide)
        rw [Array.getD_eq_getD_getElem?] at e0
        unfold Oper.wp
        simp only [execOp, Act.eval, Array.getD_eq_getD_getElem?, e0]
        go_simp
        exact ⟨_, rfl, rfl, Below.refl _ _⟩
      · intro a9 w1 hb hs hr
        have e65 : a9.tmps.getD 65 undef = .slice A a.length ca := hr 65 (by decide) (by apply Array.mem_toList_iff.1; repeat (first | exact List.Mem.head _ | apply List.Mem.tail))
        rw [Array.getD_eq_getD_getElem?] at e65
        unfold Oper.wp
        simp only [execOp, Act.eval, Array.getD_eq_getD_getElem?, e65]
        go_simp
        exact ⟨_, rfl, rfl, Below.refl _ _⟩
      · intro a9 w1 hb hs hr
        have e64 : a9.tmps.getD 64 undef = .slice (some ⟨rg, 0, none⟩) (a.length + 1) rc := hr 64 (by decide) (by apply Array.mem_toList_iff.1; repeat (first | exact List.Mem.head _ | apply List.Mem.tail))
        have e66 : a9.tmps.getD 66 undef = .int .i64 (a.length : Int) := hr 66 (by decide) (by apply Array.mem_toList_iff.1; repeat (first | exact List.Mem.head _ | apply List.Mem.tail))
        rw [Array.getD_eq_getD_getElem?] at e64
        rw [Array.getD_eq_getD_getElem?] at e66
        unfold Oper.wp
        simp only [execOp, Act.eval, Array.getD_eq_getD_getElem?, e64, e66]
        go_simp
        exact ⟨_, rfl, rfl, Below.refl _ _⟩
      · intro a9 w1 hb hs hr
        have e5 : a9.tmps.getD 5 undef = .pointer (some ⟨W.heap.size, 0, none⟩) := hs 5 (by decide)
        have bq := BXR.out.below hb BXR.out.lt
        have cc0 : w1.cell? ⟨W.heap.size, 0, none⟩ = some (.int .i64 xr) := bq.cell 0
        have cc1 : w1.cell? ⟨W.heap.size, 1, none⟩ = some (.int .i64 xc) := bq.cell 1
        have cc2 : w1.cell? ⟨W.heap.size, 2, none⟩ = some (.int .i64 xf) := bq.cell 2
        have cc3 : w1.cell? ⟨W.heap.size, 3, none⟩ = some (.int .i64 xs) := bq.cell 3
        have cc4 : w1.cell? ⟨W.heap.size, 4, none⟩ = some (.int .i64 xv) := bq.cell 4
        clear bq
        rw [Array.getD_eq_getD_getElem?] at e5
        unfold Oper.wp
        simp only [execOp, Act.eval, Array.getD_eq_getD_getElem?, e5]
        go_simp
        exact ⟨_, rfl, rfl, Below.refl _ _⟩
      · intro a9 w1 hb hs hr
        have e67 : a9.tmps.getD 67 undef = .slice (some ⟨rg, 0, none⟩) a.length rc := hr 67 (by decide) (by apply Array.mem_toList_iff.1; repeat (first | exact List.Mem.head _ | apply List.Mem.tail))
        have e68 : a9.tmps.getD 68 undef = .agg #[.int .i64 xr, .int .i64 xc, .int .i64 xf, .int .i64 xs, .int .i64 xv] := hr 68 (by decide) (by apply Array.mem_toList_iff.1; repeat (first | exact List.Mem.head _ | apply List.Mem.tail))
        rw [Array.getD_eq_getD_getElem?] at e67
        rw [Array.getD_eq_getD_getElem?] at e68
        unfold Oper.wp
        simp only [execOp, Act.eval, Array.getD_eq_getD_getElem?, e67, e68]
        go_simp
        refine (PU.out w1 hb).mono ?_
        rintro e w9 ⟨⟨v9, rfl, ho9⟩, hb9⟩
        exact ⟨_, rfl, ⟨v9, rfl, ho9⟩, hb9⟩
      · intro a9 w1 hb hs hr
        have e69 : ∃ v9, a9.tmps.getD 69 undef = .tuple #[v9, .int .i64 ep] ∧ w1.ownsRow wR.heap.size 24 5 v9 mm.length (chs mm) := hr 69 (by decide) (by apply Array.mem_toList_iff.1; repeat (first | exact List.Mem.head _ | apply List.Mem.tail))
        obtain ⟨v9, e69, ho9⟩ := e69
        rw [Array.getD_eq_getD_getElem?] at e69
        unfold Oper.wp
        simp only [execOp, Act.eval, Array.getD_eq_getD_getElem?, e69]
        go_simp
        exact ⟨_, rfl, ⟨v9, rfl, ho9⟩, Below.refl _ _⟩
      · intro a9 w1 hb hs hr
        have e63 : ∃ v9, a9.tmps.getD 63 undef = .tuple #[v9, .int .i64 ep] ∧ w1.ownsRow wR.heap.size 24 5 v9 mm.length (chs mm) := hr 63 (by decide) (by apply Array.mem_toList_iff.1; repeat (first | exact List.Mem.head _ | apply List.Mem.tail))
        obtain ⟨v9, e63, ho9⟩ := e63
        rw [Array.getD_eq_getD_getElem?] at e63
        unfold Oper.wp
        simp only [execOp, Act.eval, Array.getD_eq_getD_getElem?, e63]
        go_simp
        exact ⟨_, rfl, ho9, Below.refl _ _⟩
      · intro a9 w1 hb hs hr
        have e63 : ∃ v9, a9.tmps.getD 63 undef = .tuple #[v9, .int .i64 ep] ∧ w1.ownsRow wR.heap.size 24 5 v9 mm.length (chs mm) := hr 63 (by decide) (by apply Array.mem_toList_iff.1; repeat (first | exact List.Mem.head _ | apply List.Mem.tail))
        obtain ⟨v9, e63, ho9⟩ := e63
        rw [Array.getD_eq_getD_getElem?] at e63
        unfold Oper.wp
        simp only [execOp, Act.eval, Array.getD_eq_getD_getElem?, e63]
        go_simp
        exact ⟨_, rfl, rfl, Below.refl _ _⟩
      · intro a9 w1 hb hs hr
        have e70 : w1.ownsRow wR.heap.size 24 5 (a9.tmps.getD 70 undef) mm.length (chs mm) := hr 70 (by decide) (by apply Array.mem_toList_iff.1; repeat (first | exact List.Mem.head _ | apply List.Mem.tail))
        rw [Array.getD_eq_getD_getElem?] at e70
        unfold Oper.wp
        simp only [execOp, Act.eval, Array.getD_eq_getD_getElem?]
        go_simp
        exact ⟨_, rfl, e70, Below.refl _ _⟩
      · intro a9 w1 hb hs hr
        have e71 : a9.tmps.getD 71 undef = .int .i64 ep := hr 71 (by decide) (by apply Array.mem_toList_iff.1; repeat (first | exact List.Mem.head _ | apply List.Mem.tail))
        rw [Array.getD_eq_getD_getElem?] at e71
        unfold Oper.wp
        simp only [execOp, Act.eval, Array.getD_eq_getD_getElem?, e71]
        go_simp
        exact ⟨_, rfl, rfl, Below.refl _ _⟩
    case fin11 =>
      intro ff wp hb hr
      have h17 : wp.ownsRow wR.heap.size 24 5 (ff 17) mm.length (chs mm) := hr 17 (by decide)
      have e18 : ff 18 = .int .i64 ep := hr 18 (by decide)
      obtain ⟨M, mc, e17, _⟩ := Jn.own_form h17
      rw [e17] at h17
      have HMp := hide (own_jrow h17)
      simp only [putAll, slotsOf, List.filterMap_cons, List.filterMap_nil, List.foldl_cons, List.foldl_nil, Act.put, e17, e18]
      simp only [List.setIfInBounds_toArray, List.set_cons_succ, List.set_cons_zero]
      have HRp := hide (HRR.out.trans (hb.mono HRR.out.size))
      have HVp := hide (HVR.out.below hb)
      have HCp := hide (HCA.out.below hb)
      have H77p := hide ((hb.cell (p := ⟨rg, a.length * 5, none⟩) hrgR).trans H77.out)
      have hpR := hb.size
      clear hb hr h17 e17 e18 HVR PU HRR BXR HCA H77
      have S1 := hide (same_b V VW vc wcap l l wp (HVp.out.crow HJ.out.ok (by unfold maxLen; omega)) (HW5.out.below HRp.out) (by omega) (by omega))
      rw [decide_eq_true rfl] at S1
      go_wp2_with fail
      refine S1.out.mono ?_
      rintro e q1 ⟨rfl, hq1⟩
      have HRq1 := hide (HRp.out.trans (hq1.mono HRp.out.size))
      have HVq1 := hide (HVp.out.below hq1)
      have HMq1 := hide (HMp.out.below hq1)
      have HCq1 := hide (HCp.out.below hq1)
      have H77q1 := hide ((hq1.cell (p := ⟨rg, a.length * 5, none⟩) (by show rg < _; omega)).trans H77p.out)
      have hz1 := hq1.size
      clear hq1 S1 HRp HVp HMp HCp H77p
      have S2 := hide (same_b M VM mc mcap mm mm q1 (HMq1.out.crow MOK.out (by unfold maxLen; omega)) (HM5.out.below HRq1.out) (by omega) (by omega))
      rw [decide_eq_true rfl] at S2
      go_wp2_with fail
      refine S2.out.mono ?_
      rintro e q2 ⟨rfl, hq2⟩
      have HRq2 := hide (HRq1.out.trans (hq2.mono HRq1.out.size))
      have HVq2 := hide (HVq1.out.below hq2)
      have HMq2 := hide (HMq1.out.below hq2)
      have HCq2 := hide (HCq1.out.below hq2)
      have k77 : q2.cell? ⟨rg, a.length * 5, none⟩ = some (.int .i64 77) := (hq2.cell (p := ⟨rg, a.length * 5, none⟩) (by show rg < _; omega)).trans H77q1.out
      clear hq2 S2 HRq1 HVq1 HMq1 HCq1 H77q1
      have S3 := hide (same_b (some ⟨rg, 0, none⟩) A rc ca a a q2 HCq2.out (HA5.out.below HRq2.out) (by omega) (by omega))
      rw [decide_eq_true rfl] at S3
      go_wp2_with fail
      clear k77
      refine S3.out.mono ?_
      rintro e q3 ⟨rfl, hq3⟩
      have HRq := hide (HRq2.out.trans (hq3.mono HRq2.out.size))
      have HVq := hide (HVq2.out.below hq3)
      have HMq := hide (HMq2.out.below hq3)
      have HCq := hide (HCq2.out.below hq3)
      clear hq3 S3 HRq2 HVq2 HMq2 HCq2
      go_wp2_with fail
      go_loopw [19] (fun v19 wl => ∃ i : Nat, i ≤ l.length ∧ v19 = .int .i64 i ∧ Hid (Ks w5.heap.size q3 wl V l.length)) (fun v19 _ => l.length - (RowKit.intOf v19).toNat)
      case atStart => exact ⟨0, Nat.zero_le _, rfl, hide (Ks.start HVq.out)⟩
      case round =>
        obtain ⟨i, hi, rfl, HK⟩ := hrel
        rename World => wl
        by_cases hlt2 : i < l.length
        · have hltI2 : (i : Int) < (l.length : Int) := by omega
          obtain ⟨g, rfl, hg, _, _⟩ := HVq.out (by omega)
          obtain ⟨⟨vv, hv⟩, hf⟩ := HK.out.slots g (by omega) rfl i hlt2
          have HK2 := hide (HK.out.step (by omega) (by omega) (i * 5) (.int .i64 (-7)))
          clear HK
          go_wp2_with fail
          go_roundw
          case rel => exact ⟨i + 1, by omega, by go_num, HK2⟩
          case measure => simp [RowKit.intOf] <;> omega
        have hltI2 : ¬ (i : Int) < (l.length : Int) := by omega
        have HRm1 := hide (HRq.out.trans HK.out.below)
        have HCm1 := hide (crow_kept HCq.out (fun _ a9 h9 => by
          cases h9
          exact HK.out.same rg fun h0 g e => by have := HGJ.out h0 g e; omega) HK.out.below.size)
        have HMm1 := hide (jrow_kept HMq.out (fun h0 a9 h9 => by
          obtain ⟨gm, e9, h7, _, _⟩ := HMq.out h0
          rw [e9] at h9
          cases h9
          exact HK.out.same gm fun h0 g e => by have := HGJ.out h0 g e; omega) HK.out.below.size)
        clear HK HVq HMq HCq HRq
        go_wp2_with fail
        go_loopw [20] (fun v20 wm => ∃ i2 : Nat, i2 ≤ mm.length ∧ v20 = .int .i64 i2 ∧ Hid (Ks w5.heap.size wl wm M mm.length)) (fun v20 _ => mm.length - (RowKit.intOf v20).toNat)
        case atStart => exact ⟨0, Nat.zero_le _, rfl, hide (Ks.start HMm1.out)⟩
        case round =>
          obtain ⟨i2, hi2, rfl, HK⟩ := hrel
          rename World => wm
          by_cases hlt3 : i2 < mm.length
          · have hltI3 : (i2 : Int) < (mm.length : Int) := by omega
            obtain ⟨g, rfl, hg, _, _⟩ := HMm1.out (by omega)
            obtain ⟨⟨vv, hv⟩, hf⟩ := HK.out.slots g (by omega) rfl i2 hlt3
            have HK2 := hide (HK.out.step (by omega) (by omega) (i2 * 5) (.int .i64 (-7)))
            clear HK
            go_wp2_with fail
            go_roundw
            case rel => exact ⟨i2 + 1, by omega, by go_num, HK2⟩
            case measure => simp [RowKit.intOf] <;> omega
          have hltI3 : ¬ (i2 : Int) < (mm.length : Int) := by omega
          have HRm2 := hide (HRm1.out.trans HK.out.below)
          have HCm2 := hide (crow_kept HCm1.out (fun _ a9 h9 => by
            cases h9
            exact HK.out.same rg fun h0 g e => by
              obtain ⟨gm, e9, h7, _, _⟩ := HMm1.out h0
              rw [e] at e9
              cases e9
              omega) HK.out.below.size)
          clear HK HMm1 HCm1 HRm1
          have S4 := hide (same_b X A xcap ca a a wm (HX5.out.below HRm2.out) (HA5.out.below HRm2.out) (by omega) (by omega))
          rw [decide_eq_true rfl] at S4
          go_wp2_with fail
          refine S4.out.mono ?_
          rintro e q4 ⟨rfl, hq4⟩
          have HRq4 := hide (HRm2.out.trans (hq4.mono HRm2.out.size))
          have HCq4 := hide (HCm2.out.below hq4)
          have S5 := hide (same_b Y B ycap cb b b q4 (HY5.out.below HRq4.out) (HC5.out.below HRq4.out) (by omega) (by omega))
          rw [decide_eq_true rfl] at S5
          clear hq4 S4 HRm2 HCm2
          go_wp2_with fail
          refine S5.out.mono ?_
          rintro e q5 ⟨rfl, hq5⟩
          have HRq5 := hide (HRq4.out.trans (hq5.mono HRq4.out.size))
          have HCq5 := hide (HCq4.out.below hq5)
          have S6 := hide (same_b (some ⟨rg, 0, none⟩) A rc ca a a q5 HCq5.out (HA5.out.below HRq5.out) (by omega) (by omega))
          rw [decide_eq_true rfl] at S6
          clear hq5 S5 HRq4 HCq4
          go_wp2_with fail
          refine S6.out.mono ?_
          rintro e q6 ⟨rfl, hq6⟩
          have HRq6 := hide (HRq5.out.trans (hq6.mono HRq5.out.size))
          clear hq6 S6 HRq5 HCq5
          go_wp2_with fail
          go_roundw
          case rel => exact ⟨t + 1, by omega, by go_num, HRq6⟩
          case measure => simp [RowKit.intOf] <;> omega
end Go.Proofs.Ytnmaclpjddafnaa.SignJoinsW
