/- The walk of the statement CallMay. -/
import Derived.Test.YthbedpcgbabniaaRows
import Derived.Test.YthbedpcgbabniaaCalW
import Derived.Test.YthbedpcgbabniaaCalF
import Derived.Test.YthbedpcgbabniaaCalG
import Derived.Test.YthbedpcgbabniaaCalH
import Derived.Test.YthbedpcgbabniaaCalJ
import Derived.Test.YthbedpcgbabniaaRelG
namespace Go.Proofs.Ythbedpcgbabniaa.CallMayW
open Go Go.RowKit Go.Lib Go.Proofs.Ythbedpcgbabniaa Go.Proofs.Ythbedpcgbabniaa.Grp Go.Proofs.Ythbedpcgbabniaa.Cal
set_option linter.unusedVariables false
set_option linter.unusedSimpArgs false
theorem own_row {w : World} {B c n : Nat} {A : Option Addr} {l : List Int} (h : w.ownsRow B 3 1 (.slice A n c) n (i64s l)) (hn : l.length = n) : NRow w A l := fun h0 => by
  obtain ⟨g, hA, _, _, ⟨cs, hb⟩, _, _, hc⟩ := own_cell h (by omega)
  exact ⟨_, hA, hb.lt, fun i hi => by rw [add_lit]; exact hc i _ (i64s_at hi)⟩
theorem own_cap {w : World} {B c n : Nat} {A : Option Addr} {l : List Value} (h : w.ownsRow B 3 1 (.slice A n c) n l) : n ≤ c := by
  rcases Nat.eq_zero_or_pos n with h0 | h0
  · omega
  · obtain ⟨_, _, _, _, _, _, hn, _⟩ := own_cell h h0
    exact hn
theorem copy_row (w : World) (A : Option Addr) (cap : Nat) (l : List Int) (hr : NRow w A l) (hl : l.length ≤ 1000) :
    ∃ A1 c1 w1, (Builtin.append_ #[22, 22] 22 #[.slice (some ⟨w.heap.size, 0, none⟩) 0 0, .slice A l.length cap]).run Try.prog (w.alloc (.cells #[] 3)) = .ok (.slice A1 l.length c1) w1 ∧
      w1.ownsRow w.heap.size 3 1 (.slice A1 l.length c1) l.length (i64s l) ∧ Below w.heap.size w w1 := by
  have ba := (Below.refl w.heap.size w).alloc (Nat.le_refl _) (.cells #[] 3)
  have own0 : (w.alloc (.cells #[] 3)).ownsRow w.heap.size 3 1 (.slice (some ⟨w.heap.size, 0, none⟩) 0 0) 0 [] := ⟨rfl, .inr ⟨w.heap.size, 0, #[], rfl, Nat.le_refl _, heap_alloc_new w _, Nat.le_refl _, by unfold maxLen; omega, rfl, rfl⟩⟩
  have hr2 := hr.below ba
  have hs1 : (w.alloc (.cells #[] 3)).heap.size = w.heap.size + 1 := by simp
  obtain ⟨Wz, hWz⟩ : ∃ x', w.alloc (.cells #[] 3) = x' := ⟨_, rfl⟩
  rw [hWz] at ba own0 hr2 hs1 ⊢
  obtain ⟨i0, hi0, hz0', hz1, hz2⟩ := info_parts int_infoK
  have hrd : Reads Wz Wz.heap.size 1 A l.length (i64s l) := ⟨by rw [i64s_len, Nat.mul_one], fun h0 => by
    obtain ⟨a, rfl, ha, hc⟩ := hr2 h0
    refine ⟨a, rfl, ha, fun j u hu => ?_⟩
    have hj : j < l.length := by have := (List.getElem?_eq_some_iff.1 hu).1; rwa [i64s_len] at this
    rw [i64s_at hj] at hu
    injection hu with hu
    rw [← hu]
    exact hc j hj⟩
  obtain ⟨v11, w11, hrun, hown, hk11, hob⟩ := run_append_any (P := Try.prog) Wz w.heap.size 22 22 3 i0 _ 1 8 Try.underlying22 hi0 hz0' hz1 hz2 (by rfl) (by omega) _ _ _ own0 Wz.heap.size A l.length cap _ hrd (by intro u hu; unfold i64s at hu; obtain ⟨z, _, rfl⟩ := List.mem_map.1 hu; rfl) (by unfold maxLen; omega) (by omega) (by omega)
  rw [Nat.zero_add, List.nil_append] at hown
  obtain ⟨A11, c11, rfl⟩ := form_ofK hown
  exact ⟨A11, c11, w11, hrun, hown, ba.trans ((Below.refl w.heap.size Wz).grown hk11 (by omega) (fun k e => by
    have := (own_block own0 e).1
    omega))⟩
set_option maxRecDepth 100000 in
set_option maxHeartbeats 16000000 in
theorem walk {H : Type} {enc : TypeId × Value → H} {base : Nat} (W : World) (v0 : Value) (d0 : DataW H) (p0 : List MemPlace) (o0 : Value.okWide Try.prog W .any base 24 v0) (r0 : DataW.Trod enc Try.prog W 0 (fun _ => true) true 24 v0 d0 p0) (v1 : Value) (d1 : DataW H) (p1 : List MemPlace) (o1 : Value.okWide Try.prog W .any base 24 v1) (r1 : DataW.Trod enc Try.prog W 0 (fun _ => true) true 24 v1 d1 p1) (v2 : Value) (d2 : DataW H) (p2 : List MemPlace) (o2 : Value.okWide Try.prog W .any base 26 v2) (r2 : DataW.Trod enc Try.prog W 0 (fun _ => true) true 26 v2 d2 p2) :
    Calls Try.prog 3 #[v0, v1, v2] W fun e w' => e = .returned (.bool true) ∧ Below W.heap.size W w' := by
  obtain ⟨c, ra, rc, rfl, hra, hop0, hop1⟩ := call_of o0 r0 (fun _ => rfl)
  obtain ⟨o, rb, rd, rfl, hrb, _, _⟩ := call_of o1 r1 (fun _ => rfl)
  obtain ⟨key, A, l, gc, rfl, hrg⟩ := group_of o2 r2 (fun _ => rfl)
  clear o0 r0 o1 r1 o2 r2
  unfold Cl.A clA
  have b3 := (((Below.refl W.heap.size W).alloc (Nat.le_refl _) (.cells #[.int .u8 c.k, .int .i64 c.co, .int .i64 c.pe, .int .i64 c.tg, .int .i64 c.va, .int .i64 c.sz, .int .i64 c.ro, .int .u8 c.op, .slice ra c.rq.length rc, .int .i64 c.cl, .int .i64 c.ky] 24)).alloc (by simp) (.cells #[.int .u8 o.k, .int .i64 o.co, .int .i64 o.pe, .int .i64 o.tg, .int .i64 o.va, .int .i64 o.sz, .int .i64 o.ro, .int .u8 o.op, .slice rb o.rq.length rd, .int .i64 o.cl, .int .i64 o.ky] 24)).alloc (by simp; omega) (.cells #[.string key, .slice A l.length gc] 26)
  have HB3 := hide b3
  by_cases g1 : 60 < c.rq.length
  · have g1I : (60 : Int) < (c.rq.length : Int) := by omega
    clear hra hrb hrg b3
    go_enter Try.func3, Try.ntmps3
    go_wp2_with fail
    go_ret
    exact ⟨rfl, HB3.out⟩
  have g1I : ¬ (60 : Int) < (c.rq.length : Int) := by omega
  by_cases g2 : 60 < o.rq.length
  · have g2I : (60 : Int) < (o.rq.length : Int) := by omega
    clear hra hrb hrg b3
    go_enter Try.func3, Try.ntmps3
    go_wp2_with fail
    go_ret
    exact ⟨rfl, HB3.out⟩
  have g2I : ¬ (60 : Int) < (o.rq.length : Int) := by omega
  by_cases g3 : 100 < l.length
  · have g3I : (100 : Int) < (l.length : Int) := by omega
    clear hra hrb hrg b3
    go_enter Try.func3, Try.ntmps3
    go_wp2_with fail
    go_ret
    exact ⟨rfl, HB3.out⟩
  have g3I : ¬ (100 : Int) < (l.length : Int) := by omega
  -- the four boxes
  have k0 := Blk.new W 24 #[.int .u8 c.k, .int .i64 c.co, .int .i64 c.pe, .int .i64 c.tg, .int .i64 c.va, .int .i64 c.sz, .int .i64 c.ro, .int .u8 c.op, .slice ra c.rq.length rc, .int .i64 c.cl, .int .i64 c.ky]
  have a1 := (Below.refl (W.alloc (.cells #[.int .u8 c.k, .int .i64 c.co, .int .i64 c.pe, .int .i64 c.tg, .int .i64 c.va, .int .i64 c.sz, .int .i64 c.ro, .int .u8 c.op, .slice ra c.rq.length rc, .int .i64 c.cl, .int .i64 c.ky] 24)).heap.size _).alloc (Nat.le_refl _) (.cells #[.int .u8 o.k, .int .i64 o.co, .int .i64 o.pe, .int .i64 o.tg, .int .i64 o.va, .int .i64 o.sz, .int .i64 o.ro, .int .u8 o.op, .slice rb o.rq.length rd, .int .i64 o.cl, .int .i64 o.ky] 24)
  have k0b := k0.below a1 k0.lt
  have k1 := Blk.new (W.alloc (.cells #[.int .u8 c.k, .int .i64 c.co, .int .i64 c.pe, .int .i64 c.tg, .int .i64 c.va, .int .i64 c.sz, .int .i64 c.ro, .int .u8 c.op, .slice ra c.rq.length rc, .int .i64 c.cl, .int .i64 c.ky] 24)) 24 #[.int .u8 o.k, .int .i64 o.co, .int .i64 o.pe, .int .i64 o.tg, .int .i64 o.va, .int .i64 o.sz, .int .i64 o.ro, .int .u8 o.op, .slice rb o.rq.length rd, .int .i64 o.cl, .int .i64 o.ky]
  rw [show (W.alloc (.cells #[.int .u8 c.k, .int .i64 c.co, .int .i64 c.pe, .int .i64 c.tg, .int .i64 c.va, .int .i64 c.sz, .int .i64 c.ro, .int .u8 c.op, .slice ra c.rq.length rc, .int .i64 c.cl, .int .i64 c.ky] 24)).heap.size = W.heap.size + 1 by simp] at k1
  obtain ⟨wA, hwA⟩ : ∃ y, (W.alloc (.cells #[.int .u8 c.k, .int .i64 c.co, .int .i64 c.pe, .int .i64 c.tg, .int .i64 c.va, .int .i64 c.sz, .int .i64 c.ro, .int .u8 c.op, .slice ra c.rq.length rc, .int .i64 c.cl, .int .i64 c.ky] 24)).alloc (.cells #[.int .u8 o.k, .int .i64 o.co, .int .i64 o.pe, .int .i64 o.tg, .int .i64 o.va, .int .i64 o.sz, .int .i64 o.ro, .int .u8 o.op, .slice rb o.rq.length rd, .int .i64 o.cl, .int .i64 o.ky] 24) = y := ⟨_, rfl⟩
  have sA : wA.heap.size = W.heap.size + 2 := by rw [← hwA]; simp
  rw [hwA] at k0b k1 b3
  have a2 := (Below.refl wA.heap.size wA).alloc (Nat.le_refl _) (.cells #[.string key, .slice A l.length gc] 26)
  have k2 := Blk.new wA 26 #[.string key, .slice A l.length gc]
  rw [sA] at k2
  obtain ⟨wB, hwB⟩ : ∃ y, wA.alloc (.cells #[.string key, .slice A l.length gc] 26) = y := ⟨_, rfl⟩
  have sB : wB.heap.size = W.heap.size + 3 := by rw [← hwB]; simp [sA]
  rw [hwB] at a2 k2 b3
  have a3 := (Below.refl wB.heap.size wB).alloc (Nat.le_refl _) (.cells #[.int .u8 c.k, .int .i64 c.co, .int .i64 c.pe, .int .i64 c.tg, .int .i64 c.va, .int .i64 c.sz, .int .i64 c.ro, .int .u8 c.op, .slice ra c.rq.length rc, .int .i64 c.cl, .int .i64 c.ky] 24)
  have k3 := Blk.new wB 24 #[.int .u8 c.k, .int .i64 c.co, .int .i64 c.pe, .int .i64 c.tg, .int .i64 c.va, .int .i64 c.sz, .int .i64 c.ro, .int .u8 c.op, .slice ra c.rq.length rc, .int .i64 c.cl, .int .i64 c.ky]
  rw [sB] at k3
  obtain ⟨wC, hwC⟩ : ∃ y, wB.alloc (.cells #[.int .u8 c.k, .int .i64 c.co, .int .i64 c.pe, .int .i64 c.tg, .int .i64 c.va, .int .i64 c.sz, .int .i64 c.ro, .int .u8 c.op, .slice ra c.rq.length rc, .int .i64 c.cl, .int .i64 c.ky] 24) = y := ⟨_, rfl⟩
  have sC : wC.heap.size = W.heap.size + 4 := by rw [← hwC]; simp [sB]
  rw [hwC] at a3 k3
  have bC := b3.trans (a3.mono b3.size)
  have K0 := (k0b.below a2 k0b.lt).below a3 (k0b.below a2 k0b.lt).lt
  have K1 := (k1.below a2 k1.lt).below a3 (k1.below a2 k1.lt).lt
  have K2 := k2.below a3 k2.lt
  have LIT : Hid ((((W.alloc (.cells #[.int .u8 c.k, .int .i64 c.co, .int .i64 c.pe, .int .i64 c.tg, .int .i64 c.va, .int .i64 c.sz, .int .i64 c.ro, .int .u8 c.op, .slice ra c.rq.length rc, .int .i64 c.cl, .int .i64 c.ky] 24)).alloc (.cells #[.int .u8 o.k, .int .i64 o.co, .int .i64 o.pe, .int .i64 o.tg, .int .i64 o.va, .int .i64 o.sz, .int .i64 o.ro, .int .u8 o.op, .slice rb o.rq.length rd, .int .i64 o.cl, .int .i64 o.ky] 24)).alloc (.cells #[.string key, .slice A l.length gc] 26)).alloc (.cells #[.int .u8 c.k, .int .i64 c.co, .int .i64 c.pe, .int .i64 c.tg, .int .i64 c.va, .int .i64 c.sz, .int .i64 c.ro, .int .u8 c.op, .slice ra c.rq.length rc, .int .i64 c.cl, .int .i64 c.ky] 24) = wC) := hide (by rw [hwA, hwB, hwC])
  obtain ⟨rm, cm, w5, hrun, hown, hb5⟩ := copy_row wC ra rc c.rq (hra.below bC) (by omega)
  rw [sC] at hrun
  have h05 := K0.below hb5 K0.lt
  have h15 := K1.below hb5 K1.lt
  have h25 := K2.below hb5 K2.lt
  have h35 := k3.below hb5 k3.lt
  have c8 := h35.cell 8
  have f8 := h35.frozen 8
  have h06 := h05.far (p := ⟨W.heap.size + 3, 8, none⟩) (by show W.heap.size ≠ W.heap.size + 3; omega) (.slice rm c.rq.length cm)
  have h16 := h15.far (p := ⟨W.heap.size + 3, 8, none⟩) (by show W.heap.size + 1 ≠ W.heap.size + 3; omega) (.slice rm c.rq.length cm)
  have h26 := h25.far (p := ⟨W.heap.size + 3, 8, none⟩) (by show W.heap.size + 2 ≠ W.heap.size + 3; omega) (.slice rm c.rq.length cm)
  have h36 : Blk (w5.setCell ⟨W.heap.size + 3, 8, none⟩ (.slice rm c.rq.length cm)) (W.heap.size + 3) 24 #[.int .u8 c.k, .int .i64 c.co, .int .i64 c.pe, .int .i64 c.tg, .int .i64 c.va, .int .i64 c.sz, .int .i64 c.ro, .int .u8 c.op, .slice rm c.rq.length cm, .int .i64 c.cl, .int .i64 c.ky] := h35.set_ 8 (.slice rm c.rq.length cm)
  have hown6 := own_set_farK (p := ⟨W.heap.size + 3, 8, none⟩) hown (by show W.heap.size + 3 < wC.heap.size; omega) (.slice rm c.rq.length cm)
  have hcm := own_cap hown
  have b5 := bC.trans (hb5.mono bC.size)
  have b6 := b5.setCell (p := ⟨W.heap.size + 3, 8, none⟩) (by show W.heap.size ≤ W.heap.size + 3; omega) (.slice rm c.rq.length cm)
  have x0 : (w5.setCell ⟨W.heap.size + 3, 8, none⟩ (.slice rm c.rq.length cm)).cell? ⟨W.heap.size, 0, none⟩ = some (.int .u8 c.k) := h06.cell 0
  have x1 : (w5.setCell ⟨W.heap.size + 3, 8, none⟩ (.slice rm c.rq.length cm)).cell? ⟨W.heap.size, 1, none⟩ = some (.int .i64 c.co) := h06.cell 1
  have x2 : (w5.setCell ⟨W.heap.size + 3, 8, none⟩ (.slice rm c.rq.length cm)).cell? ⟨W.heap.size, 2, none⟩ = some (.int .i64 c.pe) := h06.cell 2
  have x3 : (w5.setCell ⟨W.heap.size + 3, 8, none⟩ (.slice rm c.rq.length cm)).cell? ⟨W.heap.size, 3, none⟩ = some (.int .i64 c.tg) := h06.cell 3
  have x4 : (w5.setCell ⟨W.heap.size + 3, 8, none⟩ (.slice rm c.rq.length cm)).cell? ⟨W.heap.size, 4, none⟩ = some (.int .i64 c.va) := h06.cell 4
  have x5 : (w5.setCell ⟨W.heap.size + 3, 8, none⟩ (.slice rm c.rq.length cm)).cell? ⟨W.heap.size, 5, none⟩ = some (.int .i64 c.sz) := h06.cell 5
  have x6 : (w5.setCell ⟨W.heap.size + 3, 8, none⟩ (.slice rm c.rq.length cm)).cell? ⟨W.heap.size, 6, none⟩ = some (.int .i64 c.ro) := h06.cell 6
  have x7 : (w5.setCell ⟨W.heap.size + 3, 8, none⟩ (.slice rm c.rq.length cm)).cell? ⟨W.heap.size, 7, none⟩ = some (.int .u8 c.op) := h06.cell 7
  have x8 : (w5.setCell ⟨W.heap.size + 3, 8, none⟩ (.slice rm c.rq.length cm)).cell? ⟨W.heap.size, 8, none⟩ = some (.slice ra c.rq.length rc) := h06.cell 8
  have x9 : (w5.setCell ⟨W.heap.size + 3, 8, none⟩ (.slice rm c.rq.length cm)).cell? ⟨W.heap.size, 9, none⟩ = some (.int .i64 c.cl) := h06.cell 9
  have x10 : (w5.setCell ⟨W.heap.size + 3, 8, none⟩ (.slice rm c.rq.length cm)).cell? ⟨W.heap.size, 10, none⟩ = some (.int .i64 c.ky) := h06.cell 10
  have y80 : w5.cell? ⟨W.heap.size, 8, none⟩ = some (.slice ra c.rq.length rc) := h05.cell 8
  have TRB := hide (Trim_b c ra rc (w5.setCell ⟨W.heap.size + 3, 8, none⟩ (.slice rm c.rq.length cm)) (hra.below b6) (by omega))
  have RA6 := hra.below b6
  have RB6 := hrb.below b6
  have RG6 := hrg.below b6
  have RM6 := own_row hown6 rfl
  have H06 := hide h06
  have H16 := hide h16
  have H26 := hide h26
  have H36 := hide h36
  have BB6 := hide b6
  have HRA := hide RA6
  have HRB := hide RB6
  have HRG := hide RG6
  have HRM := hide RM6
  have HCM := hide hcm
  have HOP := hide (And.intro hop0 hop1)
  have HG1 := hide (show c.rq.length ≤ 60 by omega)
  have HG2 := hide (show o.rq.length ≤ 60 by omega)
  have HG3 := hide (show l.length ≤ 100 by omega)
  rw [← LIT.out] at hrun
  have RUN := hide hrun
  obtain ⟨b0, hb0⟩ : ∃ b, W.heap.size = b := ⟨_, rfl⟩
  clear k0 a1 k0b k1 hwA sA a2 k2 hwB sB a3 k3 hwC sC bC K0 K1 K2 LIT hown h05 h15 h25 h35 h06 h16 h26 h36 hown6 hcm b5 b6 RA6 RB6 RG6 RM6 hrun hra hrb hrg hop0 hop1 b3 hb5 g1 g2 g3 hb0
  go_enter Try.func3, Try.ntmps3
  go_wp2_with (at_builtin; refine Lib.wpList_append_run _ rfl _ _ 22 22 rfl _ _ rfl rfl _ _ RUN.out ?_)
  rw [show W.heap.size + 1 + 1 + 1 = W.heap.size + 3 from rfl, show W.heap.size + 1 + 1 = W.heap.size + 2 from rfl]
  obtain ⟨w6, hw6⟩ : ∃ y, (w5.setCell ⟨W.heap.size + 3, 8, none⟩ (.slice rm c.rq.length cm)) = y := ⟨_, rfl⟩
  rw [hw6] at TRB H06 H16 H26 H36 BB6 HRA HRB HRG HRM
  rw [hw6]
  obtain ⟨B1, hB1⟩ : ∃ b, W.heap.size + 1 = b := ⟨_, rfl⟩
  obtain ⟨B2, hB2⟩ : ∃ b, W.heap.size + 2 = b := ⟨_, rfl⟩
  obtain ⟨B3, hB3⟩ : ∃ b, W.heap.size + 3 = b := ⟨_, rfl⟩
  rw [hB1] at H16
  rw [hB2] at H26
  rw [hB3] at H36
  rw [hB1, hB2, hB3]
  clear hw6 x0 x1 x2 x3 x4 x5 x6 x7 x8 x9 x10 y80 c8 f8 HB3
  refine TRB.out.mono ?_
  rintro e w7 ⟨rw, cw, rfl, hownw, hb7⟩
  obtain ⟨t, ht⟩ : ∃ t, trimC c = t := ⟨_, rfl⟩
  rw [ht] at hownw ⊢
  have htl : t.rq.length ≤ 100000 := by
    rw [← ht]
    show (if hasF c.k 7 then c.rq else []).length ≤ 100000
    split
    · have := HG1.out; omega
    · exact Nat.zero_le _
  have HT := hide ht
  have a8 := (Below.refl w7.heap.size w7).alloc (Nat.le_refl _) (.cells #[.int .u8 t.k, .int .i64 t.co, .int .i64 t.pe, .int .i64 t.tg, .int .i64 t.va, .int .i64 t.sz, .int .i64 t.ro, .int .u8 t.op, .slice rw t.rq.length cw, .int .i64 t.cl, .int .i64 t.ky] 24)
  have kw8 := Blk.new w7 24 #[.int .u8 t.k, .int .i64 t.co, .int .i64 t.pe, .int .i64 t.tg, .int .i64 t.va, .int .i64 t.sz, .int .i64 t.ro, .int .u8 t.op, .slice rw t.rq.length cw, .int .i64 t.cl, .int .i64 t.ky]
  obtain ⟨w8, hw8⟩ : ∃ y, w7.alloc (.cells #[.int .u8 t.k, .int .i64 t.co, .int .i64 t.pe, .int .i64 t.tg, .int .i64 t.va, .int .i64 t.sz, .int .i64 t.ro, .int .u8 t.op, .slice rw t.rq.length cw, .int .i64 t.cl, .int .i64 t.ky] 24) = y := ⟨_, rfl⟩
  rw [hw8] at a8 kw8
  obtain ⟨bw, hbw⟩ : ∃ b, w7.heap.size = b := ⟨_, rfl⟩
  have h8 := hb7.trans (a8.mono hb7.size)
  rw [hbw] at kw8
  have KC8 := hide (H06.out.below h8 H06.out.lt)
  have KO8 := hide (H16.out.below h8 H16.out.lt)
  have KG8 := hide (H26.out.below h8 H26.out.lt)
  have KM8 := hide (H36.out.below h8 H36.out.lt)
  have KW8 := hide kw8
  have RC8 := hide (HRA.out.below h8)
  have RO8 := hide (HRB.out.below h8)
  have RG8 := hide (HRG.out.below h8)
  have RM8 := hide (HRM.out.below h8)
  have RW8 := hide ((own_row hownw rfl).below a8)
  have BB8 := hide (BB6.out.trans (h8.mono BB6.out.size))
  have HW8 := hide hw8
  have HBW := hide hbw
  have HTL := hide htl
  obtain ⟨bm, hbm⟩ : ∃ b, decide (mayC c l) = b := ⟨_, rfl⟩
  obtain ⟨bd, hbd⟩ : ∃ b, decC c = b := ⟨_, rfl⟩
  obtain ⟨bs, hbs⟩ : ∃ b, decide (c = o) = b := ⟨_, rfl⟩
  have HBM := hide hbm
  have HBD := hide hbd
  have HBS := hide hbs
  have HC1 := hide (show c.rq.length ≤ 1000 by have := HG1.out; omega)
  have HL1 := hide (show l.length ≤ 1000 by have := HG3.out; omega)
  have HCL := hide (show c.rq.length ≤ 100000 by have := HG1.out; omega)
  have HOL := hide (show o.rq.length ≤ 100000 by have := HG2.out; omega)
  clear hownw ht htl a8 kw8 hw8 hbw h8 hb7 hbm hbd hbs H06 H16 H26 H36 HRA HRB HRG HRM BB6 TRB RUN hB1 hB2 hB3 g1I g2I g3I
  unfold Cl.A clA
  go_wp2_with fail
  rw [HW8.out, HBW.out]
  go_loopw [9] (fun vi wr => ∃ i : Nat, i ≤ 2 ∧ vi = .int .i64 i ∧ Hid (Below w8.heap.size w8 wr)) (fun vi _ => 2 - (RowKit.intOf vi).toNat)
  case atStart => exact ⟨0, by omega, rfl, hide (Below.refl _ _)⟩
  case round =>
    obtain ⟨i, hi, rfl, HBR⟩ := hrel
    have BBR := hide (BB8.out.trans (HBR.out.mono BB8.out.size))
    have KCr := KC8.out.below HBR.out KC8.out.lt
    have KMr := KM8.out.below HBR.out KM8.out.lt
    have x0 : wr.cell? ⟨W.heap.size, 0, none⟩ = some (.int .u8 c.k) := KCr.cell 0
    have x1 : wr.cell? ⟨W.heap.size, 1, none⟩ = some (.int .i64 c.co) := KCr.cell 1
    have x2 : wr.cell? ⟨W.heap.size, 2, none⟩ = some (.int .i64 c.pe) := KCr.cell 2
    have x3 : wr.cell? ⟨W.heap.size, 3, none⟩ = some (.int .i64 c.tg) := KCr.cell 3
    have x4 : wr.cell? ⟨W.heap.size, 4, none⟩ = some (.int .i64 c.va) := KCr.cell 4
    have x5 : wr.cell? ⟨W.heap.size, 5, none⟩ = some (.int .i64 c.sz) := KCr.cell 5
    have x6 : wr.cell? ⟨W.heap.size, 6, none⟩ = some (.int .i64 c.ro) := KCr.cell 6
    have x7 : wr.cell? ⟨W.heap.size, 7, none⟩ = some (.int .u8 c.op) := KCr.cell 7
    have x8 : wr.cell? ⟨W.heap.size, 8, none⟩ = some (.slice ra c.rq.length rc) := KCr.cell 8
    have x9 : wr.cell? ⟨W.heap.size, 9, none⟩ = some (.int .i64 c.cl) := KCr.cell 9
    have x10 : wr.cell? ⟨W.heap.size, 10, none⟩ = some (.int .i64 c.ky) := KCr.cell 10
    have z0 : wr.cell? ⟨B3, 0, none⟩ = some (.int .u8 c.k) := KMr.cell 0
    have z1 : wr.cell? ⟨B3, 1, none⟩ = some (.int .i64 c.co) := KMr.cell 1
    have z2 : wr.cell? ⟨B3, 2, none⟩ = some (.int .i64 c.pe) := KMr.cell 2
    have z3 : wr.cell? ⟨B3, 3, none⟩ = some (.int .i64 c.tg) := KMr.cell 3
    have z4 : wr.cell? ⟨B3, 4, none⟩ = some (.int .i64 c.va) := KMr.cell 4
    have z5 : wr.cell? ⟨B3, 5, none⟩ = some (.int .i64 c.sz) := KMr.cell 5
    have z6 : wr.cell? ⟨B3, 6, none⟩ = some (.int .i64 c.ro) := KMr.cell 6
    have z7 : wr.cell? ⟨B3, 7, none⟩ = some (.int .u8 c.op) := KMr.cell 7
    have z8 : wr.cell? ⟨B3, 8, none⟩ = some (.slice rm c.rq.length cm) := KMr.cell 8
    have z9 : wr.cell? ⟨B3, 9, none⟩ = some (.int .i64 c.cl) := KMr.cell 9
    have z10 : wr.cell? ⟨B3, 10, none⟩ = some (.int .i64 c.ky) := KMr.cell 10
    by_cases hlt : i < 2
    rotate_left
    · have hltI : ¬ (i : Int) < 2 := by omega
      have SM0 := Same_a c c rm ra cm rc wr (RM8.out.below HBR.out) (RC8.out.below HBR.out) HCL.out HCL.out
      rw [decide_eq_true (rfl : c = c)] at SM0
      have SM := hide SM0
      clear SM0
      clear KCr KMr
      go_wp2_with fail
      refine SM.out.mono ?_
      rintro e w' ⟨rfl, hb⟩
      have FIN := hide (BBR.out.trans (hb.mono BBR.out.size))
      clear hb
      go_wp2_with fail
      go_ret
      exact ⟨rfl, FIN.out⟩
    · have hltI : (i : Int) < 2 := by omega
      have hs1 : IntKind.i64.wrap ((i : Int) + 1) = (i : Int) + 1 := by rw [IntKind.wrap_i64]; omega
      have TA := hide (Trim_a c rm cm wr (RM8.out.below HBR.out) HCL.out HOP.out)
      rw [HT.out] at TA
      clear KCr KMr
      go_wp2_with fail
      refine TA.out.mono ?_
      rintro e wt ⟨rt, ct, rfl, hownt, hbt⟩
      have a9 := (Below.refl wt.heap.size wt).alloc (Nat.le_refl _) (.cells #[.int .u8 t.k, .int .i64 t.co, .int .i64 t.pe, .int .i64 t.tg, .int .i64 t.va, .int .i64 t.sz, .int .i64 t.ro, .int .u8 t.op, .slice rt t.rq.length ct, .int .i64 t.cl, .int .i64 t.ky] 24)
      have kt9 := Blk.new wt 24 #[.int .u8 t.k, .int .i64 t.co, .int .i64 t.pe, .int .i64 t.tg, .int .i64 t.va, .int .i64 t.sz, .int .i64 t.ro, .int .u8 t.op, .slice rt t.rq.length ct, .int .i64 t.cl, .int .i64 t.ky]
      obtain ⟨w9, hw9⟩ : ∃ y, wt.alloc (.cells #[.int .u8 t.k, .int .i64 t.co, .int .i64 t.pe, .int .i64 t.tg, .int .i64 t.va, .int .i64 t.sz, .int .i64 t.ro, .int .u8 t.op, .slice rt t.rq.length ct, .int .i64 t.cl, .int .i64 t.ky] 24) = y := ⟨_, rfl⟩
      rw [hw9] at a9 kt9
      obtain ⟨bt, hbt2⟩ : ∃ b, wt.heap.size = b := ⟨_, rfl⟩
      rw [hbt2] at kt9
      have h89 := HBR.out.trans ((hbt.trans (a9.mono hbt.size)).mono HBR.out.size)
      have KC := hide (KC8.out.below h89 KC8.out.lt)
      have KO := hide (KO8.out.below h89 KO8.out.lt)
      have KG := hide (KG8.out.below h89 KG8.out.lt)
      have KM := hide (KM8.out.below h89 KM8.out.lt)
      have KW := hide (KW8.out.below h89 KW8.out.lt)
      have KT := hide kt9
      have RC := hide (RC8.out.below h89)
      have RO := hide (RO8.out.below h89)
      have RG := hide (RG8.out.below h89)
      have RM := hide (RM8.out.below h89)
      have RW := hide (RW8.out.below h89)
      have RT := hide ((own_row hownt rfl).below a9)
      have H89 := hide h89
      have HW9 := hide hw9
      have HBT := hide hbt2
      have HOT := hide hownt
      have HA9 := hide a9
      have HSR := hide HBR.out.size
      clear hownt hbt a9 kt9 hw9 hbt2 h89 x0 z0 x1 z1 x2 z2 x3 z3 x4 z4 x5 z5 x6 z6 x7 z7 x8 z8 x9 z9 x10 z10
      unfold Cl.A clA
      go_wp2_with fail
      rw [HW9.out, HBT.out]
      let R : Nat → Value → World → Prop := fun sl u w1 => match sl with
        | 42 => u = .agg #[.int .u8 t.k, .int .i64 t.co, .int .i64 t.pe, .int .i64 t.tg, .int .i64 t.va, .int .i64 t.sz, .int .i64 t.ro, .int .u8 t.op, .slice rt t.rq.length ct, .int .i64 t.cl, .int .i64 t.ky]
        | 43 => u = .agg #[.int .u8 t.k, .int .i64 t.co, .int .i64 t.pe, .int .i64 t.tg, .int .i64 t.va, .int .i64 t.sz, .int .i64 t.ro, .int .u8 t.op, .slice rw t.rq.length cw, .int .i64 t.cl, .int .i64 t.ky]
        | 44 => u = .bool true
        | 45 => u = .bool false
        | 46 => u = .bool false
        | 47 => u = .agg #[.int .u8 c.k, .int .i64 c.co, .int .i64 c.pe, .int .i64 c.tg, .int .i64 c.va, .int .i64 c.sz, .int .i64 c.ro, .int .u8 c.op, .slice rm c.rq.length cm, .int .i64 c.cl, .int .i64 c.ky]
        | 48 => u = .agg #[.string key, .slice A l.length gc]
        | 49 => u = .bool bm
        | 50 => u = .agg #[.int .u8 c.k, .int .i64 c.co, .int .i64 c.pe, .int .i64 c.tg, .int .i64 c.va, .int .i64 c.sz, .int .i64 c.ro, .int .u8 c.op, .slice ra c.rq.length rc, .int .i64 c.cl, .int .i64 c.ky]
        | 51 => u = .agg #[.string key, .slice A l.length gc]
        | 52 => u = .bool bm
        | 53 => u = .bool false
        | 54 => u = .bool false
        | 55 => u = .bool false
        | 56 => u = .agg #[.int .u8 c.k, .int .i64 c.co, .int .i64 c.pe, .int .i64 c.tg, .int .i64 c.va, .int .i64 c.sz, .int .i64 c.ro, .int .u8 c.op, .slice rm c.rq.length cm, .int .i64 c.cl, .int .i64 c.ky]
        | 57 => u = .bool bd
        | 58 => u = .agg #[.int .u8 c.k, .int .i64 c.co, .int .i64 c.pe, .int .i64 c.tg, .int .i64 c.va, .int .i64 c.sz, .int .i64 c.ro, .int .u8 c.op, .slice ra c.rq.length rc, .int .i64 c.cl, .int .i64 c.ky]
        | 59 => u = .bool bd
        | 60 => u = .bool false
        | 61 => u = .bool false
        | 62 => u = .bool false
        | 63 => u = .agg #[.int .u8 c.k, .int .i64 c.co, .int .i64 c.pe, .int .i64 c.tg, .int .i64 c.va, .int .i64 c.sz, .int .i64 c.ro, .int .u8 c.op, .slice rm c.rq.length cm, .int .i64 c.cl, .int .i64 c.ky]
        | 64 => u = .agg #[.int .u8 o.k, .int .i64 o.co, .int .i64 o.pe, .int .i64 o.tg, .int .i64 o.va, .int .i64 o.sz, .int .i64 o.ro, .int .u8 o.op, .slice rb o.rq.length rd, .int .i64 o.cl, .int .i64 o.ky]
        | 65 => u = .bool bs
        | 66 => u = .agg #[.int .u8 c.k, .int .i64 c.co, .int .i64 c.pe, .int .i64 c.tg, .int .i64 c.va, .int .i64 c.sz, .int .i64 c.ro, .int .u8 c.op, .slice ra c.rq.length rc, .int .i64 c.cl, .int .i64 c.ky]
        | 67 => u = .agg #[.int .u8 o.k, .int .i64 o.co, .int .i64 o.pe, .int .i64 o.tg, .int .i64 o.va, .int .i64 o.sz, .int .i64 o.ro, .int .u8 o.op, .slice rb o.rq.length rd, .int .i64 o.cl, .int .i64 o.ky]
        | 68 => u = .bool bs
        | 69 => u = .bool false
        | 70 => u = .bool false
        | 71 => u = .bool false
        | 72 => u = .agg #[.int .u8 c.k, .int .i64 c.co, .int .i64 c.pe, .int .i64 c.tg, .int .i64 c.va, .int .i64 c.sz, .int .i64 c.ro, .int .u8 c.op, .slice rm c.rq.length cm, .int .i64 c.cl, .int .i64 c.ky]
        | 73 => u = .agg #[.int .u8 c.k, .int .i64 c.co, .int .i64 c.pe, .int .i64 c.tg, .int .i64 c.va, .int .i64 c.sz, .int .i64 c.ro, .int .u8 c.op, .slice ra c.rq.length rc, .int .i64 c.cl, .int .i64 c.ky]
        | 74 => u = .bool true
        | 75 => u = .bool false
        | 76 => u = .bool false
        | _ => True
      refine wp_region_relGW [(46, false), (55, false), (62, false), (71, false)] R (fun a b => Below a.heap.size a b) (fun _ w => Below w9.heap.size w9 w) (by kernel_rfl) (by kernel_rfl) (by kernel_rfl) (by kernel_rfl) ?mono (fun w => Below.refl _ _) ((Below.refl _ _).drew) ?gs ?step ?fin
      case mono =>
        intro sl u wx wy h hk
        match sl with
        | 0 | 1 | 2 | 3 | 4 | 5 | 6 | 7 | 8 | 9 | 10 | 11 | 12 | 13 | 14 | 15 | 16 | 17 | 18 | 19 | 20 | 21 | 22 | 23 | 24 | 25 | 26 | 27 | 28 | 29 | 30 | 31 | 32 | 33 | 34 | 35 | 36 | 37 | 38 | 39 | 40 | 41 | 42 | 43 | 44 | 45 | 46 | 47 | 48 | 49 | 50 | 51 | 52 | 53 | 54 | 55 | 56 | 57 | 58 | 59 | 60 | 61 | 62 | 63 | 64 | 65 | 66 | 67 | 68 | 69 | 70 | 71 | 72 | 73 | 74 | 75 | 76 | _ + 77 => exact h
      case gs =>
        intro p hp u w1 h
        simp only [List.mem_cons, List.not_mem_nil, or_false] at hp
        rcases hp with rfl | rfl | rfl | rfl <;> exact h
      case step =>
        intro j o ho
        match j, ho with
        | 0, ho =>
          cases ho
          intro V aa wx hV hdep hval hj hsm hr
          have e10 : aa.tmps.getD 10 undef = .pointer (some ⟨bt, 0, none⟩) := hsm 10 (by decide)
          have hkb := KT.out.below hj KT.out.lt
          have cc0 : wx.cell? ⟨bt, 0, none⟩ = some (.int .u8 t.k) := hkb.cell 0
          have cc1 : wx.cell? ⟨bt, 1, none⟩ = some (.int .i64 t.co) := hkb.cell 1
          have cc2 : wx.cell? ⟨bt, 2, none⟩ = some (.int .i64 t.pe) := hkb.cell 2
          have cc3 : wx.cell? ⟨bt, 3, none⟩ = some (.int .i64 t.tg) := hkb.cell 3
          have cc4 : wx.cell? ⟨bt, 4, none⟩ = some (.int .i64 t.va) := hkb.cell 4
          have cc5 : wx.cell? ⟨bt, 5, none⟩ = some (.int .i64 t.sz) := hkb.cell 5
          have cc6 : wx.cell? ⟨bt, 6, none⟩ = some (.int .i64 t.ro) := hkb.cell 6
          have cc7 : wx.cell? ⟨bt, 7, none⟩ = some (.int .u8 t.op) := hkb.cell 7
          have cc8 : wx.cell? ⟨bt, 8, none⟩ = some (.slice rt t.rq.length ct) := hkb.cell 8
          have cc9 : wx.cell? ⟨bt, 9, none⟩ = some (.int .i64 t.cl) := hkb.cell 9
          have cc10 : wx.cell? ⟨bt, 10, none⟩ = some (.int .i64 t.ky) := hkb.cell 10
          rw [Array.getD_eq_getD_getElem?] at e10
          unfold Oper.wp
          simp only [execOp, Act.eval, Array.getD_eq_getD_getElem?, e10]
          go_simp
          first | exact ⟨_, rfl, rfl, Below.refl _ _⟩ | exact ⟨_, rfl, rfl, Below.refl _ _, hj⟩ | exact ⟨_, rfl, Below.refl _ _, hj⟩ | exact ⟨_, rfl, hj⟩
        | 1, ho =>
          cases ho
          intro V aa wx hV hdep hval hj hsm hr
          have e8 : aa.tmps.getD 8 undef = .pointer (some ⟨bw, 0, none⟩) := hsm 8 (by decide)
          have hkb := KW.out.below hj KW.out.lt
          have cc0 : wx.cell? ⟨bw, 0, none⟩ = some (.int .u8 t.k) := hkb.cell 0
          have cc1 : wx.cell? ⟨bw, 1, none⟩ = some (.int .i64 t.co) := hkb.cell 1
          have cc2 : wx.cell? ⟨bw, 2, none⟩ = some (.int .i64 t.pe) := hkb.cell 2
          have cc3 : wx.cell? ⟨bw, 3, none⟩ = some (.int .i64 t.tg) := hkb.cell 3
          have cc4 : wx.cell? ⟨bw, 4, none⟩ = some (.int .i64 t.va) := hkb.cell 4
          have cc5 : wx.cell? ⟨bw, 5, none⟩ = some (.int .i64 t.sz) := hkb.cell 5
          have cc6 : wx.cell? ⟨bw, 6, none⟩ = some (.int .i64 t.ro) := hkb.cell 6
          have cc7 : wx.cell? ⟨bw, 7, none⟩ = some (.int .u8 t.op) := hkb.cell 7
          have cc8 : wx.cell? ⟨bw, 8, none⟩ = some (.slice rw t.rq.length cw) := hkb.cell 8
          have cc9 : wx.cell? ⟨bw, 9, none⟩ = some (.int .i64 t.cl) := hkb.cell 9
          have cc10 : wx.cell? ⟨bw, 10, none⟩ = some (.int .i64 t.ky) := hkb.cell 10
          rw [Array.getD_eq_getD_getElem?] at e8
          unfold Oper.wp
          simp only [execOp, Act.eval, Array.getD_eq_getD_getElem?, e8]
          go_simp
          first | exact ⟨_, rfl, rfl, Below.refl _ _⟩ | exact ⟨_, rfl, rfl, Below.refl _ _, hj⟩ | exact ⟨_, rfl, Below.refl _ _, hj⟩ | exact ⟨_, rfl, hj⟩
        | 2, ho =>
          cases ho
          intro V aa wx hV hdep hval hj hsm hr
          have e42 : aa.tmps.getD 42 undef = .agg #[.int .u8 t.k, .int .i64 t.co, .int .i64 t.pe, .int .i64 t.tg, .int .i64 t.va, .int .i64 t.sz, .int .i64 t.ro, .int .u8 t.op, .slice rt t.rq.length ct, .int .i64 t.cl, .int .i64 t.ky] := hr 42 (by decide) (by apply Array.mem_toList_iff.1; repeat (first | exact List.Mem.head _ | apply List.Mem.tail))
          have e43 : aa.tmps.getD 43 undef = .agg #[.int .u8 t.k, .int .i64 t.co, .int .i64 t.pe, .int .i64 t.tg, .int .i64 t.va, .int .i64 t.sz, .int .i64 t.ro, .int .u8 t.op, .slice rw t.rq.length cw, .int .i64 t.cl, .int .i64 t.ky] := hr 43 (by decide) (by apply Array.mem_toList_iff.1; repeat (first | exact List.Mem.head _ | apply List.Mem.tail))
          rw [Array.getD_eq_getD_getElem?] at e42
          rw [Array.getD_eq_getD_getElem?] at e43
          unfold Oper.wp
          simp only [execOp, Act.eval, Array.getD_eq_getD_getElem?, e42, e43]
          go_simp
          refine (Same_b t t rt rw ct cw wx (RT.out.below hj) (RW.out.below hj) HTL.out HTL.out).mono ?_
          rintro e w' ⟨rfl, hb⟩
          exact ⟨_, rfl, by show Value.bool (decide (t = t)) = .bool true; rw [decide_eq_true rfl], hb, hj.trans (hb.mono hj.size)⟩
        | 3, ho =>
          cases ho
          intro V aa wx hV hdep hval hj hsm hr
          have e44 : aa.tmps.getD 44 undef = .bool true := hr 44 (by decide) (by apply Array.mem_toList_iff.1; repeat (first | exact List.Mem.head _ | apply List.Mem.tail))
          rw [Array.getD_eq_getD_getElem?] at e44
          unfold Oper.wp
          simp only [execOp, Act.eval, Array.getD_eq_getD_getElem?, e44]
          go_simp
          first | exact ⟨_, rfl, rfl, Below.refl _ _⟩ | exact ⟨_, rfl, rfl, Below.refl _ _, hj⟩ | exact ⟨_, rfl, Below.refl _ _, hj⟩ | exact ⟨_, rfl, hj⟩
        | 4, ho =>
          cases ho
          intro V aa wx hV hdep hval hj hsm hr
          have e45 : aa.tmps.getD 45 undef = .bool false := hr 45 (by decide) (by apply Array.mem_toList_iff.1; repeat (first | exact List.Mem.head _ | apply List.Mem.tail))
          rw [Array.getD_eq_getD_getElem?] at e45
          unfold Oper.wp
          simp only [execOp, Act.eval, Array.getD_eq_getD_getElem?, e45]
          go_simp
          first | exact ⟨_, rfl, rfl, Below.refl _ _⟩ | exact ⟨_, rfl, rfl, Below.refl _ _, hj⟩ | exact ⟨_, rfl, Below.refl _ _, hj⟩ | exact ⟨_, rfl, hj⟩
        | 5, ho =>
          cases ho
          intro V aa wx hV hdep hval hj hsm hr
          have e7 : aa.tmps.getD 7 undef = .pointer (some ⟨B3, 0, none⟩) := hsm 7 (by decide)
          have hkb := KM.out.below hj KM.out.lt
          have cc0 : wx.cell? ⟨B3, 0, none⟩ = some (.int .u8 c.k) := hkb.cell 0
          have cc1 : wx.cell? ⟨B3, 1, none⟩ = some (.int .i64 c.co) := hkb.cell 1
          have cc2 : wx.cell? ⟨B3, 2, none⟩ = some (.int .i64 c.pe) := hkb.cell 2
          have cc3 : wx.cell? ⟨B3, 3, none⟩ = some (.int .i64 c.tg) := hkb.cell 3
          have cc4 : wx.cell? ⟨B3, 4, none⟩ = some (.int .i64 c.va) := hkb.cell 4
          have cc5 : wx.cell? ⟨B3, 5, none⟩ = some (.int .i64 c.sz) := hkb.cell 5
          have cc6 : wx.cell? ⟨B3, 6, none⟩ = some (.int .i64 c.ro) := hkb.cell 6
          have cc7 : wx.cell? ⟨B3, 7, none⟩ = some (.int .u8 c.op) := hkb.cell 7
          have cc8 : wx.cell? ⟨B3, 8, none⟩ = some (.slice rm c.rq.length cm) := hkb.cell 8
          have cc9 : wx.cell? ⟨B3, 9, none⟩ = some (.int .i64 c.cl) := hkb.cell 9
          have cc10 : wx.cell? ⟨B3, 10, none⟩ = some (.int .i64 c.ky) := hkb.cell 10
          rw [Array.getD_eq_getD_getElem?] at e7
          unfold Oper.wp
          simp only [execOp, Act.eval, Array.getD_eq_getD_getElem?, e7]
          go_simp
          first | exact ⟨_, rfl, rfl, Below.refl _ _⟩ | exact ⟨_, rfl, rfl, Below.refl _ _, hj⟩ | exact ⟨_, rfl, Below.refl _ _, hj⟩ | exact ⟨_, rfl, hj⟩
        | 6, ho =>
          cases ho
          intro V aa wx hV hdep hval hj hsm hr
          have e5 : aa.tmps.getD 5 undef = .pointer (some ⟨B2, 0, none⟩) := hsm 5 (by decide)
          have hkb := KG.out.below hj KG.out.lt
          have cc0 : wx.cell? ⟨B2, 0, none⟩ = some (.string key) := hkb.cell 0
          have cc1 : wx.cell? ⟨B2, 1, none⟩ = some (.slice A l.length gc) := hkb.cell 1
          rw [Array.getD_eq_getD_getElem?] at e5
          unfold Oper.wp
          simp only [execOp, Act.eval, Array.getD_eq_getD_getElem?, e5]
          go_simp
          first | exact ⟨_, rfl, rfl, Below.refl _ _⟩ | exact ⟨_, rfl, rfl, Below.refl _ _, hj⟩ | exact ⟨_, rfl, Below.refl _ _, hj⟩ | exact ⟨_, rfl, hj⟩
        | 7, ho =>
          cases ho
          intro V aa wx hV hdep hval hj hsm hr
          have e47 : aa.tmps.getD 47 undef = .agg #[.int .u8 c.k, .int .i64 c.co, .int .i64 c.pe, .int .i64 c.tg, .int .i64 c.va, .int .i64 c.sz, .int .i64 c.ro, .int .u8 c.op, .slice rm c.rq.length cm, .int .i64 c.cl, .int .i64 c.ky] := hr 47 (by decide) (by apply Array.mem_toList_iff.1; repeat (first | exact List.Mem.head _ | apply List.Mem.tail))
          have e48 : aa.tmps.getD 48 undef = .agg #[.string key, .slice A l.length gc] := hr 48 (by decide) (by apply Array.mem_toList_iff.1; repeat (first | exact List.Mem.head _ | apply List.Mem.tail))
          rw [Array.getD_eq_getD_getElem?] at e47
          rw [Array.getD_eq_getD_getElem?] at e48
          unfold Oper.wp
          simp only [execOp, Act.eval, Array.getD_eq_getD_getElem?, e47, e48]
          go_simp
          refine (May_p c rm cm key A gc l wx (RM.out.below hj) HCM.out HC1.out (RG.out.below hj) HL1.out).mono ?_
          rintro e w' ⟨rfl, hb⟩
          exact ⟨_, rfl, by show Value.bool (decide (mayC c l)) = .bool bm; rw [HBM.out], hb, hj.trans (hb.mono hj.size)⟩
        | 8, ho =>
          cases ho
          intro V aa wx hV hdep hval hj hsm hr
          have e3 : aa.tmps.getD 3 undef = .pointer (some ⟨W.heap.size, 0, none⟩) := hsm 3 (by decide)
          have hkb := KC.out.below hj KC.out.lt
          have cc0 : wx.cell? ⟨W.heap.size, 0, none⟩ = some (.int .u8 c.k) := hkb.cell 0
          have cc1 : wx.cell? ⟨W.heap.size, 1, none⟩ = some (.int .i64 c.co) := hkb.cell 1
          have cc2 : wx.cell? ⟨W.heap.size, 2, none⟩ = some (.int .i64 c.pe) := hkb.cell 2
          have cc3 : wx.cell? ⟨W.heap.size, 3, none⟩ = some (.int .i64 c.tg) := hkb.cell 3
          have cc4 : wx.cell? ⟨W.heap.size, 4, none⟩ = some (.int .i64 c.va) := hkb.cell 4
          have cc5 : wx.cell? ⟨W.heap.size, 5, none⟩ = some (.int .i64 c.sz) := hkb.cell 5
          have cc6 : wx.cell? ⟨W.heap.size, 6, none⟩ = some (.int .i64 c.ro) := hkb.cell 6
          have cc7 : wx.cell? ⟨W.heap.size, 7, none⟩ = some (.int .u8 c.op) := hkb.cell 7
          have cc8 : wx.cell? ⟨W.heap.size, 8, none⟩ = some (.slice ra c.rq.length rc) := hkb.cell 8
          have cc9 : wx.cell? ⟨W.heap.size, 9, none⟩ = some (.int .i64 c.cl) := hkb.cell 9
          have cc10 : wx.cell? ⟨W.heap.size, 10, none⟩ = some (.int .i64 c.ky) := hkb.cell 10
          rw [Array.getD_eq_getD_getElem?] at e3
          unfold Oper.wp
          simp only [execOp, Act.eval, Array.getD_eq_getD_getElem?, e3]
          go_simp
          first | exact ⟨_, rfl, rfl, Below.refl _ _⟩ | exact ⟨_, rfl, rfl, Below.refl _ _, hj⟩ | exact ⟨_, rfl, Below.refl _ _, hj⟩ | exact ⟨_, rfl, hj⟩
        | 9, ho =>
          cases ho
          intro V aa wx hV hdep hval hj hsm hr
          have e5 : aa.tmps.getD 5 undef = .pointer (some ⟨B2, 0, none⟩) := hsm 5 (by decide)
          have hkb := KG.out.below hj KG.out.lt
          have cc0 : wx.cell? ⟨B2, 0, none⟩ = some (.string key) := hkb.cell 0
          have cc1 : wx.cell? ⟨B2, 1, none⟩ = some (.slice A l.length gc) := hkb.cell 1
          rw [Array.getD_eq_getD_getElem?] at e5
          unfold Oper.wp
          simp only [execOp, Act.eval, Array.getD_eq_getD_getElem?, e5]
          go_simp
          first | exact ⟨_, rfl, rfl, Below.refl _ _⟩ | exact ⟨_, rfl, rfl, Below.refl _ _, hj⟩ | exact ⟨_, rfl, Below.refl _ _, hj⟩ | exact ⟨_, rfl, hj⟩
        | 10, ho =>
          cases ho
          intro V aa wx hV hdep hval hj hsm hr
          have e50 : aa.tmps.getD 50 undef = .agg #[.int .u8 c.k, .int .i64 c.co, .int .i64 c.pe, .int .i64 c.tg, .int .i64 c.va, .int .i64 c.sz, .int .i64 c.ro, .int .u8 c.op, .slice ra c.rq.length rc, .int .i64 c.cl, .int .i64 c.ky] := hr 50 (by decide) (by apply Array.mem_toList_iff.1; repeat (first | exact List.Mem.head _ | apply List.Mem.tail))
          have e51 : aa.tmps.getD 51 undef = .agg #[.string key, .slice A l.length gc] := hr 51 (by decide) (by apply Array.mem_toList_iff.1; repeat (first | exact List.Mem.head _ | apply List.Mem.tail))
          rw [Array.getD_eq_getD_getElem?] at e50
          rw [Array.getD_eq_getD_getElem?] at e51
          unfold Oper.wp
          simp only [execOp, Act.eval, Array.getD_eq_getD_getElem?, e50, e51]
          go_simp
          refine (May_q c ra rc key A gc l wx (RC.out.below hj) HC1.out (RG.out.below hj) HL1.out).mono ?_
          rintro e w' ⟨rfl, hb⟩
          exact ⟨_, rfl, by show Value.bool (decide (mayC c l)) = .bool bm; rw [HBM.out], hb, hj.trans (hb.mono hj.size)⟩
        | 11, ho =>
          cases ho
          intro V aa wx hV hdep hval hj hsm hr
          have e49 : aa.tmps.getD 49 undef = .bool bm := hr 49 (by decide) (by apply Array.mem_toList_iff.1; repeat (first | exact List.Mem.head _ | apply List.Mem.tail))
          have e52 : aa.tmps.getD 52 undef = .bool bm := hr 52 (by decide) (by apply Array.mem_toList_iff.1; repeat (first | exact List.Mem.head _ | apply List.Mem.tail))
          rw [Array.getD_eq_getD_getElem?] at e49
          rw [Array.getD_eq_getD_getElem?] at e52
          unfold Oper.wp
          simp only [execOp, Act.eval, Array.getD_eq_getD_getElem?, e49, e52]
          go_simp
          first | exact ⟨_, rfl, rfl, Below.refl _ _⟩ | exact ⟨_, rfl, rfl, Below.refl _ _, hj⟩ | exact ⟨_, rfl, Below.refl _ _, hj⟩ | exact ⟨_, rfl, hj⟩
        | 12, ho =>
          cases ho
          intro V aa wx hV hdep hval hj hsm hr
          have e46 : aa.tmps.getD 46 undef = .bool false := hr 46 (by decide) (by apply Array.mem_toList_iff.1; repeat (first | exact List.Mem.head _ | apply List.Mem.tail))
          have e53 : aa.tmps.getD 53 undef = .bool false := hr 53 (by decide) (by apply Array.mem_toList_iff.1; repeat (first | exact List.Mem.head _ | apply List.Mem.tail))
          rw [Array.getD_eq_getD_getElem?] at e46
          rw [Array.getD_eq_getD_getElem?] at e53
          unfold Oper.wp
          simp only [execOp, Act.eval, Array.getD_eq_getD_getElem?, e46, e53]
          go_simp
          first | exact ⟨_, rfl, rfl, Below.refl _ _⟩ | exact ⟨_, rfl, rfl, Below.refl _ _, hj⟩ | exact ⟨_, rfl, Below.refl _ _, hj⟩ | exact ⟨_, rfl, hj⟩
        | 13, ho =>
          cases ho
          intro V aa wx hV hdep hval hj hsm hr
          have e54 : aa.tmps.getD 54 undef = .bool false := hr 54 (by decide) (by apply Array.mem_toList_iff.1; repeat (first | exact List.Mem.head _ | apply List.Mem.tail))
          rw [Array.getD_eq_getD_getElem?] at e54
          unfold Oper.wp
          simp only [execOp, Act.eval, Array.getD_eq_getD_getElem?, e54]
          go_simp
          first | exact ⟨_, rfl, rfl, Below.refl _ _⟩ | exact ⟨_, rfl, rfl, Below.refl _ _, hj⟩ | exact ⟨_, rfl, Below.refl _ _, hj⟩ | exact ⟨_, rfl, hj⟩
        | 14, ho =>
          cases ho
          intro V aa wx hV hdep hval hj hsm hr
          have e7 : aa.tmps.getD 7 undef = .pointer (some ⟨B3, 0, none⟩) := hsm 7 (by decide)
          have hkb := KM.out.below hj KM.out.lt
          have cc0 : wx.cell? ⟨B3, 0, none⟩ = some (.int .u8 c.k) := hkb.cell 0
          have cc1 : wx.cell? ⟨B3, 1, none⟩ = some (.int .i64 c.co) := hkb.cell 1
          have cc2 : wx.cell? ⟨B3, 2, none⟩ = some (.int .i64 c.pe) := hkb.cell 2
          have cc3 : wx.cell? ⟨B3, 3, none⟩ = some (.int .i64 c.tg) := hkb.cell 3
          have cc4 : wx.cell? ⟨B3, 4, none⟩ = some (.int .i64 c.va) := hkb.cell 4
          have cc5 : wx.cell? ⟨B3, 5, none⟩ = some (.int .i64 c.sz) := hkb.cell 5
          have cc6 : wx.cell? ⟨B3, 6, none⟩ = some (.int .i64 c.ro) := hkb.cell 6
          have cc7 : wx.cell? ⟨B3, 7, none⟩ = some (.int .u8 c.op) := hkb.cell 7
          have cc8 : wx.cell? ⟨B3, 8, none⟩ = some (.slice rm c.rq.length cm) := hkb.cell 8
          have cc9 : wx.cell? ⟨B3, 9, none⟩ = some (.int .i64 c.cl) := hkb.cell 9
          have cc10 : wx.cell? ⟨B3, 10, none⟩ = some (.int .i64 c.ky) := hkb.cell 10
          rw [Array.getD_eq_getD_getElem?] at e7
          unfold Oper.wp
          simp only [execOp, Act.eval, Array.getD_eq_getD_getElem?, e7]
          go_simp
          first | exact ⟨_, rfl, rfl, Below.refl _ _⟩ | exact ⟨_, rfl, rfl, Below.refl _ _, hj⟩ | exact ⟨_, rfl, Below.refl _ _, hj⟩ | exact ⟨_, rfl, hj⟩
        | 15, ho =>
          cases ho
          intro V aa wx hV hdep hval hj hsm hr
          have e56 : aa.tmps.getD 56 undef = .agg #[.int .u8 c.k, .int .i64 c.co, .int .i64 c.pe, .int .i64 c.tg, .int .i64 c.va, .int .i64 c.sz, .int .i64 c.ro, .int .u8 c.op, .slice rm c.rq.length cm, .int .i64 c.cl, .int .i64 c.ky] := hr 56 (by decide) (by apply Array.mem_toList_iff.1; repeat (first | exact List.Mem.head _ | apply List.Mem.tail))
          rw [Array.getD_eq_getD_getElem?] at e56
          unfold Oper.wp
          simp only [execOp, Act.eval, Array.getD_eq_getD_getElem?, e56]
          go_simp
          refine (Decides_a c rm cm wx).mono ?_
          rintro e w' ⟨rfl, hb⟩
          exact ⟨_, rfl, by show Value.bool (decC c) = .bool bd; rw [HBD.out], hb, hj.trans (hb.mono hj.size)⟩
        | 16, ho =>
          cases ho
          intro V aa wx hV hdep hval hj hsm hr
          have e3 : aa.tmps.getD 3 undef = .pointer (some ⟨W.heap.size, 0, none⟩) := hsm 3 (by decide)
          have hkb := KC.out.below hj KC.out.lt
          have cc0 : wx.cell? ⟨W.heap.size, 0, none⟩ = some (.int .u8 c.k) := hkb.cell 0
          have cc1 : wx.cell? ⟨W.heap.size, 1, none⟩ = some (.int .i64 c.co) := hkb.cell 1
          have cc2 : wx.cell? ⟨W.heap.size, 2, none⟩ = some (.int .i64 c.pe) := hkb.cell 2
          have cc3 : wx.cell? ⟨W.heap.size, 3, none⟩ = some (.int .i64 c.tg) := hkb.cell 3
          have cc4 : wx.cell? ⟨W.heap.size, 4, none⟩ = some (.int .i64 c.va) := hkb.cell 4
          have cc5 : wx.cell? ⟨W.heap.size, 5, none⟩ = some (.int .i64 c.sz) := hkb.cell 5
          have cc6 : wx.cell? ⟨W.heap.size, 6, none⟩ = some (.int .i64 c.ro) := hkb.cell 6
          have cc7 : wx.cell? ⟨W.heap.size, 7, none⟩ = some (.int .u8 c.op) := hkb.cell 7
          have cc8 : wx.cell? ⟨W.heap.size, 8, none⟩ = some (.slice ra c.rq.length rc) := hkb.cell 8
          have cc9 : wx.cell? ⟨W.heap.size, 9, none⟩ = some (.int .i64 c.cl) := hkb.cell 9
          have cc10 : wx.cell? ⟨W.heap.size, 10, none⟩ = some (.int .i64 c.ky) := hkb.cell 10
          rw [Array.getD_eq_getD_getElem?] at e3
          unfold Oper.wp
          simp only [execOp, Act.eval, Array.getD_eq_getD_getElem?, e3]
          go_simp
          first | exact ⟨_, rfl, rfl, Below.refl _ _⟩ | exact ⟨_, rfl, rfl, Below.refl _ _, hj⟩ | exact ⟨_, rfl, Below.refl _ _, hj⟩ | exact ⟨_, rfl, hj⟩
        | 17, ho =>
          cases ho
          intro V aa wx hV hdep hval hj hsm hr
          have e58 : aa.tmps.getD 58 undef = .agg #[.int .u8 c.k, .int .i64 c.co, .int .i64 c.pe, .int .i64 c.tg, .int .i64 c.va, .int .i64 c.sz, .int .i64 c.ro, .int .u8 c.op, .slice ra c.rq.length rc, .int .i64 c.cl, .int .i64 c.ky] := hr 58 (by decide) (by apply Array.mem_toList_iff.1; repeat (first | exact List.Mem.head _ | apply List.Mem.tail))
          rw [Array.getD_eq_getD_getElem?] at e58
          unfold Oper.wp
          simp only [execOp, Act.eval, Array.getD_eq_getD_getElem?, e58]
          go_simp
          refine (Decides_b c ra rc wx).mono ?_
          rintro e w' ⟨rfl, hb⟩
          exact ⟨_, rfl, by show Value.bool (decC c) = .bool bd; rw [HBD.out], hb, hj.trans (hb.mono hj.size)⟩
        | 18, ho =>
          cases ho
          intro V aa wx hV hdep hval hj hsm hr
          have e57 : aa.tmps.getD 57 undef = .bool bd := hr 57 (by decide) (by apply Array.mem_toList_iff.1; repeat (first | exact List.Mem.head _ | apply List.Mem.tail))
          have e59 : aa.tmps.getD 59 undef = .bool bd := hr 59 (by decide) (by apply Array.mem_toList_iff.1; repeat (first | exact List.Mem.head _ | apply List.Mem.tail))
          rw [Array.getD_eq_getD_getElem?] at e57
          rw [Array.getD_eq_getD_getElem?] at e59
          unfold Oper.wp
          simp only [execOp, Act.eval, Array.getD_eq_getD_getElem?, e57, e59]
          go_simp
          first | exact ⟨_, rfl, rfl, Below.refl _ _⟩ | exact ⟨_, rfl, rfl, Below.refl _ _, hj⟩ | exact ⟨_, rfl, Below.refl _ _, hj⟩ | exact ⟨_, rfl, hj⟩
        | 19, ho =>
          cases ho
          intro V aa wx hV hdep hval hj hsm hr
          have e55 : aa.tmps.getD 55 undef = .bool false := hr 55 (by decide) (by apply Array.mem_toList_iff.1; repeat (first | exact List.Mem.head _ | apply List.Mem.tail))
          have e60 : aa.tmps.getD 60 undef = .bool false := hr 60 (by decide) (by apply Array.mem_toList_iff.1; repeat (first | exact List.Mem.head _ | apply List.Mem.tail))
          rw [Array.getD_eq_getD_getElem?] at e55
          rw [Array.getD_eq_getD_getElem?] at e60
          unfold Oper.wp
          simp only [execOp, Act.eval, Array.getD_eq_getD_getElem?, e55, e60]
          go_simp
          first | exact ⟨_, rfl, rfl, Below.refl _ _⟩ | exact ⟨_, rfl, rfl, Below.refl _ _, hj⟩ | exact ⟨_, rfl, Below.refl _ _, hj⟩ | exact ⟨_, rfl, hj⟩
        | 20, ho =>
          cases ho
          intro V aa wx hV hdep hval hj hsm hr
          have e61 : aa.tmps.getD 61 undef = .bool false := hr 61 (by decide) (by apply Array.mem_toList_iff.1; repeat (first | exact List.Mem.head _ | apply List.Mem.tail))
          rw [Array.getD_eq_getD_getElem?] at e61
          unfold Oper.wp
          simp only [execOp, Act.eval, Array.getD_eq_getD_getElem?, e61]
          go_simp
          first | exact ⟨_, rfl, rfl, Below.refl _ _⟩ | exact ⟨_, rfl, rfl, Below.refl _ _, hj⟩ | exact ⟨_, rfl, Below.refl _ _, hj⟩ | exact ⟨_, rfl, hj⟩
        | 21, ho =>
          cases ho
          intro V aa wx hV hdep hval hj hsm hr
          have e7 : aa.tmps.getD 7 undef = .pointer (some ⟨B3, 0, none⟩) := hsm 7 (by decide)
          have hkb := KM.out.below hj KM.out.lt
          have cc0 : wx.cell? ⟨B3, 0, none⟩ = some (.int .u8 c.k) := hkb.cell 0
          have cc1 : wx.cell? ⟨B3, 1, none⟩ = some (.int .i64 c.co) := hkb.cell 1
          have cc2 : wx.cell? ⟨B3, 2, none⟩ = some (.int .i64 c.pe) := hkb.cell 2
          have cc3 : wx.cell? ⟨B3, 3, none⟩ = some (.int .i64 c.tg) := hkb.cell 3
          have cc4 : wx.cell? ⟨B3, 4, none⟩ = some (.int .i64 c.va) := hkb.cell 4
          have cc5 : wx.cell? ⟨B3, 5, none⟩ = some (.int .i64 c.sz) := hkb.cell 5
          have cc6 : wx.cell? ⟨B3, 6, none⟩ = some (.int .i64 c.ro) := hkb.cell 6
          have cc7 : wx.cell? ⟨B3, 7, none⟩ = some (.int .u8 c.op) := hkb.cell 7
          have cc8 : wx.cell? ⟨B3, 8, none⟩ = some (.slice rm c.rq.length cm) := hkb.cell 8
          have cc9 : wx.cell? ⟨B3, 9, none⟩ = some (.int .i64 c.cl) := hkb.cell 9
          have cc10 : wx.cell? ⟨B3, 10, none⟩ = some (.int .i64 c.ky) := hkb.cell 10
          rw [Array.getD_eq_getD_getElem?] at e7
          unfold Oper.wp
          simp only [execOp, Act.eval, Array.getD_eq_getD_getElem?, e7]
          go_simp
          first | exact ⟨_, rfl, rfl, Below.refl _ _⟩ | exact ⟨_, rfl, rfl, Below.refl _ _, hj⟩ | exact ⟨_, rfl, Below.refl _ _, hj⟩ | exact ⟨_, rfl, hj⟩
        | 22, ho =>
          cases ho
          intro V aa wx hV hdep hval hj hsm hr
          have e4 : aa.tmps.getD 4 undef = .pointer (some ⟨B1, 0, none⟩) := hsm 4 (by decide)
          have hkb := KO.out.below hj KO.out.lt
          have cc0 : wx.cell? ⟨B1, 0, none⟩ = some (.int .u8 o.k) := hkb.cell 0
          have cc1 : wx.cell? ⟨B1, 1, none⟩ = some (.int .i64 o.co) := hkb.cell 1
          have cc2 : wx.cell? ⟨B1, 2, none⟩ = some (.int .i64 o.pe) := hkb.cell 2
          have cc3 : wx.cell? ⟨B1, 3, none⟩ = some (.int .i64 o.tg) := hkb.cell 3
          have cc4 : wx.cell? ⟨B1, 4, none⟩ = some (.int .i64 o.va) := hkb.cell 4
          have cc5 : wx.cell? ⟨B1, 5, none⟩ = some (.int .i64 o.sz) := hkb.cell 5
          have cc6 : wx.cell? ⟨B1, 6, none⟩ = some (.int .i64 o.ro) := hkb.cell 6
          have cc7 : wx.cell? ⟨B1, 7, none⟩ = some (.int .u8 o.op) := hkb.cell 7
          have cc8 : wx.cell? ⟨B1, 8, none⟩ = some (.slice rb o.rq.length rd) := hkb.cell 8
          have cc9 : wx.cell? ⟨B1, 9, none⟩ = some (.int .i64 o.cl) := hkb.cell 9
          have cc10 : wx.cell? ⟨B1, 10, none⟩ = some (.int .i64 o.ky) := hkb.cell 10
          rw [Array.getD_eq_getD_getElem?] at e4
          unfold Oper.wp
          simp only [execOp, Act.eval, Array.getD_eq_getD_getElem?, e4]
          go_simp
          first | exact ⟨_, rfl, rfl, Below.refl _ _⟩ | exact ⟨_, rfl, rfl, Below.refl _ _, hj⟩ | exact ⟨_, rfl, Below.refl _ _, hj⟩ | exact ⟨_, rfl, hj⟩
        | 23, ho =>
          cases ho
          intro V aa wx hV hdep hval hj hsm hr
          have e63 : aa.tmps.getD 63 undef = .agg #[.int .u8 c.k, .int .i64 c.co, .int .i64 c.pe, .int .i64 c.tg, .int .i64 c.va, .int .i64 c.sz, .int .i64 c.ro, .int .u8 c.op, .slice rm c.rq.length cm, .int .i64 c.cl, .int .i64 c.ky] := hr 63 (by decide) (by apply Array.mem_toList_iff.1; repeat (first | exact List.Mem.head _ | apply List.Mem.tail))
          have e64 : aa.tmps.getD 64 undef = .agg #[.int .u8 o.k, .int .i64 o.co, .int .i64 o.pe, .int .i64 o.tg, .int .i64 o.va, .int .i64 o.sz, .int .i64 o.ro, .int .u8 o.op, .slice rb o.rq.length rd, .int .i64 o.cl, .int .i64 o.ky] := hr 64 (by decide) (by apply Array.mem_toList_iff.1; repeat (first | exact List.Mem.head _ | apply List.Mem.tail))
          rw [Array.getD_eq_getD_getElem?] at e63
          rw [Array.getD_eq_getD_getElem?] at e64
          unfold Oper.wp
          simp only [execOp, Act.eval, Array.getD_eq_getD_getElem?, e63, e64]
          go_simp
          refine (Same_a c o rm rb cm rd wx (RM.out.below hj) (RO.out.below hj) HCL.out HOL.out).mono ?_
          rintro e w' ⟨rfl, hb⟩
          exact ⟨_, rfl, by show Value.bool (decide (c = o)) = .bool bs; rw [HBS.out], hb, hj.trans (hb.mono hj.size)⟩
        | 24, ho =>
          cases ho
          intro V aa wx hV hdep hval hj hsm hr
          have e3 : aa.tmps.getD 3 undef = .pointer (some ⟨W.heap.size, 0, none⟩) := hsm 3 (by decide)
          have hkb := KC.out.below hj KC.out.lt
          have cc0 : wx.cell? ⟨W.heap.size, 0, none⟩ = some (.int .u8 c.k) := hkb.cell 0
          have cc1 : wx.cell? ⟨W.heap.size, 1, none⟩ = some (.int .i64 c.co) := hkb.cell 1
          have cc2 : wx.cell? ⟨W.heap.size, 2, none⟩ = some (.int .i64 c.pe) := hkb.cell 2
          have cc3 : wx.cell? ⟨W.heap.size, 3, none⟩ = some (.int .i64 c.tg) := hkb.cell 3
          have cc4 : wx.cell? ⟨W.heap.size, 4, none⟩ = some (.int .i64 c.va) := hkb.cell 4
          have cc5 : wx.cell? ⟨W.heap.size, 5, none⟩ = some (.int .i64 c.sz) := hkb.cell 5
          have cc6 : wx.cell? ⟨W.heap.size, 6, none⟩ = some (.int .i64 c.ro) := hkb.cell 6
          have cc7 : wx.cell? ⟨W.heap.size, 7, none⟩ = some (.int .u8 c.op) := hkb.cell 7
          have cc8 : wx.cell? ⟨W.heap.size, 8, none⟩ = some (.slice ra c.rq.length rc) := hkb.cell 8
          have cc9 : wx.cell? ⟨W.heap.size, 9, none⟩ = some (.int .i64 c.cl) := hkb.cell 9
          have cc10 : wx.cell? ⟨W.heap.size, 10, none⟩ = some (.int .i64 c.ky) := hkb.cell 10
          rw [Array.getD_eq_getD_getElem?] at e3
          unfold Oper.wp
          simp only [execOp, Act.eval, Array.getD_eq_getD_getElem?, e3]
          go_simp
          first | exact ⟨_, rfl, rfl, Below.refl _ _⟩ | exact ⟨_, rfl, rfl, Below.refl _ _, hj⟩ | exact ⟨_, rfl, Below.refl _ _, hj⟩ | exact ⟨_, rfl, hj⟩
        | 25, ho =>
          cases ho
          intro V aa wx hV hdep hval hj hsm hr
          have e4 : aa.tmps.getD 4 undef = .pointer (some ⟨B1, 0, none⟩) := hsm 4 (by decide)
          have hkb := KO.out.below hj KO.out.lt
          have cc0 : wx.cell? ⟨B1, 0, none⟩ = some (.int .u8 o.k) := hkb.cell 0
          have cc1 : wx.cell? ⟨B1, 1, none⟩ = some (.int .i64 o.co) := hkb.cell 1
          have cc2 : wx.cell? ⟨B1, 2, none⟩ = some (.int .i64 o.pe) := hkb.cell 2
          have cc3 : wx.cell? ⟨B1, 3, none⟩ = some (.int .i64 o.tg) := hkb.cell 3
          have cc4 : wx.cell? ⟨B1, 4, none⟩ = some (.int .i64 o.va) := hkb.cell 4
          have cc5 : wx.cell? ⟨B1, 5, none⟩ = some (.int .i64 o.sz) := hkb.cell 5
          have cc6 : wx.cell? ⟨B1, 6, none⟩ = some (.int .i64 o.ro) := hkb.cell 6
          have cc7 : wx.cell? ⟨B1, 7, none⟩ = some (.int .u8 o.op) := hkb.cell 7
          have cc8 : wx.cell? ⟨B1, 8, none⟩ = some (.slice rb o.rq.length rd) := hkb.cell 8
          have cc9 : wx.cell? ⟨B1, 9, none⟩ = some (.int .i64 o.cl) := hkb.cell 9
          have cc10 : wx.cell? ⟨B1, 10, none⟩ = some (.int .i64 o.ky) := hkb.cell 10
          rw [Array.getD_eq_getD_getElem?] at e4
          unfold Oper.wp
          simp only [execOp, Act.eval, Array.getD_eq_getD_getElem?, e4]
          go_simp
          first | exact ⟨_, rfl, rfl, Below.refl _ _⟩ | exact ⟨_, rfl, rfl, Below.refl _ _, hj⟩ | exact ⟨_, rfl, Below.refl _ _, hj⟩ | exact ⟨_, rfl, hj⟩
        | 26, ho =>
          cases ho
          intro V aa wx hV hdep hval hj hsm hr
          have e66 : aa.tmps.getD 66 undef = .agg #[.int .u8 c.k, .int .i64 c.co, .int .i64 c.pe, .int .i64 c.tg, .int .i64 c.va, .int .i64 c.sz, .int .i64 c.ro, .int .u8 c.op, .slice ra c.rq.length rc, .int .i64 c.cl, .int .i64 c.ky] := hr 66 (by decide) (by apply Array.mem_toList_iff.1; repeat (first | exact List.Mem.head _ | apply List.Mem.tail))
          have e67 : aa.tmps.getD 67 undef = .agg #[.int .u8 o.k, .int .i64 o.co, .int .i64 o.pe, .int .i64 o.tg, .int .i64 o.va, .int .i64 o.sz, .int .i64 o.ro, .int .u8 o.op, .slice rb o.rq.length rd, .int .i64 o.cl, .int .i64 o.ky] := hr 67 (by decide) (by apply Array.mem_toList_iff.1; repeat (first | exact List.Mem.head _ | apply List.Mem.tail))
          rw [Array.getD_eq_getD_getElem?] at e66
          rw [Array.getD_eq_getD_getElem?] at e67
          unfold Oper.wp
          simp only [execOp, Act.eval, Array.getD_eq_getD_getElem?, e66, e67]
          go_simp
          refine (Same_b c o ra rb rc rd wx (RC.out.below hj) (RO.out.below hj) HCL.out HOL.out).mono ?_
          rintro e w' ⟨rfl, hb⟩
          exact ⟨_, rfl, by show Value.bool (decide (c = o)) = .bool bs; rw [HBS.out], hb, hj.trans (hb.mono hj.size)⟩
        | 27, ho =>
          cases ho
          intro V aa wx hV hdep hval hj hsm hr
          have e65 : aa.tmps.getD 65 undef = .bool bs := hr 65 (by decide) (by apply Array.mem_toList_iff.1; repeat (first | exact List.Mem.head _ | apply List.Mem.tail))
          have e68 : aa.tmps.getD 68 undef = .bool bs := hr 68 (by decide) (by apply Array.mem_toList_iff.1; repeat (first | exact List.Mem.head _ | apply List.Mem.tail))
          rw [Array.getD_eq_getD_getElem?] at e65
          rw [Array.getD_eq_getD_getElem?] at e68
          unfold Oper.wp
          simp only [execOp, Act.eval, Array.getD_eq_getD_getElem?, e65, e68]
          go_simp
          first | exact ⟨_, rfl, rfl, Below.refl _ _⟩ | exact ⟨_, rfl, rfl, Below.refl _ _, hj⟩ | exact ⟨_, rfl, Below.refl _ _, hj⟩ | exact ⟨_, rfl, hj⟩
        | 28, ho =>
          cases ho
          intro V aa wx hV hdep hval hj hsm hr
          have e62 : aa.tmps.getD 62 undef = .bool false := hr 62 (by decide) (by apply Array.mem_toList_iff.1; repeat (first | exact List.Mem.head _ | apply List.Mem.tail))
          have e69 : aa.tmps.getD 69 undef = .bool false := hr 69 (by decide) (by apply Array.mem_toList_iff.1; repeat (first | exact List.Mem.head _ | apply List.Mem.tail))
          rw [Array.getD_eq_getD_getElem?] at e62
          rw [Array.getD_eq_getD_getElem?] at e69
          unfold Oper.wp
          simp only [execOp, Act.eval, Array.getD_eq_getD_getElem?, e62, e69]
          go_simp
          first | exact ⟨_, rfl, rfl, Below.refl _ _⟩ | exact ⟨_, rfl, rfl, Below.refl _ _, hj⟩ | exact ⟨_, rfl, Below.refl _ _, hj⟩ | exact ⟨_, rfl, hj⟩
        | 29, ho =>
          cases ho
          intro V aa wx hV hdep hval hj hsm hr
          have e70 : aa.tmps.getD 70 undef = .bool false := hr 70 (by decide) (by apply Array.mem_toList_iff.1; repeat (first | exact List.Mem.head _ | apply List.Mem.tail))
          rw [Array.getD_eq_getD_getElem?] at e70
          unfold Oper.wp
          simp only [execOp, Act.eval, Array.getD_eq_getD_getElem?, e70]
          go_simp
          first | exact ⟨_, rfl, rfl, Below.refl _ _⟩ | exact ⟨_, rfl, rfl, Below.refl _ _, hj⟩ | exact ⟨_, rfl, Below.refl _ _, hj⟩ | exact ⟨_, rfl, hj⟩
        | 30, ho =>
          cases ho
          intro V aa wx hV hdep hval hj hsm hr
          have e7 : aa.tmps.getD 7 undef = .pointer (some ⟨B3, 0, none⟩) := hsm 7 (by decide)
          have hkb := KM.out.below hj KM.out.lt
          have cc0 : wx.cell? ⟨B3, 0, none⟩ = some (.int .u8 c.k) := hkb.cell 0
          have cc1 : wx.cell? ⟨B3, 1, none⟩ = some (.int .i64 c.co) := hkb.cell 1
          have cc2 : wx.cell? ⟨B3, 2, none⟩ = some (.int .i64 c.pe) := hkb.cell 2
          have cc3 : wx.cell? ⟨B3, 3, none⟩ = some (.int .i64 c.tg) := hkb.cell 3
          have cc4 : wx.cell? ⟨B3, 4, none⟩ = some (.int .i64 c.va) := hkb.cell 4
          have cc5 : wx.cell? ⟨B3, 5, none⟩ = some (.int .i64 c.sz) := hkb.cell 5
          have cc6 : wx.cell? ⟨B3, 6, none⟩ = some (.int .i64 c.ro) := hkb.cell 6
          have cc7 : wx.cell? ⟨B3, 7, none⟩ = some (.int .u8 c.op) := hkb.cell 7
          have cc8 : wx.cell? ⟨B3, 8, none⟩ = some (.slice rm c.rq.length cm) := hkb.cell 8
          have cc9 : wx.cell? ⟨B3, 9, none⟩ = some (.int .i64 c.cl) := hkb.cell 9
          have cc10 : wx.cell? ⟨B3, 10, none⟩ = some (.int .i64 c.ky) := hkb.cell 10
          rw [Array.getD_eq_getD_getElem?] at e7
          unfold Oper.wp
          simp only [execOp, Act.eval, Array.getD_eq_getD_getElem?, e7]
          go_simp
          first | exact ⟨_, rfl, rfl, Below.refl _ _⟩ | exact ⟨_, rfl, rfl, Below.refl _ _, hj⟩ | exact ⟨_, rfl, Below.refl _ _, hj⟩ | exact ⟨_, rfl, hj⟩
        | 31, ho =>
          cases ho
          intro V aa wx hV hdep hval hj hsm hr
          have e3 : aa.tmps.getD 3 undef = .pointer (some ⟨W.heap.size, 0, none⟩) := hsm 3 (by decide)
          have hkb := KC.out.below hj KC.out.lt
          have cc0 : wx.cell? ⟨W.heap.size, 0, none⟩ = some (.int .u8 c.k) := hkb.cell 0
          have cc1 : wx.cell? ⟨W.heap.size, 1, none⟩ = some (.int .i64 c.co) := hkb.cell 1
          have cc2 : wx.cell? ⟨W.heap.size, 2, none⟩ = some (.int .i64 c.pe) := hkb.cell 2
          have cc3 : wx.cell? ⟨W.heap.size, 3, none⟩ = some (.int .i64 c.tg) := hkb.cell 3
          have cc4 : wx.cell? ⟨W.heap.size, 4, none⟩ = some (.int .i64 c.va) := hkb.cell 4
          have cc5 : wx.cell? ⟨W.heap.size, 5, none⟩ = some (.int .i64 c.sz) := hkb.cell 5
          have cc6 : wx.cell? ⟨W.heap.size, 6, none⟩ = some (.int .i64 c.ro) := hkb.cell 6
          have cc7 : wx.cell? ⟨W.heap.size, 7, none⟩ = some (.int .u8 c.op) := hkb.cell 7
          have cc8 : wx.cell? ⟨W.heap.size, 8, none⟩ = some (.slice ra c.rq.length rc) := hkb.cell 8
          have cc9 : wx.cell? ⟨W.heap.size, 9, none⟩ = some (.int .i64 c.cl) := hkb.cell 9
          have cc10 : wx.cell? ⟨W.heap.size, 10, none⟩ = some (.int .i64 c.ky) := hkb.cell 10
          rw [Array.getD_eq_getD_getElem?] at e3
          unfold Oper.wp
          simp only [execOp, Act.eval, Array.getD_eq_getD_getElem?, e3]
          go_simp
          first | exact ⟨_, rfl, rfl, Below.refl _ _⟩ | exact ⟨_, rfl, rfl, Below.refl _ _, hj⟩ | exact ⟨_, rfl, Below.refl _ _, hj⟩ | exact ⟨_, rfl, hj⟩
        | 32, ho =>
          cases ho
          intro V aa wx hV hdep hval hj hsm hr
          have e72 : aa.tmps.getD 72 undef = .agg #[.int .u8 c.k, .int .i64 c.co, .int .i64 c.pe, .int .i64 c.tg, .int .i64 c.va, .int .i64 c.sz, .int .i64 c.ro, .int .u8 c.op, .slice rm c.rq.length cm, .int .i64 c.cl, .int .i64 c.ky] := hr 72 (by decide) (by apply Array.mem_toList_iff.1; repeat (first | exact List.Mem.head _ | apply List.Mem.tail))
          have e73 : aa.tmps.getD 73 undef = .agg #[.int .u8 c.k, .int .i64 c.co, .int .i64 c.pe, .int .i64 c.tg, .int .i64 c.va, .int .i64 c.sz, .int .i64 c.ro, .int .u8 c.op, .slice ra c.rq.length rc, .int .i64 c.cl, .int .i64 c.ky] := hr 73 (by decide) (by apply Array.mem_toList_iff.1; repeat (first | exact List.Mem.head _ | apply List.Mem.tail))
          rw [Array.getD_eq_getD_getElem?] at e72
          rw [Array.getD_eq_getD_getElem?] at e73
          unfold Oper.wp
          simp only [execOp, Act.eval, Array.getD_eq_getD_getElem?, e72, e73]
          go_simp
          refine (Same_b c c rm ra cm rc wx (RM.out.below hj) (RC.out.below hj) HCL.out HCL.out).mono ?_
          rintro e w' ⟨rfl, hb⟩
          exact ⟨_, rfl, by show Value.bool (decide (c = c)) = .bool true; rw [decide_eq_true rfl], hb, hj.trans (hb.mono hj.size)⟩
        | 33, ho =>
          cases ho
          intro V aa wx hV hdep hval hj hsm hr
          have e74 : aa.tmps.getD 74 undef = .bool true := hr 74 (by decide) (by apply Array.mem_toList_iff.1; repeat (first | exact List.Mem.head _ | apply List.Mem.tail))
          rw [Array.getD_eq_getD_getElem?] at e74
          unfold Oper.wp
          simp only [execOp, Act.eval, Array.getD_eq_getD_getElem?, e74]
          go_simp
          first | exact ⟨_, rfl, rfl, Below.refl _ _⟩ | exact ⟨_, rfl, rfl, Below.refl _ _, hj⟩ | exact ⟨_, rfl, Below.refl _ _, hj⟩ | exact ⟨_, rfl, hj⟩
        | 34, ho =>
          cases ho
          intro V aa wx hV hdep hval hj hsm hr
          have e71 : aa.tmps.getD 71 undef = .bool false := hr 71 (by decide) (by apply Array.mem_toList_iff.1; repeat (first | exact List.Mem.head _ | apply List.Mem.tail))
          have e75 : aa.tmps.getD 75 undef = .bool false := hr 75 (by decide) (by apply Array.mem_toList_iff.1; repeat (first | exact List.Mem.head _ | apply List.Mem.tail))
          rw [Array.getD_eq_getD_getElem?] at e71
          rw [Array.getD_eq_getD_getElem?] at e75
          unfold Oper.wp
          simp only [execOp, Act.eval, Array.getD_eq_getD_getElem?, e71, e75]
          go_simp
          first | exact ⟨_, rfl, rfl, Below.refl _ _⟩ | exact ⟨_, rfl, rfl, Below.refl _ _, hj⟩ | exact ⟨_, rfl, Below.refl _ _, hj⟩ | exact ⟨_, rfl, hj⟩
        | _ + 35, ho => cases ho
      case fin =>
        intro ff V w10 hV hj hr
        have e76 : ff 76 = .bool false := hr 76 (by decide)
        have TR : Hid (0 < t.rq.length → ∃ (g : Nat) (cs : Array Value), rt = some ⟨g, 0, none⟩ ∧ w8.heap.size ≤ g ∧ g ≠ bt ∧ Blk w10 g 3 cs ∧ t.rq.length ≤ cs.size) := hide (fun h0 => by
          obtain ⟨g, hA, hge, _, ⟨cs, hbk⟩, _, _, hce⟩ := own_cell HOT.out h0
          have hgl := hbk.lt
          have e := hce (t.rq.length - 1) _ (i64s_at (by omega))
          rw [hbk.cell] at e
          have hcs := (Array.getElem?_eq_some_iff.1 e).1
          have hb9 := hbk.below HA9.out hbk.lt
          exact ⟨g, cs, hA, Nat.le_trans HSR.out hge, by rw [← HBT.out]; omega, hb9.below hj hb9.lt, by omega⟩)
        have KT10 := hide (KT.out.below hj KT.out.lt)
        have B10 := hide (H89.out.trans (hj.mono H89.out.size))
        have HLT := hide (show t.rq.length ≤ 100000 from HTL.out)
        clear hV hj hr
        simp only [putAll, slotsOf, List.filterMap_cons, List.filterMap_nil, List.foldl_cons, List.foldl_nil, Act.put, e76]
        simp only [List.setIfInBounds_toArray, List.set_cons_succ, List.set_cons_zero]
        go_wp2_with fail
        go_loopw [11] (fun vj wq => ∃ j : Nat, j ≤ t.rq.length ∧ vj = .int .i64 j ∧ Hid (Below w8.heap.size w8 wq) ∧ Hid (Blk wq bt 24 #[.int .u8 t.k, .int .i64 t.co, .int .i64 t.pe, .int .i64 t.tg, .int .i64 t.va, .int .i64 t.sz, .int .i64 t.ro, .int .u8 t.op, .slice rt t.rq.length ct, .int .i64 t.cl, .int .i64 t.ky]) ∧ Hid (0 < t.rq.length → ∃ (g : Nat) (cs : Array Value), rt = some ⟨g, 0, none⟩ ∧ w8.heap.size ≤ g ∧ g ≠ bt ∧ Blk wq g 3 cs ∧ t.rq.length ≤ cs.size)) (fun vj _ => t.rq.length - (RowKit.intOf vj).toNat)
        case atStart => exact ⟨0, Nat.zero_le _, rfl, B10, KT10, TR⟩
        case round =>
          obtain ⟨j, hj, rfl, HBQ, HKQ, HTQ⟩ := hrel
          have q8 : wr.cell? ⟨bt, 8, none⟩ = some (.slice rt t.rq.length ct) := HKQ.out.cell 8
          by_cases hjl : j < t.rq.length
          rotate_left
          · have hjI : ¬ (j : Int) < (t.rq.length : Int) := by omega
            go_wp2_with fail
            go_roundw
            case rel => exact ⟨i + 1, by omega, by go_num, HBQ⟩
            case measure => simp [RowKit.intOf] <;> omega
          · have hjI : (j : Int) < (t.rq.length : Int) := by omega
            have hj0 : ¬ (j : Int) < 0 := by omega
            have hs2 : IntKind.i64.wrap ((j : Int) + 1) = (j : Int) + 1 := by rw [IntKind.wrap_i64]; have := HLT.out; omega
            obtain ⟨g, cs, rfl, hg8, hgb, hbk, hcs⟩ := HTQ.out (by omega)
            have cg : wr.cell? ⟨g, j, none⟩ = some (cs[j]'(by omega)) := by rw [hbk.cell, Array.getElem?_eq_getElem]
            have fg := hbk.frozen j
            have B11 := hide (HBQ.out.setCell (p := ⟨g, j, none⟩) hg8 (.int .i64 (-5)))
            have K11 := hide (HKQ.out.far (p := ⟨g, j, none⟩) (fun e => hgb e.symm) (.int .i64 (-5)))
            have T11 : Hid (0 < t.rq.length → ∃ (g' : Nat) (cs : Array Value), (some ⟨g, 0, none⟩ : Option Addr) = some ⟨g', 0, none⟩ ∧ w8.heap.size ≤ g' ∧ g' ≠ bt ∧ Blk (wr.setCell ⟨g, j, none⟩ (.int .i64 (-5))) g' 3 cs ∧ t.rq.length ≤ cs.size) := hide (fun _ => ⟨g, _, rfl, hg8, hgb, hbk.set_ j (.int .i64 (-5)), by rw [Array.size_setIfInBounds]; exact hcs⟩)
            clear hbk hgb hg8 HTQ
            go_wp2_with fail
            go_roundw
            case rel => exact ⟨j + 1, by omega, by go_num, B11, K11, T11⟩
            case measure => simp [RowKit.intOf] <;> omega
end Go.Proofs.Ythbedpcgbabniaa.CallMayW
