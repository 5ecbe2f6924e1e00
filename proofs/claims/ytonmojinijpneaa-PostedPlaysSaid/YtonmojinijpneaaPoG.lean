/- Post. -/
import Derived.Test.YtonmojinijpneaaRows
import Derived.Test.YtonmojinijpneaaPoF
namespace Go.Proofs.Ytonmojinijpneaa
open Go Go.Joins Go.ChangeShapes Go.WideShapes Go.RowKit Go.Deep Go.Lib
set_option linter.unusedVariables false
set_option linter.unusedSimpArgs false
namespace Po
theorem PSt.heap {w w' : World} {p : Nat} {L : Nat → Option Addr × Nat} {ls : Nat → List Rc} (h : PSt w p L ls) (hk : ∀ b ∈ pfoot p L, w'.heap[b]? = w.heap[b]?) : PSt w' p L ls :=
  ⟨(hk p ((mem_pfoot ls).2 (.inl rfl))).trans h.blk, fun k hk' => own_keepV (h.row k hk') fun g hg => hk g ((mem_pfoot ls).2 (.inr ⟨k, hk', hg⟩)), h.ap, h.pp, h.up, h.ok⟩
/-- Three cells of a box written. -/
theorem box_set {w w2 w5 : World} {X q : Nat} {p : Nat} {L : Nat → Option Addr × Nat} {ls : Nat → List Rc} {cs : Array Value} {u6 u7 u8 : Value} (h : PSt w2 p L ls) (hX : w.heap.size = X) (hl : ∀ b ∈ pfoot p L, b < X) (hb : Below w.heap.size w w2) (kx : Blk w2 X 35 cs)
    (he : ((((w2.drewN q).setCell ⟨X, 6, none⟩ u6).setCell ⟨X, 7, none⟩ u7).setCell ⟨X, 8, none⟩ u8) = w5) :
    PSt w5 p L ls ∧ Below w.heap.size w w5 ∧ Blk w5 X 35 (((cs.setIfInBounds 6 u6).setIfInBounds 7 u7).setIfInBounds 8 u8) := by
  subst he
  have hh : ∀ b, b ≠ X → ((((w2.drewN q).setCell ⟨X, 6, none⟩ u6).setCell ⟨X, 7, none⟩ u7).setCell ⟨X, 8, none⟩ u8).heap[b]? = w2.heap[b]? := fun b hbX => by
    rw [Below.heap_setCell _ _ _ _ hbX, Below.heap_setCell _ _ _ _ hbX, Below.heap_setCell _ _ _ _ hbX]
    rfl
  have kd : Blk (w2.drewN q) X 35 cs := kx
  refine ⟨h.heap fun b hb' => hh b (by have := hl b hb'; omega), ?_, ((kd.set_ 6 u6).set_ 7 u7).set_ 8 u8⟩
  have hc : Qu.Ch [X] w2 ((((w2.drewN q).setCell ⟨X, 6, none⟩ u6).setCell ⟨X, 7, none⟩ u7).setCell ⟨X, 8, none⟩ u8) := by
    have c0 : Qu.Ch [X] w2 (w2.drewN q) := Qu.Ch.of_below (below_draws _ _ q)
    exact ((c0.trans (Qu.Ch.set_ _ _ List.mem_cons_self)).trans (Qu.Ch.set_ _ _ List.mem_cons_self)).trans (Qu.Ch.set_ _ _ List.mem_cons_self)
  exact hb.trans (hc.below (fun j hj => by rw [List.mem_singleton] at hj; omega) hb.size)
set_option maxRecDepth 100000 in
set_option maxHeartbeats 16000000 in
theorem Post_c {w : World} {p : Nat} {L : Nat → Option Addr × Nat} {ls : Nat → List Rc} (h : PSt w p L ls) (hlen : ∀ k, k < 64 → (ls k).length ≤ 1000) (key : ByteArray) (rk ca pe tg rq : Int) (dn : Bool) (fr sq : Int) :
    Calls Try.prog 29 #[.pointer (some ⟨p, 0, none⟩), .agg #[.string key, .int .i64 rk, .int .i64 ca, .int .i64 pe, .int .i64 tg, .int .i64 rq, .bool dn, .int .i64 fr, .int .i64 sq]] w fun e w' => e = .returned (.int .i64 (postE ls ⟨key, rk, ca, pe, tg, rq, dn, fr, sq⟩)) ∧ GoesP w p L (postL ls ⟨key, rk, ca, pe, tg, rq, dn, fr, sq⟩) w' := by
  have b1 := (Below.refl w.heap.size w).alloc (Nat.le_refl _) (.cells #[.string key, .int .i64 rk, .int .i64 ca, .int .i64 pe, .int .i64 tg, .int .i64 rq, .bool dn, .int .i64 fr, .int .i64 sq] 35)
  have kx := Blk.new w 35 #[.string key, .int .i64 rk, .int .i64 ca, .int .i64 pe, .int .i64 tg, .int .i64 rq, .bool dn, .int .i64 fr, .int .i64 sq]
  have hlt := h.lt
  have HQ := hide h
  obtain ⟨w1, hw1⟩ : ∃ z, w.alloc (.cells #[.string key, .int .i64 rk, .int .i64 ca, .int .i64 pe, .int .i64 tg, .int .i64 rq, .bool dn, .int .i64 fr, .int .i64 sq] 35) = z := ⟨_, rfl⟩
  obtain ⟨X, hX⟩ : ∃ z, w.heap.size = z := ⟨_, rfl⟩
  rw [hw1] at b1 kx
  rw [hX] at kx
  have P1 := hide (h.below b1)
  have B1 := hide b1
  have HW1 := hide hw1
  have HX := hide hX
  have KX := hide kx
  have HLT := hide hlt
  clear b1 kx hw1 hX hlt h
  by_cases hm : mayR ⟨key, rk, ca, pe, tg, rq, dn, fr, sq⟩
  rotate_left
  · have MC : Hid (∀ w', Calls Try.prog 64 #[.agg #[.string key, .int .i64 rk, .int .i64 ca, .int .i64 pe, .int .i64 tg, .int .i64 rq, .bool dn, .int .i64 fr, .int .i64 sq]] w' fun e w'' => e = .returned (.bool false) ∧ Below w'.heap.size w' w'') := hide (fun w' => by
      have h := rmay_c key rk ca pe tg rq dn fr sq w'
      rwa [show decide (mayR ⟨key, rk, ca, pe, tg, rq, dn, fr, sq⟩) = false from decide_eq_false hm] at h)
    have FE : Hid (postE ls ⟨key, rk, ca, pe, tg, rq, dn, fr, sq⟩ = 2 ∧ postL ls ⟨key, rk, ca, pe, tg, rq, dn, fr, sq⟩ = ls) := hide ⟨by unfold postE; rw [if_neg fun h => hm h.1], by unfold postL; rw [if_neg fun h => hm h.1]⟩
    go_enter Try.func29, Try.ntmps29
    go_upto_region 1 with (fail)
    rw [HW1.out, HX.out]
    have x0 : w1.cell? ⟨X, 0, none⟩ = some (.string key) := KX.out.cell 0
    have x1 : w1.cell? ⟨X, 1, none⟩ = some (.int .i64 rk) := KX.out.cell 1
    have x2 : w1.cell? ⟨X, 2, none⟩ = some (.int .i64 ca) := KX.out.cell 2
    have x3 : w1.cell? ⟨X, 3, none⟩ = some (.int .i64 pe) := KX.out.cell 3
    have x4 : w1.cell? ⟨X, 4, none⟩ = some (.int .i64 tg) := KX.out.cell 4
    have x5 : w1.cell? ⟨X, 5, none⟩ = some (.int .i64 rq) := KX.out.cell 5
    have x6 : w1.cell? ⟨X, 6, none⟩ = some (.bool dn) := KX.out.cell 6
    have x7 : w1.cell? ⟨X, 7, none⟩ = some (.int .i64 fr) := KX.out.cell 7
    have x8 : w1.cell? ⟨X, 8, none⟩ = some (.int .i64 sq) := KX.out.cell 8
    go_wp2_with (first | (go_at_call 60; refine (made_yes _ _ _ _ P1.out).mono ?_; rintro e w' ⟨rfl, rfl⟩) | (go_at_call 64; refine (MC.out _).mono ?_; rintro e w2 ⟨rfl, hb2⟩))
    go_ret
    exact ⟨by rw [FE.out.1]; rfl, by rw [FE.out.2]; exact GoesP.same HQ.out (B1.out.trans (hb2.mono B1.out.size))⟩
  obtain ⟨k, rfl⟩ : ∃ k : Nat, rk = k := ⟨rk.toNat, by have := hm.1; simp only at this; omega⟩
  have hk : k < 64 := by have := hm.2.1; simp only at this; omega
  have MC : Hid (∀ w', Calls Try.prog 64 #[.agg #[.string key, .int .i64 (k : Int), .int .i64 ca, .int .i64 pe, .int .i64 tg, .int .i64 rq, .bool dn, .int .i64 fr, .int .i64 sq]] w' fun e w'' => e = .returned (.bool true) ∧ Below w'.heap.size w' w'') := hide (fun w' => by
    have h := rmay_c key k ca pe tg rq dn fr sq w'
    rwa [show decide (mayR ⟨key, (k : Int), ca, pe, tg, rq, dn, fr, sq⟩) = true from decide_eq_true hm] at h)
  have HM := hide hm
  have hn := hlen k hk
  obtain ⟨n, hnn⟩ : ∃ n, (ls k).length = n := ⟨_, rfl⟩
  rw [hnn] at hn
  have HN := hide hnn
  have hk0 : ¬ (k : Int) < 0 := by omega
  have hk2 : (k : Int) < 64 := by omega
  clear hm hnn hlen
  go_enter Try.func29, Try.ntmps29
  go_upto_region 1 with (fail)
  rw [HW1.out, HX.out]
  have x0 : w1.cell? ⟨X, 0, none⟩ = some (.string key) := KX.out.cell 0
  have x1 : w1.cell? ⟨X, 1, none⟩ = some (.int .i64 (k : Int)) := KX.out.cell 1
  have x2 : w1.cell? ⟨X, 2, none⟩ = some (.int .i64 ca) := KX.out.cell 2
  have x3 : w1.cell? ⟨X, 3, none⟩ = some (.int .i64 pe) := KX.out.cell 3
  have x4 : w1.cell? ⟨X, 4, none⟩ = some (.int .i64 tg) := KX.out.cell 4
  have x5 : w1.cell? ⟨X, 5, none⟩ = some (.int .i64 rq) := KX.out.cell 5
  have x6 : w1.cell? ⟨X, 6, none⟩ = some (.bool dn) := KX.out.cell 6
  have x7 : w1.cell? ⟨X, 7, none⟩ = some (.int .i64 fr) := KX.out.cell 7
  have x8 : w1.cell? ⟨X, 8, none⟩ = some (.int .i64 sq) := KX.out.cell 8
  go_upto_region 5 with (first | (go_at_call 60; refine (made_yes _ _ _ _ P1.out).mono ?_; rintro e w' ⟨rfl, rfl⟩) | (go_at_call 64; refine (MC.out _).mono ?_; rintro e w2 ⟨rfl, hb2⟩))
  have P2 := hide (P1.out.below hb2)
  have B2 := hide (B1.out.trans (hb2.mono B1.out.size))
  have KX2 := hide (KX.out.below hb2 KX.out.lt)
  clear hb2 x0 x1 x2 x3 x4 x5 x6 x7 x8
  have x0 : w2.cell? ⟨X, 0, none⟩ = some (.string key) := KX2.out.cell 0
  have x1 : w2.cell? ⟨X, 1, none⟩ = some (.int .i64 (k : Int)) := KX2.out.cell 1
  have x2 : w2.cell? ⟨X, 2, none⟩ = some (.int .i64 ca) := KX2.out.cell 2
  have x3 : w2.cell? ⟨X, 3, none⟩ = some (.int .i64 pe) := KX2.out.cell 3
  have x4 : w2.cell? ⟨X, 4, none⟩ = some (.int .i64 tg) := KX2.out.cell 4
  have x5 : w2.cell? ⟨X, 5, none⟩ = some (.int .i64 rq) := KX2.out.cell 5
  have x6 : w2.cell? ⟨X, 6, none⟩ = some (.bool dn) := KX2.out.cell 6
  have x7 : w2.cell? ⟨X, 7, none⟩ = some (.int .i64 fr) := KX2.out.cell 7
  have x8 : w2.cell? ⟨X, 8, none⟩ = some (.int .i64 sq) := KX2.out.cell 8
  have hc : w2.cell? ⟨p, 1 + k, none⟩ = some (.slice (L k).1 n (L k).2) := by rw [← HN.out]; exact P2.out.at_ k hk
  obtain ⟨A, hA⟩ : ∃ A, (L k).1 = A := ⟨_, rfl⟩
  obtain ⟨cap, hcap⟩ : ∃ A, (L k).2 = A := ⟨_, rfl⟩
  have HAC := hide (And.intro hA hcap)
  rw [hA, hcap] at hc
  clear hA hcap
  have LAST : Hid (∀ j, j + 1 = n → ∃ g m, A = some ⟨g, 0, none⟩ ∧ (ls k)[j]? = some m ∧ w2.cell? ⟨g, j * 9 + 2, none⟩ = some (.int .i64 m.ca)) := hide (fun j hj => by
    obtain ⟨m, hm⟩ : ∃ m, (ls k)[j]? = some m := ⟨_, List.getElem?_eq_getElem (by rw [HN.out]; omega)⟩
    obtain ⟨g, hg, _, hit⟩ := (P2.out.rrow k hk).it j m hm
    exact ⟨g, m, HAC.out.1.symm.trans hg, hm, hit 2 _ rfl⟩)
  go_quiet (fail)
  go_upto_region 6 with (fail)
  have z6 : w2.frozen? ⟨X, 6, none⟩ = false := KX2.out.frozen 6
  have z7 : w2.frozen? ⟨X, 7, none⟩ = false := KX2.out.frozen 7
  have z8 : w2.frozen? ⟨X, 8, none⟩ = false := KX2.out.frozen 8
  rcases Nat.eq_zero_or_pos n with h0 | hpos
  · obtain rfl := h0
    have OK : Hid (postOk ls ⟨key, (k : Int), ca, pe, tg, rq, dn, fr, sq⟩) := hide ⟨HM.out, fun x hx => by
      have e : ls ((k : Int).toNat) = [] := by rw [Int.toNat_natCast]; exact List.eq_nil_of_length_eq_zero HN.out
      have hx' : x ∈ ls ((k : Int).toNat) := hx
      rw [e] at hx'
      exact absurd hx' List.not_mem_nil⟩
    clear LAST
    go_quiet (fail)
    go_upto_region 9 with (fail)
    have eSL : slR L ls k = .slice A 0 cap := by unfold slR; rw [HAC.out.1, HN.out, HAC.out.2]
    generalize hw5 : (((((w2.drewN _).setCell ⟨X, 6, none⟩ (.bool false)).setCell ⟨X, 7, none⟩ (.int .i64 0)).setCell ⟨X, 8, none⟩ (.int .i64 0)) : World) = w5
    obtain ⟨P5, B5, K5⟩ := box_set P2.out HX.out (fun b hb => by rw [← HX.out]; exact HLT.out b hb) B2.out KX2.out hw5
    have K5 : Blk w5 X 35 #[.string key, .int .i64 (k : Int), .int .i64 ca, .int .i64 pe, .int .i64 tg, .int .i64 rq, .bool false, .int .i64 0, .int .i64 0] := K5
    have hown : w5.ownsRow 0 35 9 (.slice A 0 cap) (0) (rcCs (ls k)) := by
      have h := P5.row k hk
      rw [eSL, HN.out] at h
      exact h
    have hwt : w.heap.size ≤ w5.heap.size := B5.size
    obtain ⟨A2, c2, w7, hrun, ho7, hgr, hob⟩ := push_r w5.drew 0 A cap (0) _ (fresh ⟨key, (k : Int), ca, pe, tg, rq, dn, fr, sq⟩) (own_belowR hown (Below.refl _ _).drew) (Nat.zero_le _) (by omega)
    have RUN : Hid ((Builtin.append_ #[42, 42] 42 #[.slice A (0) cap, .slice (some ⟨w5.heap.size, 0, none⟩) 1 1]).run Try.prog (w5.alloc (.cells #[.string key, .int .i64 (k : Int), .int .i64 ca, .int .i64 pe, .int .i64 tg, .int .i64 rq, .bool false, .int .i64 0, .int .i64 0] 35)).drew = .ok (.slice A2 (0 + 1) c2) w7) := hide hrun
    obtain ⟨hp7, hgo⟩ := goes_post (w := w) (w1 := w5.drew) (r := ⟨key, (k : Int), ca, pe, tg, rq, dn, fr, sq⟩) hk (P5.below (Below.refl _ _).drew) HN.out B5.drew HLT.out rfl OK.out (by rw [eSL]; exact hgr) ho7 (by rw [eSL]; exact hob)
    have GO := hide hgo
    have c7 : w7.cell? ⟨p, 1 + k, none⟩ = some (.slice A (0) cap) := by
      have h := hp7.cell (1 + k)
      rw [pCs_at L ls k hk, eSL] at h
      exact h
    have f7 := hp7.frozen (1 + k)
    have kx7 : Blk w7 X 35 #[.string key, .int .i64 (k : Int), .int .i64 ca, .int .i64 pe, .int .i64 tg, .int .i64 rq, .bool false, .int .i64 0, .int .i64 0] := (hgr.block X K5.lt fun e => by
      have h := HLT.out X ((mem_pfoot ls).2 (.inr ⟨k, hk, by rw [eSL]; exact e.symm⟩))
      have := HX.out
      omega).trans K5
    have bz := (Below.refl w5.heap.size w5).alloc (Nat.le_refl _) (.cells #[.string key, .int .i64 (k : Int), .int .i64 ca, .int .i64 pe, .int .i64 tg, .int .i64 rq, .bool false, .int .i64 0, .int .i64 0] 35)
    have kx' := K5.below bz K5.lt
    clear x0 x1 x2 x3 x4 x5 x6 x7 x8 z6 z7 z8 hc
    have r0 : w5.cell? ⟨X, 0, none⟩ = some (.string key) := K5.cell 0
    have r1 : w5.cell? ⟨X, 1, none⟩ = some (.int .i64 (k : Int)) := K5.cell 1
    have r2 : w5.cell? ⟨X, 2, none⟩ = some (.int .i64 ca) := K5.cell 2
    have r3 : w5.cell? ⟨X, 3, none⟩ = some (.int .i64 pe) := K5.cell 3
    have r4 : w5.cell? ⟨X, 4, none⟩ = some (.int .i64 tg) := K5.cell 4
    have r5 : w5.cell? ⟨X, 5, none⟩ = some (.int .i64 rq) := K5.cell 5
    have r6 : w5.cell? ⟨X, 6, none⟩ = some (.bool false) := K5.cell 6
    have r7 : w5.cell? ⟨X, 7, none⟩ = some (.int .i64 0) := K5.cell 7
    have r8 : w5.cell? ⟨X, 8, none⟩ = some (.int .i64 0) := K5.cell 8
    have y0 : (w5.alloc (.cells #[.string key, .int .i64 (k : Int), .int .i64 ca, .int .i64 pe, .int .i64 tg, .int .i64 rq, .bool false, .int .i64 0, .int .i64 0] 35)).cell? ⟨X, 0, none⟩ = some (.string key) := kx'.cell 0
    have y1 : (w5.alloc (.cells #[.string key, .int .i64 (k : Int), .int .i64 ca, .int .i64 pe, .int .i64 tg, .int .i64 rq, .bool false, .int .i64 0, .int .i64 0] 35)).cell? ⟨X, 1, none⟩ = some (.int .i64 (k : Int)) := kx'.cell 1
    have y2 : (w5.alloc (.cells #[.string key, .int .i64 (k : Int), .int .i64 ca, .int .i64 pe, .int .i64 tg, .int .i64 rq, .bool false, .int .i64 0, .int .i64 0] 35)).cell? ⟨X, 2, none⟩ = some (.int .i64 ca) := kx'.cell 2
    have y3 : (w5.alloc (.cells #[.string key, .int .i64 (k : Int), .int .i64 ca, .int .i64 pe, .int .i64 tg, .int .i64 rq, .bool false, .int .i64 0, .int .i64 0] 35)).cell? ⟨X, 3, none⟩ = some (.int .i64 pe) := kx'.cell 3
    have y4 : (w5.alloc (.cells #[.string key, .int .i64 (k : Int), .int .i64 ca, .int .i64 pe, .int .i64 tg, .int .i64 rq, .bool false, .int .i64 0, .int .i64 0] 35)).cell? ⟨X, 4, none⟩ = some (.int .i64 tg) := kx'.cell 4
    have y5 : (w5.alloc (.cells #[.string key, .int .i64 (k : Int), .int .i64 ca, .int .i64 pe, .int .i64 tg, .int .i64 rq, .bool false, .int .i64 0, .int .i64 0] 35)).cell? ⟨X, 5, none⟩ = some (.int .i64 rq) := kx'.cell 5
    have y6 : (w5.alloc (.cells #[.string key, .int .i64 (k : Int), .int .i64 ca, .int .i64 pe, .int .i64 tg, .int .i64 rq, .bool false, .int .i64 0, .int .i64 0] 35)).cell? ⟨X, 6, none⟩ = some (.bool false) := kx'.cell 6
    have y7 : (w5.alloc (.cells #[.string key, .int .i64 (k : Int), .int .i64 ca, .int .i64 pe, .int .i64 tg, .int .i64 rq, .bool false, .int .i64 0, .int .i64 0] 35)).cell? ⟨X, 7, none⟩ = some (.int .i64 0) := kx'.cell 7
    have y8 : (w5.alloc (.cells #[.string key, .int .i64 (k : Int), .int .i64 ca, .int .i64 pe, .int .i64 tg, .int .i64 rq, .bool false, .int .i64 0, .int .i64 0] 35)).cell? ⟨X, 8, none⟩ = some (.int .i64 0) := kx'.cell 8
    have q0 : w7.cell? ⟨X, 0, none⟩ = some (.string key) := kx7.cell 0
    have q1 : w7.cell? ⟨X, 1, none⟩ = some (.int .i64 (k : Int)) := kx7.cell 1
    have q2 : w7.cell? ⟨X, 2, none⟩ = some (.int .i64 ca) := kx7.cell 2
    have q3 : w7.cell? ⟨X, 3, none⟩ = some (.int .i64 pe) := kx7.cell 3
    have q4 : w7.cell? ⟨X, 4, none⟩ = some (.int .i64 tg) := kx7.cell 4
    have q5 : w7.cell? ⟨X, 5, none⟩ = some (.int .i64 rq) := kx7.cell 5
    have q6 : w7.cell? ⟨X, 6, none⟩ = some (.bool false) := kx7.cell 6
    have q7 : w7.cell? ⟨X, 7, none⟩ = some (.int .i64 0) := kx7.cell 7
    have q8 : w7.cell? ⟨X, 8, none⟩ = some (.int .i64 0) := kx7.cell 8
    clear eSL P5 B5 K5 hown hwt hrun ho7 hgr hob hp7 hgo kx7 bz kx' hw5
    go_region_law (refine step_append_runP rfl (.tmp 40) (.tmp 42) _ _ rfl _ _ (by simp [Act.eval, Act.put]) (by simp [Act.eval, Act.put]) _ _ RUN.out ?_)
    all_goals (go_wp2_with fail)
    all_goals go_ret
    all_goals exact ⟨by unfold postE; rw [if_pos OK.out]; rfl, GO.out⟩
  · obtain ⟨j, rfl⟩ : ∃ j, n = j + 1 := ⟨n - 1, by omega⟩
    obtain ⟨g, m, rfl, hm, hcl⟩ := LAST.out j rfl
    have HML := hide hm
    clear hm LAST
    have hj0 : (0 : Int) < ((j + 1 : Nat) : Int) := by omega
    have hj1 : ((j + 1 : Nat) : Int) - 1 = (j : Int) := by omega
    have hj2 : (j : Int) < ((j + 1 : Nat) : Int) := by omega
    obtain ⟨mca, hmca⟩ : ∃ z, m.ca = z := ⟨_, rfl⟩
    have HMC := hide hmca
    rw [hmca] at hcl
    clear hmca
    by_cases hge : ca ≤ mca
    · have FE : Hid (postE ls ⟨key, (k : Int), ca, pe, tg, rq, dn, fr, sq⟩ = 2 ∧ postL ls ⟨key, (k : Int), ca, pe, tg, rq, dn, fr, sq⟩ = ls) := hide (by
        have hn : ¬ postOk ls ⟨key, (k : Int), ca, pe, tg, rq, dn, fr, sq⟩ := fun h => by
          have h2 := h.2 m (by
            show m ∈ ls ((k : Int).toNat)
            rw [Int.toNat_natCast]
            exact List.mem_of_getElem? HML.out)
          have h3 := HMC.out
          simp only at h2
          omega
        exact ⟨by unfold postE; rw [if_neg hn], by unfold postL; rw [if_neg hn]⟩)
      go_quiet (fail)
      go_wp2_with fail
      go_ret
      exact ⟨by rw [FE.out.1]; rfl, by rw [FE.out.2]; exact GoesP.same HQ.out (Go.Proofs.Ytonmojinijpneaa.below_drewN (Go.Proofs.Ytonmojinijpneaa.below_drewN B2.out _) _)⟩
    · have OK : Hid (postOk ls ⟨key, (k : Int), ca, pe, tg, rq, dn, fr, sq⟩) := hide ⟨HM.out, fun x hx => by
        have hx' : x ∈ ls ((k : Int).toNat) := hx
        rw [Int.toNat_natCast] at hx'
        obtain ⟨t, ht, rfl⟩ := List.getElem_of_mem hx'
        have h3 := HMC.out
        have hlen := HN.out
        rcases Nat.lt_or_ge t j with h | h
        · have hp := (List.pairwise_iff_getElem.1 (HQ.out.up k hk)) t j ht (by omega) h
          obtain ⟨hl1, he1⟩ := List.getElem?_eq_some_iff.1 HML.out
          rw [he1] at hp
          show (ls k)[t].ca < ca
          omega
        · obtain rfl : t = j := by omega
          obtain ⟨hl1, he1⟩ := List.getElem?_eq_some_iff.1 HML.out
          rw [he1]
          show m.ca < ca
          omega⟩
      go_quiet (fail)
      clear hcl
      go_upto_region 9 with (fail)
      have eSL : slR L ls k = .slice (some ⟨g, 0, none⟩) (j + 1) cap := by unfold slR; rw [HAC.out.1, HN.out, HAC.out.2]
      generalize hw5 : (((((w2.drewN _).setCell ⟨X, 6, none⟩ (.bool false)).setCell ⟨X, 7, none⟩ (.int .i64 0)).setCell ⟨X, 8, none⟩ (.int .i64 0)) : World) = w5
      obtain ⟨P5, B5, K5⟩ := box_set P2.out HX.out (fun b hb => by rw [← HX.out]; exact HLT.out b hb) B2.out KX2.out hw5
      have K5 : Blk w5 X 35 #[.string key, .int .i64 (k : Int), .int .i64 ca, .int .i64 pe, .int .i64 tg, .int .i64 rq, .bool false, .int .i64 0, .int .i64 0] := K5
      have hown : w5.ownsRow 0 35 9 (.slice (some ⟨g, 0, none⟩) (j + 1) cap) ((j + 1)) (rcCs (ls k)) := by
        have h := P5.row k hk
        rw [eSL, HN.out] at h
        exact h
      have hwt : w.heap.size ≤ w5.heap.size := B5.size
      obtain ⟨A2, c2, w7, hrun, ho7, hgr, hob⟩ := push_r w5.drew 0 (some ⟨g, 0, none⟩) cap ((j + 1)) _ (fresh ⟨key, (k : Int), ca, pe, tg, rq, dn, fr, sq⟩) (own_belowR hown (Below.refl _ _).drew) (Nat.zero_le _) (by omega)
      have RUN : Hid ((Builtin.append_ #[42, 42] 42 #[.slice (some ⟨g, 0, none⟩) ((j + 1)) cap, .slice (some ⟨w5.heap.size, 0, none⟩) 1 1]).run Try.prog (w5.alloc (.cells #[.string key, .int .i64 (k : Int), .int .i64 ca, .int .i64 pe, .int .i64 tg, .int .i64 rq, .bool false, .int .i64 0, .int .i64 0] 35)).drew = .ok (.slice A2 ((j + 1) + 1) c2) w7) := hide hrun
      obtain ⟨hp7, hgo⟩ := goes_post (w := w) (w1 := w5.drew) (r := ⟨key, (k : Int), ca, pe, tg, rq, dn, fr, sq⟩) hk (P5.below (Below.refl _ _).drew) HN.out B5.drew HLT.out rfl OK.out (by rw [eSL]; exact hgr) ho7 (by rw [eSL]; exact hob)
      have GO := hide hgo
      have c7 : w7.cell? ⟨p, 1 + k, none⟩ = some (.slice (some ⟨g, 0, none⟩) ((j + 1)) cap) := by
        have h := hp7.cell (1 + k)
        rw [pCs_at L ls k hk, eSL] at h
        exact h
      have f7 := hp7.frozen (1 + k)
      have kx7 : Blk w7 X 35 #[.string key, .int .i64 (k : Int), .int .i64 ca, .int .i64 pe, .int .i64 tg, .int .i64 rq, .bool false, .int .i64 0, .int .i64 0] := (hgr.block X K5.lt fun e => by
        have h := HLT.out X ((mem_pfoot ls).2 (.inr ⟨k, hk, by rw [eSL]; exact e.symm⟩))
        have := HX.out
        omega).trans K5
      have bz := (Below.refl w5.heap.size w5).alloc (Nat.le_refl _) (.cells #[.string key, .int .i64 (k : Int), .int .i64 ca, .int .i64 pe, .int .i64 tg, .int .i64 rq, .bool false, .int .i64 0, .int .i64 0] 35)
      have kx' := K5.below bz K5.lt
      clear x0 x1 x2 x3 x4 x5 x6 x7 x8 z6 z7 z8 hc
      have r0 : w5.cell? ⟨X, 0, none⟩ = some (.string key) := K5.cell 0
      have r1 : w5.cell? ⟨X, 1, none⟩ = some (.int .i64 (k : Int)) := K5.cell 1
      have r2 : w5.cell? ⟨X, 2, none⟩ = some (.int .i64 ca) := K5.cell 2
      have r3 : w5.cell? ⟨X, 3, none⟩ = some (.int .i64 pe) := K5.cell 3
      have r4 : w5.cell? ⟨X, 4, none⟩ = some (.int .i64 tg) := K5.cell 4
      have r5 : w5.cell? ⟨X, 5, none⟩ = some (.int .i64 rq) := K5.cell 5
      have r6 : w5.cell? ⟨X, 6, none⟩ = some (.bool false) := K5.cell 6
      have r7 : w5.cell? ⟨X, 7, none⟩ = some (.int .i64 0) := K5.cell 7
      have r8 : w5.cell? ⟨X, 8, none⟩ = some (.int .i64 0) := K5.cell 8
      have y0 : (w5.alloc (.cells #[.string key, .int .i64 (k : Int), .int .i64 ca, .int .i64 pe, .int .i64 tg, .int .i64 rq, .bool false, .int .i64 0, .int .i64 0] 35)).cell? ⟨X, 0, none⟩ = some (.string key) := kx'.cell 0
      have y1 : (w5.alloc (.cells #[.string key, .int .i64 (k : Int), .int .i64 ca, .int .i64 pe, .int .i64 tg, .int .i64 rq, .bool false, .int .i64 0, .int .i64 0] 35)).cell? ⟨X, 1, none⟩ = some (.int .i64 (k : Int)) := kx'.cell 1
      have y2 : (w5.alloc (.cells #[.string key, .int .i64 (k : Int), .int .i64 ca, .int .i64 pe, .int .i64 tg, .int .i64 rq, .bool false, .int .i64 0, .int .i64 0] 35)).cell? ⟨X, 2, none⟩ = some (.int .i64 ca) := kx'.cell 2
      have y3 : (w5.alloc (.cells #[.string key, .int .i64 (k : Int), .int .i64 ca, .int .i64 pe, .int .i64 tg, .int .i64 rq, .bool false, .int .i64 0, .int .i64 0] 35)).cell? ⟨X, 3, none⟩ = some (.int .i64 pe) := kx'.cell 3
      have y4 : (w5.alloc (.cells #[.string key, .int .i64 (k : Int), .int .i64 ca, .int .i64 pe, .int .i64 tg, .int .i64 rq, .bool false, .int .i64 0, .int .i64 0] 35)).cell? ⟨X, 4, none⟩ = some (.int .i64 tg) := kx'.cell 4
      have y5 : (w5.alloc (.cells #[.string key, .int .i64 (k : Int), .int .i64 ca, .int .i64 pe, .int .i64 tg, .int .i64 rq, .bool false, .int .i64 0, .int .i64 0] 35)).cell? ⟨X, 5, none⟩ = some (.int .i64 rq) := kx'.cell 5
      have y6 : (w5.alloc (.cells #[.string key, .int .i64 (k : Int), .int .i64 ca, .int .i64 pe, .int .i64 tg, .int .i64 rq, .bool false, .int .i64 0, .int .i64 0] 35)).cell? ⟨X, 6, none⟩ = some (.bool false) := kx'.cell 6
      have y7 : (w5.alloc (.cells #[.string key, .int .i64 (k : Int), .int .i64 ca, .int .i64 pe, .int .i64 tg, .int .i64 rq, .bool false, .int .i64 0, .int .i64 0] 35)).cell? ⟨X, 7, none⟩ = some (.int .i64 0) := kx'.cell 7
      have y8 : (w5.alloc (.cells #[.string key, .int .i64 (k : Int), .int .i64 ca, .int .i64 pe, .int .i64 tg, .int .i64 rq, .bool false, .int .i64 0, .int .i64 0] 35)).cell? ⟨X, 8, none⟩ = some (.int .i64 0) := kx'.cell 8
      have q0 : w7.cell? ⟨X, 0, none⟩ = some (.string key) := kx7.cell 0
      have q1 : w7.cell? ⟨X, 1, none⟩ = some (.int .i64 (k : Int)) := kx7.cell 1
      have q2 : w7.cell? ⟨X, 2, none⟩ = some (.int .i64 ca) := kx7.cell 2
      have q3 : w7.cell? ⟨X, 3, none⟩ = some (.int .i64 pe) := kx7.cell 3
      have q4 : w7.cell? ⟨X, 4, none⟩ = some (.int .i64 tg) := kx7.cell 4
      have q5 : w7.cell? ⟨X, 5, none⟩ = some (.int .i64 rq) := kx7.cell 5
      have q6 : w7.cell? ⟨X, 6, none⟩ = some (.bool false) := kx7.cell 6
      have q7 : w7.cell? ⟨X, 7, none⟩ = some (.int .i64 0) := kx7.cell 7
      have q8 : w7.cell? ⟨X, 8, none⟩ = some (.int .i64 0) := kx7.cell 8
      clear eSL P5 B5 K5 hown hwt hrun ho7 hgr hob hp7 hgo kx7 bz kx' hw5
      go_region_law (refine step_append_runP rfl (.tmp 40) (.tmp 42) _ _ rfl _ _ (by simp [Act.eval, Act.put]) (by simp [Act.eval, Act.put]) _ _ RUN.out ?_)
      all_goals (go_wp2_with fail)
      all_goals go_ret
      all_goals exact ⟨by unfold postE; rw [if_pos OK.out]; rfl, GO.out⟩
end Po
end Go.Proofs.Ytonmojinijpneaa
