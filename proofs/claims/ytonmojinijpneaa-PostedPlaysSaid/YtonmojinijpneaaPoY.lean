/- What happens: act; May of a rank that isn't there. -/
import Derived.Test.YtonmojinijpneaaRows
import Derived.Test.YtonmojinijpneaaPoX
namespace Go.Proofs.Ytonmojinijpneaa
open Go Go.Joins Go.ChangeShapes Go.WideShapes Go.RowKit Go.Deep Go.Lib Go.Proofs.Ytonmojinijpneaa.Qu
set_option linter.unusedVariables false
set_option linter.unusedSimpArgs false
namespace Po
section
variable {P : Program}
theorem run_loadVar_cells (w : World) (a : Addr) (ty : TypeId) (cs : Array Value) (d : TypeDesc) (hc : ∀ j v, cs.toList[j]? = some v → w.cell? (a.add j) = some v)
    (hu : P.underlying ty = some d) (hd : (match d with | .struct _ | .array _ _ => true | _ => false) = true) (hi : (P.info? ty).map (·.size) = some cs.size) : (loadVar ty a).run P w = .ok (.agg cs) w := by
  have hl : (loadCells a cs.toList.length).run P w = .ok cs.toList.toArray w := run_loadCells_list (P := P) w a cs.toList hc
  cases hq : P.info? ty with
  | none => simp [hq] at hi
  | some i =>
    have hs : i.size = cs.size := by simpa [hq] using hi
    have hagg : (isAgg ty).run P w = .ok true w := by
      unfold isAgg
      rw [Sem.run_bind, run_underlying hu w]
      cases d <;> simp_all
    simp only [Array.length_toList, Array.toArray_toList] at hl
    simp [loadVar, Sem.run_bind, hagg, sizeOf, typeInfo, hq, hs, hl]
theorem wpList_load_cells {ops : Array Oper} {rest : List Oper} {o : Oper} {a : Act} {w : World} {Q : Exit → Act → World → Prop} (hgd : o.guard = none) (ty : TypeId) (x : Operand) (ho : o.op = .load ty x)
    (ad : Addr) (hx : a.eval x = .pointer (some ad)) (cs : Array Value) (d : TypeDesc) (hc : ∀ j v, cs.toList[j]? = some v → w.cell? (ad.add j) = some v)
    (hu : P.underlying ty = some d) (hd : (match d with | .struct _ | .array _ _ => true | _ => false) = true) (hi : (P.info? ty).map (·.size) = some cs.size)
    (h : wpList P ops Q rest (a.put o.dst (.agg cs)) w) : wpList P ops Q (o :: rest) a w :=
  wpList_plain hgd fun K hK => by
    unfold Oper.wp execOp
    simp only [ho, hx, Instr.loadAt, Instr.sureAddr, Sem.run_bind, Sem.run_pure, Result.andThen_ok, run_loadVar_cells w ad ty cs d hc hu hd hi]
    exact hK _ _ h
end
theorem act_size : (Try.prog.info? 37).map (·.size) = some 18 := by kernel_rfl
/-- An act's cells, as a load wants them. -/
theorem Acts.load {w : World} {A : Option Addr} {n : Nat} {F : Nat → Ac} (h : Acts w A n F) {i : Nat} (hi : i < n) : ∃ a, A = some a ∧ 0 ≤ (F i).kind ∧ (F i).kind ≤ 255 ∧ ∀ j v, (acC (F i))[j]? = some v → w.cell? ((a.add (i * 18)).add j) = some v := by
  obtain ⟨k0, k1, a, hA, _, hc⟩ := h i hi
  exact ⟨a, hA, k0, k1, fun j v hv => by rw [Go.Deep.add_add]; exact hc j v hv⟩
theorem rem_in (a : Int) (n : Nat) (h1 : 1 ≤ n) (h2 : n ≤ 64) : ∃ p : Nat, p < n ∧ wrap64 ((IntKind.u64.wrap a).tmod n) = (p : Int) := by
  rw [IntKind.wrap_u64]
  generalize hx : a % 18446744073709551616 = x
  have hx0 : 0 ≤ x := by omega
  rw [Int.tmod_eq_emod_of_nonneg hx0]
  have h3 := Int.emod_nonneg x (show (n : Int) ≠ 0 by omega)
  have h4 := Int.emod_lt_of_pos x (show (0 : Int) < n by omega)
  obtain ⟨p, hp⟩ := Int.eq_ofNat_of_zero_le h3
  refine ⟨p, by omega, ?_⟩
  rw [hp]
  unfold wrap64; omega
theorem rem4 {k : Int} (h0 : 0 ≤ k) : Int.tmod k 4 = 0 ∨ Int.tmod k 4 = 1 ∨ Int.tmod k 4 = 2 ∨ Int.tmod k 4 = 3 := by
  rw [Int.tmod_eq_emod_of_nonneg h0]
  omega
theorem mayL_len (l : List Msg) (rs : List Rc) (ca : Int) : (mayL l rs ca).length ≤ 64 := by
  unfold mayL
  split
  · exact Nat.zero_le _
  · split
    · exact Nat.zero_le _
    · unfold freeL flt
      refine Nat.le_trans (List.length_filter_le _ _) (Nat.le_trans (fsts_len _ _ _ _ _) ?_)
      unfold sndL
      split
      · exact senders_len _ _
      · exact Nat.le_of_ble_eq_true rfl
set_option maxRecDepth 100000 in
theorem may_out (w : World) (p : Nat) (L : Nat → Option Addr × Nat) (ls : Nat → List Rc) (h : PSt w p L ls) (rk : Int) (hk : rk < 0 ∨ 64 ≤ rk) (ca : Int) (q : Option Addr) : Calls Try.prog 23 #[.pointer (some ⟨p, 0, none⟩), .pointer q, .int .i64 rk, .int .i64 ca] w fun e w' => e = .returned (.slice none 0 0) ∧ w = w' := by
  have PC := hide (place_out w p L ls h rk hk ca)
  clear h hk
  go_enter Try.func23, Try.ntmps23
  go_wp2_with (go_at_call 46; refine PC.out.mono ?_; rintro e w' ⟨rfl, rfl⟩)
  go_ret
  exact ⟨rfl, rfl⟩
/-- What an act may do. -/
inductive Step (ls : Nat → List Rc) (l : List Msg) : (Nat → List Rc) → List Msg → Prop
  | send (m : Msg) : Step ls l ls (sendL l m)
  | post (r : Rc) : Step ls l (postL ls r) l
  | none_ : Step ls l ls l
  | match_ (k : Nat) (hk : k < 64) (ca : Int) (m : Msg) (hm : m ∈ mayL l (ls k) ca) : Step ls l (updF ls k (setD (ls k) ca m.fr m.ca)) (takeL l ⟨m.fr, m.ca⟩)
theorem sendL_len (l : List Msg) (m : Msg) : (sendL l m).length ≤ l.length + 1 := by unfold sendL; split <;> simp
theorem takeL_len (l : List Msg) (v : Who) : (takeL l v).length = l.length := by unfold takeL; split <;> simp
theorem postL_len (ls : Nat → List Rc) (r : Rc) (k : Nat) : (postL ls r k).length ≤ (ls k).length + 1 := by
  unfold postL
  split
  · unfold updF
    split
    · rename_i h; subst h; simp
    · omega
  · omega
theorem Step.len {ls ls' : Nat → List Rc} {l l' : List Msg} (h : Step ls l ls' l') : (∀ k, (ls' k).length ≤ (ls k).length + 1) ∧ l'.length ≤ l.length + 1 := by
  cases h with
  | send m => exact ⟨fun k => by omega, sendL_len l m⟩
  | post r => exact ⟨fun k => postL_len ls r k, by omega⟩
  | none_ => exact ⟨fun k => by omega, by omega⟩
  | match_ k hk ca m hm =>
    refine ⟨fun j => ?_, by rw [takeL_len]; omega⟩
    by_cases e : j = k
    · subst e; rw [updF_at, setD_len]; omega
    · rw [updF_ne ls k _ e]; omega
theorem hasB_of {r : List Msg} {m : Msg} (h : m ∈ r) : hasB r m.fr m.ca = true := by
  unfold hasB
  exact List.any_eq_true.2 ⟨m, h, decide_eq_true ⟨rfl, rfl⟩⟩
set_option maxRecDepth 100000 in
set_option maxHeartbeats 8000000 in
theorem act_c {w : World} {p q : Nat} {L : Nat → Option Addr × Nat} {K : QL} {ls : Nat → List Rc} {l : List Msg} (h : PQ w p q L K ls l) (hlen : ∀ k, k < 64 → (ls k).length ≤ 1000) (hl : l.length ≤ 1000) (kd : Int) (hk0 : 0 ≤ kd) (hk1 : kd ≤ 255) (xk : ByteArray) (xf xt xc xg xv xz : Int) (xb : Bool) (yk : ByteArray) (yr yc yp yt yq : Int) (yd : Bool) (yf ys : Int) :
    Calls Try.prog 35 #[.pointer (some ⟨q, 0, none⟩), .pointer (some ⟨p, 0, none⟩), .agg #[.int .u8 kd, .string xk, .int .i64 xf, .int .i64 xt, .int .i64 xc, .int .i64 xg, .int .i64 xv, .int .i64 xz, .bool xb, .string yk, .int .i64 yr, .int .i64 yc, .int .i64 yp, .int .i64 yt, .int .i64 yq, .bool yd, .int .i64 yf, .int .i64 ys]] w fun e w' => (∃ v : Int, e = .returned (.int .i64 v)) ∧ ∃ ls' l', Step ls l ls' l' ∧ GoesPQ w p q L K ls' l' w' := by
  have b1 := (Below.refl w.heap.size w).alloc (Nat.le_refl _) (.cells #[.int .u8 kd, .string xk, .int .i64 xf, .int .i64 xt, .int .i64 xc, .int .i64 xg, .int .i64 xv, .int .i64 xz, .bool xb, .string yk, .int .i64 yr, .int .i64 yc, .int .i64 yp, .int .i64 yt, .int .i64 yq, .bool yd, .int .i64 yf, .int .i64 ys] 37)
  have kx := Blk.new w 37 #[.int .u8 kd, .string xk, .int .i64 xf, .int .i64 xt, .int .i64 xc, .int .i64 xg, .int .i64 xv, .int .i64 xz, .bool xb, .string yk, .int .i64 yr, .int .i64 yc, .int .i64 yp, .int .i64 yt, .int .i64 yq, .bool yd, .int .i64 yf, .int .i64 ys]
  obtain ⟨w1, hw1⟩ : ∃ z, w.alloc (.cells #[.int .u8 kd, .string xk, .int .i64 xf, .int .i64 xt, .int .i64 xc, .int .i64 xg, .int .i64 xv, .int .i64 xz, .bool xb, .string yk, .int .i64 yr, .int .i64 yc, .int .i64 yp, .int .i64 yt, .int .i64 yq, .bool yd, .int .i64 yf, .int .i64 ys] 37) = z := ⟨_, rfl⟩
  obtain ⟨X, hX⟩ : ∃ z, w.heap.size = z := ⟨_, rfl⟩
  rw [hw1] at b1 kx
  rw [hX] at kx
  have H1 := hide (h.below b1)
  have B1 := hide b1
  have HLT := hide h.lt
  have KX := hide kx
  have HW1 := hide hw1
  have HX := hide hX
  have RM := hide (rem4 hk0)
  have HKI := hide (And.intro hk0 hk1)
  have HLEN := hide hlen
  clear b1 kx hw1 hX h hk0 hk1 hlen
  go_enter Try.func35, Try.ntmps35
  go_upto_region 1 with (fail)
  rw [HW1.out, HX.out]
  have x0 : w1.cell? ⟨X, 0, none⟩ = some (.int .u8 kd) := KX.out.cell 0
  rcases RM.out with hm | hm | hm | hm
  · have Q1 := hide (Send_c H1.out.hq ⟨xk, xf, xt, xc, xg, xv, xz, xb⟩ hl)
    have x1 : w1.cell? ⟨X, 1, none⟩ = some (.string xk) := KX.out.cell 1
    have x2 : w1.cell? ⟨X, 2, none⟩ = some (.int .i64 xf) := KX.out.cell 2
    have x3 : w1.cell? ⟨X, 3, none⟩ = some (.int .i64 xt) := KX.out.cell 3
    have x4 : w1.cell? ⟨X, 4, none⟩ = some (.int .i64 xc) := KX.out.cell 4
    have x5 : w1.cell? ⟨X, 5, none⟩ = some (.int .i64 xg) := KX.out.cell 5
    have x6 : w1.cell? ⟨X, 6, none⟩ = some (.int .i64 xv) := KX.out.cell 6
    have x7 : w1.cell? ⟨X, 7, none⟩ = some (.int .i64 xz) := KX.out.cell 7
    have x8 : w1.cell? ⟨X, 8, none⟩ = some (.bool xb) := KX.out.cell 8
    go_wp2_with fail
    refine Q1.out.mono ?_
    rintro e w5 ⟨rfl, hg5⟩
    have GO := hide (GoesPQ.of_q H1.out hg5)
    clear hg5 Q1 x0 x1 x2 x3 x4 x5 x6 x7 x8
    go_wp2_with fail
    go_ret
    exact ⟨⟨_, rfl⟩, _, _, .send ⟨xk, xf, xt, xc, xg, xv, xz, xb⟩, GoesPQ.after B1.out GO.out⟩
  · have Q1 := hide (Send_c H1.out.hq ⟨xk, xf, xt, xc, xg, xv, xz, xb⟩ hl)
    have x1 : w1.cell? ⟨X, 1, none⟩ = some (.string xk) := KX.out.cell 1
    have x2 : w1.cell? ⟨X, 2, none⟩ = some (.int .i64 xf) := KX.out.cell 2
    have x3 : w1.cell? ⟨X, 3, none⟩ = some (.int .i64 xt) := KX.out.cell 3
    have x4 : w1.cell? ⟨X, 4, none⟩ = some (.int .i64 xc) := KX.out.cell 4
    have x5 : w1.cell? ⟨X, 5, none⟩ = some (.int .i64 xg) := KX.out.cell 5
    have x6 : w1.cell? ⟨X, 6, none⟩ = some (.int .i64 xv) := KX.out.cell 6
    have x7 : w1.cell? ⟨X, 7, none⟩ = some (.int .i64 xz) := KX.out.cell 7
    have x8 : w1.cell? ⟨X, 8, none⟩ = some (.bool xb) := KX.out.cell 8
    go_wp2_with fail
    refine Q1.out.mono ?_
    rintro e w5 ⟨rfl, hg5⟩
    have GO := hide (GoesPQ.of_q H1.out hg5)
    clear hg5 Q1 x0 x1 x2 x3 x4 x5 x6 x7 x8
    go_wp2_with fail
    go_ret
    exact ⟨⟨_, rfl⟩, _, _, .send ⟨xk, xf, xt, xc, xg, xv, xz, xb⟩, GoesPQ.after B1.out GO.out⟩
  · have Q1 := hide (Post_c H1.out.hp HLEN.out yk yr yc yp yt yq yd yf ys)
    have x9 : w1.cell? ⟨X, 9, none⟩ = some (.string yk) := KX.out.cell 9
    have x10 : w1.cell? ⟨X, 10, none⟩ = some (.int .i64 yr) := KX.out.cell 10
    have x11 : w1.cell? ⟨X, 11, none⟩ = some (.int .i64 yc) := KX.out.cell 11
    have x12 : w1.cell? ⟨X, 12, none⟩ = some (.int .i64 yp) := KX.out.cell 12
    have x13 : w1.cell? ⟨X, 13, none⟩ = some (.int .i64 yt) := KX.out.cell 13
    have x14 : w1.cell? ⟨X, 14, none⟩ = some (.int .i64 yq) := KX.out.cell 14
    have x15 : w1.cell? ⟨X, 15, none⟩ = some (.bool yd) := KX.out.cell 15
    have x16 : w1.cell? ⟨X, 16, none⟩ = some (.int .i64 yf) := KX.out.cell 16
    have x17 : w1.cell? ⟨X, 17, none⟩ = some (.int .i64 ys) := KX.out.cell 17
    go_wp2_with fail
    refine Q1.out.mono ?_
    rintro e w5 ⟨rfl, hg5⟩
    have GO := hide (GoesPQ.of_p H1.out hg5)
    clear hg5 Q1 x0 x9 x10 x11 x12 x13 x14 x15 x16 x17
    go_wp2_with fail
    go_ret
    exact ⟨⟨_, rfl⟩, _, _, .post ⟨yk, yr, yc, yp, yt, yq, yd, yf, ys⟩, GoesPQ.after B1.out GO.out⟩
  · have x10 : w1.cell? ⟨X, 10, none⟩ = some (.int .i64 yr) := KX.out.cell 10
    have x11 : w1.cell? ⟨X, 11, none⟩ = some (.int .i64 yc) := KX.out.cell 11
    by_cases hrk : yr < 0 ∨ 64 ≤ yr
    · have Q1 := hide (may_out w1 p L ls H1.out.hp yr hrk yc (some ⟨q, 0, none⟩))
      clear hrk
      go_wp2_with fail
      refine Q1.out.mono ?_
      rintro e w5 ⟨rfl, hw5⟩
      obtain rfl : w1 = w5 := hw5
      go_wp2_with fail
      go_ret
      exact ⟨⟨_, rfl⟩, _, _, .none_, GoesPQ.after B1.out (GoesPQ.same H1.out (Below.refl _ _))⟩
    · obtain ⟨k, rfl⟩ : ∃ k : Nat, yr = k := ⟨yr.toNat, by omega⟩
      have hk : k < 64 := by omega
      have Q1 := hide (may_c H1.out.hp HLEN.out H1.out.hq hl k hk yc)
      clear hrk
      go_wp2_with fail
      refine Q1.out.mono ?_
      rintro e w2 ⟨A1, c1, rfl, hob, hb2⟩
      have HML := hide (mayL_len l (ls k) yc)
      obtain ⟨ml, hml⟩ : ∃ z, mayL l (ls k) yc = z := ⟨_, rfl⟩
      rw [hml] at hob HML
      rw [hml]
      obtain ⟨n, hn⟩ : ∃ z, ml.length = z := ⟨_, rfl⟩
      rw [hn] at hob HML
      rw [hn]
      have MR := hide (MRow.of_own hob hn)
      have hnc := own_cap hob
      have B2 := hide (B1.out.trans (hb2.mono B1.out.size))
      have KX2 := hide (KX.out.below hb2 KX.out.lt)
      have H2 := hide (H1.out.below hb2)
      have HN := hide hn
      have HMLE := hide hml
      clear hob hb2 hml hn Q1 x0 x10 x11
      rcases Nat.eq_zero_or_pos n with h0 | hpos
      · subst h0
        go_wp2_with fail
        go_ret
        exact ⟨⟨_, rfl⟩, _, _, .none_, GoesPQ.after B2.out (GoesPQ.same H2.out (Below.refl _ _))⟩
      · have hposI : (0 : Int) < (n : Int) := by omega
        have hn64 := HML.out
        have hun : IntKind.u64.wrap (n : Int) = (n : Int) := by rw [IntKind.wrap_u64]; omega
        have hne : ¬ (n : Int) = 0 := by omega
        have x4 : w2.cell? ⟨X, 4, none⟩ = some (.int .i64 xc) := KX2.out.cell 4
        obtain ⟨j, hj, ej⟩ := rem_in xc n (by omega) hn64
        have hjI : (j : Int) < (n : Int) := by omega
        obtain ⟨⟨mk, mf, mt, mc, mg, mv, mz, mb⟩, hm⟩ : ∃ m, ml[j]? = some m := ⟨_, List.getElem?_eq_getElem (by rw [HN.out]; exact hj)⟩
        obtain ⟨g, rfl, hg, hit⟩ := MR.out.it j _ hm
        have n0 : w2.cell? ⟨g, j * 8, none⟩ = some (.string mk) := hit 0 _ rfl
        have n1 : w2.cell? ⟨g, j * 8 + 1, none⟩ = some (.int .i64 mf) := hit 1 _ rfl
        have n2 : w2.cell? ⟨g, j * 8 + 2, none⟩ = some (.int .i64 mt) := hit 2 _ rfl
        have n3 : w2.cell? ⟨g, j * 8 + 3, none⟩ = some (.int .i64 mc) := hit 3 _ rfl
        have n4 : w2.cell? ⟨g, j * 8 + 4, none⟩ = some (.int .i64 mg) := hit 4 _ rfl
        have n5 : w2.cell? ⟨g, j * 8 + 5, none⟩ = some (.int .i64 mv) := hit 5 _ rfl
        have n6 : w2.cell? ⟨g, j * 8 + 6, none⟩ = some (.int .i64 mz) := hit 6 _ rfl
        have n7 : w2.cell? ⟨g, j * 8 + 7, none⟩ = some (.bool mb) := hit 7 _ rfl
        have HM := hide (show (⟨mk, mf, mt, mc, mg, mv, mz, mb⟩ : Msg) ∈ mayL l (ls k) yc by rw [HMLE.out]; exact List.mem_of_getElem? hm)
        clear hit hm hg MR HMLE HN HML
        have b3 := (Below.refl w2.heap.size w2).alloc (Nat.le_refl _) (.cells #[.string mk, .int .i64 mf, .int .i64 mt, .int .i64 mc, .int .i64 mg, .int .i64 mv, .int .i64 mz, .bool mb] 33)
        have k3 := Blk.new w2 33 #[.string mk, .int .i64 mf, .int .i64 mt, .int .i64 mc, .int .i64 mg, .int .i64 mv, .int .i64 mz, .bool mb]
        obtain ⟨w3, hw3⟩ : ∃ z, w2.alloc (.cells #[.string mk, .int .i64 mf, .int .i64 mt, .int .i64 mc, .int .i64 mg, .int .i64 mv, .int .i64 mz, .bool mb] 33) = z := ⟨_, rfl⟩
        obtain ⟨Y, hY⟩ : ∃ z, w2.heap.size = z := ⟨_, rfl⟩
        rw [hw3] at b3 k3
        rw [hY] at k3
        have H3 := hide (H2.out.below b3)
        have B3 := hide (B2.out.trans (b3.mono B2.out.size))
        have KX3 := hide (KX2.out.below b3 KX2.out.lt)
        have HXY := hide (show X < Y by rw [← hY]; exact KX2.out.lt)
        have K3 := hide k3
        have HW3 := hide hw3
        have HY := hide hY
        clear b3 k3 hw3 hY
        go_upto_region 5 with (fail)
        rw [HW3.out, HY.out]
        clear n0 n1 n2 n3 n4 n5 n6 n7 x4
        have x10 : w3.cell? ⟨X, 10, none⟩ = some (.int .i64 k) := KX3.out.cell 10
        have x11 : w3.cell? ⟨X, 11, none⟩ = some (.int .i64 yc) := KX3.out.cell 11
        have y1 : w3.cell? ⟨Y, 1, none⟩ = some (.int .i64 mf) := K3.out.cell 1
        have y3 : w3.cell? ⟨Y, 3, none⟩ = some (.int .i64 mc) := K3.out.cell 3
        have HBT := hide (hasB_of HM.out)
        have MC : Hid (Calls Try.prog 30 #[.pointer (some ⟨p, 0, none⟩), .pointer (some ⟨q, 0, none⟩), .int .i64 k, .int .i64 yc, .int .i64 mf, .int .i64 mc] w3 fun e w' => e = .returned (.int .i64 0) ∧ GoesPQ w3 p q L K (updF ls k (setD (ls k) yc mf mc)) (takeL l ⟨mf, mc⟩) w') := hide (by
          have h := Match_c H3.out HLEN.out hl k hk yc mf mc
          unfold matchE matchP matchQ at h
          have hb := HBT.out
          simp only at hb
          rw [hb] at h
          exact h)
        clear HBT
        go_wp2_with fail
        refine MC.out.mono ?_
        rintro e w7 ⟨rfl, hgo⟩
        obtain ⟨L7, K7, hpq, hch, hft⟩ := hgo
        have KX7 := hide (show Blk w7 X 37 _ from (hch.block X (KX3.out.lt) (fun hm => by have := HLT.out X hm; have := HX.out; omega)).trans KX3.out)
        have GO := hide (show GoesPQ w3 p q L K _ _ w7 from ⟨L7, K7, hpq, hch, hft⟩)
        have x11' : w7.cell? ⟨X, 11, none⟩ = some (.int .i64 yc) := KX7.out.cell 11
        clear hpq hch hft MC x10 x11 y1 y3
        go_wp2_with fail
        go_ret
        exact ⟨⟨_, rfl⟩, _, _, .match_ k hk yc _ HM.out, GoesPQ.after B3.out GO.out⟩
end Po
end Go.Proofs.Ytonmojinijpneaa
