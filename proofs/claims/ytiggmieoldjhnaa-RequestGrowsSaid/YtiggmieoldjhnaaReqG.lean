/- Which of a row's requests are complete: the program's Which. -/
import Derived.Test.YtiggmieoldjhnaaRows
import Derived.Test.YtiggmieoldjhnaaReqF
namespace Go.Proofs.Ytiggmieoldjhnaa
open Go Go.RowKit Go.Shelf Go.Proofs.Ytiggmieoldjhnaa.Grp
attribute [local go_sem] Oper.semAt_some
set_option linter.unusedVariables false
set_option linter.unusedSimpArgs false
namespace Req
theorem wpListIn_append_run {F : Fence} {n : Nat} {P : Program} (w : World) {ops : Array Oper} {rest : List Oper} {o : Oper} {a : Act} {Q : Exit → Act → World → Prop} (hgd : o.guard = none) (s x : Operand) (t tn : TypeId)
    (ho : o.op = .call { callee := .builtin .append, args := #[s, x], argTypes := #[t, tn] }) (vs vx : Value) (hs : a.eval s = vs) (hx : a.eval x = vx)
    (v' : Value) (w' : World) (hr : (Builtin.append_ #[t, tn] o.type #[vs, vx]).run P w = .ok v' w') (h : wpListIn F n P ops Q rest (a.put o.dst v') w') : wpListIn F n P ops Q (o :: rest) a w := by
  refine wpListIn_plain hgd fun K hK' => ?_
  unfold Oper.wpIn
  refine ⟨?_, ?_⟩
  · simp [Oper.about, ho, resolve, Target.leads, Sem.run_pure]
  · rw [Oper.semAt_plain F _ _ (by rw [ho]; intro c hc'; cases hc')]
    simp [execOp, ho, resolve, invoke, builtin, hs, hx, hr, Result.andThen]
    exact hK' _ _ h
theorem own_of_keeps {β : Type} {I : β → World → Prop} (h : ∀ s W W', I s W → KeepsBut [] W W' → I s W') : Own I := fun s W W' row hs hg hr =>
  h s W W' hs ⟨hg.size, fun j c ty fz hj _ => hg.block j (Array.getElem?_eq_some_iff.1 hj).1 fun e => by
    obtain ⟨o, ho, hc⟩ := hr j e.symm
    rw [hj] at ho
    cases ho
    cases hc⟩
/-- What stands behind out = append(out, x): the box X, the row at a block from C on. -/
structure Pushed (w w1 : World) (X C : Nat) (st et : TypeId) (size n : Nat) (v v1 : Value) (ys : List Value) : Prop where
  cell : w1.cell? ⟨X, 0, none⟩ = some v
  frozen : w1.frozen? ⟨X, 0, none⟩ = false
  others : KeepsOthers w (w1.setCell ⟨X, 0, none⟩ v1)
  sz : w.heap.size ≤ (w1.setCell ⟨X, 0, none⟩ v1).heap.size
  same : ∀ k, k ≠ X → (k < C ∨ ∃ t cs, Blk w k t cs ∧ ¬ t ∈ [et]) → (w1.setCell ⟨X, 0, none⟩ v1).heap[k]? = w.heap[k]?
  blk : Blk (w1.setCell ⟨X, 0, none⟩ v1) X st #[v1]
  own : (w1.setCell ⟨X, 0, none⟩ v1).ownsRow C et size v1 n ys
  below : ∀ M, M ≤ X → M ≤ C → Below M w (w1.setCell ⟨X, 0, none⟩ v1)
theorem pushed {st et : TypeId} (w Wz w1 : World) (X C size n m : Nat) (xs ys : List Value) (v v1 : Value) (o : Obj) (hWz : w.alloc o = Wz) (hC : C ≤ w.heap.size) (hne : ¬ et ∈ [st]) (hne' : ¬ st ∈ [et]) (hbX : Blk w X st #[v]) (how : Wz.ownsRow C et size v m xs) (hg : Wz.grownBy w1 v.ownBlock) (hown : w1.ownsRow C et size v1 n ys) :
    Pushed w w1 X C st et size n v v1 ys := by
  have hba : Below w.heap.size w Wz := by rw [← hWz]; exact (Below.refl w.heap.size w).alloc (Nat.le_refl _) o
  have hB1 : Below C w w1 := (hba.mono hC).grown hg (Nat.le_trans hC hba.size) (fun g e => (own_block how e).1)
  have kk : KeepsBut [et] w w1 := (KeepsBut.of_below hba).trans (grown_keeps how hg)
  have b1 : Blk w1 X st #[v] := KeepsBut.blk kk hbX hne'
  have k1 : KeepsOthers w w1 := by
    refine KeepsOthers.trans (by rw [← hWz]; exact KeepsOthers.alloc w o) (KeepsOthers.of_grownBy hg fun j o hj ho => ?_)
    obtain ⟨_, _, cs, hcs⟩ := own_block how hj
    unfold Blk at hcs
    rw [hcs] at ho
    cases ho
    rfl
  exact ⟨b1.cell 0, b1.frozen 0, k1.trans (KeepsOthers.setCell w1 _ _), by have := hB1.size; simpa [World.setCell] using this, fun k hne'' hk => (Below.heap_setCell w1 ⟨X, 0, none⟩ v1 k hne'').trans (by
    rcases hk with hk | ⟨t, cs, hk, ht⟩
    · exact hB1.block k hk
    · exact kk.2 k _ _ (0, 0) hk ht), by simpa using b1.set_ 0 v1, KeepsBut.own (keeps_set (p := ⟨X, 0, none⟩) b1 v1) hown hne, fun M h1 h2 => (hB1.mono h2).setCell (p := ⟨X, 0, none⟩) h1 v1⟩
/-- A box that holds a row of numbers of one's own. -/
def OutJ (w : World) (X C : Nat) (l : List Int) : Prop := ∃ A c, Blk w X 27 #[.slice A l.length c] ∧ w.ownsRow C 3 1 (.slice A l.length c) l.length (ints l)
theorem OutJ.keep {tys : List TypeId} {w w' : World} {X C : Nat} {l : List Int} (h : OutJ w X C l) (k : KeepsBut tys w w') (h1 : ¬ 27 ∈ tys) (h2 : ¬ 3 ∈ tys) : OutJ w' X C l := by
  obtain ⟨A, c, hb, ho⟩ := h
  exact ⟨A, c, KeepsBut.blk k hb h1, KeepsBut.own k ho h2⟩
theorem OutJ.own {β : Type} (X C : Nat) (f : β → List Int) : Own (fun s W => OutJ W X C (f s)) := own_of_keeps fun s W W' h k => h.keep k (by simp) (by simp)
theorem push_box (w : World) (X C : Nat) (A : Option Addr) (c : Nat) (l : List Int) (x : Int) (hC : C ≤ w.heap.size) (hl : l.length ≤ 100000) (hb : Blk w X 27 #[.slice A l.length c]) (ho : w.ownsRow C 3 1 (.slice A l.length c) l.length (ints l)) :
    ∃ A1 c1 w1, (Builtin.append_ #[27, 27] 27 #[.slice A l.length c, .slice (some ⟨w.heap.size, 0, none⟩) 1 1]).run Try.prog (w.alloc (.cells #[.int .i64 x] 3)) = .ok (.slice A1 (l.length + 1) c1) w1 ∧
      Pushed w w1 X C 27 3 1 (l.length + 1) (.slice A l.length c) (.slice A1 (l.length + 1) c1) (ints (l ++ [x])) := by
  have ba := (Below.refl w.heap.size w).alloc (Nat.le_refl _) (.cells #[.int .i64 x] 3)
  have kb := Blk.new w 3 #[.int .i64 x]
  have ow := own_belowR ho ba
  have hs1 : (w.alloc (.cells #[.int .i64 x] 3)).heap.size = w.heap.size + 1 := by simp
  obtain ⟨Wz, hWz⟩ : ∃ x', w.alloc (.cells #[.int .i64 x] 3) = x' := ⟨_, rfl⟩
  rw [hWz] at ba kb ow hs1 ⊢
  have hrd : Reads Wz Wz.heap.size 1 (some ⟨w.heap.size, 0, none⟩) 1 [.int .i64 x] := ⟨rfl, fun _ => ⟨_, rfl, kb.lt, fun j u hu => by rw [add_lit, kb.cell]; simpa using hu⟩⟩
  obtain ⟨i0, hi0, hz0', hz1, hz2⟩ := info_parts int_infoG
  obtain ⟨v11, w11, hrun, hown, hk11, hob⟩ := run_append_any (P := Try.prog) Wz C 27 27 3 i0 _ 1 8 Try.underlying27 hi0 hz0' hz1 hz2 (by rfl) (by omega) _ _ _ ow Wz.heap.size (some ⟨w.heap.size, 0, none⟩) 1 1 _ hrd (by intro u hu; rw [List.mem_singleton.1 hu]; rfl) (by unfold maxLen; omega) (by omega) (by omega)
  obtain ⟨A11, c11, rfl⟩ := own_form hown
  exact ⟨A11, c11, w11, hrun, pushed w Wz w11 X C 1 _ _ _ _ _ _ _ hWz hC (by decide) (by decide) hb ow hk11 (by rw [ints_app]; exact hown)⟩
/-- The places whose requests are complete and not taken. -/
def whL (rs : List Rq) {nr : Nat} {l : List Int} (ys : List (Pl nr l)) : List Int := (ys.filter fun x => (rs.getD x.i default).done && !(rs.getD x.i default).gone).map fun x => (x.p : Int)
theorem whL_snoc (rs : List Rq) {nr : Nat} {l : List Int} (ys : List (Pl nr l)) (x : Pl nr l) : whL rs (ys ++ [x]) = whL rs ys ++ (if (rs.getD x.i default).done = true ∧ (rs.getD x.i default).gone = false then [(x.p : Int)] else []) := by
  unfold whL
  rw [List.filter_append, List.map_append]
  congr 1
  simp only [List.filter_cons, List.filter_nil]
  generalize rs.getD x.i default = q
  cases q.done <;> cases q.gone <;> rfl
theorem whL_len (rs : List Rq) {nr : Nat} {l : List Int} (ys : List (Pl nr l)) : (whL rs ys).length ≤ ys.length := by
  unfold whL
  rw [List.length_map]
  exact List.length_filter_le _ _
theorem row_block {w : World} {A : Option Addr} {l : List Int} (h : NRow w A l) (hA : l = [] → A = none) : ∀ a, A = some a → a.block < w.heap.size := fun a ha => by
  rcases Nat.eq_zero_or_pos l.length with h0 | h0
  · rw [hA (List.eq_nil_of_length_eq_zero h0)] at ha
    cases ha
  · obtain ⟨b, hb, hlt, _⟩ := h h0
    rw [ha] at hb
    cases hb
    exact hlt
set_option maxRecDepth 100000 in
set_option maxHeartbeats 8000000 in
theorem Which_c (T B : Nat) (rs : List Rq) (A : Option Addr) (cap : Nat) (l : List Int) (w : World) (h : PR w T B rs) (hr : NRow w A l) (hl : l.length ≤ 1000) :
    Calls Try.prog 19 #[.pointer (some ⟨T, 0, none⟩), .slice A l.length cap] w fun e w' => ∃ A' c', e = .returned (.slice A' (whL rs (askL rs.length l l.length)).length c') ∧ w'.ownsRow w.heap.size 3 1 (.slice A' (whL rs (askL rs.length l l.length)).length c') (whL rs (askL rs.length l l.length)).length (ints (whL rs (askL rs.length l l.length))) ∧ Below w.heap.size w w' := by
  have hT := h.lt
  have hA : 0 < l.length → ∀ a, A = some a → a.block < w.heap.size := fun h0 a ha => by
    obtain ⟨b, hb, hlt, _⟩ := hr h0
    rw [ha] at hb
    cases hb
    exact hlt
  obtain ⟨h0, hrl, O, oc, hb, ho⟩ := id h
  have c0 : w.cell? ⟨T, 0, none⟩ = some (.bool true) := hb.cell 0
  have c1 : w.cell? ⟨T, 1, none⟩ = some (.slice O rs.length oc) := hb.cell 1
  obtain ⟨o, hO, hoc, holt⟩ : ∃ o, (0 < rs.length → O = some ⟨o, 0, none⟩) ∧ (∀ j v, (rqCs rs)[j]? = some v → w.cell? ⟨o, j, none⟩ = some v) ∧ (0 < rs.length → o < w.heap.size) := by
    rcases Nat.eq_zero_or_pos rs.length with hz | hz
    · exact ⟨0, fun h => absurd h (by omega), fun j v hv => by rw [List.eq_nil_of_length_eq_zero hz] at hv; simp [rqCs] at hv, fun h => absurd h (by omega)⟩
    · obtain ⟨o, rfl, h1, h2, h3, h4, h5, hOc⟩ := own_cell ho hz
      exact ⟨o, fun _ => rfl, hOc, fun _ => (own_block ho rfl).2.1⟩
  have HOC := hide hoc
  have HOL := hide holt
  refine (callsIn_wide (n := 3)).1 ?_
  refine callsIn_of_wp_marks Try.func19 rfl trivial ?_ rfl
  simp only [Try.ntmps19, List.size_toArray, List.length_cons, List.length_nil, Nat.reduceAdd, Nat.reduceSub, Array.replicate_succ, Array.replicate_zero, List.push_toArray, List.append_toArray, List.nil_append, List.cons_append]
  gi_wp2_with (refine ⟨trivial, ?_⟩; gi_at_call 21; refine (asked_in _ _ _ _ _ _).mono ?_; rintro e w' ⟨rfl, rfl⟩)
  have b0 := ((Boxed.new w 27 (.slice none 0 0)).alloc (.cells #[.pointer (some ⟨T, 0, none⟩)] 25)).alloc (.cells #[.slice A l.length cap] 27)
  have b1 := (Boxed.new (w.alloc (.cells #[.slice none 0 0] 27)) 25 (.pointer (some ⟨T, 0, none⟩))).alloc (.cells #[.slice A l.length cap] 27)
  have b2 := Boxed.new ((w.alloc (.cells #[.slice none 0 0] 27)).alloc (.cells #[.pointer (some ⟨T, 0, none⟩)] 25)) 27 (.slice A l.length cap)
  have hB0 : Below w.heap.size w (((w.alloc (.cells #[.slice none 0 0] 27)).alloc (.cells #[.pointer (some ⟨T, 0, none⟩)] 25)).alloc (.cells #[.slice A l.length cap] 27)) :=
    (((Below.refl _ w).alloc (Nat.le_refl _) _).alloc (by simp) _).alloc (by simp; omega) _
  simp only [World.size_alloc] at b1 b2
  have hsz : (((w.alloc (.cells #[.slice none 0 0] 27)).alloc (.cells #[.pointer (some ⟨T, 0, none⟩)] 25)).alloc (.cells #[.slice A l.length cap] 27)).heap.size = w.heap.size + 3 := by simp
  generalize (((w.alloc (.cells #[.slice none 0 0] 27)).alloc (.cells #[.pointer (some ⟨T, 0, none⟩)] 25)).alloc (.cells #[.slice A l.length cap] 27)) = W0 at *
  have hr0 := hr.below hB0
  have hJ0 : OutJ W0 w.heap.size (w.heap.size + 3) [] := ⟨none, 0, b0, rfl, .inl ⟨rfl, rfl⟩⟩
  refine wpIn_rangeFunc_ownG rfl (by omega) (gf := 26) (lb := #[.pointer (some ⟨w.heap.size + 1, 0, none⟩), .pointer (some ⟨w.heap.size + 1 + 1, 0, none⟩)]) rfl trivial (enters_of Try.func26 (by kernel_rfl) rfl)
    (asked_stops 2 (by omega) (w.heap.size + 1) (w.heap.size + 1 + 1) T o oc rs.length (fun k => k < w.heap.size + 3 ∧ k ≠ w.heap.size) O A cap l hl W0 (fun k hk => by have := hk.1; omega) b1.cell b2.cell ((hB0.cell (p := ⟨T, 0, none⟩) hT).trans c0) ((hB0.cell (p := ⟨T, 1, none⟩) hT).trans c1) hO hr0 ⟨by omega, by omega⟩ ⟨by omega, by omega⟩ ⟨by omega, by omega⟩ (fun h0 a ha => ⟨by have := hA h0 a ha; omega, by have := hA h0 a ha; omega⟩))
    (fun h k => h.trans k) (KO.put (fun k hk => by have := hk.1; omega)) (Below.refl _ _) (fun _ => rfl)
    (fun pre W => OutJ W w.heap.size (w.heap.size + 3) (whL rs pre) ∧ Below w.heap.size w W ∧ w.heap.size + 3 ≤ W.heap.size)
    (fun _ _ _ => False)
    (OwnFrom.and ((OutJ.own w.heap.size (w.heap.size + 3) (fun pre => whL rs pre)).from _) (OwnFrom.and (ownFrom_below (by omega) (by omega)) (fun s W W' row hs hg hr => Nat.le_trans hs hg.size)))
    (fun _ _ _ _ _ hs _ _ => hs)
    ⟨hJ0, hB0, by omega⟩
    (fun x => { tmps := #[.pointer (some ⟨T, 0, none⟩), .slice A l.length cap, undef, undef, .slice none 0 0, .pointer (some ⟨w.heap.size, 0, none⟩), .int .i64 x.p, .pointer (some ⟨o, x.i * 6, none⟩), .pointer (some ⟨T, 0, none⟩), .slice A l.length cap, .func (.func 26) #[] #[.pointer (some ⟨w.heap.size + 1, 0, none⟩), .pointer (some ⟨w.heap.size + 1 + 1, 0, none⟩)], .int .i64 x.p, .pointer (some ⟨o, x.i * 6, none⟩), undef, undef, undef, undef, undef, undef, undef, undef, undef, undef, undef, undef, undef, undef, undef, undef], defers := [] }) ?assign ?body ?done ?stop
  case assign =>
    intro l0 x W K hK
    dsimp only [encR]
    gi_wp2
    exact hK
  case body =>
    rintro l0 pre x W ⟨⟨A', c', hbx, hox⟩, hB, hsW⟩ hlen
    have hxi := x.hi
    have hol := HOL.out (by omega)
    have d1 := (hB.cell (p := ⟨o, x.i * 6 + 1, none⟩) hol).trans (HOC.out (x.i * 6 + 1) _ (rqCs_at rs x.i hxi 1 (by omega)))
    have d2 := (hB.cell (p := ⟨o, x.i * 6 + 2, none⟩) hol).trans (HOC.out (x.i * 6 + 2) _ (rqCs_at rs x.i hxi 2 (by omega)))
    have HSN := hide (whL_snoc rs pre x)
    have HWL := hide (Nat.le_trans (whL_len rs pre) (Nat.le_of_lt hlen))
    replace d1 : W.cell? ⟨o, x.i * 6 + 1, none⟩ = some (.bool (rs.getD x.i default).done) := by rw [pick_rq hxi]; exact d1
    replace d2 : W.cell? ⟨o, x.i * 6 + 2, none⟩ = some (.bool (rs.getD x.i default).gone) := by rw [pick_rq hxi]; exact d2
    have b0 := hbx.cell 0
    replace b0 : W.cell? ⟨w.heap.size, 0, none⟩ = some (.slice A' (whL rs pre).length c') := b0
    have STAY := hide (show KeepsFrom W0.heap.size W W ∧ KO (fun k => k < w.heap.size + 3 ∧ k ≠ w.heap.size) W W ∧ OutJ W w.heap.size (w.heap.size + 3) (whL rs pre) ∧ Below w.heap.size w W ∧ w.heap.size + 3 ≤ W.heap.size from ⟨KeepsFrom.refl _ _, KO.refl _ _, ⟨A', c', hbx, hox⟩, hB, hsW⟩)
    obtain ⟨A1, c1', w1, hrun, hP⟩ := push_box W w.heap.size (w.heap.size + 3) A' c' (whL rs pre) x.p hsW (by have := HWL.out; omega) hbx hox
    have GO := hide (show KeepsFrom W0.heap.size W (w1.setCell ⟨w.heap.size, 0, none⟩ (.slice A1 ((whL rs pre).length + 1) c1')) ∧ KO (fun k => k < w.heap.size + 3 ∧ k ≠ w.heap.size) W (w1.setCell ⟨w.heap.size, 0, none⟩ (.slice A1 ((whL rs pre).length + 1) c1')) ∧ OutJ (w1.setCell ⟨w.heap.size, 0, none⟩ (.slice A1 ((whL rs pre).length + 1) c1')) w.heap.size (w.heap.size + 3) (whL rs pre ++ [(x.p : Int)]) ∧ Below w.heap.size w (w1.setCell ⟨w.heap.size, 0, none⟩ (.slice A1 ((whL rs pre).length + 1) c1')) ∧ w.heap.size + 3 ≤ (w1.setCell ⟨w.heap.size, 0, none⟩ (.slice A1 ((whL rs pre).length + 1) c1')).heap.size from
      ⟨hP.others.from _, ⟨hP.sz, fun k hk => hP.same k hk.2 (.inl hk.1)⟩, ⟨A1, c1', by rw [List.length_append, List.length_singleton]; exact hP.blk, by rw [List.length_append, List.length_singleton]; exact hP.own⟩, hB.trans (hP.below _ (Nat.le_refl _) (by omega)), Nat.le_trans hsW hP.sz⟩)
    have p0 := hP.cell
    have p1 := hP.frozen
    have RUN := hide hrun
    clear hrun hP hbx hox hB hsW hlen HWL hxi hol
    obtain ⟨xp, hxp⟩ : ∃ z, (x.p : Int) = z := ⟨_, rfl⟩
    obtain ⟨xi, hxi⟩ : ∃ z, x.i * 6 = z := ⟨_, rfl⟩
    rw [hxp] at HSN GO RUN
    rw [hxp]
    rw [hxi] at d1 d2
    rw [hxi]
    generalize (rs.getD x.i default).done = dn at *
    generalize (rs.getD x.i default).gone = gn at *
    generalize (whL rs pre) = ws at *
    clear hxp hxi
    cases dn with
    | false =>
      have HS2 := hide (show whL rs (pre ++ [x]) = ws by rw [HSN.out]; simp)
      gi_wp2
      have h9 := STAY.out
      rw [← HS2.out] at h9
      first | exact h9 | (rw [hsz] at h9; exact h9)
    | true =>
      cases gn with
      | true =>
        have HS2 := hide (show whL rs (pre ++ [x]) = ws by rw [HSN.out]; simp)
        gi_wp2
        have h9 := STAY.out
        rw [← HS2.out] at h9
        first | exact h9 | (rw [hsz] at h9; exact h9)
      | false =>
        have HS2 := hide (show whL rs (pre ++ [x]) = ws ++ [xp] by rw [HSN.out]; simp)
        gi_wp2_with (gi_at_builtin; refine wpListIn_append_run _ rfl _ _ 27 27 rfl _ _ rfl rfl _ _ RUN.out ?_)
        have h9 := GO.out
        rw [← HS2.out] at h9
        first | exact h9 | (rw [hsz] at h9; exact h9)
  case done =>
    rintro D ys W hD rfl ⟨⟨A', c', hbx, hox⟩, hB, hsW⟩ hK
    have hk0 := hbx.cell 0
    replace hk0 : W.cell? ⟨w.heap.size, 0, none⟩ = some (.slice A' (whL rs (askL rs.length l l.length)).length c') := hk0
    have hown := hide (ownsRow_putObj (own_more hox (show w.heap.size ≤ _ by omega)) (.deferred none) hK rfl)
    gi_wp2
    refine ⟨by simp, .inl ⟨_, _, rfl, run_takeDeferred hK, ?_⟩⟩
    exact ⟨_, results_tmp rfl _ _ _, A', c', rfl, hown.out, hB.trans (belowK_b (w := w) (Nat.le_refl _) W D _ _ (by omega) hK rfl rfl)⟩
  case stop =>
    rintro D c pre W hD _ h
    exact h.elim
end Req
end Go.Proofs.Ytiggmieoldjhnaa
