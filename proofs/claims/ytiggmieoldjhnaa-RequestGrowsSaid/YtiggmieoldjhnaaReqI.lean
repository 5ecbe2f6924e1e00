/- Requests that are taken: the program's Take, where it may. -/
import Derived.Test.YtiggmieoldjhnaaRows
import Derived.Test.YtiggmieoldjhnaaReqH
namespace Go.Proofs.Ytiggmieoldjhnaa
open Go Go.RowKit Go.Shelf Go.Proofs.Ytiggmieoldjhnaa.Grp
attribute [local go_sem] Oper.semAt_some
attribute [-go_sem] Go.Builtin.append_
set_option linter.unusedVariables false
set_option linter.unusedSimpArgs false
namespace Req
theorem own_same {w w' : World} {C size n : Nat} {e : TypeId} {v : Value} {xs : List Value} (h : w.ownsRow C e size v n xs) (hs : ∀ g, v.ownBlock = some g → w'.heap[g]? = w.heap[g]?) : w'.ownsRow C e size v n xs := by
  refine ⟨h.1, h.2.imp id ?_⟩
  rintro ⟨g, cap, cur, rfl, hge, hh, r⟩
  exact ⟨g, cap, cur, rfl, hge, (hs g rfl).trans hh, r⟩
theorem ownR_own {β : Type} (B o n oc : Nat) (f : β → List Rq) : Own (fun s W => W.ownsRow B 47 6 (.slice (some ⟨o, 0, none⟩) n oc) n (rqCs (f s))) := own_of_keeps fun s W W' h k => KeepsBut.own k h (by simp)
set_option maxRecDepth 100000 in
set_option maxHeartbeats 16000000 in
theorem Take_c (T B : Nat) (rs : List Rq) (A : Option Addr) (cap : Nat) (l : List Int) (w : World) (h : PR w T B rs) (hr : NRow w A l) (hro : 0 < l.length → ∀ a O oc, A = some a → w.cell? ⟨T, 1, none⟩ = some (.slice (some O) rs.length oc) → a.block ≠ O.block) (hl : l.length ≤ 1000) (hcap : l.length ≤ cap) :
    Calls Try.prog 9 #[.pointer (some ⟨T, 0, none⟩), .slice A l.length cap] w (TakePost T B rs l w) := by
  by_cases hok : okT rs l
  rotate_left
  · exact Take_no T B rs A cap l w h hr hl hcap hok
  have hT := h.lt
  obtain ⟨h0, hrl, O, oc, hb, ho⟩ := id h
  have c0 : w.cell? ⟨T, 0, none⟩ = some (.bool true) := hb.cell 0
  have c1 : w.cell? ⟨T, 1, none⟩ = some (.slice O rs.length oc) := hb.cell 1
  have hpos : 0 < rs.length := by
    have h1 := hok.1
    have h2 := hok.2.2.1 _ (Grp.getD_mem (show 0 < l.length by omega))
    have := h2.2.1
    have := h2.1
    omega
  have hl8 := hok.2.1
  have hl1 : 0 < l.length := hok.1
  have hA : ∀ a, A = some a → a.block < w.heap.size := fun a ha => by
    obtain ⟨b, hb, hlt, _⟩ := hr hl1
    rw [ha] at hb
    cases hb
    exact hlt
  obtain ⟨o, rfl, h1, h2, h3, h4, h5, hoc⟩ := own_cell ho hpos
  have hol := (own_block ho rfl).2.1
  have hoT : T ≠ o := fun e => by
    obtain ⟨_, _, cs, hcs⟩ := own_block ho rfl
    subst e
    unfold Blk at hb hcs
    rw [hb] at hcs
    injection hcs with hcs
    injection hcs with _ hcs
    exact absurd hcs (by decide)
  have hAo : ∀ a, A = some a → a.block ≠ o := fun a ha => hro hl1 a _ _ ha c1
  have hB : Below w.heap.size w ((w.alloc (.cells #[.slice none 0 0] 33)).alloc (.cells #[.int .i64 0] 30)) := ((Below.refl _ w).alloc (Nat.le_refl _) _).alloc (by simp) _
  have MC := hide (May_c T B rs A cap l _ (h.below hB) (hr.below hB) hl hcap)
  rw [show mayE rs l = 0 from if_pos hok] at MC
  have x4 := (Boxed.new w 33 (.slice none 0 0)).alloc (.cells #[.int .i64 0] 30)
  have x5 := Boxed.new (w.alloc (.cells #[.slice none 0 0] 33)) 30 (.int .i64 0)
  have hs0 : ((w.alloc (.cells #[.slice none 0 0] 33)).alloc (.cells #[.int .i64 0] 30)).heap.size = w.heap.size + 2 := by simp
  refine (callsIn_wide (n := 3)).1 ?_
  refine callsIn_of_wp_marks Try.func9 rfl trivial ?_ rfl
  simp only [Try.ntmps9, List.size_toArray, List.length_cons, List.length_nil, Nat.reduceAdd, Nat.reduceSub, Array.replicate_succ, Array.replicate_zero, List.push_toArray, List.append_toArray, List.nil_append, List.cons_append]
  have HH := hide (And.intro h (And.intro hb ho))
  have HOK := hide hok
  clear hok h hb ho
  obtain ⟨i0, hi0, hz0', hz1, hz2⟩ := info_parts rq_info
  obtain ⟨w2, hw2⟩ : ∃ x, (w.alloc (.cells #[.slice none 0 0] 33)).alloc (.cells #[.int .i64 0] 30) = x := ⟨_, rfl⟩
  rw [hw2] at hB MC x4 x5 hs0
  simp only [World.size_alloc] at x5
  have HI := hide (And.intro hi0 (And.intro hz0' (And.intro hz1 hz2)))
  clear hi0 hz0' hz1 hz2
  gi_wp2_with (first | (refine ⟨trivial, ?_⟩; gi_at_call 16; refine (callsIn_wide.2 MC.out).mono ?_; rintro e w' ⟨rfl, rfl⟩) | (refine wpListIn_make_own _ rfl _ _ 33 rfl (w.heap.size + 2) 47 i0 _ 6 Try.underlying33 HI.out.1 HI.out.2.1 HI.out.2.2.1 .i64 .i64 _ l.length rfl rfl rfl (by rw [HI.out.2.2.2]; omega) (by unfold maxLen; omega) (by omega) ?_; intro w3 hown3 hg3) | (refine ⟨trivial, ?_⟩; gi_at_call 21; refine (asked_in _ _ _ _ _ _).mono ?_; rintro e w' ⟨rfl, rfl⟩))
  -- the world of the first range
  have h3g : w2.heap.size < w3.heap.size := (own_block hown3 rfl).2.1
  have hB3 : Below w2.heap.size w2 w3 := (Below.refl _ w2).grown hg3 (Nat.le_refl _) (fun k e => by cases e)
  have hBX : Below w.heap.size w (((w3.alloc (.cells #[.slice (some ⟨w.heap.size + 2, 0, none⟩) 0 l.length] 33)).alloc (.cells #[.pointer (some ⟨T, 0, none⟩)] 25)).alloc (.cells #[.slice A l.length cap] 27)) :=
    (((hB.trans (hB3.mono (by omega))).alloc (by omega) _).alloc (by simp; omega) _).alloc (by simp; omega) _
  have hB2 : Below w2.heap.size w2 (((w3.alloc (.cells #[.slice (some ⟨w.heap.size + 2, 0, none⟩) 0 l.length] 33)).alloc (.cells #[.pointer (some ⟨T, 0, none⟩)] 25)).alloc (.cells #[.slice A l.length cap] 27)) :=
    (((hB3).alloc (by omega) _).alloc (by simp; omega) _).alloc (by simp; omega) _
  have hB4 : Below w3.heap.size w3 (((w3.alloc (.cells #[.slice (some ⟨w.heap.size + 2, 0, none⟩) 0 l.length] 33)).alloc (.cells #[.pointer (some ⟨T, 0, none⟩)] 25)).alloc (.cells #[.slice A l.length cap] 27)) :=
    (((Below.refl _ w3).alloc (Nat.le_refl _) _).alloc (by simp) _).alloc (by simp; omega) _
  have b0 := ((Blk.new w3 33 #[.slice (some ⟨w.heap.size + 2, 0, none⟩) 0 l.length]).alloc (.cells #[.pointer (some ⟨T, 0, none⟩)] 25)).alloc (.cells #[.slice A l.length cap] 27)
  have b1 := (Blk.new (w3.alloc (.cells #[.slice (some ⟨w.heap.size + 2, 0, none⟩) 0 l.length] 33)) 25 #[.pointer (some ⟨T, 0, none⟩)]).alloc (.cells #[.slice A l.length cap] 27)
  have b2 := Blk.new ((w3.alloc (.cells #[.slice (some ⟨w.heap.size + 2, 0, none⟩) 0 l.length] 33)).alloc (.cells #[.pointer (some ⟨T, 0, none⟩)] 25)) 27 #[.slice A l.length cap]
  simp only [World.size_alloc] at b1 b2
  have hsz : (((w3.alloc (.cells #[.slice (some ⟨w.heap.size + 2, 0, none⟩) 0 l.length] 33)).alloc (.cells #[.pointer (some ⟨T, 0, none⟩)] 25)).alloc (.cells #[.slice A l.length cap] 27)).heap.size = w3.heap.size + 3 := by simp
  have ho0 := own_belowR hown3 hB4
  rw [hs0] at ho0
  obtain ⟨X, hX⟩ : ∃ X, w3.heap.size = X := ⟨_, rfl⟩
  rw [hX] at b0 b1 b2 hsz h3g ⊢
  generalize (((w3.alloc (.cells #[.slice (some ⟨w.heap.size + 2, 0, none⟩) 0 l.length] 33)).alloc (.cells #[.pointer (some ⟨T, 0, none⟩)] 25)).alloc (.cells #[.slice A l.length cap] 27)) = W0 at *
  have y4 : Boxed W0 w.heap.size 33 (.slice none 0 0) := (hB2.block w.heap.size (by omega)).trans x4
  have y5 : Boxed W0 (w.heap.size + 1) 30 (.int .i64 0) := (hB2.block (w.heap.size + 1) (by omega)).trans x5
  clear hB3 hB4 hB2 x4 x5 hX hown3 hg3 hB
  have hJ0 : OutR W0 X (w.heap.size + 2) [] := ⟨_, _, b0, ho0⟩
  have hr0 := hr.below hBX
  have HOC := hide hoc
  refine wpIn_rangeFunc_ownG rfl (by omega) (gf := 26) (lb := #[.pointer (some ⟨X + 1, 0, none⟩), .pointer (some ⟨X + 1 + 1, 0, none⟩)]) rfl trivial (enters_of Try.func26 (by kernel_rfl) rfl)
    (asked_stops 2 (by omega) (X + 1) (X + 1 + 1) T o oc rs.length (fun k => k < w.heap.size ∨ k = X + 1 ∨ k = X + 1 + 1) (some ⟨o, 0, none⟩) A cap l hl W0 (fun k hk => by rcases hk with hk | hk | hk <;> omega) (b1.cell 0) (b2.cell 0) ((hBX.cell (p := ⟨T, 0, none⟩) hT).trans c0) ((hBX.cell (p := ⟨T, 1, none⟩) hT).trans c1) (fun _ => rfl) hr0 (.inr (.inl rfl)) (.inr (.inr rfl)) (.inl hT) (fun _ a ha => .inl (hA a ha)))
    (fun h k => h.trans k) (KO.put (fun k hk => by rcases hk with hk | hk | hk <;> omega)) (Below.refl _ _) (fun _ => rfl)
    (fun (pre : List (Pl rs.length l)) W => OutR W X (w.heap.size + 2) (picked rs (pre.map fun x => x.i)) ∧ Below w.heap.size w W ∧ X + 3 ≤ W.heap.size ∧ Boxed W w.heap.size 33 (.slice none 0 0) ∧ Boxed W (w.heap.size + 1) 30 (.int .i64 0) ∧ Blk W (X + 1) 25 #[.pointer (some ⟨T, 0, none⟩)] ∧ Blk W (X + 1 + 1) 27 #[.slice A l.length cap] ∧ ∀ x ∈ pre, (rs.getD x.i default).done = true)
    (fun c (pre : List (Pl rs.length l)) W => c = .ret ∧ Below w.heap.size w W ∧ Boxed W w.heap.size 33 (.slice none 0 0) ∧ Boxed W (w.heap.size + 1) 30 (.int .i64 120) ∧ ∃ x ∈ pre, (rs.getD x.i default).done = false)
    ?own1 ?own2
    ⟨hJ0, hBX, by omega, y4, y5, b1, b2, fun x hx => by cases hx⟩
    (fun x => { tmps := #[.pointer (some ⟨T, 0, none⟩), .slice A l.length cap, undef, undef, .pointer (some ⟨w.heap.size, 0, none⟩), .pointer (some ⟨w.heap.size + 1, 0, none⟩), .int .i64 0, .pointer (some ⟨X, 0, none⟩), undef, .pointer (some ⟨o, x.i * 6, none⟩), undef, undef, .pointer (some ⟨T, 0, none⟩), .slice A l.length cap, .int .i64 0, .int .i64 0, .bool false, undef, .slice A l.length cap, .int .i64 l.length, .slice (some ⟨w.heap.size + 2, 0, none⟩) 0 l.length, .pointer (some ⟨T, 0, none⟩), .slice A l.length cap, .func (.func 26) #[] #[.pointer (some ⟨X + 1, 0, none⟩), .pointer (some ⟨X + 1 + 1, 0, none⟩)], .int .i64 x.p, .pointer (some ⟨o, x.i * 6, none⟩), undef, undef, undef, undef, undef, undef, undef, undef, undef, undef, undef, undef, undef, undef, undef, undef, undef, undef, undef, undef], defers := [] }) ?assign ?body ?done ?stop
  case own1 =>
    exact OwnFrom.and ((OutR.own X (w.heap.size + 2) (fun (pre : List (Pl rs.length l)) => picked rs (pre.map fun x => x.i))).from _) (OwnFrom.and (ownFrom_below (Nat.le_refl _) (by omega)) (OwnFrom.and (fun s W W' row hs hg hr => Nat.le_trans hs hg.size) (OwnFrom.and (Own.from (boxed_own _ _ (fun _ => _)) _) (OwnFrom.and (Own.from (boxed_own _ _ (fun _ => _)) _) (OwnFrom.and (Own.from (own_of_keeps fun s W W' h k => KeepsBut.blk k h (by simp)) _) (OwnFrom.and (Own.from (own_of_keeps fun s W W' h k => KeepsBut.blk k h (by simp)) _) (fun s W W' row hs hg hr => hs)))))))
  case own2 =>
    exact fun c => OwnFrom.and (fun s W W' row hs hg hr => hs) (OwnFrom.and (ownFrom_below (Nat.le_refl _) (by omega)) (OwnFrom.and (Own.from (boxed_own _ _ (fun _ => _)) _) (OwnFrom.and (Own.from (boxed_own _ _ (fun _ => _)) _) (fun s W W' row hs hg hr => hs))))
  case assign =>
    intro l0 x W K hK
    dsimp only [encR]
    gi_wp2
    exact hK
  case body =>
    rintro l0 pre x W ⟨⟨A', c', hbx, hox⟩, hBW, hsW, z4, z5, z1, z2, hdn⟩ hlen
    have hxi := x.hi
    have dd : ∀ j, j < 6 → W.cell? ⟨o, x.i * 6 + j, none⟩ = (rqC (rs.getD x.i default))[j]? := fun j hj => by
      rw [pick_rq hxi]
      have e := rqCs_at rs x.i hxi j hj
      obtain ⟨v, hv⟩ : ∃ v, (rqC rs[x.i])[j]? = some v := by
        have h9 : j < (rqC rs[x.i]).length := hj
        exact ⟨_, List.getElem?_eq_getElem h9⟩
      rw [hv] at e ⊢
      exact (hBW.cell (p := ⟨o, x.i * 6 + j, none⟩) hol).trans (HOC.out _ _ e)
    obtain ⟨q, hq⟩ : ∃ q, rs.getD x.i default = q := ⟨_, rfl⟩
    rw [hq] at dd
    have d0 : W.cell? ⟨o, x.i * 6, none⟩ = some (.bool q.recv) := dd 0 (by omega)
    have d1 : W.cell? ⟨o, x.i * 6 + 1, none⟩ = some (.bool q.done) := dd 1 (by omega)
    have d2 : W.cell? ⟨o, x.i * 6 + 2, none⟩ = some (.bool q.gone) := dd 2 (by omega)
    have d3 : W.cell? ⟨o, x.i * 6 + 3, none⟩ = some (.int .i64 q.v) := dd 3 (by omega)
    have d4 : W.cell? ⟨o, x.i * 6 + 4, none⟩ = some (.int .i64 q.p) := dd 4 (by omega)
    have d5 : W.cell? ⟨o, x.i * 6 + 5, none⟩ = some (.int .i64 q.t) := dd 5 (by omega)
    have b0 : W.cell? ⟨X, 0, none⟩ = some (.slice A' (picked rs (pre.map fun x => x.i)).length c') := hbx.cell 0
    have hdn9 : ∀ y ∈ pre ++ [x], y ∈ pre ∨ y = x := fun y hy => by simpa using hy
    obtain ⟨ls, hls⟩ : ∃ z, picked rs (List.map (fun x => x.i) pre) = z := ⟨_, rfl⟩
    have hll : ls.length = pre.length := by rw [← hls, picked, List.length_map, List.length_map]
    have hsn : picked rs (List.map (fun x => x.i) (pre ++ [x])) = ls ++ [q] := by rw [← hls, ← hq, List.map_append, picked, List.map_append]; rfl
    rw [hls] at hbx hox b0
    cases hdq : q.done with
    | false =>
      rw [hdq] at d1
      have v4 := z4.cell
      have v5 := z5.cell
      have g4 := z4.frozen
      have g5 := z5.frozen
      have u4 := z4.set (.slice none 0 0)
      have u5 := z5.other (B' := w.heap.size) (by omega) (.slice none 0 0)
      have v5' := u5.cell
      have g5' := u5.frozen
      have FIN := hide (show KeepsFrom (X + 3) W ((W.setCell ⟨w.heap.size, 0, none⟩ (.slice none 0 0)).setCell ⟨w.heap.size + 1, 0, none⟩ (.int .i64 120)) ∧ (Code.ret = .ret ∧ Below w.heap.size w ((W.setCell ⟨w.heap.size, 0, none⟩ (.slice none 0 0)).setCell ⟨w.heap.size + 1, 0, none⟩ (.int .i64 120)) ∧ Boxed ((W.setCell ⟨w.heap.size, 0, none⟩ (.slice none 0 0)).setCell ⟨w.heap.size + 1, 0, none⟩ (.int .i64 120)) w.heap.size 33 (.slice none 0 0) ∧ Boxed ((W.setCell ⟨w.heap.size, 0, none⟩ (.slice none 0 0)).setCell ⟨w.heap.size + 1, 0, none⟩ (.int .i64 120)) (w.heap.size + 1) 30 (.int .i64 120) ∧ ∃ x' ∈ pre ++ [x], (rs.getD x'.i default).done = false) from
        ⟨((KeepsOthers.setCell _ _ _).trans (KeepsOthers.setCell _ _ _)).from _, rfl, (hBW.setCell (p := ⟨w.heap.size, 0, none⟩) (Nat.le_refl _) _).setCell (p := ⟨w.heap.size + 1, 0, none⟩) (Nat.le_succ _) _, u4.other (by omega) _, u5.set _, x, by simp, by rw [hq]; exact hdq⟩)
      clear u4 u5 z4 z5 z1 z2 hdn hbx hox hBW dd hlen hq hdq d0 d2 d3 d4 d5 b0
      generalize x.i * 6 = xi at *
      gi_wp2
      exact ⟨FIN.out.1, rfl, FIN.out.2.2⟩
    | true =>
      rw [hdq] at d1
      obtain ⟨A1, c1', w1, hrun, hP⟩ := push_boxR W.drew X (w.heap.size + 2) A' c' ls q (by show _ ≤ W.heap.size; omega) (by omega) hbx hox
      have p0 := hP.cell
      have p1 := hP.frozen
      rw [hdq] at hrun
      have HRUN := hide (show (Builtin.append_ #[33, 33] 33 #[.slice A' ls.length c', .slice (some ⟨W.heap.size, 0, none⟩) 1 1]).run Try.prog ((W.alloc (.cells #[.bool q.recv, .bool true, .bool q.gone, .int .i64 q.v, .int .i64 q.p, .int .i64 q.t] 47)).drew) = .ok (.slice A1 (ls.length + 1) c1') w1 from hrun)
      have HSN := hide hsn
      have HPX := hide hP
      have b0a : (W.alloc (.cells #[.bool q.recv, .bool true, .bool q.gone, .int .i64 q.v, .int .i64 q.p, .int .i64 q.t] 47)).cell? ⟨X, 0, none⟩ = some (.slice A' ls.length c') := (hbx.alloc _).cell 0
      have ZZ := hide (And.intro hBW (And.intro hsW (And.intro z4 (And.intro z5 (And.intro z1 (And.intro z2 (And.intro hdn (And.intro hdn9 hq))))))))
      clear hrun hsn hls hll dd hP hBW z4 z5 z1 z2 hdn hdn9 hq hbx hox
      generalize x.i * 6 = xi at *
      gi_wp2
      have hmx : Try.prog.follows .mixedOrders = true := by kernel_rfl
      have hrun := HRUN.out
      have FIN := hide (show KeepsFrom (X + 3) W (w1.setCell ⟨X, 0, none⟩ (.slice A1 (ls.length + 1) c1')) ∧ KO (fun k => k < w.heap.size ∨ k = X + 1 ∨ k = X + 1 + 1) W (w1.setCell ⟨X, 0, none⟩ (.slice A1 (ls.length + 1) c1')) ∧ OutR (w1.setCell ⟨X, 0, none⟩ (.slice A1 (ls.length + 1) c1')) X (w.heap.size + 2) (picked rs (List.map (fun x => x.i) (pre ++ [x]))) ∧ Below w.heap.size w (w1.setCell ⟨X, 0, none⟩ (.slice A1 (ls.length + 1) c1')) ∧ X + 3 ≤ (w1.setCell ⟨X, 0, none⟩ (.slice A1 (ls.length + 1) c1')).heap.size ∧ Boxed (w1.setCell ⟨X, 0, none⟩ (.slice A1 (ls.length + 1) c1')) w.heap.size 33 (.slice none 0 0) ∧ Boxed (w1.setCell ⟨X, 0, none⟩ (.slice A1 (ls.length + 1) c1')) (w.heap.size + 1) 30 (.int .i64 0) ∧ Blk (w1.setCell ⟨X, 0, none⟩ (.slice A1 (ls.length + 1) c1')) (X + 1) 25 #[.pointer (some ⟨T, 0, none⟩)] ∧ Blk (w1.setCell ⟨X, 0, none⟩ (.slice A1 (ls.length + 1) c1')) (X + 1 + 1) 27 #[.slice A l.length cap] ∧ ∀ y ∈ pre ++ [x], (rs.getD y.i default).done = true from by
        obtain ⟨hBW, hsW, z4, z5, z1, z2, hdn, hdn9, hq⟩ := ZZ.out
        have hP := HPX.out
        have s1 : (w1.setCell ⟨X, 0, none⟩ (.slice A1 (ls.length + 1) c1')).heap[X + 1]? = W.heap[X + 1]? := hP.same (X + 1) (by omega) (.inr ⟨25, _, z1, by decide⟩)
        have s2 : (w1.setCell ⟨X, 0, none⟩ (.slice A1 (ls.length + 1) c1')).heap[X + 1 + 1]? = W.heap[X + 1 + 1]? := hP.same (X + 1 + 1) (by omega) (.inr ⟨27, _, z2, by decide⟩)
        have s3 : ∀ k, k < w.heap.size + 2 → (w1.setCell ⟨X, 0, none⟩ (.slice A1 (ls.length + 1) c1')).heap[k]? = W.heap[k]? := fun k hk => hP.same k (by omega) (.inl hk)
        have ko : KeepsOthers W (w1.setCell ⟨X, 0, none⟩ (.slice A1 (ls.length + 1) c1')) := ⟨hP.others.size, fun k ob e1 e2 => hP.others.same k ob e1 e2⟩
        refine ⟨ko.from _, ⟨hP.sz, ?_⟩, ⟨A1, c1', ?_, ?_⟩, (hBW.drew).trans (hP.below _ (by omega) (by omega)), Nat.le_trans hsW hP.sz, (s3 _ (by omega)).trans z4, (s3 _ (by omega)).trans z5, s1.trans z1, s2.trans z2, ?_⟩
        · rintro k (hk | rfl | rfl)
          · exact s3 k (by omega)
          · exact s1
          · exact s2
        · rw [HSN.out, List.length_append, List.length_singleton]; exact hP.blk
        · rw [HSN.out, List.length_append, List.length_singleton]; exact hP.own
        · intro y hy
          rcases hdn9 y hy with h | rfl
          · exact hdn y h
          · rw [hq]; exact hdq)
      clear HPX ZZ HSN
      gi_region_with_o (fail)
      all_goals gi_wp2
      all_goals exact ⟨by rw [hsz]; exact FIN.out.1, FIN.out.2⟩
  case stop =>
    rintro D c pre W hD hpre ⟨rfl, hBW, z4, z5, hno⟩ hK
    have hnt : ¬ takeOk rs l := fun h => by
      obtain ⟨y, _, hy⟩ := hno
      have h9 := h.2 (y.i : Int) (by rw [← y.he]; exact Grp.getD_mem y.hp)
      rw [Int.toNat_natCast, hy] at h9
      cases h9
    have HNT := hide hnt
    have HBF := hide (hBW.trans (belowK_b (w := w) (Nat.le_refl _) W D _ (.deferred none) (by omega) hK rfl rfl))
    have p4 := (z4.kept (grownBy_putObj' W D (.deferred none)) (by intro e; cases e; omega)).cell
    have p5 := (z5.kept (grownBy_putObj' W D (.deferred none)) (by intro e; cases e; omega)).cell
    have HK := hide hK
    clear hno hnt z4 z5 hBW hK
    gi_wp2
    refine ⟨by simp, .inl ⟨_, _, rfl, run_takeDeferred HK.out, ?_⟩⟩
    exact ⟨.tuple #[.slice none 0 0, .int .i64 120], by simp [results, Try.f9, go_sem, p4, p5], .inr ⟨HNT.out, rfl, HBF.out⟩⟩
  case done =>
    rintro D ys W hD rfl ⟨⟨A', c', hbx, hox⟩, hBW, hsW, z4, z5, z1, z2, hdn⟩ hK
    have hok := HOK.out
    have hmap := askL_ok hok.2.2 l.length (Nat.le_refl _)
    rw [List.take_length] at hmap
    have htk : takeOk rs l := ⟨hok, fun x hx => by
      have hm : x.toNat ∈ (askL rs.length l l.length).map (fun x => x.i) := by rw [hmap]; exact List.mem_map_of_mem hx
      obtain ⟨y, hy, e⟩ := List.mem_map.1 hm
      rw [← e]
      exact hdn y hy⟩
    rw [hmap] at hbx hox
    have hpl : (picked rs (l.map Int.toNat)).length = l.length := by rw [picked, List.length_map, List.length_map]
    rw [hpl] at hbx hox
    have HTK := hide htk
    have HMP := hide hmap
    clear hok hmap htk hdn hpl z1 z2 b0 b1 b2 ho0 y4 y5 hJ0 hr0 hBX
    have hKlt : D < W.heap.size := (Array.getElem?_eq_some_iff.1 hK).1
    gi_wp2_with (refine ⟨trivial, ?_⟩; gi_at_call 21; refine (asked_in _ _ _ _ _ _).mono ?_; rintro e w' ⟨rfl, rfl⟩)
    have hBa : Below W.heap.size W ((W.alloc (.cells #[.pointer (some ⟨T, 0, none⟩)] 25)).alloc (.cells #[.slice A l.length cap] 27)) := ((Below.refl _ W).alloc (Nat.le_refl _) _).alloc (by simp) _
    have b1 := (Blk.new W 25 #[.pointer (some ⟨T, 0, none⟩)]).alloc (.cells #[.slice A l.length cap] 27)
    have b2 := Blk.new (W.alloc (.cells #[.pointer (some ⟨T, 0, none⟩)] 25)) 27 #[.slice A l.length cap]
    simp only [World.size_alloc] at b2
    have hsa : ((W.alloc (.cells #[.pointer (some ⟨T, 0, none⟩)] 25)).alloc (.cells #[.slice A l.length cap] 27)).heap.size = W.heap.size + 2 := by simp
    generalize ((W.alloc (.cells #[.pointer (some ⟨T, 0, none⟩)] 25)).alloc (.cells #[.slice A l.length cap] 27)) = Wa at *
    have hws := hBW.size
    have hBWa : Below w.heap.size w Wa := hBW.trans (hBa.mono hws)
    obtain ⟨hPR, hbT0, hoR0⟩ := HH.out
    have hbT1 := hbT0.below hBWa hT
    have hoR1 := own_belowR hoR0 hBWa
    have x1 : Blk Wa X 33 #[.slice A' l.length c'] := hbx.below hBa (by omega)
    have q4 : Boxed Wa w.heap.size 33 (.slice none 0 0) := (hBa.block w.heap.size (by omega)).trans z4
    have q5 : Boxed Wa (w.heap.size + 1) 30 (.int .i64 0) := (hBa.block (w.heap.size + 1) (by omega)).trans z5
    have hox1 := own_belowR hox hBa
    have hKa : Wa.heap[D]? = some (.deferred (some [])) := (hBa.block D hKlt).trans hK
    refine wpIn_rangeFunc_ownG rfl (by omega) (gf := 26) (lb := #[.pointer (some ⟨W.heap.size, 0, none⟩), .pointer (some ⟨W.heap.size + 1, 0, none⟩)]) rfl trivial (enters_of Try.func26 (by kernel_rfl) rfl)
      (asked_stops 2 (by omega) W.heap.size (W.heap.size + 1) T o oc rs.length (fun k => k < Wa.heap.size ∧ k ≠ o) (some ⟨o, 0, none⟩) A cap l hl Wa (fun k hk => hk.1) (b1.cell 0) (b2.cell 0) (hbT1.cell 0) (hbT1.cell 1) (fun _ => rfl) (hr.below hBWa) ⟨by omega, by omega⟩ ⟨by omega, by omega⟩ ⟨by omega, hoT⟩ (fun _ a ha => ⟨by have := hA a ha; omega, hAo a ha⟩))
      (fun h k => h.trans k) (KO.put (fun k hk => hk.1)) (Below.refl _ _) (fun _ => rfl)
      (fun (pre : List (Pl rs.length l)) W' => Blk W' T 49 #[.bool true, .slice (some ⟨o, 0, none⟩) rs.length oc] ∧ W'.ownsRow B 47 6 (.slice (some ⟨o, 0, none⟩) rs.length oc) rs.length (rqCs (takR rs (pre.map fun x => x.i))) ∧ KO (fun k => k < Wa.heap.size ∧ k ≠ o) Wa W' ∧ Below B Wa W')
      (fun _ _ _ => False)
      ?own3
      (fun _ _ _ _ _ hs _ _ => hs)
      ⟨hbT1, hoR1, KO.refl _ _, Below.refl _ _⟩
      (fun x => { tmps := #[.pointer (some ⟨T, 0, none⟩), .slice A l.length cap, undef, undef, .pointer (some ⟨w.heap.size, 0, none⟩), .pointer (some ⟨w.heap.size + 1, 0, none⟩), .int .i64 0, .pointer (some ⟨X, 0, none⟩), undef, undef, undef, .pointer (some ⟨o, x.i * 6, none⟩), .pointer (some ⟨T, 0, none⟩), .slice A l.length cap, .int .i64 0, .int .i64 0, .bool false, undef, .slice A l.length cap, .int .i64 l.length, .slice (some ⟨w.heap.size + 2, 0, none⟩) 0 l.length, .pointer (some ⟨T, 0, none⟩), .slice A l.length cap, .func (.func 26) #[] #[.pointer (some ⟨X + 1, 0, none⟩), .pointer (some ⟨X + 1 + 1, 0, none⟩)], undef, undef, undef, undef, undef, undef, undef, undef, undef, undef, undef, undef, undef, .pointer (some ⟨T, 0, none⟩), .slice A l.length cap, .func (.func 26) #[] #[.pointer (some ⟨W.heap.size, 0, none⟩), .pointer (some ⟨W.heap.size + 1, 0, none⟩)], .int .i64 x.p, .pointer (some ⟨o, x.i * 6, none⟩), undef, undef, undef, undef], defers := [] }) ?assign2 ?body2 ?done2 ?stop2
    case own3 =>
      exact OwnFrom.and (Own.from (own_of_keeps fun s W W' h k => KeepsBut.blk k h (by simp)) _) (OwnFrom.and ((ownR_own B o rs.length oc (fun (pre : List (Pl rs.length l)) => takR rs (pre.map fun x => x.i))).from _) (OwnFrom.and (fun s X1 X2 row hs hg hr => ⟨Nat.le_trans hs.1 hg.size, fun k hk => (hg.block k (Nat.lt_of_lt_of_le hk.1 hs.1) (fun e => by have := (hr k e.symm).1; omega)).trans (hs.2 k hk)⟩) (ownFrom_below (by omega) (by omega))))
    case assign2 =>
      intro l0 x W K hK
      dsimp only [encR]
      gi_wp2
      exact hK
    case body2 =>
      rintro l0 pre x W' ⟨hbT, hoR, hko, hbB⟩ hlen
      have hxi := x.hi
      have htl := takR_len (pre.map fun x => x.i) rs
      have hsnoc : takR rs ((pre ++ [x]).map fun x => x.i) = (takR rs (pre.map fun x => x.i)).set x.i ((takR rs (pre.map fun x => x.i)).getD x.i default).taken := by rw [List.map_append]; exact takR_snoc rs _ x.i
      obtain ⟨tr, htr⟩ : ∃ z, takR rs (pre.map fun x => x.i) = z := ⟨_, rfl⟩
      rw [htr] at hoR htl hsnoc
      obtain ⟨o', he, _, _, _, hfz, _, hOc⟩ := own_cell hoR (by omega)
      cases he
      have hset := own_set (k := x.i * 6 + 2) hoR (.bool true)
      rw [rqCs_taken tr x.i (by omega), ← pick_rq (show x.i < tr.length by omega), ← hsnoc] at hset
      have f2 := hfz (x.i * 6 + 2)
      have d2 : W'.cell? ⟨o, x.i * 6 + 2, none⟩ = some (.bool (tr.getD x.i default).gone) := by rw [pick_rq (show x.i < tr.length by omega)]; exact hOc _ _ (rqCs_at tr x.i (by omega) 2 (by omega))
      have FIN := hide (show KeepsFrom Wa.heap.size W' (W'.setCell ⟨o, x.i * 6 + 2, none⟩ (.bool true)) ∧ KO (fun k => k < Wa.heap.size ∧ k ≠ o) W' (W'.setCell ⟨o, x.i * 6 + 2, none⟩ (.bool true)) ∧ Blk (W'.setCell ⟨o, x.i * 6 + 2, none⟩ (.bool true)) T 49 #[.bool true, .slice (some ⟨o, 0, none⟩) rs.length oc] ∧ (W'.setCell ⟨o, x.i * 6 + 2, none⟩ (.bool true)).ownsRow B 47 6 (.slice (some ⟨o, 0, none⟩) rs.length oc) rs.length (rqCs (takR rs ((pre ++ [x]).map fun x => x.i))) ∧ KO (fun k => k < Wa.heap.size ∧ k ≠ o) Wa (W'.setCell ⟨o, x.i * 6 + 2, none⟩ (.bool true)) ∧ Below B Wa (W'.setCell ⟨o, x.i * 6 + 2, none⟩ (.bool true)) from by
        have k1 : KO (fun k => k < Wa.heap.size ∧ k ≠ o) W' (W'.setCell ⟨o, x.i * 6 + 2, none⟩ (.bool true)) := ⟨by simp [World.setCell], fun k hk => Below.heap_setCell _ _ _ _ hk.2⟩
        exact ⟨(KeepsOthers.setCell _ _ _).from _, k1, hbT.far hoT _, hset, hko.trans k1, hbB.setCell (p := ⟨o, x.i * 6 + 2, none⟩) h1 _⟩)
      clear hset hsnoc htr htl hoR hbT hko hbB hOc hlen hfz
      generalize x.i * 6 = xi at *
      generalize (tr.getD x.i default).gone = gg at *
      clear hsa
      gi_wp2
      exact FIN.out
    case done2 =>
      rintro D2 ys2 W2 hD2 rfl ⟨hbT, hoR, hko, hbB⟩ hK2
      rw [HMP.out] at hoR
      have hXo : X ≠ o := by omega
      have same : ∀ k, k < Wa.heap.size → k ≠ o → W2.heap[k]? = Wa.heap[k]? := fun k h1 h2 => hko.2 k ⟨h1, h2⟩
      have t7 : Blk W2 X 33 #[.slice A' l.length c'] := (same X (by omega) hXo).trans x1
      have t4 : Boxed W2 w.heap.size 33 (.slice none 0 0) := (same _ (by omega) (by omega)).trans q4
      have t5 : Boxed W2 (w.heap.size + 1) 30 (.int .i64 0) := (same _ (by omega) (by omega)).trans q5
      have hKo : W2.heap[D]? = some (.deferred (some [])) := (same D (by omega) (by omega)).trans hKa
      have c7 : W2.cell? ⟨X, 0, none⟩ = some (.slice A' l.length c') := t7.cell 0
      have v4 := t4.cell
      have g4 := t4.frozen
      have u4 := t4.set (.slice A' l.length c')
      have u5 := t5.other (B' := w.heap.size) (by omega) (.slice A' l.length c')
      have v5 := u5.cell
      have g5 := u5.frozen
      have uu5 := u5.set (.int .i64 0)
      have uu4 := u4.other (B' := w.heap.size + 1) (by omega) (.int .i64 0)
      have far : ∀ k, k ≠ w.heap.size → k ≠ w.heap.size + 1 → ((W2.setCell ⟨w.heap.size, 0, none⟩ (.slice A' l.length c')).setCell ⟨w.heap.size + 1, 0, none⟩ (.int .i64 0)).heap[k]? = W2.heap[k]? := fun k h1 h2 => (Below.heap_setCell _ _ _ k h2).trans (Below.heap_setCell _ _ _ k h1)
      have hsz3 : W2.heap.size ≤ ((W2.setCell ⟨w.heap.size, 0, none⟩ (.slice A' l.length c')).setCell ⟨w.heap.size + 1, 0, none⟩ (.int .i64 0)).heap.size := by simp [World.setCell]
      have bel3 := (hbB.setCell (p := ⟨w.heap.size, 0, none⟩) (show B ≤ w.heap.size by omega) (.slice A' l.length c')).setCell (p := ⟨w.heap.size + 1, 0, none⟩) (show B ≤ w.heap.size + 1 by omega) (.int .i64 0)
      have ALL := hide (And.intro far (And.intro uu4 (And.intro uu5 (And.intro hKo (And.intro hK2 (And.intro hbT (And.intro hoR (And.intro hko (And.intro hsz3 (And.intro bel3 (And.intro hox1 hBWa)))))))))))
      clear far uu4 uu5 hKo hK2 hbT hoR hko hbB same t7 t4 t5 u4 u5 q4 q5 x1 hox1 hBWa hKa hbT0 hbT1 hoR0 hoR1 hPR z4 z5 hbx hox hBW hBa hK b1 b2 bel3
      have HSA := hide hsa
      clear hsa
      gi_wp2
      obtain ⟨far, uu4, uu5, hKo, hK2, hbT, hoR, hko, hsz3, bel3, hox1, hBWa⟩ := ALL.out
      have hsa := HSA.out
      have hD2lt : D2 < W2.heap.size := (Array.getElem?_eq_some_iff.1 hK2).1
      generalize ((W2.setCell ⟨w.heap.size, 0, none⟩ (.slice A' l.length c')).setCell ⟨w.heap.size + 1, 0, none⟩ (.int .i64 0)) = W3 at *
      have hk2 : W3.heap[D2]? = some (.deferred (some [])) := (far D2 (by omega) (by omega)).trans hK2
      have hk1 : W3.heap[D]? = some (.deferred (some [])) := (far D (by omega) (by omega)).trans hKo
      have hDD : D ≠ D2 := by omega
      have hk1' : (W3.putObj D2 (.deferred none)).heap[D]? = some (.deferred (some [])) := (World.putObj_heap_other hDD).trans hk1
      have E2 : ∀ k, k ≠ D2 → k ≠ D → ((W3.putObj D2 (.deferred none)).putObj D (.deferred none)).heap[k]? = W3.heap[k]? := fun k h1 h2 => (World.putObj_heap_other h2).trans (World.putObj_heap_other h1)
      have p4 : ((W3.putObj D2 (.deferred none)).putObj D (.deferred none)).cell? ⟨w.heap.size, 0, none⟩ = some (.slice A' l.length c') := Boxed.cell ((E2 _ (by omega) (by omega)).trans uu4)
      have p5 : ((W3.putObj D2 (.deferred none)).putObj D (.deferred none)).cell? ⟨w.heap.size + 1, 0, none⟩ = some (.int .i64 0) := Boxed.cell ((E2 _ (by omega) (by omega)).trans uu5)
      have ro : ((W3.putObj D2 (.deferred none)).putObj D (.deferred none)).ownsRow w.heap.size 47 6 (.slice A' l.length c') l.length (rqCs (picked rs (l.map Int.toNat))) :=
        ownsRow_putObj (ownsRow_putObj (own_more (own_same hox1 fun g hg => by
          obtain ⟨g1, g2, _⟩ := own_block hox1 hg
          exact (far g (by omega) (by omega)).trans (hko.2 g ⟨g2, by omega⟩)) (by omega)) (.deferred none) hk2 rfl) (.deferred none) hk1' rfl
      have pT : Blk ((W3.putObj D2 (.deferred none)).putObj D (.deferred none)) T 49 #[.bool true, .slice (some ⟨o, 0, none⟩) rs.length oc] := (E2 T (by omega) (by omega)).trans ((far T (by omega) (by omega)).trans hbT)
      have pR : ((W3.putObj D2 (.deferred none)).putObj D (.deferred none)).ownsRow B 47 6 (.slice (some ⟨o, 0, none⟩) rs.length oc) rs.length (rqCs (takR rs (l.map Int.toNat))) := own_same hoR fun g hg => by
        obtain rfl : o = g := by simpa [Value.ownBlock] using hg
        exact (E2 o (by omega) (by omega)).trans (far o (by omega) (by omega))
      have bl : Below B w ((W3.putObj D2 (.deferred none)).putObj D (.deferred none)) := (((hBWa.mono (by omega)).trans bel3).trans (belowK_b (w := w) (by omega) W3 D2 _ (.deferred none) (by omega) hk2 rfl rfl)).trans (belowK_b (w := w) (by omega) _ D _ (.deferred none) (by omega) hk1' rfl rfl)
      have kb : KeepsBut [47] w ((W3.putObj D2 (.deferred none)).putObj D (.deferred none)) := ⟨bl.size, fun j c ty fz hj hty => by
        have hjl := (Array.getElem?_eq_some_iff.1 hj).1
        have hjo : j ≠ o := fun e => by
          subst e
          obtain ⟨_, _, cs, hcs⟩ := own_block HH.out.2.2 rfl
          exact hty (by rw [blk_type hcs hj]; exact List.mem_cons_self)
        exact (E2 j (by omega) (by omega)).trans ((far j (by omega) (by omega)).trans ((hko.2 j ⟨by omega, hjo⟩).trans (hBWa.block j hjl)))⟩
      have POST := hide (show TakePost T B rs l w (.returned (.tuple #[.slice A' l.length c', .int .i64 0])) ((W3.putObj D2 (.deferred none)).putObj D (.deferred none)) from .inl ⟨HTK.out, A', c', rfl, ro, ⟨h0, by rw [takR_len]; exact hrl, some ⟨o, 0, none⟩, oc, by rw [takR_len]; exact pT, by rw [takR_len]; exact pR⟩, bl, kb⟩)
      refine ⟨by simp, .inl ⟨_, _, rfl, run_takeDeferred hk2, ?_⟩⟩
      refine ⟨by simp, .inl ⟨_, _, rfl, run_takeDeferred hk1', ?_⟩⟩
      exact ⟨.tuple #[.slice A' l.length c', .int .i64 0], by simp [results, Try.f9, go_sem, p4, p5], POST.out⟩
    case stop2 =>
      rintro D c pre W hD _ h
      exact h.elim
end Req
end Go.Proofs.Ytiggmieoldjhnaa
