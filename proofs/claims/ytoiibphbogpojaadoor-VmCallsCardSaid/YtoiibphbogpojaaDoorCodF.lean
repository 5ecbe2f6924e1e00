/- The list of places: what is put onto it. -/
import Derived.Test.YtoiibphbogpojaaDoorRows
import Derived.Test.YtoiibphbogpojaaDoorCodD
import Derived.Laws.IdiomCopy
import Derived.Shelf.Spec.SlicesInsert
namespace Go.Proofs.YtoiibphbogpojaaDoor
open Go Go.RowKit
set_option linter.unusedVariables false
set_option linter.unusedSimpArgs false
namespace Cod
def setAll (cs : Array Value) : Nat → List Value → Array Value
  | _, [] => cs
  | o, v :: r => setAll (cs.setIfInBounds o v) (o + 1) r
theorem setAll_size : ∀ (vs : List Value) (cs : Array Value) (o : Nat), (setAll cs o vs).size = cs.size
  | [], _, _ => rfl
  | v :: r, cs, o => by rw [setAll, setAll_size r]; simp
theorem setAll_blk {g : Nat} {t : TypeId} : ∀ (vs : List Value) (o : Nat) {w : World} {cs : Array Value}, Blk w g t cs → Blk (w.setCells g o vs) g t (setAll cs o vs)
  | [], _, _, _, h => h
  | v :: r, o, w, cs, h => setAll_blk r (o + 1) (h.set_ o v)
theorem setAll_get : ∀ (vs : List Value) (cs : Array Value) (o k : Nat), o + vs.length ≤ cs.size → (setAll cs o vs)[k]? = if o ≤ k ∧ k < o + vs.length then vs[k - o]? else cs[k]?
  | [], cs, o, k, _ => by rw [if_neg (by simp)]; rfl
  | v :: r, cs, o, k, h => by
    rw [List.length_cons] at h
    rw [setAll, setAll_get r _ (o + 1) k (by simp; omega), List.length_cons]
    by_cases h1 : o + 1 ≤ k ∧ k < o + 1 + r.length
    · rw [if_pos h1, if_pos (by omega)]
      have e : k - o = (k - (o + 1)) + 1 := by omega
      rw [e, List.getElem?_cons_succ]
    · rw [if_neg h1]
      by_cases h2 : k = o
      · subst h2
        rw [if_pos (by omega)]
        simp [show k < cs.size by omega]
      · rw [if_neg (by omega)]
        rw [Array.getElem?_setIfInBounds, if_neg (by omega)]
theorem below_setCells {B g : Nat} (hBg : B ≤ g) {w0 : World} : ∀ (vs : List Value) (o : Nat) {w : World}, Below B w0 w → Below B w0 (w.setCells g o vs)
  | [], _, _, h => h
  | v :: r, o, w, h => below_setCells hBg r (o + 1) (h.setCell (p := ⟨g, o, none⟩) hBg v)
theorem cod_int_info : (Tryd.prog.info? 3).map (fun i => (i.zero, i.size, i.bytes)) = some (some (.int .i64 0), 1, 8) := by kernel_rfl
theorem mkI (n : Nat) (hn : n ≤ 1000000) (W : World) : (Instr.makeSlice 25 (.int .i64 n) (.int .i64 n)).run Tryd.prog W = .ok (.slice (some ⟨W.heap.size, 0, none⟩) n n) (W.alloc (.cells (Array.replicate n (.int .i64 0)) 3)) := by
  obtain ⟨i0, hi0, hz0, hz1, hz2⟩ := info_parts cod_int_info
  have h := run_make_rowN (P := Tryd.prog) 25 3 i0 (.int .i64 0) Tryd.underlying25 hi0 hz0 .i64 .i64 n n (Nat.le_refl _) (by rw [hz2]; omega) (by omega) W
  rw [hz1, Nat.mul_one] at h
  have e : madeCells (Value.int .i64 0).cells n = Array.replicate n (.int .i64 0) := by
    apply Array.ext
    · simp [madeCells, Value.cells]
    · intro i h1 h2
      simp [madeCells, Value.cells, Nat.mod_one]
  rw [e] at h
  exact h
/-- The list of places: at block L, its places at a block behind. -/
def Lst (w : World) (L X : Nat) (t : List Nat) : Prop := ∃ (A : Option Addr) (n c : Nat), Blk w L 80 #[.slice A n c, .int .i64 t.length] ∧ t.length ≤ n ∧ n ≤ 100000 ∧
  (0 < n → ∃ g cur, A = some ⟨g, 0, none⟩ ∧ L < g ∧ g ≠ X ∧ Blk w g 3 cur ∧ cur.size = n ∧ n ≤ c ∧ (∀ j (hj : j < t.length), cur[j]? = some (.int .i64 (t[j] : Nat))))
theorem Lst.below {w w' : World} {L X : Nat} {t : List Nat} (h : Lst w L X t) (hb : Below w.heap.size w w') : Lst w' L X t := by
  obtain ⟨A, n, c, h1, h2, h3, h4⟩ := h
  refine ⟨A, n, c, h1.below hb h1.lt, h2, h3, fun h0 => ?_⟩
  obtain ⟨g, cur, e, hg, hx, hbk, r⟩ := h4 h0
  exact ⟨g, cur, e, hg, hx, hbk.below hb hbk.lt, r⟩
theorem get_app {cur : Array Value} {t : List Nat} {k : Nat} (h : ∀ j (hj : j < t.length), cur[j]? = some (.int .i64 (t[j] : Nat))) (hk : t.length < cur.size) :
    ∀ j (hj : j < (t ++ [k]).length), (cur.setIfInBounds t.length (.int .i64 (k : Nat)))[j]? = some (.int .i64 ((t ++ [k])[j] : Nat)) := fun j hj => by
  rw [List.length_append, List.length_singleton] at hj
  rw [Array.getElem?_setIfInBounds]
  by_cases e : t.length = j
  · subst e
    rw [if_pos rfl, if_pos hk]
    simp
  · rw [if_neg e, h j (by omega), List.getElem_append_left (by omega)]
theorem add_fin (L X k n c g : Nat) (t : List Nat) (cur : Array Value) (w W : World) (hg : L < g) (hgX : g ≠ X) (hXW : W.heap[X]? = w.heap[X]?) (hlt : t.length < n) (hB : Below L w W) (hbk : Blk W L 80 #[.slice (some ⟨g, 0, none⟩) n c, .int .i64 t.length]) (hgb : Blk W g 3 cur) (hcs : cur.size = n) (hn0 : t.length ≤ 10000) (hn : n ≤ 100000) (hnc : n ≤ c)
    (hcur : ∀ j (hj : j < t.length), cur[j]? = some (.int .i64 (t[j] : Nat))) (q : Nat) :
    Lst (((W.drewN q).setCell ⟨g, t.length, none⟩ (.int .i64 k)).setCell ⟨L, 1, none⟩ (.int .i64 ((t.length : Int) + 1))) L X (t ++ [k]) ∧ Below L w (((W.drewN q).setCell ⟨g, t.length, none⟩ (.int .i64 k)).setCell ⟨L, 1, none⟩ (.int .i64 ((t.length : Int) + 1))) ∧ (X ≠ L → (((W.drewN q).setCell ⟨g, t.length, none⟩ (.int .i64 k)).setCell ⟨L, 1, none⟩ (.int .i64 ((t.length : Int) + 1))).heap[X]? = w.heap[X]?) := by
  refine ⟨⟨some ⟨g, 0, none⟩, n, c, ?_, by rw [List.length_append, List.length_singleton]; omega, hn, fun _ => ⟨g, cur.setIfInBounds t.length (.int .i64 k), rfl, hg, hgX, ?_, by simpa using hcs, hnc, get_app hcur (by omega)⟩⟩, ?_, fun hXL => ?_⟩
  · have h1 : Blk ((W.drewN q).setCell ⟨g, t.length, none⟩ (.int .i64 k)) L 80 #[.slice (some ⟨g, 0, none⟩) n c, .int .i64 t.length] := Blk.far (show Blk (W.drewN q) L _ _ from hbk) (p := ⟨g, t.length, none⟩) (by show L ≠ g; omega) _
    have h2 := h1.set_ 1 (.int .i64 ((t.length : Int) + 1))
    rw [List.length_append, List.length_singleton]
    exact h2
  · have h1 : Blk ((W.drewN q).setCell ⟨g, t.length, none⟩ (.int .i64 k)) g 3 (cur.setIfInBounds t.length (.int .i64 k)) := Blk.set_ (show Blk (W.drewN q) g _ _ from hgb) t.length _
    exact h1.far (p := ⟨L, 1, none⟩) (by show g ≠ L; omega) _
  · exact (((below_drewN hB q).setCell (p := ⟨g, t.length, none⟩) (by show L ≤ g; omega) _).setCell (p := ⟨L, 1, none⟩) (Nat.le_refl _) _)
  · exact (Below.heap_setCell _ ⟨L, 1, none⟩ _ X hXL).trans ((Below.heap_setCell (W.drewN q) ⟨g, t.length, none⟩ _ X (fun e => hgX e.symm)).trans hXW)
theorem hbL_far {g b : Nat} {t : TypeId} {cs : Array Value} {w : World} (h : Blk w b t cs) (hne : b ≠ g) : ∀ (vs : List Value) (o : Nat), Blk (w.setCells g o vs) b t cs := fun vs => by
  induction vs generalizing w with
  | nil => exact fun _ => h
  | cons v vs ih => exact fun o => ih (h.far (p := ⟨g, o, none⟩) hne v) (o + 1)
/-- The places copied into a new block, at w.heap.size. -/
theorem copy_c (L X M n c : Nat) (t : List Nat) (A : Option Addr) (w w2 : World) (hL : L < w.heap.size) (hM : n ≤ M) (htn : t.length = n) (hbk : Blk w L 80 #[.slice A n c, .int .i64 t.length])
    (hp : 0 < n → ∃ g cur, A = some ⟨g, 0, none⟩ ∧ L < g ∧ g ≠ X ∧ Blk w g 3 cur ∧ cur.size = n ∧ n ≤ c ∧ (∀ j (hj : j < t.length), cur[j]? = some (.int .i64 (t[j] : Nat))))
    (hb : Below w.heap.size w w2) (hG : Blk w2 w.heap.size 3 (Array.replicate M (.int .i64 0))) :
    ∃ v w3 cur, (∀ ty, (Builtin.copy_ #[25, 25] ty #[.slice (some ⟨w.heap.size, 0, none⟩) M M, .slice A n c]).run Tryd.prog w2 = .ok v w3) ∧ Blk w2 L 80 #[.slice A n c, .int .i64 t.length] ∧ Blk w3 L 80 #[.slice A n c, .int .i64 t.length] ∧ Blk w3 w.heap.size 3 cur ∧ cur.size = M ∧ (∀ j (hj : j < t.length), cur[j]? = some (.int .i64 (t[j] : Nat))) ∧ Below w.heap.size w w3 := by
  have hsz : (Tryd.prog.info? 3).map (·.size) = some 1 := by kernel_rfl
  have hbL := hbk.below hb hL
  rcases Nat.eq_zero_or_pos n with h0 | h0
  · subst h0
    refine ⟨_, w2, Array.replicate M (.int .i64 0), fun ty => run_copy_none w2 _ _ ty 3 _ _ M M 0 c Tryd.underlying25 hsz (by simp), hbL, hbL, hG, by simp, fun j hj => by omega, hb⟩
  · obtain ⟨g, cur, rfl, hg, hgX, hgb, hcs, hnc, hcur⟩ := hp h0
    have hg2 := hgb.below hb hgb.lt
    have hl : cur.toList.length = n := by simpa using hcs
    refine ⟨_, w2.setCells w.heap.size 0 cur.toList, setAll (Array.replicate M (.int .i64 0)) 0 cur.toList, fun ty => run_copy_cells w2 _ _ ty 3 w.heap.size 0 M M ⟨g, 0, none⟩ n c cur.toList Tryd.underlying25 hsz (by rw [hl]; simp only [Nat.min_def]; split <;> omega) (fun j v hv => ?_) (fun j hj => ?_) (fun j hj => hG.frozen _) (fun v hv => ?_), hbL, ?_, setAll_blk _ _ hG, by rw [setAll_size]; simp, fun j hj => ?_, below_setCells (Nat.le_refl _) _ _ hb⟩
    · rw [show (⟨g, 0, none⟩ : Addr).add j = ⟨g, j, none⟩ by unfold Addr.add; split <;> simp_all, hg2.cell j]
      simpa using hv
    · rw [hG.cell, Nat.zero_add, Array.getElem?_replicate, if_pos (by omega)]
      simp
    · obtain ⟨i, hi, rfl⟩ := List.getElem_of_mem hv
      have h9 := hcur i (by omega)
      have h8 : cur[i]? = some (cur.toList[i]) := by simp
      rw [h9] at h8
      have h7 := Option.some.inj h8
      rw [← h7]
      simp [Value.oneCell']
    · exact hbL_far hbL (by omega) _ _
    · rw [setAll_get _ _ _ _ (by simp; omega), if_pos ⟨Nat.zero_le _, by omega⟩, Nat.sub_zero, ← hcur j hj]
      simp
set_option maxRecDepth 100000 in
set_option maxHeartbeats 4000000 in
theorem add_c (L X k : Nat) (t : List Nat) (w : World) (h : Lst w L X t) (hX : X < w.heap.size) (hXL : X ≠ L) (hl : t.length ≤ 10000) :
    Calls Tryd.prog 47 #[.pointer (some ⟨L, 0, none⟩), .int .i64 k] w fun e w' => e = .returned (.tuple #[]) ∧ Lst w' L X (t ++ [k]) ∧ Below L w w' ∧ w'.heap[X]? = w.heap[X]? := by
  obtain ⟨A, n, c, hbk, htn, hn, hp⟩ := h
  have hL := hbk.lt
  have HBK := hide hbk
  have m1 : IntKind.i64.wrap ((t.length : Int) + 1) = (t.length : Int) + 1 := by rw [IntKind.wrap_i64]; omega
  obtain ⟨T, hT⟩ : ∃ T, t.length = T := ⟨_, rfl⟩
  by_cases hfull : t.length = n
  · have c0 : w.cell? ⟨L, 0, none⟩ = some (.slice A n c) := hbk.cell 0
    have c1 : w.cell? ⟨L, 1, none⟩ = some (.int .i64 n) := by rw [← hfull]; exact hbk.cell 1
    have e1 : ((n : Int) == (n : Int)) = true := by simp
    have m2 : IntKind.i64.wrap (2 * (n : Int)) = 2 * (n : Int) := by rw [IntKind.wrap_i64]; omega
    have m3 : IntKind.i64.wrap (2 * (n : Int) + 8) = 2 * (n : Int) + 8 := by rw [IntKind.wrap_i64]; omega
    have MK := fun W : World => mkI (2 * n + 8) (by omega) W
    rw [show ((2 * n + 8 : Nat) : Int) = 2 * (n : Int) + 8 by omega] at MK
    obtain ⟨M, hM⟩ : ∃ M, 2 * n + 8 = M := ⟨_, rfl⟩
    rw [hM] at MK
    have CP := hide (fun q : Nat => copy_c L X M n c t A w ((w.drewN q).alloc (.cells (Array.replicate M (.int .i64 0)) 3)) hL (by omega) hfull HBK.out hp (below_drewN (Below.refl _ w) q |>.alloc (Nat.le_refl _) _) (Blk.new (w.drewN q) 3 (Array.replicate M (.int .i64 0))))
    rw [hfull] at m1
    have hM' := hide hM
    clear hbk hp hM
    go_enter Tryd.func47, Tryd.ntmps47
    go_wp2_with fail
    go_quiet (fail)
    go_upto_region 2 with (fail)
    obtain ⟨v9, w3, cur, hcp, hbL2, hbL, hbG, hcz, hcur, hB3⟩ := CP.out nq
    generalize (w.drewN nq).alloc (.cells (Array.replicate M (.int .i64 0)) 3) = w2 at *
    have d0 : w2.cell? ⟨L, 0, none⟩ = some (.slice A n c) := hbL2.cell 0
    have hb4 := hbL.set_ 0 (.slice (some ⟨w.heap.size, 0, none⟩) M M)
    have hg4 := hbG.far (p := ⟨L, 0, none⟩) (by show w.heap.size ≠ L; omega) (.slice (some ⟨w.heap.size, 0, none⟩) M M)
    have hB4 := (hB3.mono (by omega : L ≤ w.heap.size)).setCell (p := ⟨L, 0, none⟩) (Nat.le_refl _) (.slice (some ⟨w.heap.size, 0, none⟩) M M)
    have f0 := hbL.frozen 0
    have x0 : w3.cell? ⟨L, 0, none⟩ = some (.slice A n c) := hbL.cell 0
    have HB4 := hide hB4
    have HXW0 := hide (hB3.block X hX)
    have HXW := hide ((Below.heap_setCell w3 ⟨L, 0, none⟩ (.slice (some ⟨w.heap.size, 0, none⟩) M M) X hXL).trans HXW0.out)
    have HL4 := hide hb4
    have HG4 := hide hg4
    clear CP MK hbL2 hbL hbG hB3 hb4 hg4 hB4 c0 c1
    go_wp2_with fail
    clear d0 hcp
    generalize w3.setCell ⟨L, 0, none⟩ (.slice (some ⟨w.heap.size, 0, none⟩) M M) = w4 at *
    have c0 : w4.cell? ⟨L, 0, none⟩ = some (.slice (some ⟨w.heap.size, 0, none⟩) M M) := HL4.out.cell 0
    have c1 : w4.cell? ⟨L, 1, none⟩ = some (.int .i64 n) := by rw [← hfull]; exact HL4.out.cell 1
    have f1 := HL4.out.frozen 1
    have fg := HG4.out.frozen n
    have cg : w4.cell? ⟨w.heap.size, n, none⟩ = cur[n]? := HG4.out.cell n
    have hTc : n < cur.size := by have := hM'.out; omega
    rw [Array.getElem?_eq_getElem hTc] at cg
    have e2 : (n : Int) < (M : Int) := by have := hM'.out; omega
    have FIN := hide (fun (q : Nat) => add_fin L X k M M w.heap.size t cur w w4 (by omega) (by omega) HXW.out (by have := hM'.out; omega) HB4.out (by have h9 := HL4.out; exact h9) HG4.out hcz (by omega) (by have := hM'.out; omega) (Nat.le_refl _) hcur q)
    rw [hfull] at FIN
    generalize cur[n] = old at *
    clear hcur x0 f0 HB4 HL4 HG4
    go_region
    go_wp2_with fail
    go_end0
    exact ⟨rfl, (FIN.out _).1, (FIN.out _).2.1, (FIN.out _).2.2 hXL⟩
  · obtain ⟨g, cur, rfl, hg, hgX, hgb, hcs, hnc, hcur⟩ := hp (by omega)
    have c0 : w.cell? ⟨L, 0, none⟩ = some (.slice (some ⟨g, 0, none⟩) n c) := hbk.cell 0
    have c1 : w.cell? ⟨L, 1, none⟩ = some (.int .i64 T) := by rw [← hT]; exact hbk.cell 1
    have f1 := hbk.frozen 1
    have fg := hgb.frozen T
    have cg : w.cell? ⟨g, T, none⟩ = cur[T]? := hgb.cell T
    have hTc : T < cur.size := by rw [hcs, ← hT]; exact Nat.lt_of_le_of_ne htn hfull
    rw [Array.getElem?_eq_getElem hTc] at cg
    have e1 : ((T : Int) == (n : Int)) = false := by rw [beq_eq_false_iff_ne]; omega
    have e2 : (T : Int) < (n : Int) := by omega
    have hgl := hgb.lt
    rw [hT] at m1
    have FIN := hide (fun (q : Nat) => add_fin L X k n c g t cur w w hg hgX rfl (by omega) (Below.refl _ _) hbk hgb hcs (by omega) hn hnc hcur q)
    rw [hT] at FIN
    clear hbk hgb hcur hp hT
    generalize cur[T] = old at *
    go_enter Tryd.func47, Tryd.ntmps47
    go_wp2_with fail
    go_quiet (fail)
    go_wp2_with fail
    go_region
    go_wp2_with fail
    go_end0
    exact ⟨rfl, (FIN.out _).1, (FIN.out _).2.1, (FIN.out _).2.2 hXL⟩
end Cod
end Go.Proofs.YtoiibphbogpojaaDoor
