/- The reference's Push. -/
import Derived.Test.YtobccgjonpcpgaaRows
import Derived.Test.YtobccgjonpcpgaaPathB
import Derived.Test.YtobccgjonpcpgaaPathK
import Derived.Test.YtobccgjonpcpgaaRelV
namespace Go.Proofs.Ytobccgjonpcpgaa
open Go Go.RowKit
set_option linter.unusedVariables false
set_option linter.unusedSimpArgs false
namespace Pth
theorem VRow.grown {w w' : World} {r : Option Nat} {g : Nat} {l : List Ch} (h : VRow w (some ⟨g, 0, none⟩) l) (hg : w.grownBy w' r) (hne : some g ≠ r) : VRow w' (some ⟨g, 0, none⟩) l := h.keep fun g' e => by
  injection e with e
  injection e with e
  subst e
  exact hg.block _ (h.lt rfl) hne
theorem VRow.keeps {tys : List TypeId} {w w' : World} {A : Option Addr} {l : List Ch} (h : VRow w A l) (k : KeepsBut tys w w') (hn : ¬ 43 ∈ tys) : VRow w' A l := by
  obtain ⟨g, cs, e, hb, r⟩ := h
  exact ⟨g, cs, e, (k.2 g cs _ (0, 0) hb hn).trans hb, r⟩
set_option maxRecDepth 100000 in
set_option maxHeartbeats 4000000 in
theorem PushB_no (U B : Nat) (ls : List Lv) (r c : Int) (A : Option Addr) (cap : Nat) (vs : List Ch) (off : Bool) (w : World) (ht : StB w U B ls) (h : CRow w A vs) (hl : vs.length ≤ 1000) (hno : ¬ mayV r c vs ∨ ls.length = 2000) :
    Calls Try.prog 8 #[.pointer (some ⟨U, 0, none⟩), .agg #[.int .i64 r, .int .i64 c, .slice A vs.length cap], .bool off] w fun e w' => e = .returned (.int .i64 (pushE r c vs)) ∧ Below w.heap.size w w' := by
  have b1 := Blk.new w 34 #[.int .i64 r, .int .i64 c, .slice A vs.length cap]
  have hb1 := (Below.refl w.heap.size w).alloc (Nat.le_refl _) (.cells #[.int .i64 r, .int .i64 c, .slice A vs.length cap] 34)
  obtain ⟨W1, hW1⟩ : ∃ W1, w.alloc (.cells #[.int .i64 r, .int .i64 c, .slice A vs.length cap] 34) = W1 := ⟨_, rfl⟩
  rw [hW1] at b1 hb1
  have q0 : W1.cell? ⟨w.heap.size, 0, none⟩ = some (.int .i64 r) := b1.cell 0
  have q1 : W1.cell? ⟨w.heap.size, 1, none⟩ = some (.int .i64 c) := b1.cell 1
  have q2 : W1.cell? ⟨w.heap.size, 2, none⟩ = some (.slice A vs.length cap) := b1.cell 2
  obtain ⟨Av, cv, A2, c2, A3, c3, hbU, _⟩ := (ht.below hb1).open_
  have MY := hide (May_b r c A cap vs W1 (h.below hb1) hl)
  have HT := hide hbU
  have HB := hide hb1
  clear b1 hb1 ht hbU h
  by_cases hm : mayV r c vs
  · have hf : ls.length = 2000 := hno.resolve_left fun hn => hn hm
    have E : pushE r c vs = 4 := by unfold pushE; rw [if_pos hm]
    have hI : (2000 : Int) ≤ (ls.length : Int) := by omega
    rw [E]
    rw [decide_eq_true hm] at MY
    have HM := hide hm
    have HF := hide hf
    clear E hm hf hno
    go_enter Try.func8, Try.ntmps8
    go_wp2_with fail
    refine MY.out.mono ?_
    rintro e w2 ⟨rfl, hb2⟩
    have u1 : w2.cell? ⟨U, 0, none⟩ = some (.slice Av ls.length cv) := (HT.out.below hb2 HT.out.lt).cell 0
    have HB2 := hide (HB.out.trans (hb2.mono HB.out.size))
    clear hb2
    go_wp2_with fail
    go_ret
    exact ⟨rfl, HB2.out⟩
  · have E : pushE r c vs = 2 := by unfold pushE; rw [if_neg hm]
    rw [E]
    rw [decide_eq_false hm] at MY
    have HM := hide hm
    clear E hm hno
    go_enter Try.func8, Try.ntmps8
    go_wp2_with fail
    refine MY.out.mono ?_
    rintro e w2 ⟨rfl, hb2⟩
    have HB2 := hide (HB.out.trans (hb2.mono HB.out.size))
    clear hb2
    go_wp2_with fail
    go_ret
    exact ⟨rfl, HB2.out⟩
/-- From S on the blocks that were there are as they were. -/
def UpS (S : Nat) (w w' : World) : Prop := w.heap.size ≤ w'.heap.size ∧ ∀ j, S ≤ j → j < w.heap.size → w'.heap[j]? = w.heap[j]?
theorem up_below {S : Nat} {w w' : World} (h : Below w.heap.size w w') : UpS S w w' := ⟨h.size, fun j _ hj => h.block j hj⟩
theorem up_grown {S : Nat} {w w' : World} {r : Option Nat} (h : w.grownBy w' r) (hr : ∀ k, r = some k → k < S) : UpS S w w' := ⟨h.size, fun j hS hj => h.block j hj fun e => by have := hr j e.symm; omega⟩
theorem up_set {S U k : Nat} {w : World} {u : Value} (hU : U < S) : UpS S w (w.setCell ⟨U, k, none⟩ u) := ⟨by simp [World.setCell], fun j hS _ => Below.heap_setCell w ⟨U, k, none⟩ u j (by show j ≠ U; omega)⟩
theorem grown_keeps {w w' : World} {B size n : Nat} {e : TypeId} {v : Value} {xs : List Value} (h : w.ownsRow B e size v n xs) (hg : w.grownBy w' v.ownBlock) : KeepsBut [e] w w' := by
  refine ⟨hg.size, fun j cs ty fz hj hty => hg.block j (Array.getElem?_eq_some_iff.1 hj).1 fun e' => hty ?_⟩
  obtain ⟨_, _, cs', hcs'⟩ := own_block h e'.symm
  rw [blk_type hcs' hj]
  exact List.mem_cons_self
/-- The block of the row of points. -/
def rowOf (w : World) (U : Nat) : Option Nat := match w.cell? ⟨U, 0, none⟩ with | some v => v.ownBlock | none => none
/-- What the reference's Push keeps: of the blocks of points all but one row. -/
def KB (row : Option Nat) (w w' : World) : Prop := w.heap.size ≤ w'.heap.size ∧ ∀ (j : Nat) (cs : Array Value) (ty : TypeId) (fz : Nat × Nat), w.heap[j]? = some (.cells cs ty fz) → ¬ ty ∈ [4, 3, 31] → (ty = 34 → row ≠ some j) → w'.heap[j]? = w.heap[j]?
theorem KB.trans {row : Option Nat} {a b c : World} (h : KB row a b) (k : KeepsBut [4, 3, 31] b c) : KB row a c :=
  ⟨Nat.le_trans h.1 k.1, fun j cs ty fz hj hty hr => (k.2 j cs ty fz ((h.2 j cs ty fz hj hty hr).trans hj) hty).trans (h.2 j cs ty fz hj hty hr)⟩
theorem KB.keeps {row : Option Nat} {a b : World} (h : KB row a b) : KeepsBut [34, 4, 3, 31] a b :=
  ⟨h.1, fun j cs ty fz hj hty => h.2 j cs ty fz hj (fun hm => hty (List.mem_cons_of_mem _ hm)) fun e => absurd (e ▸ List.mem_cons_self) hty⟩
/-- The state of the region that puts an element behind two rows of the reference's stack. -/
structure PJ (w : World) (U B : Nat) (ls : List Lv) (v0 vO vT : Value) (x0 : Lv) (V : Nat → Option Value) (w1 : World) : Prop where
  tab : ∃ x y, Blk w1 U 31 #[v0, x, y] ∧ ((V 17 = none → x = vO) ∧ ∀ z, V 17 = some z → V 8 = some x) ∧ ((V 20 = none → y = vT) ∧ ∀ z, V 20 = some z → V 14 = some y)
  pt : w1.ownsRow B 34 3 v0 (ls.length + 1) (ptCs (ls ++ [x0]))
  vr : VRow w1 x0.A x0.vs
  row8 : (V 8 = none → w1.ownsRow B 4 1 vO ls.length (ofCs ls)) ∧ ∀ u, V 8 = some u → w1.ownsRow B 4 1 u (ls.length + 1) (ofCs ls ++ [.bool x0.off])
  row14 : (V 14 = none → w1.ownsRow B 3 1 vT ls.length (atCs ls)) ∧ ∀ u, V 14 = some u → w1.ownsRow B 3 1 u (ls.length + 1) (atCs ls ++ [.int .i64 0])
  d8 : (V 8).isSome = true → (V 5).isSome = true
  d14 : (V 14).isSome = true → (V 12).isSome = true
  kb : KB (rowOf w U) w w1
  bl : Below B w w1
  hB : B ≤ w.heap.size
section
variable {w w1 w' : World} {U B : Nat} {ls : List Lv} {v0 vO vT : Value} {x0 : Lv} {V : Nat → Option Value}
theorem PJ.size (h : PJ w U B ls v0 vO vT x0 V w1) : w.heap.size ≤ w1.heap.size := h.bl.size
theorem PJ.not17 (h : PJ w U B ls v0 vO vT x0 V w1) (h5 : V 5 = none) : V 17 = none := by
  obtain ⟨x, y, _, hx, _⟩ := h.tab
  cases e : V 17 with
  | none => rfl
  | some z =>
    have := h.d8 (by rw [hx.2 z e]; rfl)
    rw [h5] at this
    cases this
theorem PJ.not20 (h : PJ w U B ls v0 vO vT x0 V w1) (h12 : V 12 = none) : V 20 = none := by
  obtain ⟨x, y, _, _, hy⟩ := h.tab
  cases e : V 20 with
  | none => rfl
  | some z =>
    have := h.d14 (by rw [hy.2 z e]; rfl)
    rw [h12] at this
    cases this
theorem PJ.plain {i : Nat} {v : Value} (h : PJ w U B ls v0 vO vT x0 V w1) (hb : Below w1.heap.size w1 w') (hi : i ≠ 8 ∧ i ≠ 14 ∧ i ≠ 17 ∧ i ≠ 20) : PJ w U B ls v0 vO vT x0 (setV V i v) w' := by
  have e : ∀ j, j = 8 ∨ j = 14 ∨ j = 17 ∨ j = 20 → setV V i v j = V j := fun j hj => if_neg (by omega)
  have up : ∀ j, (V j).isSome = true → (setV V i v j).isSome = true := fun j hj => by unfold setV; split; rfl; exact hj
  obtain ⟨x, y, hU, hx, hy⟩ := h.tab
  refine ⟨⟨x, y, hU.below hb hU.lt, ?_, ?_⟩, own_belowR h.pt hb, h.vr.keep fun g hg => hb.block g (h.vr.lt hg), ?_, ?_, ?_, ?_, h.kb.trans (KeepsBut.of_below hb), h.bl.trans (hb.mono (Nat.le_trans h.hB h.bl.size)), h.hB⟩
  · rw [e 17 (by omega), e 8 (by omega)]; exact hx
  · rw [e 20 (by omega), e 14 (by omega)]; exact hy
  · rw [e 8 (by omega)]; exact ⟨fun hn => own_belowR (h.row8.1 hn) hb, fun u hu => own_belowR (h.row8.2 u hu) hb⟩
  · rw [e 14 (by omega)]; exact ⟨fun hn => own_belowR (h.row14.1 hn) hb, fun u hu => own_belowR (h.row14.2 u hu) hb⟩
  · rw [e 8 (by omega)]; exact fun h8 => up 5 (h.d8 h8)
  · rw [e 14 (by omega)]; exact fun h14 => up 12 (h.d14 h14)
theorem PJ.approw8 {u : Value} (h : PJ w U B ls v0 vO vT x0 V w1) (hV : V 8 = none) (hd : (V 5).isSome = true) (ho : w1.ownsRow B 4 1 vO ls.length (ofCs ls)) (hown : w'.ownsRow B 4 1 u (ls.length + 1) (ofCs ls ++ [.bool x0.off])) (hg : w1.grownBy w' vO.ownBlock) : PJ w U B ls v0 vO vT x0 (setV V 8 u) w' := by
  have k1 := grown_keeps ho hg
  have e : ∀ j, j ≠ 8 → setV V 8 u j = V j := fun j hj => if_neg hj
  have e0 : setV V 8 u 8 = some u := if_pos rfl
  obtain ⟨x, y, hU, hx, hy⟩ := h.tab
  have bl : Below B w1 w' := (Below.refl B w1).grown hg (Nat.le_trans h.hB h.bl.size) fun k ek => (own_block ho ek).1
  refine ⟨⟨x, y, (k1.2 U _ _ (0, 0) hU (by decide)).trans hU, ?_, ?_⟩, KeepsBut.own k1 h.pt (by decide), h.vr.keeps k1 (by decide), ?_, ?_, ?_, ?_, h.kb.trans ⟨k1.1, fun j cs ty fz hj hn => k1.2 j cs ty fz hj fun hm => hn (by rw [List.mem_singleton.1 hm]; decide)⟩, h.bl.trans bl, h.hB⟩
  · rw [e 17 (by decide), e0]
    refine ⟨hx.1, fun z hz => ?_⟩
    have := hx.2 z hz
    rw [hV] at this
    cases this
  · rw [e 20 (by decide), e 14 (by decide)]; exact hy
  · rw [e0]; exact ⟨fun hn => (by cases hn), fun u' hu => by cases hu; exact hown⟩
  · rw [e 14 (by decide)]; exact ⟨fun hn => KeepsBut.own k1 (h.row14.1 hn) (by decide), fun u' hu => KeepsBut.own k1 (h.row14.2 u' hu) (by decide)⟩
  · rw [e 5 (by decide)]; exact fun _ => hd
  · rw [e 14 (by decide), e 12 (by decide)]; exact h.d14
theorem PJ.approw14 {u : Value} (h : PJ w U B ls v0 vO vT x0 V w1) (hV : V 14 = none) (hd : (V 12).isSome = true) (ho : w1.ownsRow B 3 1 vT ls.length (atCs ls)) (hown : w'.ownsRow B 3 1 u (ls.length + 1) (atCs ls ++ [.int .i64 0])) (hg : w1.grownBy w' vT.ownBlock) : PJ w U B ls v0 vO vT x0 (setV V 14 u) w' := by
  have k1 := grown_keeps ho hg
  have e : ∀ j, j ≠ 14 → setV V 14 u j = V j := fun j hj => if_neg hj
  have e0 : setV V 14 u 14 = some u := if_pos rfl
  obtain ⟨x, y, hU, hx, hy⟩ := h.tab
  have bl : Below B w1 w' := (Below.refl B w1).grown hg (Nat.le_trans h.hB h.bl.size) fun k ek => (own_block ho ek).1
  refine ⟨⟨x, y, (k1.2 U _ _ (0, 0) hU (by decide)).trans hU, ?_, ?_⟩, KeepsBut.own k1 h.pt (by decide), h.vr.keeps k1 (by decide), ?_, ?_, ?_, ?_, h.kb.trans ⟨k1.1, fun j cs ty fz hj hn => k1.2 j cs ty fz hj fun hm => hn (by rw [List.mem_singleton.1 hm]; decide)⟩, h.bl.trans bl, h.hB⟩
  · rw [e 17 (by decide), e 8 (by decide)]; exact hx
  · rw [e 20 (by decide), e0]
    refine ⟨hy.1, fun z hz => ?_⟩
    have := hy.2 z hz
    rw [hV] at this
    cases this
  · rw [e 8 (by decide)]; exact ⟨fun hn => KeepsBut.own k1 (h.row8.1 hn) (by decide), fun u' hu => KeepsBut.own k1 (h.row8.2 u' hu) (by decide)⟩
  · rw [e0]; exact ⟨fun hn => (by cases hn), fun u' hu => by cases hu; exact hown⟩
  · rw [e 8 (by decide), e 5 (by decide)]; exact h.d8
  · rw [e 12 (by decide)]; exact fun _ => hd
theorem PJ.st17 {x' : Value} (h : PJ w U B ls v0 vO vT x0 V w1) (hV : V 17 = none) (hd : V 8 = some x') (hU' : U < w.heap.size) (hBU : B ≤ U) : PJ w U B ls v0 vO vT x0 (setV V 17 undef) (w1.setCell ⟨U, 1, none⟩ x') := by
  have e : ∀ j, j ≠ 17 → setV V 17 undef j = V j := fun j hj => if_neg hj
  have e0 : setV V 17 undef 17 = some undef := if_pos rfl
  obtain ⟨x, y, hU, hx, hy⟩ := h.tab
  have k1 : KeepsBut [31] w1 (w1.setCell ⟨U, 1, none⟩ x') := by
    refine ⟨by simp [World.setCell], fun j cs ty fz hj hty => Below.heap_setCell w1 ⟨U, 1, none⟩ x' j fun e' => hty ?_⟩
    have e' : j = U := e'
    subst e'
    rw [blk_type hU hj]
    exact List.mem_cons_self
  refine ⟨⟨x', y, by simpa using hU.set_ 1 x', ?_, ?_⟩, KeepsBut.own k1 h.pt (by decide), h.vr.keeps k1 (by decide), ?_, ?_, ?_, ?_, h.kb.trans ⟨k1.1, fun j cs ty fz hj hn => k1.2 j cs ty fz hj fun hm => hn (by rw [List.mem_singleton.1 hm]; decide)⟩, h.bl.setCell (p := ⟨U, 1, none⟩) hBU x', h.hB⟩
  · rw [e0, e 8 (by decide)]; exact ⟨fun hn => (by cases hn), fun z _ => hd⟩
  · rw [e 20 (by decide), e 14 (by decide)]; exact hy
  · rw [e 8 (by decide)]; exact ⟨fun hn => KeepsBut.own k1 (h.row8.1 hn) (by decide), fun u' hu => KeepsBut.own k1 (h.row8.2 u' hu) (by decide)⟩
  · rw [e 14 (by decide)]; exact ⟨fun hn => KeepsBut.own k1 (h.row14.1 hn) (by decide), fun u' hu => KeepsBut.own k1 (h.row14.2 u' hu) (by decide)⟩
  · rw [e 8 (by decide), e 5 (by decide)]; exact h.d8
  · rw [e 14 (by decide), e 12 (by decide)]; exact h.d14
theorem PJ.st20 {x' : Value} (h : PJ w U B ls v0 vO vT x0 V w1) (hV : V 20 = none) (hd : V 14 = some x') (hU' : U < w.heap.size) (hBU : B ≤ U) : PJ w U B ls v0 vO vT x0 (setV V 20 undef) (w1.setCell ⟨U, 2, none⟩ x') := by
  have e : ∀ j, j ≠ 20 → setV V 20 undef j = V j := fun j hj => if_neg hj
  have e0 : setV V 20 undef 20 = some undef := if_pos rfl
  obtain ⟨x, y, hU, hx, hy⟩ := h.tab
  have k1 : KeepsBut [31] w1 (w1.setCell ⟨U, 2, none⟩ x') := by
    refine ⟨by simp [World.setCell], fun j cs ty fz hj hty => Below.heap_setCell w1 ⟨U, 2, none⟩ x' j fun e' => hty ?_⟩
    have e' : j = U := e'
    subst e'
    rw [blk_type hU hj]
    exact List.mem_cons_self
  refine ⟨⟨x, x', by simpa using hU.set_ 2 x', ?_, ?_⟩, KeepsBut.own k1 h.pt (by decide), h.vr.keeps k1 (by decide), ?_, ?_, ?_, ?_, h.kb.trans ⟨k1.1, fun j cs ty fz hj hn => k1.2 j cs ty fz hj fun hm => hn (by rw [List.mem_singleton.1 hm]; decide)⟩, h.bl.setCell (p := ⟨U, 2, none⟩) hBU x', h.hB⟩
  · rw [e 17 (by decide), e 8 (by decide)]; exact hx
  · rw [e0, e 14 (by decide)]; exact ⟨fun hn => (by cases hn), fun z _ => hd⟩
  · rw [e 8 (by decide)]; exact ⟨fun hn => KeepsBut.own k1 (h.row8.1 hn) (by decide), fun u' hu => KeepsBut.own k1 (h.row8.2 u' hu) (by decide)⟩
  · rw [e 14 (by decide)]; exact ⟨fun hn => KeepsBut.own k1 (h.row14.1 hn) (by decide), fun u' hu => KeepsBut.own k1 (h.row14.2 u' hu) (by decide)⟩
  · rw [e 8 (by decide), e 5 (by decide)]; exact h.d8
  · rw [e 14 (by decide), e 12 (by decide)]; exact h.d14
end
set_option maxRecDepth 100000 in
set_option maxHeartbeats 8000000 in
theorem PushB_yes (U B : Nat) (ls : List Lv) (r c : Int) (A : Option Addr) (cap : Nat) (vs : List Ch) (off : Bool) (w : World) (ht : StB w U B ls) (hBT : B ≤ U) (h : ∀ w', Below B w w' → CRow w' A vs) (hl : vs.length ≤ 1000) (hm : mayV r c vs) (hlt : ls.length < 2000) :
    Calls Try.prog 8 #[.pointer (some ⟨U, 0, none⟩), .agg #[.int .i64 r, .int .i64 c, .slice A vs.length cap], .bool off] w fun e w' => e = .returned (.int .i64 0) ∧ (∃ (g cap' : Nat), w.heap.size ≤ g ∧ StB w' U B (ls ++ [(⟨r, c, some ⟨g, 0, none⟩, cap', vs, off, 0⟩ : Lv)])) ∧ Below B w w' ∧ KB (rowOf w U) w w' := by
  have HP := hide (info_parts point_info)
  have HJ := hide (info_parts bool_info)
  have HK := hide (info_parts int_info)
  have HC := hide (info_parts ch_info)
  have hrows := ht.rows
  obtain ⟨Av, cv, A2, c2, A3, c3, hbU, o1, o2, o3, _⟩ := ht.open_
  have hUlt := hbU.lt
  have hvok : ∀ i (hi : i < vs.length), vs[i].ok := fun i hi => by
    obtain ⟨a, _, _, hc⟩ := (h w (Below.refl _ _)).2 (by omega)
    exact (hc i hi).1
  -- the box
  have b1 := Blk.new w 34 #[.int .i64 r, .int .i64 c, .slice A vs.length cap]
  have hb1 := (Below.refl w.heap.size w).alloc (Nat.le_refl _) (.cells #[.int .i64 r, .int .i64 c, .slice A vs.length cap] 34)
  have hs1 : (w.alloc (.cells #[.int .i64 r, .int .i64 c, .slice A vs.length cap] 34)).heap.size = w.heap.size + 1 := by simp
  obtain ⟨W1, hW1⟩ : ∃ W1, w.alloc (.cells #[.int .i64 r, .int .i64 c, .slice A vs.length cap] 34) = W1 := ⟨_, rfl⟩
  rw [hW1] at b1 hb1 hs1
  have q0 : W1.cell? ⟨w.heap.size, 0, none⟩ = some (.int .i64 r) := b1.cell 0
  have q1 : W1.cell? ⟨w.heap.size, 1, none⟩ = some (.int .i64 c) := b1.cell 1
  have q2 : W1.cell? ⟨w.heap.size, 2, none⟩ = some (.slice A vs.length cap) := b1.cell 2
  have hBw : B ≤ w.heap.size := by omega
  have MY := hide (May_b r c A cap vs W1 (h W1 (hb1.mono hBw)) hl)
  rw [decide_eq_true hm] at MY
  have hI : ¬ (2000 : Int) ≤ (ls.length : Int) := by omega
  have bb1 : ∀ g, (Value.slice Av ls.length cv).ownBlock = some g → B ≤ g ∧ g < w.heap.size := fun g hg => ⟨(own_block o1 hg).1, (own_block o1 hg).2.1⟩
  have hnU1 : (Value.slice Av ls.length cv).ownBlock ≠ some U := own_blk_ne o1 hbU (by decide)
  have kpt : ∀ g cs' ty fz, (Value.slice Av ls.length cv).ownBlock = some g → w.heap[g]? = some (.cells cs' ty fz) → ty = 34 := fun g cs' ty fz hg hc => by
    obtain ⟨_, _, cs, hcs⟩ := own_block o1 hg
    exact blk_type hcs hc
  have HB := hide hb1
  have B1 := hide b1
  have HT := hide (hbU.below hb1 hUlt)
  have HO := hide (own_belowR o1 hb1)
  have HO2 := hide (own_belowR o2 hb1)
  have HO3 := hide (own_belowR o3 hb1)
  have HN := hide (And.intro hUlt (And.intro hBw (And.intro hBT (And.intro bb1 (And.intro hnU1 (And.intro kpt (And.intro hbU (And.intro o2 (And.intro o3 hs1)))))))))
  have HCR := hide h
  have HR := hide hrows
  have HM := hide hm
  have HLT := hide hlt
  have HV := hide hvok
  have HL := hide hl
  clear b1 hb1 ht hbU h hm hlt hrows hUlt hBw hBT bb1 hnU1 kpt hs1 o1 o2 o3 hvok hl
  go_enter Try.func8, Try.ntmps8
  go_wp2_with fail
  refine MY.out.mono ?_
  rintro e w2 ⟨rfl, hb2⟩
  have HB2 := hide (HB.out.trans (hb2.mono HB.out.size))
  have BX2 := hide (B1.out.below hb2 B1.out.lt)
  have HT2 := hide (HT.out.below hb2 HT.out.lt)
  have P2 := hide (own_belowR HO.out hb2)
  have Q2 := hide (own_belowR HO2.out hb2)
  have R2 := hide (own_belowR HO3.out hb2)
  have HS2 := hide (show w.heap.size < w2.heap.size from BX2.out.lt)
  have u0 : w2.cell? ⟨U, 0, none⟩ = some (.slice Av ls.length cv) := HT2.out.cell 0
  clear hb2 q0 q1 q2
  go_wp2_with fail
  obtain ⟨hUlt, hBw, hBT, hgl, hnU, _⟩ := HN.out
  have hs2 := HS2.out
  obtain ⟨row, hrow⟩ : ∃ x, (Value.slice Av ls.length cv).ownBlock = x := ⟨_, rfl⟩
  have far : ∀ {g : Nat}, w.heap.size ≤ g → some g ≠ row := fun {g} hg e => by
    have := (hgl g (hrow.trans e.symm)).2
    omega
  have farU : some U ≠ row := fun e => hnU (hrow.trans e.symm)
  have low : ∀ k, row = some k → B ≤ k := fun k e => (hgl k (hrow.trans e)).1
  let K : World → World → Prop := fun a b => a.grownBy b row
  let R : Nat → Value → World → Prop := fun sl u w1 => match sl with
    | 16 | 17 | 18 | 19 | 32 | 33 => u = .pointer (some ⟨U, 0, none⟩)
    | 20 => u = .slice Av ls.length cv
    | 21 => u = .pointer (some ⟨w.heap.size, 0, none⟩)
    | 22 => u = .int .i64 r
    | 23 => u = .pointer (some ⟨w.heap.size, 1, none⟩)
    | 24 => u = .int .i64 c
    | 25 => ∃ g, u = .slice (some ⟨g, 0, none⟩) 0 0 ∧ w.heap.size ≤ g ∧ Blk w1 g 43 #[]
    | 26 => u = .pointer (some ⟨w.heap.size, 2, none⟩)
    | 27 => u = .slice A vs.length cap
    | 28 => ∃ g cc, u = .slice (some ⟨g, 0, none⟩) vs.length cc ∧ w.heap.size ≤ g ∧ VRow w1 (some ⟨g, 0, none⟩) vs
    | 29 => ∃ g cc, u = .agg #[.int .i64 r, .int .i64 c, .slice (some ⟨g, 0, none⟩) vs.length cc] ∧ w.heap.size ≤ g ∧ VRow w1 (some ⟨g, 0, none⟩) vs
    | 30 => ∃ b g cc, u = .slice (some ⟨b, 0, none⟩) 1 1 ∧ w.heap.size ≤ b ∧ Blk w1 b 34 #[.int .i64 r, .int .i64 c, .slice (some ⟨g, 0, none⟩) vs.length cc] ∧ w.heap.size ≤ g ∧ VRow w1 (some ⟨g, 0, none⟩) vs
    | _ => True
  let J : Option Value → World → Prop := fun b w1 => match b with
    | none => w1.ownsRow B 34 3 (.slice Av ls.length cv) ls.length (ptCs ls)
    | some u => ∃ g cc, w.heap.size ≤ g ∧ VRow w1 (some ⟨g, 0, none⟩) vs ∧ w1.ownsRow B 34 3 u (ls.length + 1) (ptCs ls ++ [.int .i64 r, .int .i64 c, .slice (some ⟨g, 0, none⟩) vs.length cc])
  have vb : ∀ {w w' : World} {g : Nat}, VRow w (some ⟨g, 0, none⟩) vs → Below w.heap.size w w' → VRow w' (some ⟨g, 0, none⟩) vs := fun h hb => h.keep fun g' e => hb.block g' (h.lt e)
  have hKB : ∀ w w', Below w.heap.size w w' → K w w' := fun _ _ hb => grown_of_below hb
  have hJB : ∀ b w w', J b w → Below w.heap.size w w' → J b w' := fun b wa wb hj hb => by
    cases b with
    | none => exact own_belowR hj hb
    | some u =>
      obtain ⟨g, cc, h1, h2, h3⟩ := hj
      exact ⟨g, cc, h1, vb h2 hb, own_belowR h3 hb⟩
  refine wp_region_relJ 18 31 R K J (by kernel_rfl) (by kernel_rfl) (by kernel_rfl) (by kernel_rfl) (by kernel_rfl) (fun _ _ _ h1 h2 => gtrans h1 h2) (hKB _ _ (Below.refl _ _).drew) P2.out.drew ?mono ?step ?fin
  case mono =>
    intro sl u wa wb hu hk
    match sl with
    | 25 =>
      obtain ⟨g, h1, h2, h3⟩ := hu
      exact ⟨g, h1, h2, h3.grown hk (far h2)⟩
    | 28 | 29 =>
      obtain ⟨g, cc, h1, h2, h3⟩ := hu
      exact ⟨g, cc, h1, h2, h3.grown hk (far h2)⟩
    | 30 =>
      obtain ⟨b, g, cc, h1, h2, h3, h4, h5⟩ := hu
      exact ⟨b, g, cc, h1, h2, h3.grown hk (far h2), h4, h5.grown hk (far h4)⟩
    | 0 | 1 | 2 | 3 | 4 | 5 | 6 | 7 | 8 | 9 | 10 | 11 | 12 | 13 | 14 | 15 | 16 | 17 | 18 | 19 | 20 | 21 | 22 | 23 | 24 | 26 | 27 | 31 | 32 | 33 | _ + 34 => exact hu
  case fin =>
    intro ff w9 hk hj hr
    obtain ⟨g, cc, hg, hgv, hown⟩ := hj
    have hown : w9.ownsRow B 34 3 (ff 31) (ls.length + 1) (ptCs ls ++ [.int .i64 r, .int .i64 c, .slice (some ⟨g, 0, none⟩) vs.length cc]) := hown
    have e33 : ff 33 = .pointer (some ⟨U, 0, none⟩) := hr 33 (by decide)
    have hbU9 := HT2.out.grown hk farU
    have y0 : w9.cell? ⟨U, 0, none⟩ = some (.slice Av ls.length cv) := hbU9.cell 0
    have f0 := hbU9.frozen 0
    have hnT : (ff 31).ownBlock ≠ some U := own_blk_ne hown hbU9 (by decide)
    obtain ⟨a9, c9, e31⟩ := own_form hown
    rw [e31] at hown hnT
    have kp : KeepsBut [34] w w9 := by
      refine ⟨Nat.le_trans HB2.out.size hk.size, fun j cs ty fz hj hty => ?_⟩
      have hjl := (Array.getElem?_eq_some_iff.1 hj).1
      refine (hk.block j (Nat.lt_of_lt_of_le hjl HB2.out.size) fun e => hty ?_).trans (HB2.out.block j hjl)
      rw [HN.out.2.2.2.2.2.1 j cs ty fz (hrow.trans e.symm) hj]
      exact List.mem_cons_self
    have kp2 : KeepsBut [34] w2 w9 := by
      refine ⟨hk.size, fun j cs ty fz hj hty => hk.block j (Array.getElem?_eq_some_iff.1 hj).1 fun e => hty ?_⟩
      obtain ⟨_, _, cs', hcs'⟩ := own_block P2.out (hrow.trans e.symm)
      rw [blk_type hcs' hj]
      exact List.mem_cons_self
    have q9 := KeepsBut.own kp2 Q2.out (by decide)
    have r9 := KeepsBut.own kp2 R2.out (by decide)
    have q10 := own_setCell q9 (p := ⟨U, 0, none⟩) (own_blk_ne q9 hbU9 (by decide)) (.slice a9 (ls.length + 1) c9)
    have r10 := own_setCell r9 (p := ⟨U, 0, none⟩) (own_blk_ne r9 hbU9 (by decide)) (.slice a9 (ls.length + 1) c9)
    have p10 := own_setCell hown (p := ⟨U, 0, none⟩) hnT (.slice a9 (ls.length + 1) c9)
    have v10 : VRow (w9.setCell ⟨U, 0, none⟩ (.slice a9 (ls.length + 1) c9)) (some ⟨g, 0, none⟩) vs := hgv.keep fun g' e => by
      injection e with e
      injection e with e
      subst e
      exact Below.heap_setCell w9 ⟨U, 0, none⟩ _ g (by show g ≠ U; omega)
    have t10 : Blk (w9.setCell ⟨U, 0, none⟩ (.slice a9 (ls.length + 1) c9)) U 31 #[.slice a9 (ls.length + 1) c9, .slice A2 ls.length c2, .slice A3 ls.length c3] := by simpa using hbU9.set_ 0 (.slice a9 (ls.length + 1) c9)
    have hrw : rowOf w U = row := by
      unfold rowOf
      rw [HN.out.2.2.2.2.2.2.1.cell 0]
      exact hrow
    have k10 : KB (rowOf w U) w (w9.setCell ⟨U, 0, none⟩ (.slice a9 (ls.length + 1) c9)) := by
      rw [hrw]
      refine ⟨by have := kp.1; simp [World.setCell]; exact this, fun j cs ty fz hj hty hrj => ?_⟩
      have hjl := (Array.getElem?_eq_some_iff.1 hj).1
      refine (Below.heap_setCell w9 ⟨U, 0, none⟩ _ j fun e => hty ?_).trans ((hk.block j (Nat.lt_of_lt_of_le hjl HB2.out.size) fun e => hrj (HN.out.2.2.2.2.2.1 j cs ty fz (hrow.trans e.symm) hj) e.symm).trans (HB2.out.block j hjl))
      have e : j = U := e
      subst e
      rw [blk_type HN.out.2.2.2.2.2.2.1 hj]
      decide
    have b10 := ((HB2.out.mono hBw).grown hk (Nat.le_trans hBw HB2.out.size) low).setCell (p := ⟨U, 0, none⟩) hBT (.slice a9 (ls.length + 1) c9)
    have HG := hide hg
    have HQ0 := hide HN.out.2.2.2.2.2.2.2.1
    have HR0 := hide HN.out.2.2.2.2.2.2.2.2.1
    have H10 := hide (And.intro p10 (And.intro q10 (And.intro r10 (And.intro v10 (And.intro t10 (And.intro k10 b10))))))
    clear hk hr hgv hown hbU9 hnT hrw kp kp2 q9 r9 q10 r10 p10 v10 t10 k10 b10 hKB hJB hnU hgl hg
    simp only [putAll, slotsOf, List.take, List.drop, List.filterMap_cons, List.filterMap_nil, List.foldl_cons, List.foldl_nil, Act.put, e31, e33]
    simp only [List.setIfInBounds_toArray, List.set_cons_succ, List.set_cons_zero]
    obtain ⟨w10, h10⟩ : ∃ x, w9.setCell ⟨U, 0, none⟩ (.slice a9 (ls.length + 1) c9) = x := ⟨_, rfl⟩
    rw [h10] at H10
    go_wp2_with fail
    clear h10 y0 f0 u0
    obtain ⟨p10, q10, r10, v10, t10, k10, b10⟩ := H10.out
    have hg := HG.out
    have lowO : ∀ k, (Value.slice A2 ls.length c2).ownBlock = some k → k < w.heap.size := fun k e => (own_block HQ0.out e).2.1
    have lowT : ∀ k, (Value.slice A3 ls.length c3).ownBlock = some k → k < w.heap.size := fun k e => (own_block HR0.out e).2.1
    let R : Nat → Value → World → Prop := fun sl u w1 => match sl with
      | 34 | 35 | 36 | 37 | 43 | 44 | 49 | 51 => u = .pointer (some ⟨U, 0, none⟩)
      | 38 | 50 => u = .pointer (some ⟨U, 1, none⟩)
      | 45 | 52 => u = .pointer (some ⟨U, 2, none⟩)
      | 39 => u = .slice A2 ls.length c2
      | 46 => u = .slice A3 ls.length c3
      | 40 => u = .bool off
      | 41 => ∃ b, u = .slice (some ⟨b, 0, none⟩) 1 1 ∧ w.heap.size ≤ b ∧ Blk w1 b 4 #[.bool off]
      | 47 => ∃ b, u = .slice (some ⟨b, 0, none⟩) 1 1 ∧ w.heap.size ≤ b ∧ Blk w1 b 3 #[.int .i64 0]
      | 42 | 48 => ∃ a c, u = .slice a (ls.length + 1) c
      | _ => True
    have p10' : w10.ownsRow B 34 3 (.slice a9 (ls.length + 1) c9) (ls.length + 1) (ptCs (ls ++ [(⟨r, c, some ⟨g, 0, none⟩, cc, vs, off, 0⟩ : Lv)])) := by rw [ptCs_app]; exact p10
    refine wp_region_relV R (UpS w.heap.size) (PJ w U B ls (.slice a9 (ls.length + 1) c9) (.slice A2 ls.length c2) (.slice A3 ls.length c3) ⟨r, c, some ⟨g, 0, none⟩, cc, vs, off, 0⟩) (by kernel_rfl) (by kernel_rfl) (by kernel_rfl) ?mono6 ⟨⟨_, _, t10.drew, ⟨fun _ => rfl, fun z hz => (by cases hz)⟩, ⟨fun _ => rfl, fun z hz => (by cases hz)⟩⟩, p10'.drew, v10, ⟨fun _ => q10.drew, fun u hu => (by cases hu)⟩, ⟨fun _ => r10.drew, fun u hu => (by cases hu)⟩, fun h => (by cases h), fun h => (by cases h), k10, b10.drew, hBw⟩ ?step6 ?fin6
    case mono6 =>
      intro sl u wa wb hu hk
      match sl with
      | 41 | 47 =>
        obtain ⟨b, h1, h2, h3⟩ := hu
        exact ⟨b, h1, h2, (hk.2 b h2 h3.lt).trans h3⟩
      | 0 | 1 | 2 | 3 | 4 | 5 | 6 | 7 | 8 | 9 | 10 | 11 | 12 | 13 | 14 | 15 | 16 | 17 | 18 | 19 | 20 | 21 | 22 | 23 | 24 | 25 | 26 | 27 | 28 | 29 | 30 | 31 | 32 | 33 | 34 | 35 | 36 | 37 | 38 | 39 | 40 | 42 | 43 | 44 | 45 | 46 | 48 | 49 | 50 | 51 | 52 | _ + 53 => exact hu
    case fin6 =>
      intro fg V w11 hVs hj hr
      have h8 : V 8 = some (fg 42) := hVs 8 _ rfl
      have h14 : V 14 = some (fg 48) := hVs 14 _ rfl
      have h17 : V 17 = some undef := hVs 17 _ rfl
      have h20 : V 20 = some undef := hVs 20 _ rfl
      obtain ⟨x, y, hbU, hx, hy⟩ := hj.tab
      have ex : x = fg 42 := by have := hx.2 _ h17; rw [h8] at this; exact (Option.some.inj this).symm
      have ey : y = fg 48 := by have := hy.2 _ h20; rw [h14] at this; exact (Option.some.inj this).symm
      have o8 := hj.row8.2 _ h8
      have o14 := hj.row14.2 _ h14
      rw [← ex] at o8
      rw [← ey] at o14
      have el : (ls ++ [(⟨r, c, some ⟨g, 0, none⟩, cc, vs, off, 0⟩ : Lv)]).length = ls.length + 1 := by simp
      have FIN : StB w11 U B (ls ++ [(⟨r, c, some ⟨g, 0, none⟩, cc, vs, off, 0⟩ : Lv)]) := by
        refine ⟨by have := HLT.out; simp; omega, ⟨_, x, y, hbU, by rw [el]; exact hj.pt, by rw [el, ofCs_app]; exact o8, by rw [el, atCs_app]; exact o14⟩, fun i hi => ?_⟩
        by_cases hi2 : i < ls.length
        · rw [List.getElem_append_left hi2]
          exact (HR.out i hi2).keeps hj.kb.keeps (by decide)
        · have e : i = ls.length := by rw [List.length_append, List.length_singleton] at hi; omega
          subst e
          rw [List.getElem_append_right (Nat.le_refl _)]
          simp only [Nat.sub_self, List.getElem_cons_zero]
          exact hj.vr
      have HF := hide (And.intro FIN (And.intro hj.bl hj.kb))
      clear hVs hj hr h8 h14 h17 h20 hbU hx hy ex ey o8 o14 FIN el
      simp only [putAll, slotsOf, List.filterMap_cons, List.filterMap_nil, List.foldl_cons, List.foldl_nil, Act.put]
      simp only [List.setIfInBounds_toArray, List.set_cons_succ, List.set_cons_zero]
      go_wp2_with fail
      go_ret
      exact ⟨rfl, ⟨g, cc, HG.out, HF.out.1⟩, HF.out.2.1, HF.out.2.2⟩
    case step6 =>
      intro i o ho
      match i, ho with
      | 0, ho =>
        cases ho
        intro V aa w1 hV hdep hval hj hsm hr
        have e0 : aa.tmps.getD 0 undef = .pointer (some ⟨U, 0, none⟩) := hsm 0 (by decide)
        rw [Array.getD_eq_getD_getElem?] at e0
        unfold Oper.wp
        simp only [execOp, Act.eval, Array.getD_eq_getD_getElem?, e0]
        go_simp
        exact ⟨_, rfl, rfl, up_below (Below.refl _ _), hj.plain (Below.refl _ _) (by decide)⟩
      | 1, ho =>
        cases ho
        intro V aa w1 hV hdep hval hj hsm hr
        have e0 : aa.tmps.getD 0 undef = .pointer (some ⟨U, 0, none⟩) := hsm 0 (by decide)
        rw [Array.getD_eq_getD_getElem?] at e0
        unfold Oper.wp
        simp only [execOp, Act.eval, Array.getD_eq_getD_getElem?, e0]
        go_simp
        exact ⟨_, rfl, rfl, up_below (Below.refl _ _), hj.plain (Below.refl _ _) (by decide)⟩
      | 2, ho =>
        cases ho
        intro V aa w1 hV hdep hval hj hsm hr
        have e0 : aa.tmps.getD 0 undef = .pointer (some ⟨U, 0, none⟩) := hsm 0 (by decide)
        rw [Array.getD_eq_getD_getElem?] at e0
        unfold Oper.wp
        simp only [execOp, Act.eval, Array.getD_eq_getD_getElem?, e0]
        go_simp
        exact ⟨_, rfl, rfl, up_below (Below.refl _ _), hj.plain (Below.refl _ _) (by decide)⟩
      | 3, ho =>
        cases ho
        intro V aa w1 hV hdep hval hj hsm hr
        have e36 : aa.tmps.getD 36 undef = .pointer (some ⟨U, 0, none⟩) := hr 36 (by decide) (by apply Array.mem_toList_iff.1; repeat (first | exact List.Mem.head _ | apply List.Mem.tail))
        rw [Array.getD_eq_getD_getElem?] at e36
        unfold Oper.wp
        simp only [execOp, Act.eval, Array.getD_eq_getD_getElem?, e36]
        go_simp
        exact ⟨_, rfl, rfl, up_below (Below.refl _ _), hj.plain (Below.refl _ _) (by decide)⟩
      | 4, ho =>
        cases ho
        intro V aa w1 hV hdep hval hj hsm hr
        have e37 : aa.tmps.getD 37 undef = .pointer (some ⟨U, 0, none⟩) := hr 37 (by decide) (by apply Array.mem_toList_iff.1; repeat (first | exact List.Mem.head _ | apply List.Mem.tail))
        rw [Array.getD_eq_getD_getElem?] at e37
        unfold Oper.wp
        simp only [execOp, Act.eval, Array.getD_eq_getD_getElem?, e37]
        go_simp
        exact ⟨_, rfl, rfl, up_below (Below.refl _ _), hj.plain (Below.refl _ _) (by decide)⟩
      | 5, ho =>
        cases ho
        intro V aa w1 hV hdep hval hj hsm hr
        have e38 : aa.tmps.getD 38 undef = .pointer (some ⟨U, 1, none⟩) := hr 38 (by decide) (by apply Array.mem_toList_iff.1; repeat (first | exact List.Mem.head _ | apply List.Mem.tail))
        obtain ⟨x, y, hbU, hx, hy⟩ := hj.tab
        have hn : V 17 = none := hj.not17 hV
        have c1 : w1.cell? ⟨U, 1, none⟩ = some (.slice A2 ls.length c2) := by
          have e : w1.cell? ⟨U, 1, none⟩ = some x := hbU.cell 1
          rw [e, hx.1 hn]
        rw [Array.getD_eq_getD_getElem?] at e38
        unfold Oper.wp
        simp only [execOp, Act.eval, Array.getD_eq_getD_getElem?, e38]
        go_simp
        exact ⟨_, rfl, rfl, up_below (Below.refl _ _), hj.plain (Below.refl _ _) (by decide)⟩
      | 6, ho =>
        cases ho
        intro V aa w1 hV hdep hval hj hsm hr
        have e2 : aa.tmps.getD 2 undef = .bool off := hsm 2 (by decide)
        rw [Array.getD_eq_getD_getElem?] at e2
        unfold Oper.wp
        simp only [execOp, Act.eval, Array.getD_eq_getD_getElem?, e2]
        go_simp
        exact ⟨_, rfl, rfl, up_below (Below.refl _ _), hj.plain (Below.refl _ _) (by decide)⟩
      | 7, ho =>
        cases ho
        intro V aa w1 hV hdep hval hj hsm hr
        have e40 : aa.tmps.getD 40 undef = .bool off := hr 40 (by decide) (by apply Array.mem_toList_iff.1; repeat (first | exact List.Mem.head _ | apply List.Mem.tail))
        rw [Array.getD_eq_getD_getElem?] at e40
        have hw1 := hj.size
        unfold Oper.wp
        simp only [execOp, Act.eval, Array.getD_eq_getD_getElem?, e40]
        go_simp
        exact ⟨_, rfl, ⟨w1.heap.size, rfl, hw1, Blk.new w1 4 _⟩, up_below ((Below.refl _ _).alloc (Nat.le_refl _) _), hj.plain ((Below.refl _ _).alloc (Nat.le_refl _) _) (by decide)⟩
      | 8, ho =>
        cases ho
        intro V aa w1 hV hdep hval hj hsm hr
        have e39 : aa.tmps.getD 39 undef = .slice A2 ls.length c2 := hr 39 (by decide) (by apply Array.mem_toList_iff.1; repeat (first | exact List.Mem.head _ | apply List.Mem.tail))
        have e41 : ∃ b, aa.tmps.getD 41 undef = .slice (some ⟨b, 0, none⟩) 1 1 ∧ w.heap.size ≤ b ∧ Blk w1 b 4 #[.bool off] := hr 41 (by decide) (by apply Array.mem_toList_iff.1; repeat (first | exact List.Mem.head _ | apply List.Mem.tail))
        obtain ⟨b, e41', hb, hbb⟩ := e41
        have ho1 := hj.row8.1 hV
        have hd : (V 5).isSome = true := hdep ⟨5, Ground.data⟩ (by simp) (by decide)
        have hrd : Reads w1 w1.heap.size 1 (some ⟨b, 0, none⟩) 1 [.bool off] := ⟨rfl, fun _ => ⟨_, rfl, hbb.lt, fun j u hu => by rw [add_lit, hbb.cell]; simpa using hu⟩⟩
        obtain ⟨i0, hi0, hz0, hz1, hz2⟩ := HJ.out
        obtain ⟨v', w'', hrun, hown', hgb, _⟩ := run_append_any (P := Try.prog) w1 B 28 28 4 i0 _ 1 1 Try.underlying28 hi0 hz0 hz1 hz2 (by rfl) (by omega) _ _ _ ho1 w1.heap.size (some ⟨b, 0, none⟩) 1 1 _ hrd (by intro u hu; simp only [List.mem_cons, List.not_mem_nil, or_false] at hu; rw [hu]; rfl) (by have := HLT.out; unfold maxLen; omega) (by have := HLT.out; omega) (by have := hj.size; omega)
        obtain ⟨a', c', rfl⟩ := own_form hown'
        exact Lib.wp_append_run w1 (.tmp 39) (.tmp 41) 28 28 rfl _ _ e39 e41' _ w'' hrun ⟨_, rfl, fun t ht => by cases ht; exact ⟨a', c', rfl⟩, up_grown hgb (fun k e => lowO k e), hj.approw8 hV hd ho1 hown' hgb⟩
      | 9, ho =>
        cases ho
        intro V aa w1 hV hdep hval hj hsm hr
        have e0 : aa.tmps.getD 0 undef = .pointer (some ⟨U, 0, none⟩) := hsm 0 (by decide)
        rw [Array.getD_eq_getD_getElem?] at e0
        unfold Oper.wp
        simp only [execOp, Act.eval, Array.getD_eq_getD_getElem?, e0]
        go_simp
        exact ⟨_, rfl, rfl, up_below (Below.refl _ _), hj.plain (Below.refl _ _) (by decide)⟩
      | 10, ho =>
        cases ho
        intro V aa w1 hV hdep hval hj hsm hr
        have e43 : aa.tmps.getD 43 undef = .pointer (some ⟨U, 0, none⟩) := hr 43 (by decide) (by apply Array.mem_toList_iff.1; repeat (first | exact List.Mem.head _ | apply List.Mem.tail))
        rw [Array.getD_eq_getD_getElem?] at e43
        unfold Oper.wp
        simp only [execOp, Act.eval, Array.getD_eq_getD_getElem?, e43]
        go_simp
        exact ⟨_, rfl, rfl, up_below (Below.refl _ _), hj.plain (Below.refl _ _) (by decide)⟩
      | 11, ho =>
        cases ho
        intro V aa w1 hV hdep hval hj hsm hr
        have e44 : aa.tmps.getD 44 undef = .pointer (some ⟨U, 0, none⟩) := hr 44 (by decide) (by apply Array.mem_toList_iff.1; repeat (first | exact List.Mem.head _ | apply List.Mem.tail))
        rw [Array.getD_eq_getD_getElem?] at e44
        unfold Oper.wp
        simp only [execOp, Act.eval, Array.getD_eq_getD_getElem?, e44]
        go_simp
        exact ⟨_, rfl, rfl, up_below (Below.refl _ _), hj.plain (Below.refl _ _) (by decide)⟩
      | 12, ho =>
        cases ho
        intro V aa w1 hV hdep hval hj hsm hr
        have e45 : aa.tmps.getD 45 undef = .pointer (some ⟨U, 2, none⟩) := hr 45 (by decide) (by apply Array.mem_toList_iff.1; repeat (first | exact List.Mem.head _ | apply List.Mem.tail))
        obtain ⟨x, y, hbU, hx, hy⟩ := hj.tab
        have hn : V 20 = none := hj.not20 hV
        have c1 : w1.cell? ⟨U, 2, none⟩ = some (.slice A3 ls.length c3) := by
          have e : w1.cell? ⟨U, 2, none⟩ = some y := hbU.cell 2
          rw [e, hy.1 hn]
        rw [Array.getD_eq_getD_getElem?] at e45
        unfold Oper.wp
        simp only [execOp, Act.eval, Array.getD_eq_getD_getElem?, e45]
        go_simp
        exact ⟨_, rfl, rfl, up_below (Below.refl _ _), hj.plain (Below.refl _ _) (by decide)⟩
      | 13, ho =>
        cases ho
        intro V aa w1 hV hdep hval hj hsm hr
        have hw1 := hj.size
        unfold Oper.wp
        simp only [execOp, Act.eval, Array.getD_eq_getD_getElem?]
        go_simp
        exact ⟨_, rfl, ⟨w1.heap.size, rfl, hw1, Blk.new w1 3 _⟩, up_below ((Below.refl _ _).alloc (Nat.le_refl _) _), hj.plain ((Below.refl _ _).alloc (Nat.le_refl _) _) (by decide)⟩
      | 14, ho =>
        cases ho
        intro V aa w1 hV hdep hval hj hsm hr
        have e46 : aa.tmps.getD 46 undef = .slice A3 ls.length c3 := hr 46 (by decide) (by apply Array.mem_toList_iff.1; repeat (first | exact List.Mem.head _ | apply List.Mem.tail))
        have e47 : ∃ b, aa.tmps.getD 47 undef = .slice (some ⟨b, 0, none⟩) 1 1 ∧ w.heap.size ≤ b ∧ Blk w1 b 3 #[.int .i64 0] := hr 47 (by decide) (by apply Array.mem_toList_iff.1; repeat (first | exact List.Mem.head _ | apply List.Mem.tail))
        obtain ⟨b, e47', hb, hbb⟩ := e47
        have ho1 := hj.row14.1 hV
        have hd : (V 12).isSome = true := hdep ⟨12, Ground.data⟩ (by simp) (by decide)
        have hrd : Reads w1 w1.heap.size 1 (some ⟨b, 0, none⟩) 1 [.int .i64 0] := ⟨rfl, fun _ => ⟨_, rfl, hbb.lt, fun j u hu => by rw [add_lit, hbb.cell]; simpa using hu⟩⟩
        obtain ⟨i0, hi0, hz0, hz1, hz2⟩ := HK.out
        obtain ⟨v', w'', hrun, hown', hgb, _⟩ := run_append_any (P := Try.prog) w1 B 29 29 3 i0 _ 1 8 Try.underlying29 hi0 hz0 hz1 hz2 (by rfl) (by omega) _ _ _ ho1 w1.heap.size (some ⟨b, 0, none⟩) 1 1 _ hrd (by intro u hu; simp only [List.mem_cons, List.not_mem_nil, or_false] at hu; rw [hu]; rfl) (by have := HLT.out; unfold maxLen; omega) (by have := HLT.out; omega) (by have := hj.size; omega)
        obtain ⟨a', c', rfl⟩ := own_form hown'
        exact Lib.wp_append_run w1 (.tmp 46) (.tmp 47) 29 29 rfl _ _ e46 e47' _ w'' hrun ⟨_, rfl, fun t ht => by cases ht; exact ⟨a', c', rfl⟩, up_grown hgb (fun k e => lowT k e), hj.approw14 hV hd ho1 hown' hgb⟩
      | 15, ho =>
        cases ho
        intro V aa w1 hV hdep hval hj hsm hr
        have e34 : aa.tmps.getD 34 undef = .pointer (some ⟨U, 0, none⟩) := hr 34 (by decide) (by apply Array.mem_toList_iff.1; repeat (first | exact List.Mem.head _ | apply List.Mem.tail))
        rw [Array.getD_eq_getD_getElem?] at e34
        unfold Oper.wp
        simp only [execOp, Act.eval, Array.getD_eq_getD_getElem?, e34]
        go_simp
        exact ⟨_, rfl, rfl, up_below (Below.refl _ _), hj.plain (Below.refl _ _) (by decide)⟩
      | 16, ho =>
        cases ho
        intro V aa w1 hV hdep hval hj hsm hr
        have e49 : aa.tmps.getD 49 undef = .pointer (some ⟨U, 0, none⟩) := hr 49 (by decide) (by apply Array.mem_toList_iff.1; repeat (first | exact List.Mem.head _ | apply List.Mem.tail))
        rw [Array.getD_eq_getD_getElem?] at e49
        unfold Oper.wp
        simp only [execOp, Act.eval, Array.getD_eq_getD_getElem?, e49]
        go_simp
        exact ⟨_, rfl, rfl, up_below (Below.refl _ _), hj.plain (Below.refl _ _) (by decide)⟩
      | 17, ho =>
        cases ho
        intro V aa w1 hV hdep hval hj hsm hr
        have e50 : aa.tmps.getD 50 undef = .pointer (some ⟨U, 1, none⟩) := hr 50 (by decide) (by apply Array.mem_toList_iff.1; repeat (first | exact List.Mem.head _ | apply List.Mem.tail))
        have e42 : ∃ a c, aa.tmps.getD 42 undef = .slice a (ls.length + 1) c := hr 42 (by decide) (by apply Array.mem_toList_iff.1; repeat (first | exact List.Mem.head _ | apply List.Mem.tail))
        obtain ⟨a', c', e42'⟩ := e42
        have hd : V 8 = some (.slice a' (ls.length + 1) c') := by
          have h1 := hval 8 _ 42 rfl rfl (hdep ⟨8, Ground.data⟩ (by simp) (by decide))
          rw [h1]
          exact congrArg some e42'
        obtain ⟨x, y, hbU, hx, hy⟩ := hj.tab
        have c1 : ∃ v, w1.cell? ⟨U, 1, none⟩ = some v := ⟨_, hbU.cell 1⟩
        obtain ⟨v1, c1⟩ := c1
        have f1 := hbU.frozen 1
        rw [Array.getD_eq_getD_getElem?] at e50 e42'
        unfold Oper.wp
        simp only [execOp, Act.eval, Array.getD_eq_getD_getElem?, e50, e42']
        go_simp
        exact ⟨up_set hUlt, hj.st17 hV hd hUlt hBT⟩
      | 18, ho =>
        cases ho
        intro V aa w1 hV hdep hval hj hsm hr
        have e35 : aa.tmps.getD 35 undef = .pointer (some ⟨U, 0, none⟩) := hr 35 (by decide) (by apply Array.mem_toList_iff.1; repeat (first | exact List.Mem.head _ | apply List.Mem.tail))
        rw [Array.getD_eq_getD_getElem?] at e35
        unfold Oper.wp
        simp only [execOp, Act.eval, Array.getD_eq_getD_getElem?, e35]
        go_simp
        exact ⟨_, rfl, rfl, up_below (Below.refl _ _), hj.plain (Below.refl _ _) (by decide)⟩
      | 19, ho =>
        cases ho
        intro V aa w1 hV hdep hval hj hsm hr
        have e51 : aa.tmps.getD 51 undef = .pointer (some ⟨U, 0, none⟩) := hr 51 (by decide) (by apply Array.mem_toList_iff.1; repeat (first | exact List.Mem.head _ | apply List.Mem.tail))
        rw [Array.getD_eq_getD_getElem?] at e51
        unfold Oper.wp
        simp only [execOp, Act.eval, Array.getD_eq_getD_getElem?, e51]
        go_simp
        exact ⟨_, rfl, rfl, up_below (Below.refl _ _), hj.plain (Below.refl _ _) (by decide)⟩
      | 20, ho =>
        cases ho
        intro V aa w1 hV hdep hval hj hsm hr
        have e52 : aa.tmps.getD 52 undef = .pointer (some ⟨U, 2, none⟩) := hr 52 (by decide) (by apply Array.mem_toList_iff.1; repeat (first | exact List.Mem.head _ | apply List.Mem.tail))
        have e48 : ∃ a c, aa.tmps.getD 48 undef = .slice a (ls.length + 1) c := hr 48 (by decide) (by apply Array.mem_toList_iff.1; repeat (first | exact List.Mem.head _ | apply List.Mem.tail))
        obtain ⟨a', c', e48'⟩ := e48
        have hd : V 14 = some (.slice a' (ls.length + 1) c') := by
          have h1 := hval 14 _ 48 rfl rfl (hdep ⟨14, Ground.data⟩ (by simp) (by decide))
          rw [h1]
          exact congrArg some e48'
        obtain ⟨x, y, hbU, hx, hy⟩ := hj.tab
        have c1 : ∃ v, w1.cell? ⟨U, 2, none⟩ = some v := ⟨_, hbU.cell 2⟩
        obtain ⟨v1, c1⟩ := c1
        have f1 := hbU.frozen 2
        rw [Array.getD_eq_getD_getElem?] at e52 e48'
        unfold Oper.wp
        simp only [execOp, Act.eval, Array.getD_eq_getD_getElem?, e52, e48']
        go_simp
        exact ⟨up_set hUlt, hj.st20 hV hd hUlt hBT⟩
      | i + 21, ho => cases ho
  case step =>
    intro o ho
    simp only [List.take, List.mem_cons, List.not_mem_nil, or_false] at ho
    rcases ho with rfl | rfl | rfl | rfl | rfl | rfl | rfl | rfl | rfl | rfl | rfl | rfl | rfl | rfl | rfl | rfl | rfl | rfl
    · refine ⟨fun h => absurd h (by decide), fun _ b => stepJ_of hKB hJB fun a w1 hk hj hsm hr => ?_⟩
      have e0 : a.tmps.getD 0 undef = .pointer (some ⟨U, 0, none⟩) := hsm 0 (by decide)
      rw [Array.getD_eq_getD_getElem?] at e0
      unfold Oper.wp
      simp only [execOp, Act.eval, Array.getD_eq_getD_getElem?, e0]
      go_simp
      exact ⟨_, rfl, rfl, Below.refl _ _⟩
    · refine ⟨fun h => absurd h (by decide), fun _ b => stepJ_of hKB hJB fun a w1 hk hj hsm hr => ?_⟩
      have e0 : a.tmps.getD 0 undef = .pointer (some ⟨U, 0, none⟩) := hsm 0 (by decide)
      rw [Array.getD_eq_getD_getElem?] at e0
      unfold Oper.wp
      simp only [execOp, Act.eval, Array.getD_eq_getD_getElem?, e0]
      go_simp
      exact ⟨_, rfl, rfl, Below.refl _ _⟩
    · refine ⟨fun h => absurd h (by decide), fun _ b => stepJ_of hKB hJB fun a w1 hk hj hsm hr => ?_⟩
      have e17 : a.tmps.getD 17 undef = .pointer (some ⟨U, 0, none⟩) := hr 17 (by decide) (by apply Array.mem_toList_iff.1; repeat (first | exact List.Mem.head _ | apply List.Mem.tail))
      rw [Array.getD_eq_getD_getElem?] at e17
      unfold Oper.wp
      simp only [execOp, Act.eval, Array.getD_eq_getD_getElem?, e17]
      go_simp
      exact ⟨_, rfl, rfl, Below.refl _ _⟩
    · refine ⟨fun h => absurd h (by decide), fun _ b => stepJ_of hKB hJB fun a w1 hk hj hsm hr => ?_⟩
      have e18 : a.tmps.getD 18 undef = .pointer (some ⟨U, 0, none⟩) := hr 18 (by decide) (by apply Array.mem_toList_iff.1; repeat (first | exact List.Mem.head _ | apply List.Mem.tail))
      rw [Array.getD_eq_getD_getElem?] at e18
      unfold Oper.wp
      simp only [execOp, Act.eval, Array.getD_eq_getD_getElem?, e18]
      go_simp
      exact ⟨_, rfl, rfl, Below.refl _ _⟩
    · refine ⟨fun h => absurd h (by decide), fun _ b => stepJ_of hKB hJB fun a w1 hk hj hsm hr => ?_⟩
      have e19 : a.tmps.getD 19 undef = .pointer (some ⟨U, 0, none⟩) := hr 19 (by decide) (by apply Array.mem_toList_iff.1; repeat (first | exact List.Mem.head _ | apply List.Mem.tail))
      have u0 : w1.cell? ⟨U, 0, none⟩ = some (.slice Av ls.length cv) := (HT2.out.grown hk farU).cell 0
      rw [Array.getD_eq_getD_getElem?] at e19
      unfold Oper.wp
      simp only [execOp, Act.eval, Array.getD_eq_getD_getElem?, e19]
      go_simp
      exact ⟨_, rfl, rfl, Below.refl _ _⟩
    · refine ⟨fun h => absurd h (by decide), fun _ b => stepJ_of hKB hJB fun a w1 hk hj hsm hr => ?_⟩
      have e4 : a.tmps.getD 4 undef = .pointer (some ⟨w.heap.size, 0, none⟩) := hsm 4 (by decide)
      rw [Array.getD_eq_getD_getElem?] at e4
      unfold Oper.wp
      simp only [execOp, Act.eval, Array.getD_eq_getD_getElem?, e4]
      go_simp
      exact ⟨_, rfl, rfl, Below.refl _ _⟩
    · refine ⟨fun h => absurd h (by decide), fun _ b => stepJ_of hKB hJB fun a w1 hk hj hsm hr => ?_⟩
      have e21 : a.tmps.getD 21 undef = .pointer (some ⟨w.heap.size, 0, none⟩) := hr 21 (by decide) (by apply Array.mem_toList_iff.1; repeat (first | exact List.Mem.head _ | apply List.Mem.tail))
      have b9 := BX2.out.grown hk (far (Nat.le_refl _))
      have c0 : w1.cell? ⟨w.heap.size, 0, none⟩ = some (.int .i64 r) := b9.cell 0
      rw [Array.getD_eq_getD_getElem?] at e21
      unfold Oper.wp
      simp only [execOp, Act.eval, Array.getD_eq_getD_getElem?, e21]
      go_simp
      exact ⟨_, rfl, rfl, Below.refl _ _⟩
    · refine ⟨fun h => absurd h (by decide), fun _ b => stepJ_of hKB hJB fun a w1 hk hj hsm hr => ?_⟩
      have e4 : a.tmps.getD 4 undef = .pointer (some ⟨w.heap.size, 0, none⟩) := hsm 4 (by decide)
      rw [Array.getD_eq_getD_getElem?] at e4
      unfold Oper.wp
      simp only [execOp, Act.eval, Array.getD_eq_getD_getElem?, e4]
      go_simp
      exact ⟨_, rfl, rfl, Below.refl _ _⟩
    · refine ⟨fun h => absurd h (by decide), fun _ b => stepJ_of hKB hJB fun a w1 hk hj hsm hr => ?_⟩
      have e23 : a.tmps.getD 23 undef = .pointer (some ⟨w.heap.size, 1, none⟩) := hr 23 (by decide) (by apply Array.mem_toList_iff.1; repeat (first | exact List.Mem.head _ | apply List.Mem.tail))
      have b9 := BX2.out.grown hk (far (Nat.le_refl _))
      have c0 : w1.cell? ⟨w.heap.size, 1, none⟩ = some (.int .i64 c) := b9.cell 1
      rw [Array.getD_eq_getD_getElem?] at e23
      unfold Oper.wp
      simp only [execOp, Act.eval, Array.getD_eq_getD_getElem?, e23]
      go_simp
      exact ⟨_, rfl, rfl, Below.refl _ _⟩
    · refine ⟨fun h => absurd h (by decide), fun _ b => stepJ_of hKB hJB fun a w1 hk hj hsm hr => ?_⟩
      have hw1 : w.heap.size ≤ w1.heap.size := by have := hk.size; omega
      unfold Oper.wp
      simp only [execOp, Act.eval, Array.getD_eq_getD_getElem?]
      go_simp
      exact ⟨_, rfl, ⟨w1.heap.size, rfl, hw1, Blk.new w1 43 #[]⟩, (Below.refl _ _).alloc (Nat.le_refl _) _⟩
    · refine ⟨fun h => absurd h (by decide), fun _ b => stepJ_of hKB hJB fun a w1 hk hj hsm hr => ?_⟩
      have e4 : a.tmps.getD 4 undef = .pointer (some ⟨w.heap.size, 0, none⟩) := hsm 4 (by decide)
      rw [Array.getD_eq_getD_getElem?] at e4
      unfold Oper.wp
      simp only [execOp, Act.eval, Array.getD_eq_getD_getElem?, e4]
      go_simp
      exact ⟨_, rfl, rfl, Below.refl _ _⟩
    · refine ⟨fun h => absurd h (by decide), fun _ b => stepJ_of hKB hJB fun a w1 hk hj hsm hr => ?_⟩
      have e26 : a.tmps.getD 26 undef = .pointer (some ⟨w.heap.size, 2, none⟩) := hr 26 (by decide) (by apply Array.mem_toList_iff.1; repeat (first | exact List.Mem.head _ | apply List.Mem.tail))
      have b9 := BX2.out.grown hk (far (Nat.le_refl _))
      have c0 : w1.cell? ⟨w.heap.size, 2, none⟩ = some (.slice A vs.length cap) := b9.cell 2
      rw [Array.getD_eq_getD_getElem?] at e26
      unfold Oper.wp
      simp only [execOp, Act.eval, Array.getD_eq_getD_getElem?, e26]
      go_simp
      exact ⟨_, rfl, rfl, Below.refl _ _⟩
    · refine ⟨fun h => absurd h (by decide), fun _ b => stepJ_of hKB hJB fun a w1 hk hj hsm hr => ?_⟩
      have e25 : ∃ g, a.tmps.getD 25 undef = .slice (some ⟨g, 0, none⟩) 0 0 ∧ w.heap.size ≤ g ∧ Blk w1 g 43 #[] := hr 25 (by decide) (by apply Array.mem_toList_iff.1; repeat (first | exact List.Mem.head _ | apply List.Mem.tail))
      have e27 : a.tmps.getD 27 undef = .slice A vs.length cap := hr 27 (by decide) (by apply Array.mem_toList_iff.1; repeat (first | exact List.Mem.head _ | apply List.Mem.tail))
      obtain ⟨g, e25', hg, hbg⟩ := e25
      obtain ⟨i0, hi0, hz0, hz1, hz2⟩ := HC.out
      have hcr := HCR.out w1 ((HB2.out.mono hBw).grown hk (Nat.le_trans hBw HB2.out.size) low)
      obtain ⟨v', w'', hrun, hown', hbw⟩ := run_append_empty (P := Try.prog) w1 w.heap.size 32 32 43 _ _ 5 40 Try.underlying32 hi0 hz0 hz1 hz2 (by rfl) g hbg hg (by have := hk.size; omega) w1.heap.size A vs.length cap (chs vs) (crow_reads hcr) (chs_one' vs) (by have := HL.out; omega) (by omega)
      obtain ⟨g', cc, rfl, hg', hv'⟩ := VRow.of_own hown' HM.out.1 HV.out
      exact Lib.wp_append_run w1 (.tmp 25) (.tmp 27) 32 32 rfl _ _ e25' e27 _ w'' hrun ⟨_, rfl, fun t ht => by cases ht; exact ⟨g', cc, rfl, hg', hv'⟩, hbw⟩
    · refine ⟨fun h => absurd h (by decide), fun _ b => stepJ_of hKB hJB fun a w1 hk hj hsm hr => ?_⟩
      have e22 : a.tmps.getD 22 undef = .int .i64 r := hr 22 (by decide) (by apply Array.mem_toList_iff.1; repeat (first | exact List.Mem.head _ | apply List.Mem.tail))
      have e24 : a.tmps.getD 24 undef = .int .i64 c := hr 24 (by decide) (by apply Array.mem_toList_iff.1; repeat (first | exact List.Mem.head _ | apply List.Mem.tail))
      have e28 : ∃ g cc, a.tmps.getD 28 undef = .slice (some ⟨g, 0, none⟩) vs.length cc ∧ w.heap.size ≤ g ∧ VRow w1 (some ⟨g, 0, none⟩) vs := hr 28 (by decide) (by apply Array.mem_toList_iff.1; repeat (first | exact List.Mem.head _ | apply List.Mem.tail))
      obtain ⟨g, cc, e28', hg, hbg⟩ := e28
      rw [Array.getD_eq_getD_getElem?] at e28'
      rw [Array.getD_eq_getD_getElem?] at e22
      rw [Array.getD_eq_getD_getElem?] at e24
      unfold Oper.wp
      simp only [execOp, Act.eval, Array.getD_eq_getD_getElem?, e22, e24, e28']
      go_simp
      exact ⟨_, rfl, ⟨g, cc, rfl, hg, hbg⟩, Below.refl _ _⟩
    · refine ⟨fun h => absurd h (by decide), fun _ b => stepJ_of hKB hJB fun a w1 hk hj hsm hr => ?_⟩
      have e29 : ∃ g cc, a.tmps.getD 29 undef = .agg #[.int .i64 r, .int .i64 c, .slice (some ⟨g, 0, none⟩) vs.length cc] ∧ w.heap.size ≤ g ∧ VRow w1 (some ⟨g, 0, none⟩) vs := hr 29 (by decide) (by apply Array.mem_toList_iff.1; repeat (first | exact List.Mem.head _ | apply List.Mem.tail))
      obtain ⟨g, cc, e29', hg, hbg⟩ := e29
      rw [Array.getD_eq_getD_getElem?] at e29'
      have hw1 : w.heap.size ≤ w1.heap.size := by have := hk.size; omega
      unfold Oper.wp
      simp only [execOp, Act.eval, Array.getD_eq_getD_getElem?, e29']
      go_simp
      exact ⟨_, rfl, ⟨w1.heap.size, g, cc, rfl, hw1, Blk.new w1 34 _, hg, vb hbg ((Below.refl _ _).alloc (Nat.le_refl _) _)⟩, (Below.refl _ _).alloc (Nat.le_refl _) _⟩
    · refine ⟨fun _ a w1 hk hj hsm hr => ?_, fun h => absurd rfl h⟩
      have e20 : a.tmps.getD 20 undef = .slice Av ls.length cv := hr 20 (by decide) (by apply Array.mem_toList_iff.1; repeat (first | exact List.Mem.head _ | apply List.Mem.tail))
      have e30 : ∃ b g cc, a.tmps.getD 30 undef = .slice (some ⟨b, 0, none⟩) 1 1 ∧ w.heap.size ≤ b ∧ Blk w1 b 34 #[.int .i64 r, .int .i64 c, .slice (some ⟨g, 0, none⟩) vs.length cc] ∧ w.heap.size ≤ g ∧ VRow w1 (some ⟨g, 0, none⟩) vs := hr 30 (by decide) (by apply Array.mem_toList_iff.1; repeat (first | exact List.Mem.head _ | apply List.Mem.tail))
      obtain ⟨b, g, cc, e30', hb, hbb, hg, hgv⟩ := e30
      have hj : w1.ownsRow B 34 3 (.slice Av ls.length cv) ls.length (ptCs ls) := hj
      have hrd : Reads w1 w1.heap.size 3 (some ⟨b, 0, none⟩) 1 [.int .i64 r, .int .i64 c, .slice (some ⟨g, 0, none⟩) vs.length cc] := ⟨rfl, fun _ => ⟨_, rfl, hbb.lt, fun j u hu => by rw [add_lit, hbb.cell]; simpa using hu⟩⟩
      obtain ⟨i0, hi0, hz0, hz1, hz2⟩ := HP.out
      obtain ⟨v', w'', hrun, hown', hgb, _⟩ := run_append_any (P := Try.prog) w1 B 27 27 34 i0 _ 3 40 Try.underlying27 hi0 hz0 hz1 hz2 (by rfl) (by omega) _ _ _ hj w1.heap.size (some ⟨b, 0, none⟩) 1 1 _ hrd (by intro u hu; simp only [List.mem_cons, List.not_mem_nil, or_false] at hu; rcases hu with rfl | rfl | rfl <;> rfl) (by have := HLT.out; unfold maxLen; omega) (by have := HLT.out; omega) (by have := hk.size; have := HB2.out.size; omega)
      rw [hrow] at hgb
      exact Lib.wp_append_run w1 (.tmp 20) (.tmp 30) 27 27 rfl _ _ e20 e30' v' w'' hrun ⟨v', rfl, fun t ht => by cases ht; exact True.intro, hgb, g, cc, hg, hgv.grown hgb (far hg), hown'⟩
    · refine ⟨fun h => absurd h (by decide), fun _ b => stepJ_of hKB hJB fun a w1 hk hj hsm hr => ?_⟩
      have e16 : a.tmps.getD 16 undef = .pointer (some ⟨U, 0, none⟩) := hr 16 (by decide) (by apply Array.mem_toList_iff.1; repeat (first | exact List.Mem.head _ | apply List.Mem.tail))
      rw [Array.getD_eq_getD_getElem?] at e16
      unfold Oper.wp
      simp only [execOp, Act.eval, Array.getD_eq_getD_getElem?, e16]
      go_simp
      exact ⟨_, rfl, rfl, Below.refl _ _⟩
    · refine ⟨fun h => absurd h (by decide), fun _ b => stepJ_of hKB hJB fun a w1 hk hj hsm hr => ?_⟩
      have e32 : a.tmps.getD 32 undef = .pointer (some ⟨U, 0, none⟩) := hr 32 (by decide) (by apply Array.mem_toList_iff.1; repeat (first | exact List.Mem.head _ | apply List.Mem.tail))
      rw [Array.getD_eq_getD_getElem?] at e32
      unfold Oper.wp
      simp only [execOp, Act.eval, Array.getD_eq_getD_getElem?, e32]
      go_simp
      exact ⟨_, rfl, rfl, Below.refl _ _⟩
end Pth
end Go.Proofs.Ytobccgjonpcpgaa
