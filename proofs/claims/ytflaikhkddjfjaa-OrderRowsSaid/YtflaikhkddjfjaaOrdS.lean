/- The program's plan: its contract. -/
import Derived.Test.YtflaikhkddjfjaaRows
import Derived.Test.YtflaikhkddjfjaaOrdR
import Derived.Test.YtflaikhkddjfjaaRelT
import Derived.Test.YtflaikhkddjfjaaRelH
import Derived.Lib.AppendZeros
import Derived.LoopN
namespace Go.Proofs.Ytflaikhkddjfjaa
open Go Go.RowKit
set_option linter.unusedVariables false
set_option linter.unusedSimpArgs false
namespace Ord
/-- How many each event waits for, of the first i. -/
def wtF (es : List Eo) : Nat → List Int
  | 0 => List.replicate es.length 0
  | i + 1 => (wtF es i).set i ((es.getD i default).ah.length : Int)
theorem wtF_len (es : List Eo) : ∀ i, (wtF es i).length = es.length
  | 0 => by simp [wtF]
  | i + 1 => by rw [wtF, List.length_set]; exact wtF_len es i
/-- Those behind an event, of the first i; each as often as it waits for it. -/
def behF (es : List Eo) : Nat → Nat → List Nat
  | 0, _ => []
  | i + 1, m => behF es i m ++ ((es.getD i default).ah.filter (· = m)).map fun _ => i
def behJ (es : List Eo) (i j m : Nat) : List Nat := behF es i m ++ (((es.getD i default).ah.take j).filter (· = m)).map fun _ => i
theorem PlA.start {w : World} {p g1 g2 B len : Nat} (hl : len ≤ maxLen) (h1 : B ≤ g1) (h2 : B ≤ g2) (hb : Blk w p 90 #[.slice (some ⟨g1, 0, none⟩) len len, .slice (some ⟨g2, 0, none⟩) len len]) (ha : Blk w g1 3 (madeCells #[Value.int .i64 0] len)) (hc : Blk w g2 28 (madeCells #[Value.slice none 0 0] len)) :
    PlA w p g1 g2 B len (List.replicate len 0) (List.replicate len default) := by
  have hd : ∀ m, m < len → (List.replicate len (default : Bh)).getD m default = default := fun m hm => by
    rw [List.getD_eq_getElem?_getD, List.getElem?_replicate, if_pos hm]
    rfl
  refine ⟨hb, ⟨_, h1, ha, size_madeCells _ _, by simp, hl, ?_⟩, by simp, ⟨_, h2, hc, size_madeCells _ _, fun m hm => ?_⟩, by simp, fun m hm => ?_, fun m hm => ?_, fun m m' hm hm' _ g hg => ?_⟩
  · rw [toList_replicate_ints]
    simp [ints]
  · rw [← Array.getElem?_toList, toList_madeCells_one, List.getElem?_replicate, if_pos hm, hd m hm]
    rfl
  · rw [hd m hm]
    exact ⟨rfl, .inl ⟨rfl, rfl⟩⟩
  · rw [hd m hm]
    intro h
    cases h
  · rw [hd m hm] at hg
    cases hg
theorem PlA.push {w w9 : World} {p g1 g2 B len k : Nat} {wt : List Int} {bh : List Bh} {a9 : Option Addr} {c9 x : Nat} (h : PlA w p g1 g2 B len wt bh) (hk : k < len) (hg : w.grownBy w9 (bh.getD k default).v.ownBlock)
    (hown : w9.ownsRow B 3 1 (.slice a9 ((bh.getD k default).l.length + 1) c9) ((bh.getD k default).l.length + 1) (ints (natI (bh.getD k default).l) ++ [.int .i64 x]))
    (hob : (Value.slice a9 ((bh.getD k default).l.length + 1) c9).ownBlock = (bh.getD k default).v.ownBlock ∨ ∃ b, (Value.slice a9 ((bh.getD k default).l.length + 1) c9).ownBlock = some b ∧ w.heap.size ≤ b) :
    PlA (w9.setCell ⟨g2, k, none⟩ (.slice a9 ((bh.getD k default).l.length + 1) c9)) p g1 g2 B len wt (bh.set k ⟨a9, c9, (bh.getD k default).l ++ [x]⟩) := by
  obtain ⟨cs, h0, h1, h2, h3⟩ := h.tab
  have kk : KeepsBut [3] w w9 := grown_keeps (h.rows k hk) hg
  have c9b : Blk w9 g2 28 cs := KeepsBut.blk kk h1 (by decide)
  have k2 := keeps_set (p := ⟨g2, k, none⟩) c9b (.slice a9 ((bh.getD k default).l.length + 1) c9)
  have gd : ∀ m, (bh.set k (⟨a9, c9, (bh.getD k default).l ++ [x]⟩ : Bh)).getD m default = if k = m then (⟨a9, c9, (bh.getD k default).l ++ [x]⟩ : Bh) else bh.getD m default := fun m => by
    rw [List.getD_eq_getElem?_getD, List.getElem?_set]
    by_cases e : k = m
    · rw [if_pos e, if_pos e, if_pos (by rw [h.bl]; exact hk)]
      rfl
    · rw [if_neg e, if_neg e, List.getD_eq_getElem?_getD]
  have vnew : (⟨a9, c9, (bh.getD k default).l ++ [x]⟩ : Bh).v = .slice a9 ((bh.getD k default).l.length + 1) c9 := by
    unfold Bh.v
    rw [List.length_append, List.length_singleton]
  obtain ⟨cur, hw0, hwb, hwr⟩ := h.waits
  have waits9 : w9.heap[g1]? = w.heap[g1]? := hg.block g1 hwb.lt (fun e => h.out k hk e.symm)
  have rowlt : ∀ m, m < len → ∀ g, (bh.getD m default).v.ownBlock = some g → g < w.heap.size := fun m hm g e => (own_block (h.rows m hm) e).2.1
  have rows9 : ∀ m, m < len → k ≠ m → w9.ownsRow B 3 1 (bh.getD m default).v (bh.getD m default).l.length (ints (natI (bh.getD m default).l)) := fun m hm hne => by
    have hr := h.rows m hm
    refine ⟨hr.1, hr.2.imp id ?_⟩
    rintro ⟨g, cap, cur, hv, hge, hh, r⟩
    refine ⟨g, cap, cur, hv, hge, ?_, r⟩
    rw [hg.block g (Array.getElem?_eq_some_iff.1 hh).1 (fun e => h.apart k m hk hm hne g e.symm (by rw [hv]; rfl))]
    exact hh
  have nb : ∀ g, (Value.slice a9 ((bh.getD k default).l.length + 1) c9).ownBlock = some g → (bh.getD k default).v.ownBlock = some g ∨ w.heap.size ≤ g := fun g e => by
    rcases hob with hob | ⟨b, hb1, hb2⟩
    · exact .inl (hob ▸ e)
    · rw [hb1] at e
      injection e with e
      exact .inr (by omega)
  refine ⟨KeepsBut.blk k2 (KeepsBut.blk kk h.box (by decide)) (by decide), ?_, h.wl, ⟨_, h0, c9b.set_ k _, by simpa using h2, fun m hm => ?_⟩, by rw [List.length_set]; exact h.bl, fun m hm => ?_, fun m hm => ?_, fun m m' hm hm' hne g hgm => ?_⟩
  · have hgne : g1 ≠ g2 := fun e => by
      subst e
      have := hwb.ne_ h1 (by decide)
      exact this rfl
    exact ⟨cur, hw0, (Below.heap_setCell w9 ⟨g2, k, none⟩ _ g1 hgne).trans (waits9.trans hwb), hwr⟩
  · rw [gd, Array.getElem?_setIfInBounds]
    by_cases e : k = m
    · rw [if_pos e, if_pos e, if_pos (by omega), vnew]
    · rw [if_neg e, if_neg e]
      exact h3 m hm
  · rw [gd]
    by_cases e : k = m
    · rw [if_pos e, vnew]
      show World.ownsRow _ B 3 1 _ ((bh.getD k default).l ++ [x]).length (ints (natI ((bh.getD k default).l ++ [x])))
      rw [List.length_append, List.length_singleton, natI_app, ints_app]
      exact KeepsBut.own k2 hown (by decide)
    · rw [if_neg e]
      exact KeepsBut.own k2 (rows9 m hm e) (by decide)
  · rw [gd]
    by_cases e : k = m
    · rw [if_pos e, vnew]
      intro h9
      rcases nb _ h9 with h9 | h9
      · exact h.out k hk h9
      · have := hwb.lt
        omega
    · rw [if_neg e]
      exact h.out m hm
  · rw [gd] at hgm ⊢
    by_cases e : k = m
    · rw [if_pos e, vnew] at hgm
      have e' : k ≠ m' := fun e' => hne (e ▸ e')
      rw [if_neg e']
      intro h9
      rcases nb _ hgm with h8 | h8
      · exact h.apart k m' hk hm' e' g h8 h9
      · have := rowlt m' hm' g h9
        omega
    · rw [if_neg e] at hgm
      by_cases e' : k = m'
      · rw [if_pos e', vnew]
        intro h9
        rcases nb _ h9 with h8 | h8
        · exact h.apart m k hm hk (fun h => e h.symm) g hgm h8
        · have := rowlt m hm g hgm
          omega
      · rw [if_neg e']
        exact h.apart m m' hm hm' hne g hgm
theorem behF_len {es : List Eo} {len m : Nat} (h : ∀ i, i < len → (es.getD i default).ah.length ≤ 30) : ∀ i, i ≤ len → (behF es i m).length ≤ 30 * i
  | 0, _ => by simp [behF]
  | i + 1, hi => by
    have h1 := behF_len h (m := m) i (by omega)
    have h2 := h i (by omega)
    have h3 := List.length_filter_le (fun x => decide (x = m)) (es.getD i default).ah
    rw [behF, List.length_append, List.length_map]
    omega
theorem behJ_len {es : List Eo} {len m i : Nat} (h : ∀ i, i < len → (es.getD i default).ah.length ≤ 30) (hi : i < len) (j : Nat) : (behJ es i j m).length ≤ 30 * i + 30 := by
  have h1 := behF_len h (m := m) i (by omega)
  have h2 := h i hi
  have h3 := List.length_filter_le (fun x => decide (x = m)) ((es.getD i default).ah.take j)
  have h4 : ((es.getD i default).ah.take j).length ≤ (es.getD i default).ah.length := by rw [List.length_take]; omega
  unfold behJ
  rw [List.length_append, List.length_map]
  omega
theorem getD_setB (l : List Bh) (k m : Nat) (x : Bh) (hk : k < l.length) : (l.set k x).getD m default = if k = m then x else l.getD m default := by
  rw [List.getD_eq_getElem?_getD, List.getElem?_set]
  by_cases e : k = m
  · rw [if_pos e, if_pos e, if_pos hk]
    rfl
  · rw [if_neg e, if_neg e, List.getD_eq_getElem?_getD]
theorem slrow_info : (Try.prog.info? 28).map (fun i => (i.zero, i.size, i.bytes)) = some (some (.slice none 0 0), 1, 24) := by kernel_rfl
def planPost (len : Nat) (es : List Eo) (w : World) (e : Ending) (w' : World) : Prop := ∃ p g1 g2 bh, e = .returned (.pointer (some ⟨p, 0, none⟩)) ∧ PlA w' p g1 g2 w.heap.size len (wtF es len) bh ∧ (∀ m, m < len → (bh.getD m default).l = behF es len m) ∧ w.heap.size ≤ p ∧ Below w.heap.size w w'
def PC (w wx : World) (len : Nat) (u : Value) : Prop := ∃ g g', u = .agg #[.slice (some ⟨g, 0, none⟩) len len, .slice (some ⟨g', 0, none⟩) len len] ∧ w.heap.size ≤ g ∧ w.heap.size ≤ g' ∧ Blk wx g 3 (madeCells #[Value.int .i64 0] len) ∧ Blk wx g' 28 (madeCells #[Value.slice none 0 0] len)
def PB (w wx : World) (len : Nat) (u : Value) : Prop := ∃ p g g', u = .pointer (some ⟨p, 0, none⟩) ∧ w.heap.size ≤ p ∧ Blk wx p 90 #[.slice (some ⟨g, 0, none⟩) len len, .slice (some ⟨g', 0, none⟩) len len] ∧ w.heap.size ≤ g ∧ w.heap.size ≤ g' ∧ Blk wx g 3 (madeCells #[Value.int .i64 0] len) ∧ Blk wx g' 28 (madeCells #[Value.slice none 0 0] len)
set_option maxRecDepth 100000 in
set_option maxHeartbeats 8000000 in
theorem plan_c (o D Rb len : Nat) (es : List Eo) (w : World) (ho : OrA w o D Rb es) (hel : es.length = len) (hle : len ≤ 120) (hal : ∀ i, i < len → ∀ k ∈ (es.getD i default).ah, k < i) (hah : ∀ i, i < len → (es.getD i default).ah.length ≤ 30) :
    Calls Try.prog 31 #[.pointer (some ⟨o, 0, none⟩)] w fun e w' => planPost len es w e w' := by
  have MC := hide (fun (w' : World) (hb : Below w.heap.size w w') => by
    have := Many_c o D Rb es w' (ho.below hb)
    rw [hel] at this
    exact this)
  have HMK1 := hide (fun W => run_make_row' (P := Try.prog) 28 3 (.int .i64 0) 8 Try.underlying28 int_info rfl .i64 .i64 len (by omega) (by omega) W)
  have HMK2 := hide (fun W => run_make_row' (P := Try.prog) 88 28 (.slice none 0 0) 24 Try.underlying88 slrow_info rfl .i64 .i64 len (by omega) (by omega) W)
  have HO := hide ho
  have HAL := hide hal
  have HAH := hide hah
  have HEL := hide hel
  clear ho hal hah
  go_enter Try.func31, Try.ntmps31
  go_wp2_with fail
  let R : Nat → Value → World → Prop := fun sl u wx => match sl with
    | 8 | 11 => u = .pointer (some ⟨o, 0, none⟩)
    | 9 | 12 => u = .int .i64 len
    | 10 => ∃ g, u = .slice (some ⟨g, 0, none⟩) len len ∧ w.heap.size ≤ g ∧ Blk wx g 3 (madeCells #[Value.int .i64 0] len)
    | 13 => ∃ g, u = .slice (some ⟨g, 0, none⟩) len len ∧ w.heap.size ≤ g ∧ Blk wx g 28 (madeCells #[Value.slice none 0 0] len)
    | 14 => PC w wx len u
    | 15 | 3 => PB w wx len u
    | _ => True
  refine wp_region_rel R (by kernel_rfl) (by kernel_rfl) (by kernel_rfl) ?mono1 ?step1 ?fin1
  case mono1 =>
    intro sl u w1 w2 h hb
    match sl with
    | 10 | 13 =>
      obtain ⟨g, h1, h2, h3⟩ := h
      exact ⟨g, h1, h2, h3.below hb h3.lt⟩
    | 14 =>
      obtain ⟨g, g', h1, h2, h3, h4, h5⟩ := h
      exact ⟨g, g', h1, h2, h3, h4.below hb h4.lt, h5.below hb h5.lt⟩
    | 15 | 3 =>
      obtain ⟨p, g, g', h1, h2, h3, h4, h5, h6, h7⟩ := h
      exact ⟨p, g, g', h1, h2, h3.below hb h3.lt, h4, h5, h6.below hb h6.lt, h7.below hb h7.lt⟩
    | 0 | 1 | 2 | 4 | 5 | 6 | 7 | 8 | 9 | 11 | 12 | _ + 16 => exact h
  case step1 =>
    intro op hop
    simp only [List.mem_cons, List.not_mem_nil, or_false] at hop
    rcases hop with rfl | rfl | rfl | rfl | rfl | rfl | rfl | rfl | rfl
    · intro a w1 hb hs hr
      have e0 : a.tmps.getD 0 undef = .pointer (some ⟨o, 0, none⟩) := hs 0 (by decide)
      rw [Array.getD_eq_getD_getElem?] at e0
      unfold Oper.wp
      simp only [execOp, Act.eval, Array.getD_eq_getD_getElem?, e0]
      go_simp
      exact ⟨_, rfl, rfl, Below.refl _ _⟩
    · intro a w1 hb hs hr
      have e8 : a.tmps.getD 8 undef = .pointer (some ⟨o, 0, none⟩) := hr 8 (by decide) (by apply Array.mem_toList_iff.1; repeat (first | exact List.Mem.head _ | apply List.Mem.tail))
      rw [Array.getD_eq_getD_getElem?] at e8
      unfold Oper.wp
      simp only [execOp, Act.eval, Array.getD_eq_getD_getElem?, e8]
      go_simp
      refine (MC.out w1 hb).mono ?_
      rintro e w' ⟨rfl, rfl⟩
      exact ⟨_, rfl, rfl, Below.refl _ _⟩
    · intro a w1 hb hs hr
      have e9 : a.tmps.getD 9 undef = .int .i64 len := hr 9 (by decide) (by apply Array.mem_toList_iff.1; repeat (first | exact List.Mem.head _ | apply List.Mem.tail))
      have hmk := HMK1.out w1
      rw [Array.getD_eq_getD_getElem?] at e9
      unfold Oper.wp
      simp only [execOp, Act.eval, Array.getD_eq_getD_getElem?, e9]
      go_simp
      exact ⟨_, rfl, ⟨w1.heap.size, rfl, hb.size, Blk.new w1 3 _⟩, (Below.refl _ _).alloc (Nat.le_refl _) _⟩
    · intro a w1 hb hs hr
      have e0 : a.tmps.getD 0 undef = .pointer (some ⟨o, 0, none⟩) := hs 0 (by decide)
      rw [Array.getD_eq_getD_getElem?] at e0
      unfold Oper.wp
      simp only [execOp, Act.eval, Array.getD_eq_getD_getElem?, e0]
      go_simp
      exact ⟨_, rfl, rfl, Below.refl _ _⟩
    · intro a w1 hb hs hr
      have e11 : a.tmps.getD 11 undef = .pointer (some ⟨o, 0, none⟩) := hr 11 (by decide) (by apply Array.mem_toList_iff.1; repeat (first | exact List.Mem.head _ | apply List.Mem.tail))
      rw [Array.getD_eq_getD_getElem?] at e11
      unfold Oper.wp
      simp only [execOp, Act.eval, Array.getD_eq_getD_getElem?, e11]
      go_simp
      refine (MC.out w1 hb).mono ?_
      rintro e w' ⟨rfl, rfl⟩
      exact ⟨_, rfl, rfl, Below.refl _ _⟩
    · intro a w1 hb hs hr
      have e12 : a.tmps.getD 12 undef = .int .i64 len := hr 12 (by decide) (by apply Array.mem_toList_iff.1; repeat (first | exact List.Mem.head _ | apply List.Mem.tail))
      have hmk := HMK2.out w1
      rw [Array.getD_eq_getD_getElem?] at e12
      unfold Oper.wp
      simp only [execOp, Act.eval, Array.getD_eq_getD_getElem?, e12]
      go_simp
      exact ⟨_, rfl, ⟨w1.heap.size, rfl, hb.size, Blk.new w1 28 _⟩, (Below.refl _ _).alloc (Nat.le_refl _) _⟩
    · intro a w1 hb hs hr
      have e10 : ∃ g, a.tmps.getD 10 undef = .slice (some ⟨g, 0, none⟩) len len ∧ w.heap.size ≤ g ∧ Blk w1 g 3 (madeCells #[Value.int .i64 0] len) := hr 10 (by decide) (by apply Array.mem_toList_iff.1; repeat (first | exact List.Mem.head _ | apply List.Mem.tail))
      have e13 : ∃ g, a.tmps.getD 13 undef = .slice (some ⟨g, 0, none⟩) len len ∧ w.heap.size ≤ g ∧ Blk w1 g 28 (madeCells #[Value.slice none 0 0] len) := hr 13 (by decide) (by apply Array.mem_toList_iff.1; repeat (first | exact List.Mem.head _ | apply List.Mem.tail))
      obtain ⟨g, e10', hg, hbg⟩ := e10
      obtain ⟨g', e13', hg', hbg'⟩ := e13
      rw [Array.getD_eq_getD_getElem?] at e10' e13'
      unfold Oper.wp
      simp only [execOp, Act.eval, Array.getD_eq_getD_getElem?, e10', e13']
      go_simp
      exact ⟨_, rfl, ⟨g, g', rfl, hg, hg', hbg, hbg'⟩, Below.refl _ _⟩
    · intro a w1 hb hs hr
      have e14 : PC w w1 len (a.tmps.getD 14 undef) := hr 14 (by decide) (by apply Array.mem_toList_iff.1; repeat (first | exact List.Mem.head _ | apply List.Mem.tail))
      obtain ⟨g, g', e14', hg, hg', hbg, hbg'⟩ := e14
      rw [Array.getD_eq_getD_getElem?] at e14'
      unfold Oper.wp
      simp only [execOp, Act.eval, Array.getD_eq_getD_getElem?, e14']
      go_simp
      have hbn := (Below.refl w1.heap.size w1).alloc (Nat.le_refl _) (.cells #[.slice (some ⟨g, 0, none⟩) len len, .slice (some ⟨g', 0, none⟩) len len] 90)
      exact ⟨_, rfl, ⟨w1.heap.size, g, g', rfl, hb.size, Blk.new w1 90 _, hg, hg', hbg.below hbn hbg.lt, hbg'.below hbn hbg'.lt⟩, hbn⟩
    · intro a w1 hb hs hr
      have e15 : PB w w1 len (a.tmps.getD 15 undef) := hr 15 (by decide) (by apply Array.mem_toList_iff.1; repeat (first | exact List.Mem.head _ | apply List.Mem.tail))
      obtain ⟨p, g, g', e15', h1, h2, h3, h4, h5, h6⟩ := e15
      rw [Array.getD_eq_getD_getElem?] at e15'
      unfold Oper.wp
      simp only [execOp, Act.eval, Array.getD_eq_getD_getElem?, e15']
      go_simp
      exact ⟨_, rfl, ⟨p, g, g', rfl, h1, h2, h3, h4, h5, h6⟩, Below.refl _ _⟩
  case fin1 =>
    intro ff w9 hb hr
    obtain ⟨p, g1, g2, e3, hp, hbk, h1, h2, hw, hc⟩ := hr 3 (by decide)
    have hbk : Blk w9 p 90 #[.slice (some ⟨g1, 0, none⟩) len len, .slice (some ⟨g2, 0, none⟩) len len] := hbk
    have PL := hide (PlA.start (by unfold maxLen; omega) h1 h2 hbk hw hc)
    have HB := hide hb
    have HP := hide hp
    obtain ⟨V, vc, bo, _, _⟩ := HO.out.open_
    have bo0 : w.cell? ⟨o, 0, none⟩ = some (.slice V es.length vc) := bo.cell 0
    rw [hel] at bo0
    have hol := bo.lt
    have HO0W := hide (fun (w' : World) (hb : Below w.heap.size w w') => (hb.cell (p := ⟨o, 0, none⟩) hol).trans bo0)
    have o0 := HO0W.out w9 hb
    clear hr hb hbk hp h1 h2 hw hc bo bo0 hol
    simp only [putAll, slotsOf, List.take, List.drop, List.filterMap_cons, List.filterMap_nil, List.foldl_cons, List.foldl_nil, Act.put, e3]
    simp only [List.setIfInBounds_toArray, List.set_cons_succ, List.set_cons_zero]
    go_wp2_with fail
    go_loopw [24] (fun vi wr => ∃ (i : Nat) (bh : List Bh), i ≤ len ∧ vi = .int .i64 i ∧ Hid (PlA wr p g1 g2 w.heap.size len (wtF es i) bh) ∧ Hid (∀ m, m < len → (bh.getD m default).l = behF es i m) ∧ Hid (Below w.heap.size w wr) ∧ Hid (wr.cell? ⟨o, 0, none⟩ = some (.slice V len vc))) (fun vi _ => len - (intOf vi).toNat)
    case atStart => exact ⟨0, _, by omega, rfl, hide (by have := PL.out; rw [show wtF es 0 = List.replicate len 0 by rw [wtF, HEL.out]]; exact this), hide (fun m hm => by rw [List.getD_eq_getElem?_getD, List.getElem?_replicate, if_pos hm]; rfl), HB, hide o0⟩
    case round =>
      clear PL HB o0
      obtain ⟨i, bh, hi, rfl, PL, HBH, HB, HO0⟩ := hrel
      rename World => W1
      by_cases hlt : i < len
      rotate_left
      · have hltI : ¬ (i : Int) < (len : Int) := by omega
        obtain rfl : i = len := by omega
        go_wp2_with fail
        go_ret
        exact ⟨p, g1, g2, bh, rfl, PL.out, HBH.out, HP.out, HB.out⟩
      have hltI : (i : Int) < (len : Int) := by omega
      have hie : i < es.length := by rw [HEL.out]; exact hlt
      have o1 := HO.out.below HB.out
      obtain ⟨V', vc', bo, _, hc⟩ := o1.open_
      have o0 : W1.cell? ⟨o, 0, none⟩ = some (.slice V' es.length vc') := bo.cell 0
      have oe := HO0.out.symm.trans o0
      injection oe with oe
      injection oe with oe1 oe2 oe3
      subst oe1 oe3
      clear oe2
      obtain ⟨gE, rfl, c0, c1, c2, c3⟩ := hc i hie
      have hal := HAL.out i hlt
      have hah := HAH.out i hlt
      have ra := (HO.out.rows i hie).1
      obtain ⟨ev, hev⟩ : ∃ x, es.getD i default = x := ⟨_, rfl⟩
      have hev2 : es[i] = ev := by rw [← hev, getD_getE hie]
      rw [hev2] at c0 c1 c2 c3 ra
      rw [hev] at hal hah
      have WT := hide (show wtF es (i + 1) = (wtF es i).set i (ev.ah.length : Int) by rw [← hev]; rfl)
      have BJ0 := hide (fun m => show behJ es i 0 m = behF es i m by simp [behJ])
      have BJ1 := hide (fun m => show behJ es i ev.ah.length m = behF es (i + 1) m by
        unfold behJ
        rw [hev, List.take_length, behF, hev])
      have BJS := hide (fun (j : Nat) (hj : j < ev.ah.length) (m : Nat) => show behJ es i (j + 1) m = behJ es i j m ++ (if ev.ah[j] = m then [i] else []) by
        unfold behJ
        rw [hev, List.take_succ_eq_append_getElem hj, List.filter_append, List.map_append, ← List.append_assoc]
        by_cases e : ev.ah[j] = m
        · rw [if_pos e]; simp [e]
        · rw [if_neg e]; simp [e])
      clear hev hev2
      obtain ⟨r, A1, ac, ah, C1, cc1, ck, dd⟩ := ev
      simp only at c0 c1 c2 c3 ra hal hah WT BJ1 BJS
      -- the event's box
      obtain ⟨bx, hbx⟩ := box4 W1 64 (.int .i64 0) (.slice none 0 0) (.slice none 0 0) (.int .i64 0) (.int .i64 r) (.slice A1 ah.length ac) (.slice C1 ck.length cc1) (.int .i64 dd)
      have bz := Blk.new W1 64 #[.int .i64 0, .slice none 0 0, .slice none 0 0, .int .i64 0]
      obtain ⟨wa, hwa⟩ : ∃ x, W1.alloc (.cells #[.int .i64 0, .slice none 0 0, .slice none 0 0, .int .i64 0] 64) = x := ⟨_, rfl⟩
      rw [hwa] at bx hbx bz
      have z0 : wa.cell? ⟨W1.heap.size, 0, none⟩ = some (.int .i64 0) := bz.cell 0
      have z1 : wa.cell? ⟨W1.heap.size, 1, none⟩ = some (.slice none 0 0) := bz.cell 1
      have z2 : wa.cell? ⟨W1.heap.size, 2, none⟩ = some (.slice none 0 0) := bz.cell 2
      have z3 : wa.cell? ⟨W1.heap.size, 3, none⟩ = some (.int .i64 0) := bz.cell 3
      have f0 := bz.frozen 0
      have f1 := bz.frozen 1
      have f2 := bz.frozen 2
      have f3 := bz.frozen 3
      obtain ⟨wb, hwb⟩ : ∃ x, (((wa.setCell ⟨W1.heap.size, 0, none⟩ (.int .i64 r)).setCell ⟨W1.heap.size, 1, none⟩ (.slice A1 ah.length ac)).setCell ⟨W1.heap.size, 2, none⟩ (.slice C1 ck.length cc1)).setCell ⟨W1.heap.size, 3, none⟩ (.int .i64 dd) = x := ⟨_, rfl⟩
      rw [hwb] at bx hbx
      have BX := hide bx
      have PLb := hide (PL.out.below hbx)
      have HBb := hide (HB.out.trans (hbx.mono HB.out.size))
      have RAW := hide (own_more ra (Nat.zero_le Rb))
      have HOS := hide bo.lt
      have o0' := HO0.out
      clear bx hbx bz ra o1 hc bo o0 hie
      go_wp2_with fail
      clear z0 z1 z2 z3 f0 f1 f2 f3 hwa hwb c0 c1 c2 c3 o0'
      -- the wait
      have q0 : wb.cell? ⟨p, 0, none⟩ = some (.slice (some ⟨g1, 0, none⟩) len len) := PLb.out.box.cell 0
      have x0 := PLb.out.waits.cell i (by rw [PLb.out.wl]; exact hlt)
      have xf := PLb.out.waits.frozen i
      have bx1 : wb.cell? ⟨W1.heap.size, 1, none⟩ = some (.slice A1 ah.length ac) := BX.out.cell 1
      have hg1 := PLb.out.waits.lt
      let R7 : Nat → Value → World → Prop := fun sl u _ => match sl with
        | 29 | 30 | 31 => u = .pointer (some ⟨p, 0, none⟩)
        | 32 => u = .slice (some ⟨g1, 0, none⟩) len len
        | 33 => u = .int .i64 i
        | 34 => u = .pointer (some ⟨W1.heap.size, 1, none⟩)
        | 35 => u = .slice A1 ah.length ac
        | 36 => u = .int .i64 ah.length
        | 37 => u = .pointer (some ⟨g1, i, none⟩)
        | _ => True
      refine wp_region_relT 9 R7 (by kernel_rfl) (by kernel_rfl) (by kernel_rfl) (by kernel_rfl) (fun t v wx wy h _ => h) ?step7 ?fin7
      case step7 =>
        intro op hop
        simp only [List.take, List.mem_cons, List.not_mem_nil, or_false] at hop
        rcases hop with rfl | rfl | rfl | rfl | rfl | rfl | rfl | rfl | rfl
        · intro a w1 hb hs hr
          have e3 : a.tmps.getD 3 undef = .pointer (some ⟨p, 0, none⟩) := hs 3 (by decide)
          rw [Array.getD_eq_getD_getElem?] at e3
          unfold Oper.wp
          simp only [execOp, Act.eval, Array.getD_eq_getD_getElem?, e3]
          go_simp
          exact ⟨_, rfl, rfl, Below.refl _ _⟩
        · intro a w1 hb hs hr
          have e29 : a.tmps.getD 29 undef = .pointer (some ⟨p, 0, none⟩) := hr 29 (by decide) (by apply Array.mem_toList_iff.1; repeat (first | exact List.Mem.head _ | apply List.Mem.tail))
          rw [Array.getD_eq_getD_getElem?] at e29
          unfold Oper.wp
          simp only [execOp, Act.eval, Array.getD_eq_getD_getElem?, e29]
          go_simp
          exact ⟨_, rfl, rfl, Below.refl _ _⟩
        · intro a w1 hb hs hr
          have e30 : a.tmps.getD 30 undef = .pointer (some ⟨p, 0, none⟩) := hr 30 (by decide) (by apply Array.mem_toList_iff.1; repeat (first | exact List.Mem.head _ | apply List.Mem.tail))
          rw [Array.getD_eq_getD_getElem?] at e30
          unfold Oper.wp
          simp only [execOp, Act.eval, Array.getD_eq_getD_getElem?, e30]
          go_simp
          exact ⟨_, rfl, rfl, Below.refl _ _⟩
        · intro a w1 hb hs hr
          have e31 : a.tmps.getD 31 undef = .pointer (some ⟨p, 0, none⟩) := hr 31 (by decide) (by apply Array.mem_toList_iff.1; repeat (first | exact List.Mem.head _ | apply List.Mem.tail))
          have cc0 := (hb.cell (p := ⟨_, _, none⟩) (block_lt_of_cell q0)).trans q0
          rw [Array.getD_eq_getD_getElem?] at e31
          unfold Oper.wp
          simp only [execOp, Act.eval, Array.getD_eq_getD_getElem?, e31]
          go_simp
          exact ⟨_, rfl, rfl, Below.refl _ _⟩
        · intro a w1 hb hs hr
          have e4 : a.tmps.getD 4 undef = .int .i64 i := hs 4 (by decide)
          rw [Array.getD_eq_getD_getElem?] at e4
          unfold Oper.wp
          simp only [execOp, Act.eval, Array.getD_eq_getD_getElem?, e4]
          go_simp
          exact ⟨_, rfl, rfl, Below.refl _ _⟩
        · intro a w1 hb hs hr
          have e5 : a.tmps.getD 5 undef = .pointer (some ⟨W1.heap.size, 0, none⟩) := hs 5 (by decide)
          rw [Array.getD_eq_getD_getElem?] at e5
          unfold Oper.wp
          simp only [execOp, Act.eval, Array.getD_eq_getD_getElem?, e5]
          go_simp
          exact ⟨_, rfl, rfl, Below.refl _ _⟩
        · intro a w1 hb hs hr
          have e34 : a.tmps.getD 34 undef = .pointer (some ⟨W1.heap.size, 1, none⟩) := hr 34 (by decide) (by apply Array.mem_toList_iff.1; repeat (first | exact List.Mem.head _ | apply List.Mem.tail))
          have cc0 := (hb.cell (p := ⟨_, _, none⟩) (block_lt_of_cell bx1)).trans bx1
          rw [Array.getD_eq_getD_getElem?] at e34
          unfold Oper.wp
          simp only [execOp, Act.eval, Array.getD_eq_getD_getElem?, e34]
          go_simp
          exact ⟨_, rfl, rfl, Below.refl _ _⟩
        · intro a w1 hb hs hr
          have e35 : a.tmps.getD 35 undef = .slice A1 ah.length ac := hr 35 (by decide) (by apply Array.mem_toList_iff.1; repeat (first | exact List.Mem.head _ | apply List.Mem.tail))
          rw [Array.getD_eq_getD_getElem?] at e35
          unfold Oper.wp
          simp only [execOp, Act.eval, Array.getD_eq_getD_getElem?, e35]
          go_simp
          exact ⟨_, rfl, rfl, Below.refl _ _⟩
        · intro a w1 hb hs hr
          have e32 : a.tmps.getD 32 undef = .slice (some ⟨g1, 0, none⟩) len len := hr 32 (by decide) (by apply Array.mem_toList_iff.1; repeat (first | exact List.Mem.head _ | apply List.Mem.tail))
          have e33 : a.tmps.getD 33 undef = .int .i64 i := hr 33 (by decide) (by apply Array.mem_toList_iff.1; repeat (first | exact List.Mem.head _ | apply List.Mem.tail))
          rw [Array.getD_eq_getD_getElem?] at e32
          rw [Array.getD_eq_getD_getElem?] at e33
          unfold Oper.wp
          simp only [execOp, Act.eval, Array.getD_eq_getD_getElem?, e32, e33]
          go_simp
          exact ⟨_, rfl, rfl, Below.refl _ _⟩
      case fin7 =>
        intro ff w2 hb hr
        have e36 : ff 36 = .int .i64 ah.length := hr 36 (by decide)
        have e37 : ff 37 = .pointer (some ⟨g1, i, none⟩) := hr 37 (by decide)
        have P2 := PLb.out.below hb
        have y0 := P2.waits.cell i (by rw [P2.wl]; exact hlt)
        have yf := P2.waits.frozen i
        have P3 := P2.set_ i (ah.length : Int)
        rw [← WT.out] at P3
        have P3h := hide P3
        have hgB := P2.waits.ge
        have hgw : g1 ≠ W1.heap.size := fun e => (by
          obtain ⟨_, _, hbg, _⟩ := PLb.out.waits
          exact (hbg.ne_ BX.out (by decide)) e)
        have hgo : g1 ≠ o := fun e => by have := HOS.out; have := HO.out.lt; omega
        have HB3 := hide ((HBb.out.trans (hb.mono HBb.out.size)).setCell (p := ⟨g1, i, none⟩) hgB (.int .i64 (ah.length : Int)))
        have BX3 := hide ((BX.out.below hb BX.out.lt).far (p := ⟨g1, i, none⟩) (fun e => hgw e.symm) (.int .i64 (ah.length : Int)))
        have bx31 := BX3.out.cell 1
        simp only [List.getElem?_toArray, List.getElem?_cons_succ, List.getElem?_cons_zero] at bx31
        clear P2 P3 hr hgB hgw hgo q0 x0 xf bx1
        simp only [putAll, slotsOf, List.take, List.drop, List.filterMap_cons, List.filterMap_nil, List.foldl_cons, List.foldl_nil, Act.put, e36, e37]
        simp only [List.setIfInBounds_toArray, List.set_cons_succ, List.set_cons_zero]
        obtain ⟨W3, hW3⟩ : ∃ x, w2.setCell ⟨g1, i, none⟩ (.int .i64 (ah.length : Int)) = x := ⟨_, rfl⟩
        rw [hW3] at P3h HB3 BX3 bx31
        clear hb
        go_wp2_with fail
        clear y0 yf hW3 bx31
        go_loopw [41] (fun vj ws => ∃ (j : Nat) (bh : List Bh), j ≤ ah.length ∧ vj = .int .i64 j ∧ Hid (PlA ws p g1 g2 w.heap.size len (wtF es (i + 1)) bh) ∧ Hid (∀ m, m < len → (bh.getD m default).l = behJ es i j m) ∧ Hid (Below w.heap.size w ws)) (fun vj _ => ah.length - (intOf vj).toNat)
        case atStart => exact ⟨0, bh, by omega, rfl, P3h, hide (fun m hm => (HBH.out m hm).trans (BJ0.out m).symm), HB3⟩
        case round =>
          clear P3h HB3 BX3 HBb PLb BX hg1 HBH PL HB HO0
          obtain ⟨j, bh, hj, rfl, PL, HBJ, HB⟩ := hrel
          rename World => W4
          by_cases hjl : j < ah.length
          rotate_left
          · have hjlI : ¬ (j : Int) < (ah.length : Int) := by omega
            obtain rfl : j = ah.length := by omega
            have HBH2 := hide (fun m (hm : m < len) => (HBJ.out m hm).trans (BJ1.out m))
            have HO02 := hide (HO0W.out W4 HB.out)
            go_wp2_with fail
            go_roundw
            case rel => exact ⟨i + 1, bh, by omega, by go_num, PL, HBH2, HB, HO02⟩
            case measure => simp [intOf] <;> omega
          have hjlI : (j : Int) < (ah.length : Int) := by omega
          obtain ⟨ga, rfl, _, ca⟩ := row_at (own_belowR RAW.out HB.out) (show j < (natI ah).length by rw [natI_len]; exact hjl) (natI_len ah)
          have eg : (natI ah).getD j 0 = (ah[j] : Int) := by
            rw [List.getD_eq_getElem?_getD, natI, List.getElem?_map, List.getElem?_eq_getElem hjl]
            rfl
          rw [eg] at ca
          have hki : ah[j] < i := hal _ (List.getElem_mem hjl)
          have BJK := hide (BJS.out j hjl)
          clear eg
          generalize ah[j] = k at *
          have hkl : k < len := by omega
          have hklI : (k : Int) < (len : Int) := by omega
          have HLE2 : Hid ((bh.getD k default).l.length ≤ 4000) := hide (by
            rw [HBJ.out k hkl]
            have := behJ_len (m := k) HAH.out hlt j
            omega)
          have PUSH := hide (fun w9 a9 c9 => PlA.push (w9 := w9) (a9 := a9) (c9 := c9) (x := i) PL.out hkl)
          have RK := PL.out.rows k hkl
          have ck := PL.out.cell hkl
          have HSETL := hide (fun (x : Bh) (hx : x.l = (bh.getD k default).l ++ [i]) (m : Nat) (hm : m < len) => show ((bh.set k x).getD m default).l = behJ es i (j + 1) m by
            rw [getD_setB _ _ _ _ (by rw [PL.out.bl]; exact hkl), BJK.out]
            by_cases e : k = m
            · subst e
              rw [if_pos rfl, if_pos rfl, hx, HBJ.out k hkl]
            · rw [if_neg e, if_neg e, HBJ.out m hm, List.append_nil])
          have q1 := PL.out.box.cell 1
          simp only [List.getElem?_toArray, List.getElem?_cons_succ, List.getElem?_cons_zero] at q1
          obtain ⟨cs2, h20, h21, h22, h23⟩ := PL.out.tab
          have neP := own_blk_ne RK PL.out.box (by decide)
          have ne2 := own_blk_ne RK h21 (by decide)
          have BOXP := hide PL.out.box
          have TAB2 := hide (And.intro h20 h21)
          generalize (bh.getD k default) = bk at *
          obtain ⟨kA, kc, kl⟩ := bk
          simp only [Bh.v] at RK ck PUSH HLE2 neP ne2 HSETL
          have RKh := hide RK
          obtain ⟨row, hrow⟩ : ∃ x, (Value.slice kA kl.length kc).ownBlock = x := ⟨_, rfl⟩
          rw [hrow] at neP ne2 PUSH
          have hlow : ∀ k', row = some k' → w.heap.size ≤ k' := fun k' e => (own_block RK (hrow.trans e)).1
          clear RK h20 h21 h22 h23
          go_wp2_with fail
          clear ca
          let K : World → World → Prop := fun a b => a.grownBy b row
          let R' : Nat → Value → World → Prop := fun sl u wx => match sl with
            | 45 | 46 | 50 | 51 => u = .pointer (some ⟨p, 0, none⟩)
            | 47 | 52 => u = .pointer (some ⟨p, 1, none⟩)
            | 48 | 53 => u = .slice (some ⟨g2, 0, none⟩) len len
            | 49 | 54 => u = .int .i64 k
            | 55 => u = .pointer (some ⟨g2, k, none⟩)
            | 56 => u = .slice kA kl.length kc
            | 57 => u = .int .i64 i
            | 58 => ∃ b, u = .slice (some ⟨b, 0, none⟩) 1 1 ∧ W4.heap.size ≤ b ∧ Blk wx b 3 #[.int .i64 i]
            | _ => True
          let J : Option Value → World → Prop := fun b wx => match b with
            | none => wx.ownsRow w.heap.size 3 1 (.slice kA kl.length kc) kl.length (ints (natI kl))
            | some u => wx.ownsRow w.heap.size 3 1 u (kl.length + 1) (ints (natI kl) ++ [.int .i64 i]) ∧ (u.ownBlock = row ∨ ∃ b, u.ownBlock = some b ∧ W4.heap.size ≤ b)
          have hKB : ∀ x y, Below x.heap.size x y → K x y := fun _ _ hb => grown_of_below hb
          have hJB : ∀ b x y, J b x → Below x.heap.size x y → J b y := fun b x y hj hb => by
            cases b with
            | none => exact own_belowR hj hb
            | some u => exact ⟨own_belowR hj.1 hb, hj.2⟩
          refine wp_region_relJ 15 59 R' K J (by kernel_rfl) (by kernel_rfl) (by kernel_rfl) (by kernel_rfl) (by kernel_rfl) (fun _ _ _ h1 h2 => gtrans h1 h2) (hKB _ _ (Below.refl _ _).drew) RKh.out.drew ?mono11 ?step11 ?fin11
          case mono11 =>
            intro sl u wx wy h hk
            match sl with
            | 58 =>
              obtain ⟨b, h1, h2, h3⟩ := h
              refine ⟨b, h1, h2, h3.grown hk fun e => ?_⟩
              obtain ⟨_, h4, _⟩ := own_block RKh.out (hrow.trans e.symm)
              omega
            | 0 | 1 | 2 | 3 | 4 | 5 | 6 | 7 | 8 | 9 | 10 | 11 | 12 | 13 | 14 | 15 | 16 | 17 | 18 | 19 | 20 | 21 | 22 | 23 | 24 | 25 | 26 | 27 | 28 | 29 | 30 | 31 | 32 | 33 | 34 | 35 | 36 | 37 | 38 | 39 | 40 | 41 | 42 | 43 | 44 | 45 | 46 | 47 | 48 | 49 | 50 | 51 | 52 | 53 | 54 | 55 | 56 | 57 | 59 | _ + 60 => exact h
          case fin11 =>
            intro ff w9 hk9 hj9 hr9
            have hown9 : w9.ownsRow w.heap.size 3 1 (ff 59) (kl.length + 1) (ints (natI kl) ++ [.int .i64 i]) := hj9.1
            have hob9 : (ff 59).ownBlock = row ∨ ∃ b, (ff 59).ownBlock = some b ∧ W4.heap.size ≤ b := hj9.2
            have e48 : ff 48 = .slice (some ⟨g2, 0, none⟩) len len := hr9 48 (by decide)
            have e49 : ff 49 = .int .i64 k := hr9 49 (by decide)
            obtain ⟨a9, c9, e59⟩ := own_form hown9
            rw [e59] at hown9 hob9
            have P9 := hide (PUSH.out w9 a9 c9 hk9 hown9 hob9)
            have t9 := TAB2.out.2.grown hk9 (Ne.symm ne2)
            have yk : w9.cell? ⟨g2, k, none⟩ = some (.slice kA kl.length kc) := by
              have := t9.cell k
              rw [this]
              have e := TAB2.out.2.cell k
              rw [ck] at e
              exact e.symm
            have yf := t9.frozen k
            have HB9 := hide ((HB.out.grown hk9 HB.out.size hlow).setCell (p := ⟨g2, k, none⟩) TAB2.out.1 (.slice a9 (kl.length + 1) c9))
            have HS9 := hide (HSETL.out ⟨a9, c9, kl ++ [i]⟩ rfl)
            clear hr9 hj9 hown9 hob9 hk9 t9 hKB hJB q1 ck PUSH
            simp only [putAll, slotsOf, List.take, List.drop, List.filterMap_cons, List.filterMap_nil, List.foldl_cons, List.foldl_nil, Act.put, e48, e49, e59]
            simp only [List.setIfInBounds_toArray, List.set_cons_succ, List.set_cons_zero]
            go_wp2_with fail
            go_roundw
            case rel => exact ⟨j + 1, _, by omega, by go_num, P9, HS9, HB9⟩
            case measure => simp [intOf] <;> omega
          case step11 =>
            intro op hop
            simp only [List.take, List.mem_cons, List.not_mem_nil, or_false] at hop
            rcases hop with rfl | rfl | rfl | rfl | rfl | rfl | rfl | rfl | rfl | rfl | rfl | rfl | rfl | rfl | rfl
            · refine ⟨fun h => absurd h (by decide), fun _ b => stepJ_of hKB hJB fun a9 w1 hk hj hsm hr => ?_⟩
              have e3 : a9.tmps.getD 3 undef = .pointer (some ⟨p, 0, none⟩) := hsm 3 (by decide)
              rw [Array.getD_eq_getD_getElem?] at e3
              unfold Oper.wp
              simp only [execOp, Act.eval, Array.getD_eq_getD_getElem?, e3]
              go_simp
              exact ⟨_, rfl, rfl, Below.refl _ _⟩
            · refine ⟨fun h => absurd h (by decide), fun _ b => stepJ_of hKB hJB fun a9 w1 hk hj hsm hr => ?_⟩
              have e45 : a9.tmps.getD 45 undef = .pointer (some ⟨p, 0, none⟩) := hr 45 (by decide) (by apply Array.mem_toList_iff.1; repeat (first | exact List.Mem.head _ | apply List.Mem.tail))
              rw [Array.getD_eq_getD_getElem?] at e45
              unfold Oper.wp
              simp only [execOp, Act.eval, Array.getD_eq_getD_getElem?, e45]
              go_simp
              exact ⟨_, rfl, rfl, Below.refl _ _⟩
            · refine ⟨fun h => absurd h (by decide), fun _ b => stepJ_of hKB hJB fun a9 w1 hk hj hsm hr => ?_⟩
              have e46 : a9.tmps.getD 46 undef = .pointer (some ⟨p, 0, none⟩) := hr 46 (by decide) (by apply Array.mem_toList_iff.1; repeat (first | exact List.Mem.head _ | apply List.Mem.tail))
              rw [Array.getD_eq_getD_getElem?] at e46
              unfold Oper.wp
              simp only [execOp, Act.eval, Array.getD_eq_getD_getElem?, e46]
              go_simp
              exact ⟨_, rfl, rfl, Below.refl _ _⟩
            · refine ⟨fun h => absurd h (by decide), fun _ b => stepJ_of hKB hJB fun a9 w1 hk hj hsm hr => ?_⟩
              have e47 : a9.tmps.getD 47 undef = .pointer (some ⟨p, 1, none⟩) := hr 47 (by decide) (by apply Array.mem_toList_iff.1; repeat (first | exact List.Mem.head _ | apply List.Mem.tail))
              have cc0 := (BOXP.out.grown hk (Ne.symm neP)).cell 1
              simp only [List.getElem?_toArray, List.getElem?_cons_succ, List.getElem?_cons_zero] at cc0
              rw [Array.getD_eq_getD_getElem?] at e47
              unfold Oper.wp
              simp only [execOp, Act.eval, Array.getD_eq_getD_getElem?, e47]
              go_simp
              exact ⟨_, rfl, rfl, Below.refl _ _⟩
            · refine ⟨fun h => absurd h (by decide), fun _ b => stepJ_of hKB hJB fun a9 w1 hk hj hsm hr => ?_⟩
              have e7 : a9.tmps.getD 7 undef = .int .i64 k := hsm 7 (by decide)
              rw [Array.getD_eq_getD_getElem?] at e7
              unfold Oper.wp
              simp only [execOp, Act.eval, Array.getD_eq_getD_getElem?, e7]
              go_simp
              exact ⟨_, rfl, rfl, Below.refl _ _⟩
            · refine ⟨fun h => absurd h (by decide), fun _ b => stepJ_of hKB hJB fun a9 w1 hk hj hsm hr => ?_⟩
              have e3 : a9.tmps.getD 3 undef = .pointer (some ⟨p, 0, none⟩) := hsm 3 (by decide)
              rw [Array.getD_eq_getD_getElem?] at e3
              unfold Oper.wp
              simp only [execOp, Act.eval, Array.getD_eq_getD_getElem?, e3]
              go_simp
              exact ⟨_, rfl, rfl, Below.refl _ _⟩
            · refine ⟨fun h => absurd h (by decide), fun _ b => stepJ_of hKB hJB fun a9 w1 hk hj hsm hr => ?_⟩
              have e50 : a9.tmps.getD 50 undef = .pointer (some ⟨p, 0, none⟩) := hr 50 (by decide) (by apply Array.mem_toList_iff.1; repeat (first | exact List.Mem.head _ | apply List.Mem.tail))
              rw [Array.getD_eq_getD_getElem?] at e50
              unfold Oper.wp
              simp only [execOp, Act.eval, Array.getD_eq_getD_getElem?, e50]
              go_simp
              exact ⟨_, rfl, rfl, Below.refl _ _⟩
            · refine ⟨fun h => absurd h (by decide), fun _ b => stepJ_of hKB hJB fun a9 w1 hk hj hsm hr => ?_⟩
              have e51 : a9.tmps.getD 51 undef = .pointer (some ⟨p, 0, none⟩) := hr 51 (by decide) (by apply Array.mem_toList_iff.1; repeat (first | exact List.Mem.head _ | apply List.Mem.tail))
              rw [Array.getD_eq_getD_getElem?] at e51
              unfold Oper.wp
              simp only [execOp, Act.eval, Array.getD_eq_getD_getElem?, e51]
              go_simp
              exact ⟨_, rfl, rfl, Below.refl _ _⟩
            · refine ⟨fun h => absurd h (by decide), fun _ b => stepJ_of hKB hJB fun a9 w1 hk hj hsm hr => ?_⟩
              have e52 : a9.tmps.getD 52 undef = .pointer (some ⟨p, 1, none⟩) := hr 52 (by decide) (by apply Array.mem_toList_iff.1; repeat (first | exact List.Mem.head _ | apply List.Mem.tail))
              have cc0 := (BOXP.out.grown hk (Ne.symm neP)).cell 1
              simp only [List.getElem?_toArray, List.getElem?_cons_succ, List.getElem?_cons_zero] at cc0
              rw [Array.getD_eq_getD_getElem?] at e52
              unfold Oper.wp
              simp only [execOp, Act.eval, Array.getD_eq_getD_getElem?, e52]
              go_simp
              exact ⟨_, rfl, rfl, Below.refl _ _⟩
            · refine ⟨fun h => absurd h (by decide), fun _ b => stepJ_of hKB hJB fun a9 w1 hk hj hsm hr => ?_⟩
              have e7 : a9.tmps.getD 7 undef = .int .i64 k := hsm 7 (by decide)
              rw [Array.getD_eq_getD_getElem?] at e7
              unfold Oper.wp
              simp only [execOp, Act.eval, Array.getD_eq_getD_getElem?, e7]
              go_simp
              exact ⟨_, rfl, rfl, Below.refl _ _⟩
            · refine ⟨fun h => absurd h (by decide), fun _ b => stepJ_of hKB hJB fun a9 w1 hk hj hsm hr => ?_⟩
              have e53 : a9.tmps.getD 53 undef = .slice (some ⟨g2, 0, none⟩) len len := hr 53 (by decide) (by apply Array.mem_toList_iff.1; repeat (first | exact List.Mem.head _ | apply List.Mem.tail))
              have e54 : a9.tmps.getD 54 undef = .int .i64 k := hr 54 (by decide) (by apply Array.mem_toList_iff.1; repeat (first | exact List.Mem.head _ | apply List.Mem.tail))
              rw [Array.getD_eq_getD_getElem?] at e53
              rw [Array.getD_eq_getD_getElem?] at e54
              unfold Oper.wp
              simp only [execOp, Act.eval, Array.getD_eq_getD_getElem?, e53, e54]
              go_simp
              exact ⟨_, rfl, rfl, Below.refl _ _⟩
            · refine ⟨fun h => absurd h (by decide), fun _ b => stepJ_of hKB hJB fun a9 w1 hk hj hsm hr => ?_⟩
              have e55 : a9.tmps.getD 55 undef = .pointer (some ⟨g2, k, none⟩) := hr 55 (by decide) (by apply Array.mem_toList_iff.1; repeat (first | exact List.Mem.head _ | apply List.Mem.tail))
              have cc0 : w1.cell? ⟨g2, k, none⟩ = some (.slice kA kl.length kc) := ((TAB2.out.2.grown hk (Ne.symm ne2)).cell k).trans ((TAB2.out.2.cell k).symm.trans ck)
              rw [Array.getD_eq_getD_getElem?] at e55
              unfold Oper.wp
              simp only [execOp, Act.eval, Array.getD_eq_getD_getElem?, e55]
              go_simp
              exact ⟨_, rfl, rfl, Below.refl _ _⟩
            · refine ⟨fun h => absurd h (by decide), fun _ b => stepJ_of hKB hJB fun a9 w1 hk hj hsm hr => ?_⟩
              have e4 : a9.tmps.getD 4 undef = .int .i64 i := hsm 4 (by decide)
              rw [Array.getD_eq_getD_getElem?] at e4
              unfold Oper.wp
              simp only [execOp, Act.eval, Array.getD_eq_getD_getElem?, e4]
              go_simp
              exact ⟨_, rfl, rfl, Below.refl _ _⟩
            · refine ⟨fun h => absurd h (by decide), fun _ b => stepJ_of hKB hJB fun a9 w1 hk hj hsm hr => ?_⟩
              have e57 : a9.tmps.getD 57 undef = .int .i64 i := hr 57 (by decide) (by apply Array.mem_toList_iff.1; repeat (first | exact List.Mem.head _ | apply List.Mem.tail))
              have hsz := hk.size
              rw [Array.getD_eq_getD_getElem?] at e57
              unfold Oper.wp
              simp only [execOp, Act.eval, Array.getD_eq_getD_getElem?, e57]
              go_simp
              exact ⟨_, rfl, ⟨w1.heap.size, rfl, hsz, Blk.new w1 3 _⟩, (Below.refl _ _).alloc (Nat.le_refl _) _⟩
            · refine ⟨fun _ a9 w1 hk hj hsm hr => ?_, fun h => absurd rfl h⟩
              have e56 : a9.tmps.getD 56 undef = .slice kA kl.length kc := hr 56 (by decide) (by apply Array.mem_toList_iff.1; repeat (first | exact List.Mem.head _ | apply List.Mem.tail))
              have e58 : ∃ b, a9.tmps.getD 58 undef = .slice (some ⟨b, 0, none⟩) 1 1 ∧ W4.heap.size ≤ b ∧ Blk w1 b 3 #[.int .i64 i] := hr 58 (by decide) (by apply Array.mem_toList_iff.1; repeat (first | exact List.Mem.head _ | apply List.Mem.tail))
              obtain ⟨b, e58', hb, hbb⟩ := e58
              have hj : w1.ownsRow w.heap.size 3 1 (.slice kA kl.length kc) kl.length (ints (natI kl)) := hj
              have hrd : Reads w1 w1.heap.size 1 (some ⟨b, 0, none⟩) 1 [.int .i64 i] := ⟨rfl, fun _ => ⟨_, rfl, hbb.lt, fun j u hu => by rw [add_lit, hbb.cell]; simpa using hu⟩⟩
              obtain ⟨i0, hi0, hz0, hz1, hz2⟩ := info_parts int_info
              have hll := HLE2.out
              obtain ⟨v', w'', hrun, hown', hgb, hob⟩ := run_append_any (P := Try.prog) w1 w.heap.size 28 28 3 i0 _ 1 8 Try.underlying28 hi0 hz0 hz1 hz2 (by rfl) (by omega) _ _ _ hj w1.heap.size (some ⟨b, 0, none⟩) 1 1 _ hrd (by intro u hu; rw [List.mem_singleton.1 hu]; rfl) (by unfold maxLen; omega) (by omega) (by have := hk.size; have := HB.out.size; omega)
              rw [hrow] at hgb hob
              exact Lib.wp_append_run w1 (.tmp 56) (.tmp 58) 28 28 rfl _ _ e56 e58' v' w'' hrun ⟨v', rfl, fun t ht => by cases ht; exact True.intro, hgb, hown', hob.imp id fun e => ⟨_, e, hk.size⟩⟩

end Ord
end Go.Proofs.Ytflaikhkddjfjaa
