/- The program's First: its contract. -/
import Derived.Test.YtflaikhkddjfjaaRows
import Derived.Test.YtflaikhkddjfjaaOrdW
import Derived.Test.YtflaikhkddjfjaaOrdU
import Derived.Test.YtflaikhkddjfjaaOrdN
import Derived.Test.YtflaikhkddjfjaaRoundQ
import Derived.Test.YtflaikhkddjfjaaRelT
import Derived.LoopN
namespace Go.Proofs.Ytflaikhkddjfjaa
open Go Go.RowKit Go.Shelf
attribute [local go_sem] Oper.semAt_some
set_option linter.unusedVariables false
set_option linter.unusedSimpArgs false
namespace Ord
/-- The row of the turns in its box. -/
structure TB (w : World) (B gb gr len : Nat) (l : List Int) : Prop where
  box : Blk w gb 28 #[.slice (some ⟨gr, 0, none⟩) len len]
  row : OwnRow w B gr len l
  ll : l.length = len
  ge : B ≤ gb
theorem TB.below {w w' : World} {B gb gr len D : Nat} {l : List Int} (h : TB w B gb gr len l) (hb : Below D w w') (h1 : gb < D) (h2 : gr < D) : TB w' B gb gr len l := ⟨h.box.below hb h1, h.row.below hb h2, h.ll, h.ge⟩
theorem TB.set_ {w : World} {B gb gr len : Nat} {l : List Int} (h : TB w B gb gr len l) (k : Nat) (x : Int) : TB (w.setCell ⟨gr, k, none⟩ (.int .i64 x)) B gb gr len (l.set k x) := by
  obtain ⟨cur, _, hb, _⟩ := h.row
  exact ⟨KeepsBut.blk (keeps_set (p := ⟨gr, k, none⟩) hb (.int .i64 x)) h.box (by decide), h.row.set_ k x, by rw [List.length_set]; exact h.ll, h.ge⟩
/-- The first k turns are laid. -/
def tnL (wl len k : Nat) : List Int := (List.range len).map fun i => if i < k then ((wl + i : Nat) : Int) else 0
theorem tnL_zero (wl len : Nat) : tnL wl len 0 = List.replicate len 0 := by simp [tnL, List.map_const']
theorem tnL_succ {wl len k : Nat} (h : k < len) : tnL wl len (k + 1) = (tnL wl len k).set k ((wl : Int) + k) := by
  apply List.ext_getElem
  · simp [tnL]
  · intro i h1 h2
    rw [List.getElem_set]
    simp only [tnL, List.getElem_map, List.getElem_range]
    by_cases e : k = i
    · subst e
      rw [if_pos rfl, if_pos (by omega)]
      omega
    · rw [if_neg e]
      by_cases h3 : i < k
      · rw [if_pos h3, if_pos (by omega)]
      · rw [if_neg h3, if_neg (by omega)]
theorem tnL_full (wl len : Nat) : tnL wl len len = tn0 wl len := by
  apply List.ext_getElem
  · simp [tnL, tn0]
  · intro i h1 h2
    simp only [tnL, tn0, List.getElem_map, List.getElem_range]
    rw [if_pos (by simpa [tnL] using h1)]
theorem own_C {w w' : World} {B n C : Nat} {v : Value} {xs : List Value} (h : w.ownsRow B 3 1 v n xs) (hb : Below C w w') (hC : ∀ g, v.ownBlock = some g → g < C) : w'.ownsRow B 3 1 v n xs := by
  refine ⟨h.1, h.2.imp id ?_⟩
  rintro ⟨g, cap, cur, hv, hge, hh, r⟩
  exact ⟨g, cap, cur, hv, hge, (hb.block g (hC g (by rw [hv]; rfl))).trans hh, r⟩
/-- All of a plan lies below C. -/
structure PlAt (C p g1 g2 len : Nat) (bh : List Bh) : Prop where
  p : p < C
  g1 : g1 < C
  g2 : g2 < C
  rows : ∀ m, m < len → ∀ g, (bh.getD m default).v.ownBlock = some g → g < C
theorem PlAt.of_ {w : World} {p g1 g2 B len : Nat} {wt : List Int} {bh : List Bh} (h : PlA w p g1 g2 B len wt bh) : PlAt w.heap.size p g1 g2 len bh := by
  obtain ⟨cs, h0, h1, h2, h3⟩ := h.tab
  exact ⟨h.box.lt, h.waits.lt, h1.lt, fun m hm g e => (own_block (h.rows m hm) e).2.1⟩
theorem PlA.low {w w' : World} {p g1 g2 B len C : Nat} {wt : List Int} {bh : List Bh} (h : PlA w p g1 g2 B len wt bh) (hc : PlAt C p g1 g2 len bh) (hb : Below C w w') : PlA w' p g1 g2 B len wt bh := by
  obtain ⟨cs, h0, h1, h2, h3⟩ := h.tab
  exact ⟨h.box.below hb hc.p, h.waits.below hb hc.g1, h.wl, ⟨cs, h0, h1.below hb hc.g2, h2, h3⟩, h.bl, fun m hm => own_C (h.rows m hm) hb (hc.rows m hm), h.out, h.apart⟩
theorem PlA.more {w : World} {p g1 g2 B C len : Nat} {wt : List Int} {bh : List Bh} (h : PlA w p g1 g2 B len wt bh) (hC : C ≤ B) : PlA w p g1 g2 C len wt bh := by
  obtain ⟨cs, h0, h1, h2, h3⟩ := h.tab
  obtain ⟨cur, a0, a1⟩ := h.waits
  exact ⟨h.box, ⟨cur, Nat.le_trans hC a0, a1⟩, h.wl, ⟨cs, Nat.le_trans hC h0, h1, h2, h3⟩, h.bl, fun m hm => own_more (h.rows m hm) hC, h.out, h.apart⟩
def slen (v : Value) : Nat := match v with
  | .slice _ n _ => n
  | _ => 0
/-- What the rounds of First keep. -/
structure FJ (w W0 : World) (p g1 g2 len : Nat) (tn : List Int) (es : List Eo) (bh : List Bh) (v : Value) (Ds : List Nat) (k : Nat) (wr : World) : Prop where
  le : k ≤ len
  pl : PlA wr p g1 g2 w.heap.size len (firstN tn es k).2 bh
  tb : TB wr w.heap.size (w.heap.size + 1) w.heap.size len tn
  out : wr.ownsRow W0.heap.size 3 1 v k (ints (natI (firstN tn es k).1))
  be : Below w.heap.size w wr
  sz : W0.heap.size ≤ wr.heap.size
  nd : Ds.Nodup
  ds : ∀ D ∈ Ds, w.heap.size ≤ D ∧ wr.heap[D]? = some (.deferred (some []))
theorem own_O {w w' : World} {B n : Nat} {S : List Nat} {v : Value} {xs : List Value} (h : w.ownsRow B 3 1 v n xs) (ho : Only S w w') (hS : ∀ g, v.ownBlock = some g → ¬ g ∈ S) : w'.ownsRow B 3 1 v n xs := by
  refine ⟨h.1, h.2.imp id ?_⟩
  rintro ⟨g, cap, cur, hv, hge, hh, r⟩
  exact ⟨g, cap, cur, hv, hge, (ho.2 g (Array.getElem?_eq_some_iff.1 hh).1 (hS g (by rw [hv]; rfl))).trans hh, r⟩
theorem TB.only {w w' : World} {B gb gr len : Nat} {S : List Nat} {l : List Int} (h : TB w B gb gr len l) (ho : Only S w w') (h1 : ¬ gb ∈ S) (h2 : ¬ gr ∈ S) : TB w' B gb gr len l :=
  ⟨(ho.2 gb h.box.lt h1).trans h.box, h.row.of_block (ho.2 gr h.row.lt h2), h.ll, h.ge⟩
theorem FJ.next {w W0 wr W Wt W3 : World} {p g1 g2 len k oc D m : Nat} {tn wt' : List Int} {es : List Eo} {bh : List Bh} {OA : Option Addr} {v' : Value} {Ds : List Nat}
    (h : FJ w W0 p g1 g2 len tn es bh (.slice OA k oc) Ds k wr) (hk : k < len) (hg : w.heap.size + 1 < g1) (hw : w.heap.size + 1 < W0.heap.size) (pw : PlAt W0.heap.size p g1 g2 len bh) (hB : Below wr.heap.size wr W) (hD : wr.heap.size ≤ D) (hK : W.heap[D]? = some (.deferred (some [])))
    (hN : firstN tn es (k + 1) = ((firstN tn es k).1 ++ [m], wt')) (hPt : PlA Wt p g1 g2 w.heap.size len wt' bh) (on : Only [g1] W Wt) (be : Below w.heap.size W Wt)
    (hown : W3.ownsRow W0.heap.size 3 1 v' (k + 1) (ints (natI (firstN tn es k).1 ++ [(m : Int)]))) (hb3 : Below W0.heap.size Wt W3) (hcl : ∀ g, g < Wt.heap.size → (Value.slice OA k oc).ownBlock ≠ some g → W3.heap[g]? = Wt.heap[g]?) :
    FJ w W0 p g1 g2 len tn es bh v' (D :: Ds) (k + 1) W3 := by
  have hg1 : g1 < wr.heap.size := h.pl.waits.lt
  obtain ⟨cu, _, hbg, _⟩ := h.pl.waits
  have hOut := own_belowR h.out hB
  have notO : ∀ E : Nat, W.heap[E]? = some (.deferred (some [])) → (Value.slice OA k oc).ownBlock ≠ some E := fun E hE e => by
    obtain ⟨_, _, cs, hcs⟩ := own_block hOut e
    rw [show W.heap[E]? = _ from hcs] at hE
    cases hE
  have keep : ∀ E : Nat, W.heap[E]? = some (.deferred (some [])) → W3.heap[E]? = some (.deferred (some [])) := fun E hE => by
    have hEl : E < W.heap.size := (Array.getElem?_eq_some_iff.1 hE).1
    have hne : E ≠ g1 := fun e => by
      have hc : Blk W g1 3 cu := hbg.below hB hg1
      rw [e, show W.heap[g1]? = _ from hc] at hE
      cases hE
    have e1 := on.2 E hEl (by simpa using hne)
    have hEt : E < Wt.heap.size := Nat.lt_of_lt_of_le hEl on.1
    exact (hcl E hEt (notO E hE)).trans (e1.trans hE)
  have T := h.tb.below hB h.tb.box.lt h.tb.row.lt
  have Tt := T.only on (by simp; omega) (by simp; omega)
  have hlt : ∀ E ∈ Ds, E < wr.heap.size := fun E hE => (Array.getElem?_eq_some_iff.1 (h.ds E hE).2).1
  refine ⟨hk, ?_, Tt.below hb3 hw (by omega), ?_, ?_, ?_, ?_, fun E hE => ?_⟩
  · rw [hN]
    exact hPt.low pw hb3
  · rw [hN]
    show W3.ownsRow W0.heap.size 3 1 v' (k + 1) (ints (natI ((firstN tn es k).1 ++ [m])))
    rw [natI_app]
    exact hown
  · exact ((h.be.trans (hB.mono h.be.size)).trans be).trans (hb3.mono (by omega))
  · have := h.sz
    have := hB.size
    have := on.1
    have := hb3.size
    omega
  · rw [List.nodup_cons]
    exact ⟨fun hm => by have := hlt D hm; omega, h.nd⟩
  · rcases List.mem_cons.1 hE with rfl | hE
    · exact ⟨by have := h.be.size; omega, keep E hK⟩
    · obtain ⟨h1, h2⟩ := h.ds E hE
      exact ⟨h1, keep E ((hB.block E (hlt E hE)).trans h2)⟩
theorem round_no {wc wr W : World} {Fb : Nat} {v : Value} (nq : Nat) (h : Boxed W Fb 3 v) (hB : Below Fb wr W) :
    KeepsFrom wc.heap.size W (W.drewN nq) ∧ Below Fb W (W.drewN nq) ∧ Boxed (W.drewN nq) Fb 3 v ∧ Below Fb wr (W.drewN nq) :=
  ⟨⟨Nat.le_refl _, fun _ _ _ h _ => h⟩, below_drewN (Below.refl _ _) nq, h, hB.trans (below_drewN (Below.refl _ _) nq)⟩
theorem round_set {wc wr W : World} {Fb : Nat} {v : Value} (nq : Nat) (u : Value) (hF : Fb < wc.heap.size) (h : Boxed W Fb 3 v) (hB : Below Fb wr W) :
    KeepsFrom wc.heap.size W ((W.drewN nq).setCell ⟨Fb, 0, none⟩ u) ∧ Below Fb W ((W.drewN nq).setCell ⟨Fb, 0, none⟩ u) ∧ Boxed ((W.drewN nq).setCell ⟨Fb, 0, none⟩ u) Fb 3 u ∧ Below Fb wr ((W.drewN nq).setCell ⟨Fb, 0, none⟩ u) :=
  ⟨(round_no nq h hB).1.trans (KeepsFrom.of_grownBy (grownBy_setCell' _ Fb u) (by intro j e; cases e; exact hF)), (below_drewN (Below.refl _ _) nq).setCell (p := ⟨Fb, 0, none⟩) (Nat.le_refl _) u, Boxed.set u (show Boxed (W.drewN nq) Fb 3 v from h), (hB.trans (below_drewN (Below.refl _ _) nq)).setCell (p := ⟨Fb, 0, none⟩) (Nat.le_refl _) u⟩
def firstPost (len : Nat) (l : List Nat) (w : World) (e : Ending) (w' : World) : Prop := ∃ v, e = .returned v ∧ w'.ownsRow w.heap.size 3 1 v len (ints (natI l)) ∧ Below w.heap.size w w'
set_option maxRecDepth 100000 in
set_option maxHeartbeats 16000000 in
theorem First_c (o D len cap : Nat) (es : List Eo) (A : Option Addr) (l : List Int) (w : World) (ho : OrA w o D D es) (hel : es.length = len) (hle : len ≤ 120) (hal : ∀ i, i < es.length → ∀ k ∈ (es.getD i default).ah, k < i) (hah : ∀ i, i < es.length → (es.getD i default).ah.length ≤ 30) (hr : Rd w w.heap.size A l) (hm : l.length ≤ 1000) :
    Calls Try.prog 21 #[.pointer (some ⟨o, 0, none⟩), .slice A l.length cap] w (firstPost len (firstL es l) w) := by
  have MC := hide (fun (w' : World) (hb : Below w.heap.size w w') => by
    have := Many_c o D D es w' (ho.below hb)
    rw [hel] at this
    exact this)
  have TC := hide (fun (x : Int) (w' : World) (hb : Below w.heap.size w w') => there_c o D D es x w' (ho.below hb))
  have PC := hide (fun (w' : World) (hb : Below w.heap.size w w') => plan_c o D D len es w' (ho.below hb) hel hle (by rw [← hel]; exact hal) (by rw [← hel]; exact hah))
  have HR := hide hr
  have HAL := hide hal
  have HAH := hide hah
  have HEL := hide hel
  have hmk := run_make_row' (P := Try.prog) 28 3 (.int .i64 0) 8 Try.underlying28 int_info rfl .i64 .i64 len (by omega) (by omega) w
  have b0 := OwnRow.made w len (by unfold maxLen; omega)
  have hb0 := (Below.refl w.heap.size w).alloc (Nat.le_refl _) (.cells (madeCells #[Value.int .i64 0] len) 3)
  have hs1 : (w.alloc (.cells (madeCells #[Value.int .i64 0] len) 3)).heap.size = w.heap.size + 1 := by simp
  obtain ⟨w1, hw1⟩ : ∃ x, w.alloc (.cells (madeCells #[Value.int .i64 0] len) 3) = x := ⟨_, rfl⟩
  rw [hw1] at b0 hb0 hs1 hmk
  have bx := Blk.new w1 28 #[.slice none 0 0]
  have hb1 := hb0.alloc hb0.size (.cells #[.slice none 0 0] 28)
  have b1 := b0.below ((Below.refl w1.heap.size w1).alloc (Nat.le_refl _) (.cells #[.slice none 0 0] 28)) (by omega)
  rw [hs1] at bx
  obtain ⟨w2, hw2⟩ : ∃ x, w1.alloc (.cells #[.slice none 0 0] 28) = x := ⟨_, rfl⟩
  rw [hw2] at bx hb1 b1
  have p0 : w2.cell? ⟨w.heap.size + 1, 0, none⟩ = some (.slice none 0 0) := bx.cell 0
  have pf := bx.frozen 0
  have bx3 := bx.set_ 0 (.slice (some ⟨w.heap.size, 0, none⟩) len len)
  have hb3 := hb1.setCell (p := ⟨w.heap.size + 1, 0, none⟩) (by show w.heap.size ≤ w.heap.size + 1; omega) (.slice (some ⟨w.heap.size, 0, none⟩) len len)
  have b3 := b1.of_block (Below.heap_setCell w2 ⟨w.heap.size + 1, 0, none⟩ (.slice (some ⟨w.heap.size, 0, none⟩) len len) w.heap.size (by show w.heap.size ≠ w.heap.size + 1; omega))
  obtain ⟨w3, hw3⟩ : ∃ x, w2.setCell ⟨w.heap.size + 1, 0, none⟩ (.slice (some ⟨w.heap.size, 0, none⟩) len len) = x := ⟨_, rfl⟩
  rw [hw3] at bx3 hb3 b3
  have TB0 : Hid (TB w3 w.heap.size (w.heap.size + 1) w.heap.size len (tnL l.length len 0)) := hide ⟨by simpa using bx3, by rw [tnL_zero]; exact b3, by simp [tnL], by omega⟩
  have HB3 := hide hb3
  have MC0 := hide (MC.out w (Below.refl _ _))
  have B0 : w3.cell? ⟨w.heap.size + 1, 0, none⟩ = some (.slice (some ⟨w.heap.size, 0, none⟩) len len) := TB0.out.box.cell 0
  clear ho hr hal hah hel b0 hb0 bx hb1 b1 bx3 hb3 b3
  refine callsIn_wide.1 (callsIn_of_wp_marks (n := 8) Try.func21 rfl trivial (wpIn_wide.2 ?_) rfl)
  simp only [Try.ntmps21, List.size_toArray, List.length_cons, List.length_nil, Nat.reduceAdd, Nat.reduceSub, Array.replicate_succ, Array.replicate_zero, List.push_toArray, List.append_toArray, List.nil_append, List.cons_append]
  go_wp2_with fail
  refine MC0.out.mono ?_
  rintro e w' ⟨rfl, rfl⟩
  go_wp2_with fail
  clear hw1 hw2 hw3 p0 pf hmk MC0 B0 hs1
  go_loopw [18] (fun vi wr => ∃ k : Nat, k ≤ len ∧ vi = .int .i64 k ∧ Hid (TB wr w.heap.size (w.heap.size + 1) w.heap.size len (tnL l.length len k)) ∧ Hid (Below w.heap.size w wr)) (fun vi _ => len - (intOf vi).toNat)
  case atStart => exact ⟨0, by omega, rfl, TB0, HB3⟩
  case round =>
    clear TB0 HB3
    obtain ⟨k, hk, rfl, HT, HB⟩ := hrel
    rename World => wr
    by_cases hlt : k < len
    · have hltI : (k : Int) < (len : Int) := by omega
      have q0 : wr.cell? ⟨w.heap.size + 1, 0, none⟩ = some (.slice (some ⟨w.heap.size, 0, none⟩) len len) := HT.out.box.cell 0
      have q1 := HT.out.row.cell k (by rw [HT.out.ll]; exact hlt)
      have q2 := HT.out.row.frozen k
      have HT2 : Hid (TB (wr.setCell ⟨w.heap.size, k, none⟩ (.int .i64 ((l.length : Int) + k))) w.heap.size (w.heap.size + 1) w.heap.size len (tnL l.length len (k + 1))) := hide (by rw [tnL_succ hlt]; exact HT.out.set_ k _)
      have HB2 := hide (HB.out.setCell (p := ⟨w.heap.size, k, none⟩) (Nat.le_refl _) (.int .i64 ((l.length : Int) + k)))
      generalize (tnL l.length len k).getD k 0 = z at *
      go_wp2_with fail
      go_roundw
      case rel => exact ⟨k + 1, by omega, by go_num, HT2, HB2⟩
      case measure => simp [intOf] <;> omega
    have hltI : ¬ (k : Int) < (len : Int) := by omega
    have hke : k = len := by omega
    have HT0 : Hid (TB wr w.heap.size (w.heap.size + 1) w.heap.size len (tnF len l 0)) := hide (by rw [show tnF len l 0 = tnL l.length len len from (tnL_full _ _).symm, ← hke]; rw [hke]; have := HT.out; rw [hke] at this; exact this)
    rw [hke]
    clear HT hk hlt hke
    go_wp2_with fail
    go_loopw [31] (fun vi wr => ∃ k : Nat, k ≤ l.length ∧ vi = .int .i64 k ∧ Hid (TB wr w.heap.size (w.heap.size + 1) w.heap.size len (tnF len l k)) ∧ Hid (Below w.heap.size w wr)) (fun vi _ => l.length - (intOf vi).toNat)
    case atStart => exact ⟨0, by omega, rfl, HT0, HB⟩
    case round =>
      clear HT0 HB hltI
      obtain ⟨k, hk, rfl, HT, HB⟩ := hrel
      by_cases hlt : k < l.length
      · have hltI : (k : Int) < (l.length : Int) := by omega
        obtain ⟨ad, rfl, hbl, cx⟩ := rd_at HR.out hlt
        have cx := (HB.out.cell (p := ad.add k) (by simpa [block_of_add] using hbl)).trans cx
        have TCx := hide (TC.out (l.getD k 0) wr HB.out)
        have HTS : tnF len l (k + 1) = tnS len (tnF len l k) (l.getD k 0) k := rfl
        have HTL := tnF_len len l k
        have hnh := tnF_le len l k (by omega)
        clear hbl
        generalize l.getD k 0 = x at *
        by_cases hin : 0 ≤ x ∧ x < (len : Int)
        rotate_left
        · have hb9 : inB es x = false := decide_eq_false (by rw [HEL.out]; exact hin)
          have HT2 : Hid (TB wr w.heap.size (w.heap.size + 1) w.heap.size len (tnF len l (k + 1))) := hide (by rw [HTS]; unfold tnS; rw [if_neg hin]; exact HT.out)
          rw [hb9] at TCx
          clear HTS HTL hnh hin hb9
          go_wp2_with fail
          refine TCx.out.mono ?_
          rintro e w' ⟨rfl, rfl⟩
          go_wp2_with fail
          go_roundw
          case rel => exact ⟨k + 1, by omega, by go_num, HT2, HB⟩
          case measure => simp [intOf] <;> omega
        have hb9 : inB es x = true := decide_eq_true (by rw [HEL.out]; exact hin)
        rw [hb9] at TCx
        obtain ⟨xn, rfl⟩ : ∃ xn : Nat, x = xn := ⟨x.toNat, by omega⟩
        have hxl : xn < len := by omega
        have hxI : (xn : Int) < (len : Int) := by omega
        have q0 : wr.cell? ⟨w.heap.size + 1, 0, none⟩ = some (.slice (some ⟨w.heap.size, 0, none⟩) len len) := HT.out.box.cell 0
        have q1 := HT.out.row.cell xn (by rw [HT.out.ll]; exact hxl)
        have q2 := HT.out.row.frozen xn
        have hz0 : (tnF len l k).set xn (min ((tnF len l k).getD xn 0) (k : Int)) = tnF len l (k + 1) := by
          rw [HTS]
          unfold tnS
          rw [if_pos hin, Int.toNat_natCast]
        have hnx := hnh xn
        obtain ⟨z, hz⟩ : ∃ z, (tnF len l k).getD xn 0 = z := ⟨_, rfl⟩
        rw [hz] at hz0 q1 hnx
        have HZ := hide hz0
        clear HTS HTL hnh hin hb9 hz hz0
        go_wp2_with fail
        refine TCx.out.mono ?_
        rintro e w' ⟨rfl, rfl⟩
        have hz0 := HZ.out
        have HHZ := hide hz0
        clear hz0
        go_wp2_with fail
        have hz0 := HHZ.out
        let R11 : Nat → Value → World → Prop := fun sl u _ => match sl with
          | 39 | 41 => u = .slice (some ⟨w.heap.size, 0, none⟩) len len
          | 40 | 42 => u = .int .i64 xn
          | 43 | 47 => u = .pointer (some ⟨w.heap.size, xn, none⟩)
          | 44 => u = .int .i64 z
          | 45 => u = .int .i64 k
          | 46 => u = .int .i64 (min z (k : Int))
          | _ => True
        refine wp_region_relT 9 R11 (by kernel_rfl) (by kernel_rfl) (by kernel_rfl) (by kernel_rfl) (fun t v wx wy h _ => h) ?step11 ?fin11
        case step11 =>
          intro op hop
          simp only [List.take, List.mem_cons, List.not_mem_nil, or_false] at hop
          rcases hop with rfl | rfl | rfl | rfl | rfl | rfl | rfl | rfl | rfl
          · intro a w1 hb hs hr
            have e5 : a.tmps.getD 5 undef = .pointer (some ⟨w.heap.size + 1, 0, none⟩) := hs 5 (by decide)
            have cc0 := (hb.cell (p := ⟨_, _, none⟩) (block_lt_of_cell q0)).trans q0
            rw [Array.getD_eq_getD_getElem?] at e5
            unfold Oper.wp
            simp only [execOp, Act.eval, Array.getD_eq_getD_getElem?, e5]
            go_simp
            exact ⟨_, rfl, rfl, Below.refl _ _⟩
          · intro a w1 hb hs hr
            have e8 : a.tmps.getD 8 undef = .int .i64 xn := hs 8 (by decide)
            rw [Array.getD_eq_getD_getElem?] at e8
            unfold Oper.wp
            simp only [execOp, Act.eval, Array.getD_eq_getD_getElem?, e8]
            go_simp
            exact ⟨_, rfl, rfl, Below.refl _ _⟩
          · intro a w1 hb hs hr
            have e5 : a.tmps.getD 5 undef = .pointer (some ⟨w.heap.size + 1, 0, none⟩) := hs 5 (by decide)
            have cc0 := (hb.cell (p := ⟨_, _, none⟩) (block_lt_of_cell q0)).trans q0
            rw [Array.getD_eq_getD_getElem?] at e5
            unfold Oper.wp
            simp only [execOp, Act.eval, Array.getD_eq_getD_getElem?, e5]
            go_simp
            exact ⟨_, rfl, rfl, Below.refl _ _⟩
          · intro a w1 hb hs hr
            have e8 : a.tmps.getD 8 undef = .int .i64 xn := hs 8 (by decide)
            rw [Array.getD_eq_getD_getElem?] at e8
            unfold Oper.wp
            simp only [execOp, Act.eval, Array.getD_eq_getD_getElem?, e8]
            go_simp
            exact ⟨_, rfl, rfl, Below.refl _ _⟩
          · intro a w1 hb hs hr
            have e41 : a.tmps.getD 41 undef = .slice (some ⟨w.heap.size, 0, none⟩) len len := hr 41 (by decide) (by apply Array.mem_toList_iff.1; repeat (first | exact List.Mem.head _ | apply List.Mem.tail))
            have e42 : a.tmps.getD 42 undef = .int .i64 xn := hr 42 (by decide) (by apply Array.mem_toList_iff.1; repeat (first | exact List.Mem.head _ | apply List.Mem.tail))
            rw [Array.getD_eq_getD_getElem?] at e41
            rw [Array.getD_eq_getD_getElem?] at e42
            unfold Oper.wp
            simp only [execOp, Act.eval, Array.getD_eq_getD_getElem?, e41, e42]
            go_simp
            exact ⟨_, rfl, rfl, Below.refl _ _⟩
          · intro a w1 hb hs hr
            have e43 : a.tmps.getD 43 undef = .pointer (some ⟨w.heap.size, xn, none⟩) := hr 43 (by decide) (by apply Array.mem_toList_iff.1; repeat (first | exact List.Mem.head _ | apply List.Mem.tail))
            have cc0 := (hb.cell (p := ⟨_, _, none⟩) (block_lt_of_cell q1)).trans q1
            rw [Array.getD_eq_getD_getElem?] at e43
            unfold Oper.wp
            simp only [execOp, Act.eval, Array.getD_eq_getD_getElem?, e43]
            go_simp
            exact ⟨_, rfl, rfl, Below.refl _ _⟩
          · intro a w1 hb hs hr
            have e7 : a.tmps.getD 7 undef = .int .i64 k := hs 7 (by decide)
            rw [Array.getD_eq_getD_getElem?] at e7
            unfold Oper.wp
            simp only [execOp, Act.eval, Array.getD_eq_getD_getElem?, e7]
            go_simp
            exact ⟨_, rfl, rfl, Below.refl _ _⟩
          · intro a w1 hb hs hr
            have e44 : a.tmps.getD 44 undef = .int .i64 z := hr 44 (by decide) (by apply Array.mem_toList_iff.1; repeat (first | exact List.Mem.head _ | apply List.Mem.tail))
            have e45 : a.tmps.getD 45 undef = .int .i64 k := hr 45 (by decide) (by apply Array.mem_toList_iff.1; repeat (first | exact List.Mem.head _ | apply List.Mem.tail))
            rw [Array.getD_eq_getD_getElem?] at e44
            rw [Array.getD_eq_getD_getElem?] at e45
            unfold Oper.wp
            simp only [execOp, Act.eval, Array.getD_eq_getD_getElem?, e44, e45]
            go_simp
            exact ⟨_, rfl, (by show Value.int IntKind.i64 _ = .int .i64 _; congr 1), Below.refl _ _⟩
          · intro a w1 hb hs hr
            have e39 : a.tmps.getD 39 undef = .slice (some ⟨w.heap.size, 0, none⟩) len len := hr 39 (by decide) (by apply Array.mem_toList_iff.1; repeat (first | exact List.Mem.head _ | apply List.Mem.tail))
            have e40 : a.tmps.getD 40 undef = .int .i64 xn := hr 40 (by decide) (by apply Array.mem_toList_iff.1; repeat (first | exact List.Mem.head _ | apply List.Mem.tail))
            rw [Array.getD_eq_getD_getElem?] at e39
            rw [Array.getD_eq_getD_getElem?] at e40
            unfold Oper.wp
            simp only [execOp, Act.eval, Array.getD_eq_getD_getElem?, e39, e40]
            go_simp
            exact ⟨_, rfl, rfl, Below.refl _ _⟩
        case fin11 =>
          intro ff w2 hb hr
          have e46 : ff 46 = .int .i64 (min z (k : Int)) := hr 46 (by decide)
          have e47 : ff 47 = .pointer (some ⟨w.heap.size, xn, none⟩) := hr 47 (by decide)
          have T2 := HT.out.below hb HT.out.box.lt HT.out.row.lt
          have y0 := T2.row.cell xn (by rw [T2.ll]; exact hxl)
          have yf := T2.row.frozen xn
          have T3 := T2.set_ xn (min z (k : Int))
          rw [hz0] at T3
          have T3h := hide T3
          have HB3 := hide ((HB.out.trans (hb.mono HB.out.size)).setCell (p := ⟨w.heap.size, xn, none⟩) (Nat.le_refl _) (.int .i64 (min z (k : Int))))
          generalize min z (k : Int) = mz at *
          clear T2 T3 hr q0 q1 q2 hb
          simp only [putAll, slotsOf, List.take, List.drop, List.filterMap_cons, List.filterMap_nil, List.foldl_cons, List.foldl_nil, Act.put, e46, e47]
          simp only [List.setIfInBounds_toArray, List.set_cons_succ, List.set_cons_zero]
          go_wp2_with fail
          go_roundw
          case rel => exact ⟨k + 1, by omega, by go_num, T3h, HB3⟩
          case measure => simp [intOf] <;> omega
      have hltI : ¬ (k : Int) < (l.length : Int) := by omega
      have hke : k = l.length := by omega
      have HT1 : Hid (TB wr w.heap.size (w.heap.size + 1) w.heap.size len (tnF len l l.length)) := hide (by have := HT.out; rw [hke] at this; exact this)
      rw [hke]
      clear HT hk hlt hke hltI
      have PC1 := hide (PC.out wr HB.out)
      go_wp2_with fail
      refine PC1.out.mono ?_
      rintro e W0 ⟨p, g1, g2, bh, rfl, hPL, hbh, hp9, hb0⟩
      have hsz := HB.out.size
      have HG1 := hide (show w.heap.size + 1 < g1 by have := hPL.waits.ge; have := HT1.out.box.lt; omega)
      have PL0 := hide (hPL.more HB.out.size)
      have HBH := hide hbh
      have PW0 := hide (PlAt.of_ hPL)
      have HB0 := hide (HB.out.trans (hb0.mono HB.out.size))
      have HT3 := hide (HT1.out.below hb0 HT1.out.box.lt HT1.out.row.lt)
      have HLO := hide (show w.heap.size + 1 < W0.heap.size ∧ W0.heap.size ≤ W0.heap.size from ⟨by have := HT1.out.box.lt; have := hb0.size; omega, Nat.le_refl _⟩)
      clear hPL hbh hp9 hb0 HT1 HB PC1 hsz
      go_wp2_with fail
      refine wp_loop (fun a' w' => ∃ (v10 u11 u12 u51 u52 u53 u54 u55 u56 u57 u58 u59 u60 u61 u62 u63 u64 u65 u66 u67 u68 u69 u70 u71 u72 u73 u74 u75 u76 u77 u78 u79 : Value) (Ds : List Nat) (k : Nat), FJ w W0 p g1 g2 len (tnF len l l.length) es bh v10 Ds k w' ∧ a' = { tmps := #[.pointer (some ⟨o, 0, none⟩), .slice A l.length cap, undef, undef, .slice none 0 0, .pointer (some ⟨w.heap.size + 1, 0, none⟩), u6, u7, u8, .pointer (some ⟨p, 0, none⟩), v10, u11, u12, .pointer (some ⟨o, 0, none⟩), .int .i64 len, .slice (some ⟨w.heap.size, 0, none⟩) len len, .slice (some ⟨w.heap.size, 0, none⟩) len len, .int .i64 len, .int .i64 len, .bool false, u20, u21, u22, u23, u24, u25, u26, u27, u28, .slice A l.length cap, .int .i64 l.length, .int .i64 l.length, .bool false, u33, u34, u35, u36, u37, u38, u39, u40, u41, u42, u43, u44, u45, u46, u47, u48, .pointer (some ⟨o, 0, none⟩), .pointer (some ⟨p, 0, none⟩), u51, u52, u53, u54, u55, u56, u57, u58, u59, u60, u61, u62, u63, u64, u65, u66, u67, u68, u69, u70, u71, u72, u73, u74, u75, u76, u77, u78, u79, undef], defers := Ds.map mark }) (fun a' _ => len - slen (a'.tmps.getD 10 undef)) ?start3 ?round3
      case start3 => exact ⟨_, _, _, _, _, _, _, _, _, _, _, _, _, _, _, _, _, _, _, _, _, _, _, _, _, _, _, _, _, _, _, _, [], 0, ⟨Nat.zero_le _, by show PlA W0 p g1 g2 w.heap.size len (wtF es es.length) bh; rw [HEL.out]; exact PL0.out, HT3.out, ⟨rfl, .inl ⟨rfl, rfl⟩⟩, HB0.out, Nat.le_refl _, List.nodup_nil, fun D hD => by cases hD⟩, rfl⟩
      case round3 =>
        rintro a' wr ⟨v10, u11, u12, u51, u52, u53, u54, u55, u56, u57, u58, u59, u60, u61, u62, u63, u64, u65, u66, u67, u68, u69, u70, u71, u72, u73, u74, u75, u76, u77, u78, u79, Ds, k, HJ, rfl⟩
        clear PL0 HB0 HT3
        obtain ⟨OA, oc, rfl⟩ := own_form HJ.out
        have hk := HJ.le
        have MC1 := hide (MC.out wr HJ.be)
        by_cases hlt : k < len
        rotate_left
        · have hltI : ¬ (k : Int) < (len : Int) := by omega
          have hke : k = len := by omega
          rw [hke] at HJ ⊢
          clear hke hlt hltI hk
          go_wp2_with fail
          refine MC1.out.mono ?_
          rintro e w' ⟨rfl, rfl⟩
          go_wp2_with fail
          have HFL : firstL es l = (firstN (tnF len l l.length) es len).1 := by unfold firstL; rw [HEL.out]
          rw [HFL]
          refine leavesM_collected (base := w.heap.size) (S := fun W => W.ownsRow w.heap.size 3 1 (.slice OA len oc) len (ints (natI (firstN (tnF len l l.length) es len).1)) ∧ Below w.heap.size w W) ?hS ?hf Ds _ HJ.nd HJ.ds ⟨own_more HJ.out (by have := HLO.out; omega), HJ.be⟩
          case hS =>
            intro W D hD hK hs
            exact ⟨ownsRow_putObj hs.1 _ hK rfl, hs.2.trans (belowK_b (w := w) (Nat.le_refl _) W D _ _ hD hK rfl rfl)⟩
          case hf =>
            intro W hs
            exact ⟨_, by simp [results, Try.f21, go_sem], _, rfl, hs.1, hs.2⟩
        have hltI : (k : Int) < (len : Int) := by omega
        -- the box of the best one
        have bf := Boxed.new wr 3 (.int .i64 0)
        have hbf := (Below.refl wr.heap.size wr).alloc (Nat.le_refl _) (.cells #[.int .i64 0] 3)
        have hs1 : (wr.alloc (.cells #[.int .i64 0] 3)).heap.size = wr.heap.size + 1 := by simp
        obtain ⟨wa, hwa⟩ : ∃ x, wr.alloc (.cells #[.int .i64 0] 3) = x := ⟨_, rfl⟩
        rw [hwa] at bf hbf hs1
        have z0 := bf.cell
        have zf := bf.frozen
        have bf2 := bf.set (.int .i64 (-1))
        have hbf2 := hbf.setCell (p := ⟨wr.heap.size, 0, none⟩) (Nat.le_refl _) (.int .i64 (-1))
        have hs2 : (wa.setCell ⟨wr.heap.size, 0, none⟩ (.int .i64 (-1))).heap.size = wr.heap.size + 1 := by rw [← hs1]; simp [World.setCell]
        obtain ⟨wb, hwb⟩ : ∃ x, wa.setCell ⟨wr.heap.size, 0, none⟩ (.int .i64 (-1)) = x := ⟨_, rfl⟩
        rw [hwb] at bf2 hbf2 hs2
        have RC := hide (callsIn_wide.1 (ready_in 8 p wb))
        have BF := hide bf2
        have HBF := hide hbf2
        have HS2 := hide hs2
        clear bf hbf hs1 bf2 hbf2 hs2
        go_wp2_with fail
        refine MC1.out.mono ?_
        rintro e w' ⟨rfl, rfl⟩
        go_wp2_with fail
        refine RC.out.mono ?_
        rintro e w' ⟨rfl, rfl⟩
        clear hwa hwb z0 zf RC MC1
        have RB := hide (Boxed.new wb 69 (.pointer (some ⟨p, 0, none⟩)))
        have BF2 := hide (BF.out.alloc (.cells #[.pointer (some ⟨p, 0, none⟩)] 69))
        have HBF2 := hide (HBF.out.alloc HBF.out.size (.cells #[.pointer (some ⟨p, 0, none⟩)] 69))
        have HS3 := hide (show (wb.alloc (.cells #[.pointer (some ⟨p, 0, none⟩)] 69)).heap.size = wr.heap.size + 2 by simp [HS2.out])
        rw [HS2.out] at RB
        obtain ⟨wc, hwc⟩ : ∃ x, wb.alloc (.cells #[.pointer (some ⟨p, 0, none⟩)] 69) = x := ⟨_, rfl⟩
        rw [hwc] at RB BF2 HBF2 HS3
        simp only [HS2.out]
        rw [hwc]
        clear hwc BF HBF
        have PL2 := hide (HJ.pl.below HBF2.out)
        have TB2 := hide (HJ.tb.below HBF2.out HJ.tb.box.lt HJ.tb.row.lt)
        have hlw : len ≤ 1000000 := by omega
        have hcl : 0 < len := by omega
        go_wp2_with fail
        have HWT := hide HJ.pl.wl
        refine (wpIn_wide (n := 8)).1 (wpIn_rangeFunc_ownG (n := 8) (w := wc) rfl (by decide) (gf := 43) (lb := #[.pointer (some ⟨wr.heap.size + 1, 0, none⟩)]) rfl trivial (enters_of Try.func43 (by kernel_rfl) rfl)
          (ready_stops 7 (by omega) (wr.heap.size + 1) p g1 g2 wr.heap.size len (firstN (tnF len l l.length) es k).2 hlw wc (by have := HS3.out; omega) PL2.out.box.lt PL2.out.waits.lt HJ.pl.waits.lt RB.out.cell (PL2.out.box.cell 0) (fun j hj => PL2.out.waits.cell j (by rw [HWT.out]; exact hj)))
          (fun h k => h.trans k) (fun W l9 o9 o9' => belowK_b (w := wc) (by have := HS3.out; omega) W l9 o9 o9') (Below.refl _ _) (fun _ => rfl)
          (fun (pre : List Nat) W => Boxed W wr.heap.size 3 (.int .i64 (bestL (tnF len l l.length) (pre.map (clampN len)))) ∧ Below wr.heap.size wr W)
          (fun _ _ _ => False)
          (OwnFrom.and (Own.from (boxed_own wr.heap.size 3 (fun (pre : List Nat) => Value.int .i64 (bestL (tnF len l l.length) (pre.map (clampN len))))) _) (ownFrom_below (Nat.le_refl _) (by have := HS3.out; omega)))
          (fun _ _ _ _ _ hs _ _ => hs)
          ⟨BF2.out, HBF2.out⟩
          (fun x => { tmps := #[.pointer (some ⟨o, 0, none⟩), .slice A l.length cap, undef, undef, .slice none 0 0, .pointer (some ⟨w.heap.size + 1, 0, none⟩), u6, u7, u8, .pointer (some ⟨p, 0, none⟩), .slice OA k oc, .pointer (some ⟨wr.heap.size, 0, none⟩), .int .i64 (clampN len x : Nat), .pointer (some ⟨o, 0, none⟩), .int .i64 len, .slice (some ⟨w.heap.size, 0, none⟩) len len, .slice (some ⟨w.heap.size, 0, none⟩) len len, .int .i64 len, .int .i64 len, .bool false, u20, u21, u22, u23, u24, u25, u26, u27, u28, .slice A l.length cap, .int .i64 l.length, .int .i64 l.length, .bool false, u33, u34, u35, u36, u37, u38, u39, u40, u41, u42, u43, u44, u45, u46, u47, u48, .pointer (some ⟨o, 0, none⟩), .pointer (some ⟨p, 0, none⟩), .slice OA k oc, .int .i64 k, .pointer (some ⟨o, 0, none⟩), .int .i64 len, .bool true, .pointer (some ⟨p, 0, none⟩), .func (.func 43) #[] #[.pointer (some ⟨wr.heap.size + 1, 0, none⟩)], .int .i64 (clampN len x : Nat), u59, u60, u61, u62, u63, u64, u65, u66, u67, u68, u69, u70, u71, u72, u73, u74, u75, u76, u77, u78, u79, undef], defers := [] }) ?assign ?body ?done ?stop)
        case assign =>
          intro l0 x W K hK
          dsimp only [encN]
          gi_wp2
          exact hK
        case stop =>
          rintro D c pre W hD _ h _
          exact h.elim
        case body =>
          rintro l0 pre x W ⟨hBx, hB⟩ hlen
          have hy := clampN_lt hcl x
          have hSN : bestL (tnF len l l.length) ((pre ++ [x]).map (clampN len)) = stepB (tnF len l l.length) (bestL (tnF len l l.length) (pre.map (clampN len))) (clampN len x) := by rw [List.map_append, List.map_singleton, bestL_snoc]
          have hbl := bestL_lt (tn := tnF len l l.length) (len := len) (l := pre.map (clampN len)) (fun m hm => by
            obtain ⟨m', _, rfl⟩ := List.mem_map.1 hm
            exact clampN_lt hcl m')
          dsimp only
          generalize clampN len x = y at *
          generalize bestL (tnF len l l.length) (pre.map (clampN len)) = f at hBx hSN hbl
          have HSN := hide hSN
          clear hSN
          have hyI : (y : Int) < (len : Int) := by omega
          have T := HJ.tb.below hB HJ.tb.box.lt HJ.tb.row.lt
          have hle9 := tnF_le len l l.length (Nat.le_refl _)
          generalize tnF len l l.length = tn at *
          have q0 : W.cell? ⟨w.heap.size + 1, 0, none⟩ = some (.slice (some ⟨w.heap.size, 0, none⟩) len len) := T.box.cell 0
          have q1 := T.row.cell y (by rw [T.ll]; exact hy)
          have z0 := hBx.cell
          have zf := hBx.frozen
          have RN := hide (fun nq : Nat => round_no (wc := wc) nq hBx hB)
          have RS := hide (fun (nq : Nat) (u : Value) => round_set (wc := wc) nq u (by have := HS3.out; omega) hBx hB)
          have hyl := hle9 y
          rcases hbl with rfl | ⟨m, hm, rfl⟩
          · have HST := hide (show stepB tn (-1) y = (y : Int) by unfold stepB; rw [decide_eq_true (by omega), Bool.true_or]; rfl)
            clear hBx hB hle9 T PL2 TB2 hlen
            generalize tn.getD y 0 = ty at *
            gi_wp2
            · refine wpIn_round_quiet rfl (by kernel_rfl) (by kernel_rfl) (by kernel_rfl) ?_
              repeat (gi_big_quiet_step (fail))
              refine wpQuietIn_nil ?_
              intro _ hw9
              obtain ⟨nq, rfl⟩ := hw9
              gi_wp2
              have E := RS.out nq (.int .i64 (y : Int))
              rw [show (y : Int) = bestL tn (List.map (clampN len) (pre ++ [x])) from (HSN.out.trans HST.out).symm] at E
              rw [show (y : Int) = bestL tn (List.map (clampN len) (pre ++ [x])) from (HSN.out.trans HST.out).symm]
              exact E
          · have q2 := T.row.cell m (by rw [T.ll]; exact hm)
            have hmI : (m : Int) < (len : Int) := by omega
            have hml := hle9 m
            have HST : Hid (stepB tn (m : Int) y = if tn.getD y 0 < tn.getD m 0 then (y : Int) else m) := hide (by
              unfold stepB
              rw [decide_eq_false (show ¬ (m : Int) < 0 by omega), Bool.false_or, Int.toNat_natCast]
              by_cases h : tn.getD y 0 < tn.getD m 0
              · rw [if_pos h, decide_eq_true h]; rfl
              · rw [if_neg h, decide_eq_false h]; rfl)
            clear hBx hB hle9 T PL2 TB2 hlen
            generalize tn.getD y 0 = ty at *
            generalize tn.getD m 0 = tm at *
            have hd0 : decide ((m : Int) < 0) = false := decide_eq_false (by omega)
            by_cases hlt9 : ty < tm
            · have hd : decide (ty < tm) = true := decide_eq_true hlt9
              have HSE := hide (show bestL tn (List.map (clampN len) (pre ++ [x])) = (y : Int) by rw [HSN.out, HST.out, if_pos hlt9])
              clear HSN HST
              gi_wp2
              refine wpIn_round_quiet rfl (by kernel_rfl) (by kernel_rfl) (by kernel_rfl) ?_
              repeat (gi_big_quiet_step (fail))
              refine wpQuietIn_nil ?_
              intro _ hw9
              obtain ⟨nq, rfl⟩ := hw9
              gi_wp2
              have E := RS.out nq (.int .i64 (y : Int))
              rw [← HSE.out] at E ⊢
              exact E
            · have hd : decide (ty < tm) = false := decide_eq_false hlt9
              have HSE := hide (show bestL tn (List.map (clampN len) (pre ++ [x])) = (m : Int) by rw [HSN.out, HST.out, if_neg hlt9])
              clear HSN HST
              gi_wp2
              refine wpIn_round_quiet rfl (by kernel_rfl) (by kernel_rfl) (by kernel_rfl) ?_
              repeat (gi_big_quiet_step (fail))
              refine wpQuietIn_nil ?_
              intro _ hw9
              obtain ⟨nq, rfl⟩ := hw9
              gi_wp2
              have E := RN.out nq
              rw [← HSE.out] at E
              exact E
        case done =>
          rintro D ys W hD rfl ⟨hBx, hB⟩ hK
          rw [readyL_clamp] at hBx
          obtain ⟨m, hmr, hml, hbm, hN⟩ := first_next (tnF len l l.length) HAL.out (k := k) (by rw [HEL.out]; exact hlt)
          rw [HEL.out] at hbm hml hN
          rw [hbm] at hBx
          have NG := (first_wt (tnF len l l.length) HAL.out k (by rw [HEL.out]; omega)).nigh HAH.out
          have hlb := HBH.out m hml
          have TK := take_c p g1 g2 w.heap.size len m (firstN (tnF len l l.length) es k).2 bh W (HJ.pl.below hB) hml hle
            (fun j hj => by rw [hlb] at hj; exact behF_lt len j hj)
            (by rw [hlb]; have := behF_len (m := m) (len := len) (es := es) (fun i hi => HAH.out i (by rw [HEL.out]; exact hi)) len (Nat.le_refl _); omega) NG
          rw [hlb] at TK
          have TKh := hide TK
          have z0 := hBx.cell
          have HBXw := hide hBx
          have HBw := hide hB
          have HNw := hide hN
          have HKw := hide hK
          have HDw := hide (show wr.heap.size ≤ D by have := HS3.out; omega)
          have OW := hide (own_belowR HJ.out hB)
          clear TK hbm hmr hlb NG hBx hB hN hK PL2 TB2 hD
          go_wp2_with fail
          refine TKh.out.mono ?_
          rintro e Wt ⟨rfl, hPt, on, be⟩
          have hge : w.heap.size ≤ W.heap.size := by have := HJ.be.size; have := HBw.out.size; omega
          have be2 := hide (be hge)
          have PT := hide hPt
          have ON := hide on
          have OWt := hide (own_O OW.out on (fun g hg => by
            have h1 := (own_block OW.out hg).1
            have h2 := PW0.out.g1
            simp only [List.mem_singleton]
            omega))
          have z1 : Wt.cell? ⟨wr.heap.size, 0, none⟩ = some (.int .i64 m) := (show Boxed Wt wr.heap.size 3 (.int .i64 m) from (on.2 wr.heap.size HBXw.out.lt (by have := HJ.pl.waits.lt; simp only [List.mem_singleton]; omega)).trans HBXw.out).cell
          obtain ⟨A1, c1, W3, hrun, hown, hb3, _, _, hcl9⟩ := push_int Wt W0.heap.size OA oc k (natI (firstN (tnF len l l.length) es k).1) (m : Int) (by rw [natI_len, firstN_len]) OWt.out (by have := HJ.sz; have := HBw.out.size; have := on.1; omega) (by omega)
          have NX := hide (HJ.next hlt HG1.out HLO.out.1 PW0.out HBw.out HDw.out HKw.out HNw.out PT.out ON.out be2.out hown hb3 hcl9)
          clear hPt on be z0 hown hb3 hcl9
          go_wp2_with (at_builtin; refine Lib.wpList_append_run _ rfl (.tmp 76) (.tmp 78) _ _ rfl _ _ rfl rfl _ W3 hrun ?_)
          refine ⟨⟨_, _, _, _, _, _, _, _, _, _, _, _, _, _, _, _, _, _, _, _, _, _, _, _, _, _, _, _, _, _, _, _, D :: Ds, k + 1, NX.out, rfl⟩, ?_⟩
          show len - slen (Value.slice A1 (k + 1) c1) < len - slen (Value.slice OA k oc)
          show len - (k + 1) < len - k
          omega
end Ord
end Go.Proofs.Ytflaikhkddjfjaa
