/- A message is sent: the program. -/
import Derived.Test.YtonmojinijpneaaRows
import Derived.Test.YtonmojinijpneaaQuL
import Derived.Test.YtonmojinijpneaaShelf
import Derived.Deep.CutRange
namespace Go.Proofs.Ytonmojinijpneaa
open Go Go.RowKit Go.Lib
set_option linter.unusedVariables false
set_option linter.unusedSimpArgs false
namespace Qu
/-- Behind the senders: how the world lies. -/
def SndS (w5 : World) (q : Nat) (L : QL) (l : List Msg) (m : Msg) (wx : World) : Prop := ∃ sl' : List (Inb × SRow),
  Ch (L.foot q) w5 wx ∧ wx.heap[q]? = w5.heap[q]? ∧ wx.heap[L.cm]? = w5.heap[L.cm]? ∧ (∀ p ∈ L.cl, wx.heap[p.2.g]? = w5.heap[p.2.g]?) ∧ SMap.MB whV wx L.pm (SMap.put (L.pl.map fun p => (p.1, plV p.2)) m.who (plV ⟨m.ch, (rowsOf l m.ch).length⟩)) ∧
  ((rowsOf l m.ch ≠ [] ∧ sl' = L.sl ∧ SMap.MB inV wx L.sm (L.sl.map fun p => (p.1, slV (fromsOf l p.1) p.2)) ∧ ∀ p ∈ L.sl, wx.heap[p.2.g]? = w5.heap[p.2.g]?) ∨
   (rowsOf l m.ch = [] ∧ ∃ y, sl' = updA L.sl m.inb y ∧ SMap.MB inV wx L.sm (SMap.put (L.sl.map fun p => (p.1, slV (fromsOf l p.1) p.2)) m.inb (slV (fromsOf (l ++ [m]) m.inb) y)) ∧ wx.ownsRow 0 3 1 (.slice (some ⟨y.g, 0, none⟩) (fromsOf (l ++ [m]) m.inb).length y.cap) (fromsOf (l ++ [m]) m.inb).length (ints (fromsOf (l ++ [m]) m.inb)) ∧ (∀ p ∈ L.sl, ¬ p.1 = m.inb → wx.heap[p.2.g]? = w5.heap[p.2.g]?) ∧ ((∃ y0, (m.inb, y0) ∈ L.sl ∧ y0.g = y.g) ∨ w5.heap.size ≤ y.g)))
theorem rise_cut {x : Int} : ∀ {l : List Int}, l.Pairwise (· < ·) → ¬ x ∈ l → l.take (l.countP (fun f => decide (f < x))) = l.filter (fun f => decide (f < x)) ∧ l.drop (l.countP (fun f => decide (f < x))) = l.filter (fun f => decide (x < f))
  | [], _, _ => ⟨rfl, rfl⟩
  | y :: l, h, hx => by
    obtain ⟨h1, h2⟩ := List.pairwise_cons.1 h
    have hne : ¬ x = y := fun e => hx (by rw [e]; exact List.mem_cons_self)
    have hx' : ¬ x ∈ l := fun hm => hx (List.mem_cons_of_mem _ hm)
    obtain ⟨i1, i2⟩ := rise_cut h2 hx'
    by_cases hy : y < x
    · have hxy : ¬ x < y := by omega
      rw [List.countP_cons, if_pos (by simpa using hy), List.filter_cons, if_pos (by simpa using hy), List.filter_cons, if_neg (by simpa using hxy)]
      exact ⟨by rw [List.take_succ_cons, i1], by rw [List.drop_succ_cons, i2]⟩
    · have hxy : x < y := by omega
      have e0 : l.countP (fun f => decide (f < x)) = 0 := List.countP_eq_zero.2 fun z hz => by
        have := h1 z hz
        simp
        omega
      have e1 : l.filter (fun f => decide (f < x)) = [] := List.filter_eq_nil_iff.2 fun z hz => by
        have := h1 z hz
        simp
        omega
      have e2 : l.filter (fun f => decide (x < f)) = l := List.filter_eq_self.2 fun z hz => by
        have := h1 z hz
        simp
        omega
      rw [List.countP_cons, if_neg (by simpa using hy), e0, List.filter_cons, if_neg (by simpa using hy), List.filter_cons, if_pos (by simpa using hxy), e1, e2]
      exact ⟨rfl, rfl⟩
theorem froms_ins {l : List Msg} {m : Msg} (hm : mayM m) (hr : rowsOf l m.ch = []) :
    (fromsOf l m.inb).take ((fromsOf l m.inb).countP (fun f => decide (f < m.fr))) ++ m.fr :: (fromsOf l m.inb).drop ((fromsOf l m.inb).countP (fun f => decide (f < m.fr))) = fromsOf (l ++ [m]) m.inb := by
  have hx : ¬ m.fr ∈ fromsOf l m.inb := fun h => by
    obtain ⟨_, y, hy, e⟩ := fromsOf_mem.1 h
    exact rowsOf_ne.2 ⟨y, hy, e⟩ hr
  obtain ⟨h1, h2⟩ := rise_cut (fromsOf_rise l m.inb) hx
  rw [h1, h2, ← fromsOf_new ⟨hm.1, hm.2.1⟩ hr]
/-- What lies at a receiver, with its row. -/
theorem froms_row {w : World} {q : Nat} {L : QL} {l : List Msg} (h : QSt w q L l) (b : Inb) : ∃ (A : Option Addr) (cap : Nat), (SMap.look (L.sl.map fun p => (p.1, slV (fromsOf l p.1) p.2)) b).getD (.slice none 0 0) = .slice A (fromsOf l b).length cap ∧ w.ownsRow 0 3 1 (.slice A (fromsOf l b).length cap) (fromsOf l b).length (ints (fromsOf l b)) ∧ (A = none ∨ ∃ y, (b, y) ∈ L.sl ∧ A = some ⟨y.g, 0, none⟩) := by
  by_cases hr : fromsOf l b = []
  · rw [h.nofr hr, hr]; exact ⟨none, 0, rfl, ⟨rfl, .inl ⟨rfl, rfl⟩⟩, .inl rfl⟩
  · obtain ⟨x, hx, e⟩ := h.fr hr
    rw [e]
    exact ⟨_, _, rfl, h.srow _ hx, .inr ⟨x, hx, rfl⟩⟩
theorem Bs_c {w : World} (A : Option Addr) (cap k : Nat) (fs : List Int) (x : Int) (hk : fs.length = k) (hl : k ≤ 64) (hs : fs.Pairwise (· < ·)) (h : w.ownsRow 0 3 1 (.slice A k cap) k (ints fs)) :
    Calls Try.prog 62 #[.slice A k cap, .int .i64 x] w fun e w' => e = .returned (.tuple #[.int .i64 (fs.countP (fun f => decide (f < x)) : Nat), .bool (fs.contains x)]) ∧ Below w.heap.size w w' := by
  rcases Nat.eq_zero_or_pos k with h0 | h0
  · subst h0
    have e : fs = [] := List.eq_nil_of_length_eq_zero hk
    subst e
    refine (Try.slices_BinarySearch_int_empty A cap x w).mono ?_
    rintro e w' ⟨rfl, rfl⟩
    exact ⟨rfl, Below.refl _ _⟩
  · obtain ⟨g, rfl, _, _, _, _, _, hc⟩ := own_cell h h0
    have hp : (fs.take k).Pairwise (· ≤ ·) := by rw [← hk, List.take_length]; exact hs.imp fun h => Int.le_of_lt h
    refine (Try.slices_BinarySearch_int g 0 k cap fs x w (by omega) (by omega) (fun j hj => by rw [Nat.zero_add]; exact hc j _ (ints_at hj)) hp).mono ?_
    rintro e w' ⟨rfl, qn, rfl⟩
    rw [← hk, List.take_length]
    exact ⟨rfl, ⟨rfl, rfl, rfl, Nat.le_refl _, fun _ _ => rfl⟩⟩
/-- What lies at a call, whichever. -/
theorem place_any {w : World} {q : Nat} {L : QL} {l : List Msg} (h : QSt w q L l) (v : Who) : ∃ pk pf pt pa, (SMap.look (L.pl.map fun p => (p.1, plV p.2)) v).getD (.agg #[.string ⟨#[]⟩, .int .i64 0, .int .i64 0, .int .i64 0]) = .agg #[.string pk, .int .i64 pf, .int .i64 pt, .int .i64 pa] ∧ (SMap.look (L.pl.map fun p => (p.1, plV p.2)) v).isSome = (plc l v).isSome := by
  rw [h.pin]
  unfold plcR
  cases plc l v with
  | none => exact ⟨_, _, _, _, rfl, rfl⟩
  | some i => exact ⟨_, _, _, _, rfl, rfl⟩
/-- What lies at a channel, with its row. -/
theorem row_any {w : World} {q : Nat} {L : QL} {l : List Msg} (h : QSt w q L l) (c : Chan) : ∃ (A : Option Addr) (cap fi : Nat), (SMap.look (L.cl.map fun p => (p.1, rowV (rowsOf l p.1) p.2)) c).getD (.agg #[.slice none 0 0, .int .i64 0]) = .agg #[.slice A (rowsOf l c).length cap, .int .i64 fi] ∧ w.ownsRow 0 33 8 (.slice A (rowsOf l c).length cap) (rowsOf l c).length (msgCs (rowsOf l c)) ∧ ((rowsOf l c = [] ∧ A = none ∧ fi = 0) ∨ ∃ y, (c, y) ∈ L.cl ∧ A = some ⟨y.g, 0, none⟩ ∧ fi = y.fi ∧ rowsOf l c ≠ []) := by
  by_cases hr : rowsOf l c = []
  · rw [h.norow hr, hr]
    exact ⟨none, 0, 0, rfl, ⟨rfl, .inl ⟨rfl, rfl⟩⟩, .inl ⟨rfl, rfl, rfl⟩⟩
  · obtain ⟨x, hx, e⟩ := h.row hr
    rw [e]
    exact ⟨_, _, _, rfl, h.crow _ hx, .inr ⟨x, hx, rfl, rfl, hr⟩⟩
set_option maxRecDepth 100000 in
set_option maxHeartbeats 32000000 in
theorem Send_c {w : World} {q : Nat} {L : QL} {l : List Msg} (h : QSt w q L l) (m : Msg) (hl : l.length ≤ 1000) :
    Calls Try.prog 28 #[.pointer (some ⟨q, 0, none⟩), .agg #[.string m.key, .int .i64 m.fr, .int .i64 m.to, .int .i64 m.ca, .int .i64 m.tg, .int .i64 m.va, .int .i64 m.sz, .bool m.tk]] w fun e w' => e = .returned (.int .i64 (sendE l m)) ∧ Goes w q L (sendL l m) w' := by
  have b1 := (Below.refl w.heap.size w).alloc (Nat.le_refl _) (.cells #[.string m.key, .int .i64 m.fr, .int .i64 m.to, .int .i64 m.ca, .int .i64 m.tg, .int .i64 m.va, .int .i64 m.sz, .bool m.tk] 33)
  have kx := Blk.new w 33 #[.string m.key, .int .i64 m.fr, .int .i64 m.to, .int .i64 m.ca, .int .i64 m.tg, .int .i64 m.va, .int .i64 m.sz, .bool m.tk]
  have q1 := h.below b1
  have HQ0 := hide h
  go_enter Try.func28, Try.ntmps28
  go_upto_region 1 with (fail)
  obtain ⟨w1, hw1⟩ : ∃ z, w.alloc (.cells #[.string m.key, .int .i64 m.fr, .int .i64 m.to, .int .i64 m.ca, .int .i64 m.tg, .int .i64 m.va, .int .i64 m.sz, .bool m.tk] 33) = z := ⟨_, rfl⟩
  rw [hw1] at b1 kx q1 ⊢
  obtain ⟨X, hX⟩ : ∃ X, w.heap.size = X := ⟨_, rfl⟩
  rw [hX] at kx ⊢
  have HQ1 := hide q1
  have KM := hide kx
  have HB1 := hide (And.intro b1 b1.size)
  have HX := hide hX
  have MC := hide (made_c q1)
  clear b1 kx q1 hw1 hX h
  go_wp2_with fail
  refine MC.out.mono ?_
  rintro e w1b ⟨rfl, hw1b⟩
  obtain rfl : w1 = w1b := hw1b
  go_upto_region 3 with (fail)
  have br := (Below.refl w1.heap.size w1).alloc (Nat.le_refl _) (.cells #[.string ⟨#[]⟩, .int .i64 0, .int .i64 0, .int .i64 0] 108)
  have kr := Blk.new w1 108 #[.string ⟨#[]⟩, .int .i64 0, .int .i64 0, .int .i64 0]
  have HQ3 := hide (HQ1.out.below br)
  have km3 := KM.out.below br KM.out.lt
  have c1' : w1.cell? ⟨q, 1, none⟩ = some (.map (some L.pm)) := HQ1.out.blk.cell 1
  have c1 : (w1.alloc (.cells #[.string ⟨#[]⟩, .int .i64 0, .int .i64 0, .int .i64 0] 108)).cell? ⟨q, 1, none⟩ = some (.map (some L.pm)) := HQ3.out.blk.cell 1
  have m1' : w1.cell? ⟨X, 1, none⟩ = some (.int .i64 m.fr) := KM.out.cell 1
  have m3' : w1.cell? ⟨X, 3, none⟩ = some (.int .i64 m.ca) := KM.out.cell 3
  have m1 : (w1.alloc (.cells #[.string ⟨#[]⟩, .int .i64 0, .int .i64 0, .int .i64 0] 108)).cell? ⟨X, 1, none⟩ = some (.int .i64 m.fr) := km3.cell 1
  have m3 : (w1.alloc (.cells #[.string ⟨#[]⟩, .int .i64 0, .int .i64 0, .int .i64 0] 108)).cell? ⟨X, 3, none⟩ = some (.int .i64 m.ca) := km3.cell 3
  have lk := SMap.run_lookupOk keyWho Try.underlying90 zero_place m.who L.pm _ _ HQ3.out.drew.mp
  have lk' := SMap.run_lookupOk keyWho Try.underlying90 zero_place m.who L.pm _ w1.drew HQ1.out.drew.mp
  obtain ⟨pk, pf, pt, pa, hv, hs⟩ := place_any HQ1.out m.who
  rw [hv, hs] at lk lk'
  obtain ⟨sent, hsent⟩ : ∃ b, (plc l m.who).isSome = b := ⟨_, rfl⟩
  rw [hsent] at lk lk'
  unfold whV Msg.who at lk lk'
  have HSE := hide hsent
  have z0 : (w1.alloc (.cells #[.string ⟨#[]⟩, .int .i64 0, .int .i64 0, .int .i64 0] 108)).cell? ⟨w1.heap.size, 0, none⟩ = some (.string ⟨#[]⟩) := kr.cell 0
  have z1 : (w1.alloc (.cells #[.string ⟨#[]⟩, .int .i64 0, .int .i64 0, .int .i64 0] 108)).cell? ⟨w1.heap.size, 1, none⟩ = some (.int .i64 0) := kr.cell 1
  have z2 : (w1.alloc (.cells #[.string ⟨#[]⟩, .int .i64 0, .int .i64 0, .int .i64 0] 108)).cell? ⟨w1.heap.size, 2, none⟩ = some (.int .i64 0) := kr.cell 2
  have z3 : (w1.alloc (.cells #[.string ⟨#[]⟩, .int .i64 0, .int .i64 0, .int .i64 0] 108)).cell? ⟨w1.heap.size, 3, none⟩ = some (.int .i64 0) := kr.cell 3
  have f0 := kr.frozen 0
  have f1 := kr.frozen 1
  have f2 := kr.frozen 2
  have f3 := kr.frozen 3
  have B2 := hide (((Below.refl w1.heap.size w1).alloc (Nat.le_refl _) (.cells #[.string pk, .int .i64 pf, .int .i64 pt, .int .i64 pa] 108)).drew)
  clear hv hs hsent br kr km3 MC
  go_cut [5, 6] from 15 to 27 (fun x5 x6 wx => x5 = .pointer (some ⟨w1.heap.size, 0, none⟩) ∧ x6 = .bool sent ∧ (w1.alloc (.cells #[.string pk, .int .i64 pf, .int .i64 pt, .int .i64 pa] 108)).drew = wx)
  case first =>
    go_region
    all_goals (go_wp2_with fail)
    all_goals go_meet
    all_goals exact ⟨rfl, rfl, rfl⟩
  obtain ⟨rfl, rfl, hwc⟩ := hcut
  subst hwc
  clear lk lk' c1 c1' m1 m1' m3 m3' z0 z1 z2 z3 f0 f1 f2 f3 HQ3
  obtain ⟨w2, hw2⟩ : ∃ z, (w1.alloc (.cells #[.string pk, .int .i64 pf, .int .i64 pt, .int .i64 pa] 108)).drew = z := ⟨_, rfl⟩
  have b2 := B2.out
  rw [hw2] at b2 ⊢
  have HQ2 := hide (HQ1.out.below b2)
  have KM2 := hide (KM.out.below b2 KM.out.lt)
  have HB2 := hide (And.intro (HB1.out.1.trans (b2.mono HB1.out.2)) (Nat.le_trans HB1.out.2 b2.size))
  clear b2 B2 hw2 HQ1 KM HB1
  generalize w1.heap.size = PB
  have x0 : w2.cell? ⟨X, 0, none⟩ = some (.string m.key) := KM2.out.cell 0
  have x1 : w2.cell? ⟨X, 1, none⟩ = some (.int .i64 m.fr) := KM2.out.cell 1
  have x2 : w2.cell? ⟨X, 2, none⟩ = some (.int .i64 m.to) := KM2.out.cell 2
  have x3 : w2.cell? ⟨X, 3, none⟩ = some (.int .i64 m.ca) := KM2.out.cell 3
  have x4 : w2.cell? ⟨X, 4, none⟩ = some (.int .i64 m.tg) := KM2.out.cell 4
  have x5 : w2.cell? ⟨X, 5, none⟩ = some (.int .i64 m.va) := KM2.out.cell 5
  have x6 : w2.cell? ⟨X, 6, none⟩ = some (.int .i64 m.sz) := KM2.out.cell 6
  have x7 : w2.cell? ⟨X, 7, none⟩ = some (.bool m.tk) := KM2.out.cell 7
  cases sent with
  | true =>
    have FE : Hid (sendE l m = 2) := hide (if_neg fun h => by have := HSE.out; rw [h.2] at this; cases this)
    have FL : Hid (sendL l m = l) := hide (if_neg fun h => by have := HSE.out; rw [h.2] at this; cases this)
    go_wp2_with fail
    go_ret
    exact ⟨by rw [FE.out]; rfl, by rw [FL.out]; exact Goes.same HQ0.out HB2.out.1⟩
  | false =>
    have hpn : plc l m.who = none := by
      cases hp : plc l m.who with
      | none => rfl
      | some i => have := HSE.out; rw [hp] at this; cases this
    have HPN := hide hpn
    have MY := hide (may_c m w2)
    obtain ⟨my, hmy⟩ : ∃ b, decide (mayM m) = b := ⟨_, rfl⟩
    rw [hmy] at MY
    have HMY := hide hmy
    clear hpn hmy
    go_wp2_with fail
    refine MY.out.mono ?_
    rintro e w3 ⟨rfl, hb3⟩
    have HQ3 := hide (HQ2.out.below hb3)
    have KM3 := hide (KM2.out.below hb3 KM2.out.lt)
    have HB3 := hide (And.intro (HB2.out.1.trans (hb3.mono HB2.out.2)) (Nat.le_trans HB2.out.2 hb3.size))
    clear hb3 MY HQ2 KM2 HB2 x0 x1 x2 x3 x4 x5 x6 x7
    cases my with
    | false =>
      have hnm : ¬ mayM m := of_decide_eq_false HMY.out
      have FE : Hid (sendE l m = 2) := hide (if_neg fun h => hnm h.1)
      have FL : Hid (sendL l m = l) := hide (if_neg fun h => hnm h.1)
      clear hnm
      go_wp2_with fail
      go_ret
      exact ⟨by rw [FE.out]; rfl, by rw [FL.out]; exact Goes.same HQ0.out HB3.out.1⟩
    | true =>
      have hym : mayM m := of_decide_eq_true HMY.out
      have HYM := hide hym
      have FE : Hid (sendE l m = 0) := hide (if_pos ⟨hym, HPN.out⟩)
      have FL : Hid (sendL l m = l ++ [m]) := hide (if_pos ⟨hym, HPN.out⟩)
      clear hym
      have x0 : w3.cell? ⟨X, 0, none⟩ = some (.string m.key) := KM3.out.cell 0
      have x1 : w3.cell? ⟨X, 1, none⟩ = some (.int .i64 m.fr) := KM3.out.cell 1
      have x2 : w3.cell? ⟨X, 2, none⟩ = some (.int .i64 m.to) := KM3.out.cell 2
      have x3 : w3.cell? ⟨X, 3, none⟩ = some (.int .i64 m.ca) := KM3.out.cell 3
      have x4 : w3.cell? ⟨X, 4, none⟩ = some (.int .i64 m.tg) := KM3.out.cell 4
      have x5 : w3.cell? ⟨X, 5, none⟩ = some (.int .i64 m.va) := KM3.out.cell 5
      have x6 : w3.cell? ⟨X, 6, none⟩ = some (.int .i64 m.sz) := KM3.out.cell 6
      have x7 : w3.cell? ⟨X, 7, none⟩ = some (.bool m.tk) := KM3.out.cell 7
      have b4 := (Below.refl w3.heap.size w3).alloc (Nat.le_refl _) (.cells #[.string m.key, .int .i64 m.fr, .int .i64 m.to] 95)
      have k4 := Blk.new w3 95 #[.string m.key, .int .i64 m.fr, .int .i64 m.to]
      obtain ⟨w4, hw4⟩ : ∃ z, w3.alloc (.cells #[.string m.key, .int .i64 m.fr, .int .i64 m.to] 95) = z := ⟨_, rfl⟩
      obtain ⟨C, hC⟩ : ∃ z, w3.heap.size = z := ⟨_, rfl⟩
      rw [hw4] at b4 k4
      rw [hC] at k4
      have HQ4 := hide (HQ3.out.below b4)
      have KM4 := hide (KM3.out.below b4 KM3.out.lt)
      have HB4 := hide (And.intro (HB3.out.1.trans (b4.mono HB3.out.2)) (Nat.le_trans HB3.out.2 b4.size))
      have KC4 := hide k4
      have HW4 := hide hw4
      have HC := hide hC
      have HXC := hide (show X < C by rw [← hC]; exact KM3.out.lt)
      clear b4 k4 hw4 hC HQ3 KM3 HB3
      go_upto_region 7 with (fail)
      rw [HW4.out, HC.out]
      clear HW4 HC x0 x1 x2 x3 x4 x5 x6 x7
      have br := (Below.refl w4.heap.size w4).alloc (Nat.le_refl _) (.cells #[.slice none 0 0, .int .i64 0] 103)
      have kr := Blk.new w4 103 #[.slice none 0 0, .int .i64 0]
      have HQ5 := hide (HQ4.out.below br)
      have kc5 := KC4.out.below br KC4.out.lt
      have c0' : w4.cell? ⟨q, 0, none⟩ = some (.map (some L.cm)) := HQ4.out.blk.cell 0
      have c0 : (w4.alloc (.cells #[.slice none 0 0, .int .i64 0] 103)).cell? ⟨q, 0, none⟩ = some (.map (some L.cm)) := HQ5.out.blk.cell 0
      have y0' : w4.cell? ⟨C, 0, none⟩ = some (.string m.key) := KC4.out.cell 0
      have y0 : (w4.alloc (.cells #[.slice none 0 0, .int .i64 0] 103)).cell? ⟨C, 0, none⟩ = some (.string m.key) := kc5.cell 0
      have y1' : w4.cell? ⟨C, 1, none⟩ = some (.int .i64 m.fr) := KC4.out.cell 1
      have y1 : (w4.alloc (.cells #[.slice none 0 0, .int .i64 0] 103)).cell? ⟨C, 1, none⟩ = some (.int .i64 m.fr) := kc5.cell 1
      have y2' : w4.cell? ⟨C, 2, none⟩ = some (.int .i64 m.to) := KC4.out.cell 2
      have y2 : (w4.alloc (.cells #[.slice none 0 0, .int .i64 0] 103)).cell? ⟨C, 2, none⟩ = some (.int .i64 m.to) := kc5.cell 2
      have z0 : (w4.alloc (.cells #[.slice none 0 0, .int .i64 0] 103)).cell? ⟨w4.heap.size, 0, none⟩ = some (.slice none 0 0) := kr.cell 0
      have z1 : (w4.alloc (.cells #[.slice none 0 0, .int .i64 0] 103)).cell? ⟨w4.heap.size, 1, none⟩ = some (.int .i64 0) := kr.cell 1
      have f0 := kr.frozen 0
      have f1 := kr.frozen 1
      have lk := SMap.run_lookup keyChan Try.underlying89 zero_row m.ch L.cm _ _ HQ5.out.drew.mc
      have lk' := SMap.run_lookup keyChan Try.underlying89 zero_row m.ch L.cm _ w4.drew HQ4.out.drew.mc
      obtain ⟨A, cap, fi, hv, hown, hcs⟩ := row_any HQ4.out m.ch
      rw [hv] at lk lk'
      unfold chV Msg.ch at lk lk'
      obtain ⟨n, hn⟩ : ∃ n, (rowsOf l m.ch).length = n := ⟨_, rfl⟩
      unfold Msg.ch at hn
      rw [hn] at lk lk'
      have HN : Hid ((rowsOf l m.ch).length = n) := hide hn
      rw [HN.out] at hown
      have HOW4 := hide hown
      have HCS := hide hcs
      have k5 := Blk.new w4 103 #[.slice A n cap, .int .i64 fi]
      have b5 := (Below.refl w4.heap.size w4).alloc (Nat.le_refl _) (.cells #[.slice A n cap, .int .i64 fi] 103)
      have K5 := hide (k5.below (Below.refl _ _).drew k5.lt)
      have B5 := hide b5.drew
      clear k5 b5 hv hown hcs hn br kr kc5
      go_cut [8] from 41 to 46 (fun x8 wx => x8 = .pointer (some ⟨w4.heap.size, 0, none⟩) ∧ (w4.alloc (.cells #[.slice A n cap, .int .i64 fi] 103)).drew = wx)
      case first =>
        go_region
        all_goals (go_wp2_with fail)
        all_goals go_meet
        all_goals exact ⟨rfl, rfl⟩
      obtain ⟨rfl, hwc⟩ := hcut
      subst hwc
      clear lk lk' c0 c0' y0 y1 y2 y0' y1' y2' z0 z1 f0 f1 HQ5
      obtain ⟨w5, hw5⟩ : ∃ z, (w4.alloc (.cells #[.slice A n cap, .int .i64 fi] 103)).drew = z := ⟨_, rfl⟩
      obtain ⟨R, hR⟩ : ∃ z, w4.heap.size = z := ⟨_, rfl⟩
      rw [hw5, hR] at K5 ⊢
      have b5 := B5.out
      rw [hw5] at b5
      have HQ5 := hide (HQ4.out.below b5)
      have KM5 := hide (KM4.out.below b5 KM4.out.lt)
      have KC5 := hide (KC4.out.below b5 KC4.out.lt)
      have HOW5 := hide (own_belowR HOW4.out b5)
      have HB5 := hide (And.intro (HB4.out.1.trans (b5.mono HB4.out.2)) (Nat.le_trans HB4.out.2 b5.size))
      have HFX := hide (fun b (hb : b ∈ L.foot q) => show b < X by rw [← HX.out]; exact HQ0.out.lt b hb)
      have HCR := hide (show C < R by rw [← hR]; exact KC4.out.lt)
      clear b5 hw5 hR B5 HQ4 KM4 KC4 HOW4 HB4
      have c1 : w5.cell? ⟨q, 1, none⟩ = some (.map (some L.pm)) := HQ5.out.blk.cell 1
      have m1 : w5.cell? ⟨X, 1, none⟩ = some (.int .i64 m.fr) := KM5.out.cell 1
      have m3 : w5.cell? ⟨X, 3, none⟩ = some (.int .i64 m.ca) := KM5.out.cell 3
      have y0 : w5.cell? ⟨C, 0, none⟩ = some (.string m.key) := KC5.out.cell 0
      have y1 : w5.cell? ⟨C, 1, none⟩ = some (.int .i64 m.fr) := KC5.out.cell 1
      have y2 : w5.cell? ⟨C, 2, none⟩ = some (.int .i64 m.to) := KC5.out.cell 2
      have r0 : w5.cell? ⟨R, 0, none⟩ = some (.slice A n cap) := K5.out.cell 0
      obtain ⟨w6, hrun, h6e, hmb, hgr⟩ := SMap.run_mapUpdate keyWho Try.underlying90 m.who (plV ⟨m.ch, n⟩) L.pm _ w5.drew HQ5.out.drew.mp
      have RUN : (Instr.mapUpdate 90 (.map (some L.pm)) (.agg #[.int .i64 m.fr, .int .i64 m.ca]) (.agg #[.string m.key, .int .i64 m.fr, .int .i64 m.to, .int .i64 n])).run Try.prog w5.drew = .ok () w6 := hrun
      have CH6 := hide ((Ch.of_below (S := [L.pm]) (Below.refl _ _).drew).trans (Ch.of_grown hgr (List.mem_singleton.2 rfl)))
      have MP6 := hide hmb
      have hfn := HQ5.out.fd
      unfold QL.foot at hfn
      have n1 := List.nodup_cons.1 hfn
      have n2 := List.nodup_cons.1 n1.2
      have n3 := List.nodup_cons.1 n2.2
      have n4 := List.nodup_cons.1 n3.2
      have HPM := hide (fun b (h : b ∈ L.sm :: (L.cl.map (·.2.g) ++ L.sl.map (·.2.g))) => show ¬ b ∈ [L.pm] from fun hm => n3.1 (by rw [← List.mem_singleton.1 hm]; exact h))
      have HQP := hide (show ¬ q ∈ [L.pm] from fun hm => n1.1 (by rw [List.mem_singleton.1 hm]; exact List.mem_cons_of_mem _ List.mem_cons_self))
      have HCP := hide (show ¬ L.cm ∈ [L.pm] from fun hm => n2.1 (by rw [List.mem_singleton.1 hm]; exact List.mem_cons_self))
      have N1 := hide n1.1
      have N2 := hide n2.1
      have N4 := hide n4.1
      have N5 := hide (List.nodup_append.1 n4.2)
      clear hrun h6e hmb hgr hfn n1 n2 n3 n4
      go_upto_region 8 with (fail)
      go_cut [] from 47 to 60 (fun wx => w6 = wx)
      case first =>
        go_region
        all_goals (go_wp2_with fail)
        all_goals go_meet
        all_goals exact rfl
      have hwc := hcut
      subst hwc
      clear c1 m1 m3 y0 y1 y2 r0 RUN
      have KM6 := hide (show Blk w6 X 33 #[.string m.key, .int .i64 m.fr, .int .i64 m.to, .int .i64 m.ca, .int .i64 m.tg, .int .i64 m.va, .int .i64 m.sz, .bool m.tk] from (CH6.out.block X KM5.out.lt (by have := HFX.out _ (foot_p (L := L) (q := q)); intro hm; have e := List.mem_singleton.1 hm; omega)).trans KM5.out)
      have KC6 := hide (show Blk w6 C 95 #[.string m.key, .int .i64 m.fr, .int .i64 m.to] from (CH6.out.block C KC5.out.lt (by have := HFX.out _ (foot_p (L := L) (q := q)); have := HXC.out; intro hm; have e := List.mem_singleton.1 hm; omega)).trans KC5.out)
      have KR6 := hide (show Blk w6 R 103 #[.slice A n cap, .int .i64 fi] from (CH6.out.block R K5.out.lt (by have := HFX.out _ (foot_p (L := L) (q := q)); have := HXC.out; have := HCR.out; intro hm; have e := List.mem_singleton.1 hm; omega)).trans K5.out)
      have r0 : w6.cell? ⟨R, 0, none⟩ = some (.slice A n cap) := KR6.out.cell 0
      have SAME := hide (fun b (h : b ∈ L.sm :: (L.cl.map (·.2.g) ++ L.sl.map (·.2.g))) (hb : b < w5.heap.size) => CH6.out.block b hb (HPM.out b h))
      have CHF := hide (CH6.out.more (T := L.foot q) (fun j hj => .inl (by rw [List.mem_singleton.1 hj]; exact foot_p)))
      have KQ6 := hide (CH6.out.block q HQ5.out.blk.lt HQP.out)
      have KCM6 := hide (CH6.out.block L.cm HQ5.out.mc.lt HCP.out)
      have hnI : (rowsOf l m.ch = [] ∧ n = 0) ∨ (rowsOf l m.ch ≠ [] ∧ ¬ n = 0) := by
        have := HN.out
        by_cases e : rowsOf l m.ch = []
        · exact .inl ⟨e, by rw [← this, e]; rfl⟩
        · refine .inr ⟨e, fun h0 => e (List.eq_nil_of_length_eq_zero (by rw [this]; exact h0))⟩
      go_upto_if 64 with (fail)
      generalize hbn : ((n : Int) == 0) = bn
      have HBN := hide hbn
      clear hbn
      go_cut [9, 10, 11] from 65 to 97 (fun _ _ _ wx => SndS w5 q L l m wx)
      case first =>
        rcases hnI with ⟨hemp, hn0⟩ | ⟨hne, hn0⟩
        rotate_left
        · have SS := hide (show SndS w5 q L l m w6 from ⟨L.sl, CHF.out, KQ6.out, KCM6.out, fun p hp => SAME.out _ (List.mem_cons_of_mem _ (List.mem_append_left _ (List.mem_map_of_mem (f := fun p : Chan × CRow => p.2.g) hp))) (HQ5.out.lt _ (foot_row hp)), by rw [HN.out]; exact MP6.out, .inl ⟨hne, rfl, (SAME.out _ List.mem_cons_self HQ5.out.ms.lt).trans HQ5.out.ms, fun p hp => SAME.out _ (List.mem_cons_of_mem _ (List.mem_append_right _ (List.mem_map_of_mem (f := fun p : Inb × SRow => p.2.g) hp))) (HQ5.out.lt _ (foot_srow hp))⟩⟩)
          have hb : bn = false := by rw [← HBN.out]; simpa using (show ¬ (n : Int) = 0 by omega)
          subst hb
          clear hne hn0
          go_wp2_with fail
          go_meet
          exact SS.out
        have hb : bn = true := by rw [← HBN.out, hn0]; rfl
        subst hb
        subst hn0
        have HEMP := hide hemp
        have HNN := HN
        clear hemp
        have x0 : w6.cell? ⟨X, 0, none⟩ = some (.string m.key) := KM6.out.cell 0
        have x2 : w6.cell? ⟨X, 2, none⟩ = some (.int .i64 m.to) := KM6.out.cell 2
        have b7 := (Below.refl w6.heap.size w6).alloc (Nat.le_refl _) (.cells #[.string m.key, .int .i64 m.to] 114)
        have k7 := Blk.new w6 114 #[.string m.key, .int .i64 m.to]
        obtain ⟨w7, hw7⟩ : ∃ z, w6.alloc (.cells #[.string m.key, .int .i64 m.to] 114) = z := ⟨_, rfl⟩
        obtain ⟨I, hI⟩ : ∃ z, w6.heap.size = z := ⟨_, rfl⟩
        rw [hw7] at b7 k7
        rw [hI] at k7
        have h56 := CH6.out.size
        have KI := hide k7
        have KM7 := hide (KM6.out.below b7 KM6.out.lt)
        have q6 : Blk w6 q 93 #[.map (some L.cm), .map (some L.pm), .map (some L.sm)] := KQ6.out.trans HQ5.out.blk
        have KQ7 := hide (q6.below b7 q6.lt)
        obtain ⟨SA, sc, hv, hos, hsa⟩ := froms_row HQ5.out m.inb
        obtain ⟨k, hk⟩ : ∃ k, (fromsOf l m.inb).length = k := ⟨_, rfl⟩
        rw [hk] at hv hos
        have HK := hide hk
        have HKL := hide (show k ≤ 64 by have := froms_len l m.inb; omega)
        have hsm6 : SMap.MB inV w6 L.sm (L.sl.map fun p => (p.1, slV (fromsOf l p.1) p.2)) := (SAME.out _ List.mem_cons_self HQ5.out.ms.lt).trans HQ5.out.ms
        have MS7 := hide (SMap.MB.below hsm6 b7 hsm6.lt)
        have hos6 : w6.ownsRow 0 3 1 (.slice SA k sc) k (ints (fromsOf l m.inb)) := by
          rcases hsa with e | ⟨y, hy, e⟩
          · subst e
            exact ⟨hos.1, hos.2.imp id (fun ⟨g, _, _, hv, _⟩ => by cases hv)⟩
          · subst e
            exact own_heap hos (SAME.out _ (List.mem_cons_of_mem _ (List.mem_append_right _ (List.mem_map_of_mem (f := fun p : Inb × SRow => p.2.g) hy))) (HQ5.out.lt _ (foot_srow hy)))
        have OS7 := hide (own_belowR hos6 b7)
        have LKS : Hid (∀ wx, SMap.MB inV wx L.sm (L.sl.map fun p => (p.1, slV (fromsOf l p.1) p.2)) → (Instr.lookup 91 (.map (some L.sm)) (.agg #[.string m.key, .int .i64 m.to]) false).run Try.prog wx = .ok (.slice SA k sc) wx) := hide (fun wx hm => by
          have h1 := SMap.run_lookup keyInb Try.underlying91 zero_ints m.inb L.sm _ wx hm
          rw [hv] at h1
          exact h1)
        obtain ⟨at_, hat⟩ : ∃ a, (fromsOf l m.inb).countP (fun f => decide (f < m.fr)) = a := ⟨_, rfl⟩
        obtain ⟨fd, hfd⟩ : ∃ b, (fromsOf l m.inb).contains m.fr = b := ⟨_, rfl⟩
        have HAT := hide hat
        have HFD := hide hfd
        have HAL := hide (show at_ ≤ k by rw [← hat, ← hk]; exact List.countP_le_length)
        have HINS := hide (froms_ins HYM.out HEMP.out)
        rw [hat] at HINS
        have HSA := hide hsa
        have HB7 := hide b7
        have HW7 := hide hw7
        have HI := hide hI
        obtain ⟨ROW, hrow⟩ : ∃ z, (Value.slice SA k sc).ownBlock = z := ⟨_, rfl⟩
        have HROW := hide hrow
        have HRW := hide (fun b (hb : ROW = some b) => show b < w7.heap.size from (own_block OS7.out (hrow.trans hb)).2.1)
        have hRF : ∀ b, ROW = some b → ∃ y, (m.inb, y) ∈ L.sl ∧ b = y.g := fun b hb => by
          rcases hsa with e | ⟨y, hy, e⟩
          · subst e; rw [← hrow] at hb; cases hb
          · subst e
            rw [← hrow] at hb
            exact ⟨y, hy, by injection hb with hb; exact hb.symm⟩
        have hslm : ∀ y, (m.inb, y) ∈ L.sl → y.g ∈ L.sl.map (·.2.g) := fun y hy => List.mem_map_of_mem (f := fun p : Inb × SRow => p.2.g) hy
        have HNQ := hide (show some q ≠ ROW from fun e => by obtain ⟨y, hy, e2⟩ := hRF q e.symm; exact N1.out (by rw [e2]; exact List.mem_cons_of_mem _ (List.mem_cons_of_mem _ (List.mem_cons_of_mem _ (List.mem_append_right _ (hslm y hy))))))
        have HNS := hide (show some L.sm ≠ ROW from fun e => by obtain ⟨y, hy, e2⟩ := hRF L.sm e.symm; exact N4.out (by rw [e2]; exact List.mem_append_right _ (hslm y hy)))
        have HNX := hide (show some X ≠ ROW from fun e => by obtain ⟨y, hy, e2⟩ := hRF X e.symm; have := HFX.out _ (foot_srow hy); simp only at this; omega)
        have HNI := hide (show some I ≠ ROW from fun e => by obtain ⟨y, hy, e2⟩ := hRF I e.symm; have := HQ5.out.lt _ (foot_srow hy); simp only at this; omega)
        have HRF := hide hRF
        have HGI := hide (fun (a b : World) (g : Nat) (h : (SA = some ⟨g, 0, none⟩ ∧ Ch [g] a b) ∨ (a.heap.size ≤ g ∧ Below a.heap.size a b)) => show a.grownBy b ROW by
          rcases h with ⟨e, h⟩ | ⟨_, h⟩
          · subst e
            rw [← hrow]
            exact ⟨h.os, h.tape, h.output, h.size, fun j hj hn => h.block j hj fun hm => hn (by rw [List.mem_singleton.1 hm]; rfl)⟩
          · exact grown_of_below h)
        clear b7 k7 hw7 hI h56 q6 hv hos hsa hk hsm6 hos6 hat hfd hrow hRF hslm
        go_upto_region 11 with (fail)
        rw [HW7.out, HI.out]
        clear HW7 HI x0 x2 r0
        let R : Nat → Value → World → Prop := fun sl u w1 => match sl with
          | 10 => u = .int .i64 (at_ : Int)
          | 11 => u = .bool fd
          | 70 => u = .tuple #[.int .i64 (at_ : Int), .bool fd]
          | 71 => u = .pointer (some ⟨q, 0, none⟩)
          | 72 => u = .pointer (some ⟨q, 0, none⟩)
          | 73 => u = .pointer (some ⟨q, 2, none⟩)
          | 74 => u = .map (some L.sm)
          | 75 => u = .agg #[.string m.key, .int .i64 m.to]
          | 76 => u = .slice SA k sc
          | 77 => u = .pointer (some ⟨X, 1, none⟩)
          | 78 => u = .int .i64 m.fr
          | 79 => u = .tuple #[.int .i64 (at_ : Int), .bool fd]
          | 80 => u = .int .i64 (at_ : Int)
          | 81 => u = .bool fd
          | _ => True
        refine wp_region_relGW [] R (fun a b => Below a.heap.size a b) (fun _ w => Below w7.heap.size w7 w) (by kernel_rfl) (by kernel_rfl) (by kernel_rfl) (by kernel_rfl) ?mono (fun w => Below.refl _ _) ((Below.refl _ _).drew) ?gs ?step ?fin
        case mono =>
          intro sl u wx wy h hk
          match sl with
          | 0 | 1 | 2 | 3 | 4 | 5 | 6 | 7 | 8 | 9 | 10 | 11 | 12 | 13 | 14 | 15 | 16 | 17 | 18 | 19 | 20 | 21 | 22 | 23 | 24 | 25 | 26 | 27 | 28 | 29 | 30 | 31 | 32 | 33 | 34 | 35 | 36 | 37 | 38 | 39 | 40 | 41 | 42 | 43 | 44 | 45 | 46 | 47 | 48 | 49 | 50 | 51 | 52 | 53 | 54 | 55 | 56 | 57 | 58 | 59 | 60 | 61 | 62 | 63 | 64 | 65 | 66 | 67 | 68 | 69 | 70 | 71 | 72 | 73 | 74 | 75 | 76 | 77 | 78 | 79 | 80 | 81 | _ + 82 => exact h
        case gs =>
          intro p hp u w1 h
          cases hp
        case step =>
          intro j o ho
          match j, ho with
          | 0, ho =>
            cases ho
            intro V aa wx hV hdep hval hj hsm hr
            have e0 : aa.tmps.getD 0 undef = .pointer (some ⟨q, 0, none⟩) := hsm 0 (by decide)
            rw [Array.getD_eq_getD_getElem?] at e0
            unfold Oper.wp
            simp only [execOp, Act.eval, Array.getD_eq_getD_getElem?, e0]
            go_simp
            first | exact ⟨_, rfl, rfl, Below.refl _ _⟩ | exact ⟨_, rfl, rfl, Below.refl _ _, hj⟩ | exact ⟨_, rfl, Below.refl _ _, hj⟩ | exact ⟨_, rfl, hj⟩
          | 1, ho =>
            cases ho
            intro V aa wx hV hdep hval hj hsm hr
            have e71 : aa.tmps.getD 71 undef = .pointer (some ⟨q, 0, none⟩) := hr 71 (by decide) (by apply Array.mem_toList_iff.1; repeat (first | exact List.Mem.head _ | apply List.Mem.tail))
            rw [Array.getD_eq_getD_getElem?] at e71
            unfold Oper.wp
            simp only [execOp, Act.eval, Array.getD_eq_getD_getElem?, e71]
            go_simp
            first | exact ⟨_, rfl, rfl, Below.refl _ _⟩ | exact ⟨_, rfl, rfl, Below.refl _ _, hj⟩ | exact ⟨_, rfl, Below.refl _ _, hj⟩ | exact ⟨_, rfl, hj⟩
          | 2, ho =>
            cases ho
            intro V aa wx hV hdep hval hj hsm hr
            have e72 : aa.tmps.getD 72 undef = .pointer (some ⟨q, 0, none⟩) := hr 72 (by decide) (by apply Array.mem_toList_iff.1; repeat (first | exact List.Mem.head _ | apply List.Mem.tail))
            rw [Array.getD_eq_getD_getElem?] at e72
            unfold Oper.wp
            simp only [execOp, Act.eval, Array.getD_eq_getD_getElem?, e72]
            go_simp
            first | exact ⟨_, rfl, rfl, Below.refl _ _⟩ | exact ⟨_, rfl, rfl, Below.refl _ _, hj⟩ | exact ⟨_, rfl, Below.refl _ _, hj⟩ | exact ⟨_, rfl, hj⟩
          | 3, ho =>
            cases ho
            intro V aa wx hV hdep hval hj hsm hr
            have e73 : aa.tmps.getD 73 undef = .pointer (some ⟨q, 2, none⟩) := hr 73 (by decide) (by apply Array.mem_toList_iff.1; repeat (first | exact List.Mem.head _ | apply List.Mem.tail))
            have cq : wx.cell? ⟨q, 2, none⟩ = some (.map (some L.sm)) := (hj.cell (p := ⟨q, 2, none⟩) KQ7.out.lt).trans (KQ7.out.cell 2)
            rw [Array.getD_eq_getD_getElem?] at e73
            unfold Oper.wp
            simp only [execOp, Act.eval, Array.getD_eq_getD_getElem?, e73]
            go_simp
            first | exact ⟨_, rfl, rfl, Below.refl _ _⟩ | exact ⟨_, rfl, rfl, Below.refl _ _, hj⟩ | exact ⟨_, rfl, Below.refl _ _, hj⟩ | exact ⟨_, rfl, hj⟩
          | 4, ho =>
            cases ho
            intro V aa wx hV hdep hval hj hsm hr
            have e9 : aa.tmps.getD 9 undef = .pointer (some ⟨I, 0, none⟩) := hsm 9 (by decide)
            have i0 : wx.cell? ⟨I, 0, none⟩ = some (.string m.key) := (hj.cell (p := ⟨I, 0, none⟩) KI.out.lt).trans (KI.out.cell 0)
            have i1 : wx.cell? ⟨I, 1, none⟩ = some (.int .i64 m.to) := (hj.cell (p := ⟨I, 1, none⟩) KI.out.lt).trans (KI.out.cell 1)
            rw [Array.getD_eq_getD_getElem?] at e9
            unfold Oper.wp
            simp only [execOp, Act.eval, Array.getD_eq_getD_getElem?, e9]
            go_simp
            first | exact ⟨_, rfl, rfl, Below.refl _ _⟩ | exact ⟨_, rfl, rfl, Below.refl _ _, hj⟩ | exact ⟨_, rfl, Below.refl _ _, hj⟩ | exact ⟨_, rfl, hj⟩
          | 5, ho =>
            cases ho
            intro V aa wx hV hdep hval hj hsm hr
            have e74 : aa.tmps.getD 74 undef = .map (some L.sm) := hr 74 (by decide) (by apply Array.mem_toList_iff.1; repeat (first | exact List.Mem.head _ | apply List.Mem.tail))
            have e75 : aa.tmps.getD 75 undef = .agg #[.string m.key, .int .i64 m.to] := hr 75 (by decide) (by apply Array.mem_toList_iff.1; repeat (first | exact List.Mem.head _ | apply List.Mem.tail))
            have lk := LKS.out wx (MS7.out.below hj MS7.out.lt)
            rw [Array.getD_eq_getD_getElem?] at e74
            rw [Array.getD_eq_getD_getElem?] at e75
            unfold Oper.wp
            simp only [execOp, Act.eval, Array.getD_eq_getD_getElem?, e74, e75]
            go_simp
            first | exact ⟨_, rfl, rfl, Below.refl _ _⟩ | exact ⟨_, rfl, rfl, Below.refl _ _, hj⟩ | exact ⟨_, rfl, Below.refl _ _, hj⟩ | exact ⟨_, rfl, hj⟩
          | 6, ho =>
            cases ho
            intro V aa wx hV hdep hval hj hsm hr
            have e3 : aa.tmps.getD 3 undef = .pointer (some ⟨X, 0, none⟩) := hsm 3 (by decide)
            rw [Array.getD_eq_getD_getElem?] at e3
            unfold Oper.wp
            simp only [execOp, Act.eval, Array.getD_eq_getD_getElem?, e3]
            go_simp
            first | exact ⟨_, rfl, rfl, Below.refl _ _⟩ | exact ⟨_, rfl, rfl, Below.refl _ _, hj⟩ | exact ⟨_, rfl, Below.refl _ _, hj⟩ | exact ⟨_, rfl, hj⟩
          | 7, ho =>
            cases ho
            intro V aa wx hV hdep hval hj hsm hr
            have e77 : aa.tmps.getD 77 undef = .pointer (some ⟨X, 1, none⟩) := hr 77 (by decide) (by apply Array.mem_toList_iff.1; repeat (first | exact List.Mem.head _ | apply List.Mem.tail))
            have cf : wx.cell? ⟨X, 1, none⟩ = some (.int .i64 m.fr) := (hj.cell (p := ⟨X, 1, none⟩) KM7.out.lt).trans (KM7.out.cell 1)
            rw [Array.getD_eq_getD_getElem?] at e77
            unfold Oper.wp
            simp only [execOp, Act.eval, Array.getD_eq_getD_getElem?, e77]
            go_simp
            first | exact ⟨_, rfl, rfl, Below.refl _ _⟩ | exact ⟨_, rfl, rfl, Below.refl _ _, hj⟩ | exact ⟨_, rfl, Below.refl _ _, hj⟩ | exact ⟨_, rfl, hj⟩
          | 8, ho =>
            cases ho
            intro V aa wx hV hdep hval hj hsm hr
            have e76 : aa.tmps.getD 76 undef = .slice SA k sc := hr 76 (by decide) (by apply Array.mem_toList_iff.1; repeat (first | exact List.Mem.head _ | apply List.Mem.tail))
            have e78 : aa.tmps.getD 78 undef = .int .i64 m.fr := hr 78 (by decide) (by apply Array.mem_toList_iff.1; repeat (first | exact List.Mem.head _ | apply List.Mem.tail))
            rw [Array.getD_eq_getD_getElem?] at e76
            rw [Array.getD_eq_getD_getElem?] at e78
            unfold Oper.wp
            simp only [execOp, Act.eval, Array.getD_eq_getD_getElem?, e76, e78]
            go_simp
            refine (Bs_c (w := wx) SA sc k (fromsOf l m.inb) m.fr HK.out HKL.out (fromsOf_rise l m.inb) (own_belowR OS7.out hj)).mono ?_
            rintro e w' ⟨rfl, hb⟩
            rw [HAT.out, HFD.out]
            exact ⟨_, rfl, rfl, hb, hj.trans (hb.mono hj.size)⟩
          | 9, ho =>
            cases ho
            intro V aa wx hV hdep hval hj hsm hr
            have e79 : aa.tmps.getD 79 undef = .tuple #[.int .i64 (at_ : Int), .bool fd] := hr 79 (by decide) (by apply Array.mem_toList_iff.1; repeat (first | exact List.Mem.head _ | apply List.Mem.tail))
            rw [Array.getD_eq_getD_getElem?] at e79
            unfold Oper.wp
            simp only [execOp, Act.eval, Array.getD_eq_getD_getElem?, e79]
            go_simp
            first | exact ⟨_, rfl, rfl, Below.refl _ _⟩ | exact ⟨_, rfl, rfl, Below.refl _ _, hj⟩ | exact ⟨_, rfl, Below.refl _ _, hj⟩ | exact ⟨_, rfl, hj⟩
          | 10, ho =>
            cases ho
            intro V aa wx hV hdep hval hj hsm hr
            have e70 : aa.tmps.getD 70 undef = .tuple #[.int .i64 (at_ : Int), .bool fd] := hr 70 (by decide) (by apply Array.mem_toList_iff.1; repeat (first | exact List.Mem.head _ | apply List.Mem.tail))
            rw [Array.getD_eq_getD_getElem?] at e70
            unfold Oper.wp
            simp only [execOp, Act.eval, Array.getD_eq_getD_getElem?, e70]
            go_simp
            first | exact ⟨_, rfl, rfl, Below.refl _ _⟩ | exact ⟨_, rfl, rfl, Below.refl _ _, hj⟩ | exact ⟨_, rfl, Below.refl _ _, hj⟩ | exact ⟨_, rfl, hj⟩
          | 11, ho =>
            cases ho
            intro V aa wx hV hdep hval hj hsm hr
            have e70 : aa.tmps.getD 70 undef = .tuple #[.int .i64 (at_ : Int), .bool fd] := hr 70 (by decide) (by apply Array.mem_toList_iff.1; repeat (first | exact List.Mem.head _ | apply List.Mem.tail))
            rw [Array.getD_eq_getD_getElem?] at e70
            unfold Oper.wp
            simp only [execOp, Act.eval, Array.getD_eq_getD_getElem?, e70]
            go_simp
            first | exact ⟨_, rfl, rfl, Below.refl _ _⟩ | exact ⟨_, rfl, rfl, Below.refl _ _, hj⟩ | exact ⟨_, rfl, Below.refl _ _, hj⟩ | exact ⟨_, rfl, hj⟩
          | 12, ho =>
            cases ho
            intro V aa wx hV hdep hval hj hsm hr
            have e80 : aa.tmps.getD 80 undef = .int .i64 (at_ : Int) := hr 80 (by decide) (by apply Array.mem_toList_iff.1; repeat (first | exact List.Mem.head _ | apply List.Mem.tail))
            rw [Array.getD_eq_getD_getElem?] at e80
            unfold Oper.wp
            simp only [execOp, Act.eval, Array.getD_eq_getD_getElem?, e80]
            go_simp
            first | exact ⟨_, rfl, rfl, Below.refl _ _⟩ | exact ⟨_, rfl, rfl, Below.refl _ _, hj⟩ | exact ⟨_, rfl, Below.refl _ _, hj⟩ | exact ⟨_, rfl, hj⟩
          | 13, ho =>
            cases ho
            intro V aa wx hV hdep hval hj hsm hr
            have e81 : aa.tmps.getD 81 undef = .bool fd := hr 81 (by decide) (by apply Array.mem_toList_iff.1; repeat (first | exact List.Mem.head _ | apply List.Mem.tail))
            rw [Array.getD_eq_getD_getElem?] at e81
            unfold Oper.wp
            simp only [execOp, Act.eval, Array.getD_eq_getD_getElem?, e81]
            go_simp
            first | exact ⟨_, rfl, rfl, Below.refl _ _⟩ | exact ⟨_, rfl, rfl, Below.refl _ _, hj⟩ | exact ⟨_, rfl, Below.refl _ _, hj⟩ | exact ⟨_, rfl, hj⟩
          | _ + 14, ho => cases ho
        case fin =>
          intro ff V w8 hV hj11 hr
          have e9a : ff 10 = .int .i64 (at_ : Int) := hr 10 (by decide)
          have e9b : ff 11 = .bool fd := hr 11 (by decide)
          have e70 : ff 70 = .tuple #[.int .i64 (at_ : Int), .bool fd] := hr 70 (by decide)
          have HJ8 := hide hj11
          have GR7 : Hid (w7.grownBy w8 ROW) := hide (grown_of_below hj11)
          have OSW := hide (own_belowR OS7.out hj11)
          clear hV hr hj11
          simp only [putAll, slotsOf, List.filterMap_cons, List.filterMap_nil, List.foldl_cons, List.foldl_nil, Act.put, e9a, e9b, e70]
          simp only [List.setIfInBounds_toArray, List.set_cons_succ, List.set_cons_zero]
          go_upto_region 12 with (fail)
          let R : Nat → Value → World → Prop := fun sl u w1 => match sl with
            | 82 => u = .pointer (some ⟨q, 0, none⟩)
            | 83 => u = .pointer (some ⟨q, 0, none⟩)
            | 84 => u = .pointer (some ⟨q, 2, none⟩)
            | 85 => u = .map (some L.sm)
            | 86 => u = .agg #[.string m.key, .int .i64 m.to]
            | 87 => u = .pointer (some ⟨q, 0, none⟩)
            | 88 => u = .pointer (some ⟨q, 0, none⟩)
            | 89 => u = .pointer (some ⟨q, 2, none⟩)
            | 90 => u = .map (some L.sm)
            | 91 => u = .agg #[.string m.key, .int .i64 m.to]
            | 92 => u = .slice SA k sc
            | 93 => u = .int .i64 (at_ : Int)
            | 94 => u = .pointer (some ⟨X, 1, none⟩)
            | 95 => u = .int .i64 m.fr
            | 96 => ∃ b, u = .slice (some ⟨b, 0, none⟩) 1 1 ∧ w7.heap.size ≤ b ∧ Blk w1 b 3 #[.int .i64 m.fr]
            | _ => True
          let K : World → World → Prop := fun a b => a.grownBy b ROW
          let J : Option Value → World → Prop := fun b w1 => match b with
            | none => w1.ownsRow 0 3 1 (.slice SA k sc) k (ints (fromsOf l m.inb))
            | some u => ∃ g c', u = .slice (some ⟨g, 0, none⟩) (k + 1) c' ∧ w1.ownsRow 0 3 1 (.slice (some ⟨g, 0, none⟩) (k + 1) c') (k + 1) (ints ((fromsOf l m.inb).take at_ ++ m.fr :: (fromsOf l m.inb).drop at_)) ∧ (SA = some ⟨g, 0, none⟩ ∨ w7.heap.size ≤ g)
          have hKB : ∀ x y, Below x.heap.size x y → K x y := fun _ _ hb => grown_of_below hb
          have hJB : ∀ b x y, J b x → Below x.heap.size x y → J b y := fun b x y hj hb => by
            cases b with
            | none => exact own_belowR hj hb
            | some u => exact (fun ⟨g, c', h1, h2, h3⟩ => ⟨g, c', h1, own_belowR h2 hb, h3⟩) hj
          refine wp_region_relJ 16 97 R K J (by kernel_rfl) (by kernel_rfl) (by kernel_rfl) (by kernel_rfl) (by kernel_rfl) (fun _ _ _ h1 h2 => gtrans h1 h2) (hKB _ _ (Below.refl _ _).drew) OSW.out.drew ?mono ?step ?fin
          case mono =>
            intro sl u wx wy h hk
            match sl with
            | 96 =>
              obtain ⟨b, h1, h2, h3⟩ := h
              refine ⟨b, h1, h2, h3.grown hk fun e => ?_⟩
              have := HRW.out b e.symm
              omega
            | 0 | 1 | 2 | 3 | 4 | 5 | 6 | 7 | 8 | 9 | 10 | 11 | 12 | 13 | 14 | 15 | 16 | 17 | 18 | 19 | 20 | 21 | 22 | 23 | 24 | 25 | 26 | 27 | 28 | 29 | 30 | 31 | 32 | 33 | 34 | 35 | 36 | 37 | 38 | 39 | 40 | 41 | 42 | 43 | 44 | 45 | 46 | 47 | 48 | 49 | 50 | 51 | 52 | 53 | 54 | 55 | 56 | 57 | 58 | 59 | 60 | 61 | 62 | 63 | 64 | 65 | 66 | 67 | 68 | 69 | 70 | 71 | 72 | 73 | 74 | 75 | 76 | 77 | 78 | 79 | 80 | 81 | 82 | 83 | 84 | 85 | 86 | 87 | 88 | 89 | 90 | 91 | 92 | 93 | 94 | 95 | 97 | _ + 98 => exact h
          case step =>
            intro op hop
            simp only [List.take, List.mem_cons, List.not_mem_nil, or_false] at hop
            rcases hop with rfl | rfl | rfl | rfl | rfl | rfl | rfl | rfl | rfl | rfl | rfl | rfl | rfl | rfl | rfl | rfl
            · refine ⟨fun h => absurd h (by decide), fun _ b => stepJ_of hKB hJB fun a w1 hk hj hsm hr => ?_⟩
              have e0 : a.tmps.getD 0 undef = .pointer (some ⟨q, 0, none⟩) := hsm 0 (by decide)
              rw [Array.getD_eq_getD_getElem?] at e0
              unfold Oper.wp
              simp only [execOp, Act.eval, Array.getD_eq_getD_getElem?, e0]
              go_simp
              first | exact ⟨_, rfl, rfl, Below.refl _ _⟩ | exact ⟨_, rfl, trivial, Below.refl _ _⟩ | exact ⟨_, rfl, Below.refl _ _⟩
            · refine ⟨fun h => absurd h (by decide), fun _ b => stepJ_of hKB hJB fun a w1 hk hj hsm hr => ?_⟩
              have e82 : a.tmps.getD 82 undef = .pointer (some ⟨q, 0, none⟩) := hr 82 (by decide) (by apply Array.mem_toList_iff.1; repeat (first | exact List.Mem.head _ | apply List.Mem.tail))
              rw [Array.getD_eq_getD_getElem?] at e82
              unfold Oper.wp
              simp only [execOp, Act.eval, Array.getD_eq_getD_getElem?, e82]
              go_simp
              first | exact ⟨_, rfl, rfl, Below.refl _ _⟩ | exact ⟨_, rfl, trivial, Below.refl _ _⟩ | exact ⟨_, rfl, Below.refl _ _⟩
            · refine ⟨fun h => absurd h (by decide), fun _ b => stepJ_of hKB hJB fun a w1 hk hj hsm hr => ?_⟩
              have e83 : a.tmps.getD 83 undef = .pointer (some ⟨q, 0, none⟩) := hr 83 (by decide) (by apply Array.mem_toList_iff.1; repeat (first | exact List.Mem.head _ | apply List.Mem.tail))
              rw [Array.getD_eq_getD_getElem?] at e83
              unfold Oper.wp
              simp only [execOp, Act.eval, Array.getD_eq_getD_getElem?, e83]
              go_simp
              first | exact ⟨_, rfl, rfl, Below.refl _ _⟩ | exact ⟨_, rfl, trivial, Below.refl _ _⟩ | exact ⟨_, rfl, Below.refl _ _⟩
            · refine ⟨fun h => absurd h (by decide), fun _ b => stepJ_of hKB hJB fun a w1 hk hj hsm hr => ?_⟩
              have e84 : a.tmps.getD 84 undef = .pointer (some ⟨q, 2, none⟩) := hr 84 (by decide) (by apply Array.mem_toList_iff.1; repeat (first | exact List.Mem.head _ | apply List.Mem.tail))
              have cq : w1.cell? ⟨q, 2, none⟩ = some (.map (some L.sm)) := (KQ7.out.grown (gtrans GR7.out hk) HNQ.out).cell 2
              rw [Array.getD_eq_getD_getElem?] at e84
              unfold Oper.wp
              simp only [execOp, Act.eval, Array.getD_eq_getD_getElem?, e84]
              go_simp
              first | exact ⟨_, rfl, rfl, Below.refl _ _⟩ | exact ⟨_, rfl, trivial, Below.refl _ _⟩ | exact ⟨_, rfl, Below.refl _ _⟩
            · refine ⟨fun h => absurd h (by decide), fun _ b => stepJ_of hKB hJB fun a w1 hk hj hsm hr => ?_⟩
              have e9 : a.tmps.getD 9 undef = .pointer (some ⟨I, 0, none⟩) := hsm 9 (by decide)
              have hki := KI.out.grown (gtrans GR7.out hk) HNI.out
              have i0 : w1.cell? ⟨I, 0, none⟩ = some (.string m.key) := hki.cell 0
              have i1 : w1.cell? ⟨I, 1, none⟩ = some (.int .i64 m.to) := hki.cell 1
              rw [Array.getD_eq_getD_getElem?] at e9
              unfold Oper.wp
              simp only [execOp, Act.eval, Array.getD_eq_getD_getElem?, e9]
              go_simp
              first | exact ⟨_, rfl, rfl, Below.refl _ _⟩ | exact ⟨_, rfl, trivial, Below.refl _ _⟩ | exact ⟨_, rfl, Below.refl _ _⟩
            · refine ⟨fun h => absurd h (by decide), fun _ b => stepJ_of hKB hJB fun a w1 hk hj hsm hr => ?_⟩
              have e0 : a.tmps.getD 0 undef = .pointer (some ⟨q, 0, none⟩) := hsm 0 (by decide)
              rw [Array.getD_eq_getD_getElem?] at e0
              unfold Oper.wp
              simp only [execOp, Act.eval, Array.getD_eq_getD_getElem?, e0]
              go_simp
              first | exact ⟨_, rfl, rfl, Below.refl _ _⟩ | exact ⟨_, rfl, trivial, Below.refl _ _⟩ | exact ⟨_, rfl, Below.refl _ _⟩
            · refine ⟨fun h => absurd h (by decide), fun _ b => stepJ_of hKB hJB fun a w1 hk hj hsm hr => ?_⟩
              have e87 : a.tmps.getD 87 undef = .pointer (some ⟨q, 0, none⟩) := hr 87 (by decide) (by apply Array.mem_toList_iff.1; repeat (first | exact List.Mem.head _ | apply List.Mem.tail))
              rw [Array.getD_eq_getD_getElem?] at e87
              unfold Oper.wp
              simp only [execOp, Act.eval, Array.getD_eq_getD_getElem?, e87]
              go_simp
              first | exact ⟨_, rfl, rfl, Below.refl _ _⟩ | exact ⟨_, rfl, trivial, Below.refl _ _⟩ | exact ⟨_, rfl, Below.refl _ _⟩
            · refine ⟨fun h => absurd h (by decide), fun _ b => stepJ_of hKB hJB fun a w1 hk hj hsm hr => ?_⟩
              have e88 : a.tmps.getD 88 undef = .pointer (some ⟨q, 0, none⟩) := hr 88 (by decide) (by apply Array.mem_toList_iff.1; repeat (first | exact List.Mem.head _ | apply List.Mem.tail))
              rw [Array.getD_eq_getD_getElem?] at e88
              unfold Oper.wp
              simp only [execOp, Act.eval, Array.getD_eq_getD_getElem?, e88]
              go_simp
              first | exact ⟨_, rfl, rfl, Below.refl _ _⟩ | exact ⟨_, rfl, trivial, Below.refl _ _⟩ | exact ⟨_, rfl, Below.refl _ _⟩
            · refine ⟨fun h => absurd h (by decide), fun _ b => stepJ_of hKB hJB fun a w1 hk hj hsm hr => ?_⟩
              have e89 : a.tmps.getD 89 undef = .pointer (some ⟨q, 2, none⟩) := hr 89 (by decide) (by apply Array.mem_toList_iff.1; repeat (first | exact List.Mem.head _ | apply List.Mem.tail))
              have cq : w1.cell? ⟨q, 2, none⟩ = some (.map (some L.sm)) := (KQ7.out.grown (gtrans GR7.out hk) HNQ.out).cell 2
              rw [Array.getD_eq_getD_getElem?] at e89
              unfold Oper.wp
              simp only [execOp, Act.eval, Array.getD_eq_getD_getElem?, e89]
              go_simp
              first | exact ⟨_, rfl, rfl, Below.refl _ _⟩ | exact ⟨_, rfl, trivial, Below.refl _ _⟩ | exact ⟨_, rfl, Below.refl _ _⟩
            · refine ⟨fun h => absurd h (by decide), fun _ b => stepJ_of hKB hJB fun a w1 hk hj hsm hr => ?_⟩
              have e9 : a.tmps.getD 9 undef = .pointer (some ⟨I, 0, none⟩) := hsm 9 (by decide)
              have hki := KI.out.grown (gtrans GR7.out hk) HNI.out
              have i0 : w1.cell? ⟨I, 0, none⟩ = some (.string m.key) := hki.cell 0
              have i1 : w1.cell? ⟨I, 1, none⟩ = some (.int .i64 m.to) := hki.cell 1
              rw [Array.getD_eq_getD_getElem?] at e9
              unfold Oper.wp
              simp only [execOp, Act.eval, Array.getD_eq_getD_getElem?, e9]
              go_simp
              first | exact ⟨_, rfl, rfl, Below.refl _ _⟩ | exact ⟨_, rfl, trivial, Below.refl _ _⟩ | exact ⟨_, rfl, Below.refl _ _⟩
            · refine ⟨fun h => absurd h (by decide), fun _ b => stepJ_of hKB hJB fun a w1 hk hj hsm hr => ?_⟩
              have e90 : a.tmps.getD 90 undef = .map (some L.sm) := hr 90 (by decide) (by apply Array.mem_toList_iff.1; repeat (first | exact List.Mem.head _ | apply List.Mem.tail))
              have e91 : a.tmps.getD 91 undef = .agg #[.string m.key, .int .i64 m.to] := hr 91 (by decide) (by apply Array.mem_toList_iff.1; repeat (first | exact List.Mem.head _ | apply List.Mem.tail))
              have lk := LKS.out w1 (((gtrans GR7.out hk).block L.sm MS7.out.lt HNS.out).trans MS7.out)
              rw [Array.getD_eq_getD_getElem?] at e90
              rw [Array.getD_eq_getD_getElem?] at e91
              unfold Oper.wp
              simp only [execOp, Act.eval, Array.getD_eq_getD_getElem?, e90, e91]
              go_simp
              first | exact ⟨_, rfl, rfl, Below.refl _ _⟩ | exact ⟨_, rfl, trivial, Below.refl _ _⟩ | exact ⟨_, rfl, Below.refl _ _⟩
            · refine ⟨fun h => absurd h (by decide), fun _ b => stepJ_of hKB hJB fun a w1 hk hj hsm hr => ?_⟩
              have e10 : a.tmps.getD 10 undef = .int .i64 (at_ : Int) := hsm 10 (by decide)
              rw [Array.getD_eq_getD_getElem?] at e10
              unfold Oper.wp
              simp only [execOp, Act.eval, Array.getD_eq_getD_getElem?, e10]
              go_simp
              first | exact ⟨_, rfl, rfl, Below.refl _ _⟩ | exact ⟨_, rfl, trivial, Below.refl _ _⟩ | exact ⟨_, rfl, Below.refl _ _⟩
            · refine ⟨fun h => absurd h (by decide), fun _ b => stepJ_of hKB hJB fun a w1 hk hj hsm hr => ?_⟩
              have e3 : a.tmps.getD 3 undef = .pointer (some ⟨X, 0, none⟩) := hsm 3 (by decide)
              rw [Array.getD_eq_getD_getElem?] at e3
              unfold Oper.wp
              simp only [execOp, Act.eval, Array.getD_eq_getD_getElem?, e3]
              go_simp
              first | exact ⟨_, rfl, rfl, Below.refl _ _⟩ | exact ⟨_, rfl, trivial, Below.refl _ _⟩ | exact ⟨_, rfl, Below.refl _ _⟩
            · refine ⟨fun h => absurd h (by decide), fun _ b => stepJ_of hKB hJB fun a w1 hk hj hsm hr => ?_⟩
              have e94 : a.tmps.getD 94 undef = .pointer (some ⟨X, 1, none⟩) := hr 94 (by decide) (by apply Array.mem_toList_iff.1; repeat (first | exact List.Mem.head _ | apply List.Mem.tail))
              have cf : w1.cell? ⟨X, 1, none⟩ = some (.int .i64 m.fr) := (KM7.out.grown (gtrans GR7.out hk) HNX.out).cell 1
              rw [Array.getD_eq_getD_getElem?] at e94
              unfold Oper.wp
              simp only [execOp, Act.eval, Array.getD_eq_getD_getElem?, e94]
              go_simp
              first | exact ⟨_, rfl, rfl, Below.refl _ _⟩ | exact ⟨_, rfl, trivial, Below.refl _ _⟩ | exact ⟨_, rfl, Below.refl _ _⟩
            · refine ⟨fun h => absurd h (by decide), fun _ b => stepJ_of hKB hJB fun a w1 hk hj hsm hr => ?_⟩
              have e95 : a.tmps.getD 95 undef = .int .i64 m.fr := hr 95 (by decide) (by apply Array.mem_toList_iff.1; repeat (first | exact List.Mem.head _ | apply List.Mem.tail))
              have hsz := (gtrans GR7.out hk).size
              rw [Array.getD_eq_getD_getElem?] at e95
              unfold Oper.wp
              simp only [execOp, Act.eval, Array.getD_eq_getD_getElem?, e95]
              go_simp
              exact ⟨_, rfl, ⟨w1.heap.size, rfl, hsz, Blk.new w1 3 _⟩, (Below.refl _ _).alloc (Nat.le_refl _) _⟩
            · refine ⟨fun _ a w1 hk hj hsm hr => ?_, fun h => absurd rfl h⟩
              have e92 : a.tmps.getD 92 undef = .slice SA k sc := hr 92 (by decide) (by apply Array.mem_toList_iff.1; repeat (first | exact List.Mem.head _ | apply List.Mem.tail))
              have e93 : a.tmps.getD 93 undef = .int .i64 (at_ : Int) := hr 93 (by decide) (by apply Array.mem_toList_iff.1; repeat (first | exact List.Mem.head _ | apply List.Mem.tail))
              have r96 := hr 96 (by decide) (by apply Array.mem_toList_iff.1; repeat (first | exact List.Mem.head _ | apply List.Mem.tail))
              obtain ⟨b, e96, hb, hbb⟩ := r96
              have hj : w1.ownsRow 0 3 1 (.slice SA k sc) k (ints (fromsOf l m.inb)) := hj
              rw [Array.getD_eq_getD_getElem?] at e92
              rw [Array.getD_eq_getD_getElem?] at e93
              have e96 : a.tmps.getD 96 undef = .slice (some ⟨b, 0, none⟩) 1 1 := e96
              rw [Array.getD_eq_getD_getElem?] at e96
              unfold Oper.wp
              simp only [execOp, Act.eval, Array.getD_eq_getD_getElem?, e92, e93, e96]
              go_simp
              refine (Insert_n w1 SA sc k (fromsOf l m.inb) at_ m.fr b HAL.out HK.out (by have := HKL.out; omega) hj hbb (fun y hy e => by have := HRW.out y.block (by rw [← HROW.out, hy]; rfl); omega)).mono ?_
              rintro e w' ⟨g, c', rfl, hown, hch⟩
              exact ⟨_, rfl, True.intro, HGI.out w1 w' g hch, ⟨g, c', rfl, hown, hch.imp (fun h => h.1) (fun h => Nat.le_trans (gtrans GR7.out hk).size h.1)⟩⟩
          case fin =>
            intro ff w9 hk hj hr
            obtain ⟨g, c', e97, hown, hsg⟩ : ∃ g c', ff 97 = .slice (some ⟨g, 0, none⟩) (k + 1) c' ∧ w9.ownsRow 0 3 1 (.slice (some ⟨g, 0, none⟩) (k + 1) c') (k + 1) (ints ((fromsOf l m.inb).take at_ ++ m.fr :: (fromsOf l m.inb).drop at_)) ∧ (SA = some ⟨g, 0, none⟩ ∨ w7.heap.size ≤ g) := hj
            rw [HINS.out] at hown
            have HO9 := hide hown
            have HG9 := hide hk
            have hg := gtrans GR7.out hk
            have hk79 : ∀ b, b < w7.heap.size → some b ≠ ROW → w9.heap[b]? = w7.heap[b]? := fun b hb h => hg.block b hb h
            have hsm9 : SMap.MB inV w9 L.sm (L.sl.map fun p => (p.1, slV (fromsOf l p.1) p.2)) := (hk79 L.sm MS7.out.lt HNS.out).trans MS7.out
            have hinsl : ((fromsOf l m.inb).take at_ ++ m.fr :: (fromsOf l m.inb).drop at_).length = k + 1 := by
              have h1 := HK.out
              have h2 := HAL.out
              rw [List.length_append, List.length_cons, List.length_take, List.length_drop]
              omega
            rw [HINS.out] at hinsl
            obtain ⟨w10, hrun, h10e, hmb, hgr⟩ := SMap.run_mapUpdate keyInb Try.underlying91 m.inb (slV (fromsOf (l ++ [m]) m.inb) ⟨g, c'⟩) L.sm _ w9 hsm9
            have RUN : (Instr.mapUpdate 91 (.map (some L.sm)) (.agg #[.string m.key, .int .i64 m.to]) (.slice (some ⟨g, 0, none⟩) (k + 1) c')).run Try.prog w9 = .ok () w10 := by
              have h1 := hrun
              unfold slV inV Msg.inb at h1
              unfold Msg.inb at hinsl
              rw [hinsl] at h1
              exact h1
            have e85 : ff 85 = .map (some L.sm) := hr 85 (by decide)
            have e86 : ff 86 = .agg #[.string m.key, .int .i64 m.to] := hr 86 (by decide)
            -- what lies as it did
            have hsz67 : w6.heap.size ≤ w7.heap.size := HB7.out.size
            have hs610 : ∀ b, b < w6.heap.size → some b ≠ ROW → b ≠ L.sm → w10.heap[b]? = w6.heap[b]? := fun b hb h1 h2 =>
              ((hgr.block b (Nat.lt_of_lt_of_le (Nat.lt_of_lt_of_le hb hsz67) hg.size) (fun e => h2 (by injection e))).trans (hk79 b (Nat.lt_of_lt_of_le hb hsz67) h1)).trans (HB7.out.block b hb)
            have h56 := CH6.out.size
            have hF6 : ∀ b ∈ L.foot q, b < w6.heap.size := fun b hb => Nat.lt_of_lt_of_le (HQ5.out.lt b hb) h56
            have hRn : ∀ b ∈ L.foot q, (∀ y, (m.inb, y) ∈ L.sl → b ≠ y.g) → some b ≠ ROW := fun b _ hb e => by
              obtain ⟨y, hy, e2⟩ := HRF.out b e.symm
              exact hb y hy e2
            have hslm : ∀ y, (m.inb, y) ∈ L.sl → y.g ∈ L.sl.map (·.2.g) := fun y hy => List.mem_map_of_mem (f := fun p : Inb × SRow => p.2.g) hy
            have hcR := hRn L.cm foot_c fun y hy e => N2.out (by rw [e]; exact List.mem_cons_of_mem _ (List.mem_cons_of_mem _ (List.mem_append_right _ (hslm y hy))))
            have hpR := hRn L.pm foot_p fun y hy e => HPM.out y.g (List.mem_cons_of_mem _ (List.mem_append_right _ (hslm y hy))) (by rw [e]; exact List.mem_cons_self)
            have hcs : L.cm ≠ L.sm := fun e => N2.out (by rw [e]; exact List.mem_cons_of_mem _ List.mem_cons_self)
            have hps : L.pm ≠ L.sm := fun e => HPM.out L.sm List.mem_cons_self (by rw [e]; exact List.mem_cons_self)
            have hqs : q ≠ L.sm := fun e => N1.out (by rw [e]; exact List.mem_cons_of_mem _ (List.mem_cons_of_mem _ List.mem_cons_self))
            have hgs : g ≠ L.sm := by
              rcases hsg with e | e
              · intro e2
                exact HNS.out (by rw [← e2, ← HROW.out, e]; rfl)
              · have := hF6 _ (foot_s (L := L) (q := q))
                omega
            have hg9 := own_in hown
            have hown10 : w10.ownsRow 0 3 1 (.slice (some ⟨g, 0, none⟩) (fromsOf (l ++ [m]) m.inb).length c') (fromsOf (l ++ [m]) m.inb).length (ints (fromsOf (l ++ [m]) m.inb)) := by
              rw [hinsl]
              exact own_heap hown (hgr.block g hg9 (fun e => hgs (by injection e)))
            have hygo : (∃ y0, (m.inb, y0) ∈ L.sl ∧ y0.g = (⟨g, c'⟩ : SRow).g) ∨ w5.heap.size ≤ (⟨g, c'⟩ : SRow).g := by
              rcases hsg with e | e
              · obtain ⟨y, hy, e2⟩ := HRF.out g (by rw [← HROW.out, e]; rfl)
                exact .inl ⟨y, hy, e2.symm⟩
              · exact .inr (by show w5.heap.size ≤ g; omega)
            have SS := hide (show SndS w5 q L l m w10 from ⟨_, ?chh, (hs610 q (hF6 _ foot_q) HNQ.out hqs).trans KQ6.out, (hs610 L.cm (hF6 _ foot_c) hcR hcs).trans KCM6.out,
              fun p hp => (hs610 _ (hF6 _ (foot_row hp)) (hRn _ (foot_row hp) fun y hy e => N5.out.2.2 p.2.g (List.mem_map_of_mem (f := fun p : Chan × CRow => p.2.g) hp) _ (hslm y hy) e) (fun e => N4.out (by rw [← e]; exact List.mem_append_left _ (List.mem_map_of_mem (f := fun p : Chan × CRow => p.2.g) hp)))).trans (SAME.out _ (List.mem_cons_of_mem _ (List.mem_append_left _ (List.mem_map_of_mem (f := fun p : Chan × CRow => p.2.g) hp))) (HQ5.out.lt _ (foot_row hp))),
              (hs610 L.pm (hF6 _ foot_p) hpR hps).trans (by rw [HN.out]; exact MP6.out),
              .inr ⟨HEMP.out, ⟨g, c'⟩, rfl, hmb, hown10, fun p hp hne => (hs610 _ (hF6 _ (foot_srow hp)) (hRn _ (foot_srow hp) fun y hy e => hne (by rw [nodup_inj (fun p : Inb × SRow => p.2.g) N5.out.2.1 hp hy e])) (fun e => N4.out (by rw [← e]; exact List.mem_append_right _ (List.mem_map_of_mem (f := fun p : Inb × SRow => p.2.g) hp)))).trans (SAME.out _ (List.mem_cons_of_mem _ (List.mem_append_right _ (List.mem_map_of_mem (f := fun p : Inb × SRow => p.2.g) hp))) (HQ5.out.lt _ (foot_srow hp))), hygo⟩⟩)
            case chh =>
              have a1 : Ch (L.foot q) w5 w6 := CHF.out
              have a2 : Ch (L.foot q) w6 w7 := Ch.of_below HB7.out
              have a3 : Ch (L.foot q) w7 w9 := ⟨hg.os, hg.tape, hg.output, hg.size, fun j hj hn => hg.block j hj fun e => hn (by obtain ⟨y, hy, e2⟩ := HRF.out j e.symm; rw [e2]; exact foot_srow hy)⟩
              exact ((a1.trans a2).trans a3).trans (Ch.of_grown hgr foot_s)
            clear hr hk hg hk79 hsm9 hinsl hrun h10e hmb hgr hsz67 hs610 h56 hF6 hRn hslm hcR hpR hcs hps hqs hgs hg9 hown10 hygo hown hsg hKB hJB
            simp only [putAll, slotsOf, List.take, List.drop, List.filterMap_cons, List.filterMap_nil, List.foldl_cons, List.foldl_nil, Act.put, e97, e85, e86]
            simp only [List.setIfInBounds_toArray, List.set_cons_succ, List.set_cons_zero]
            go_wp2_with fail
            go_meet
            exact SS.out
      obtain ⟨sl', hch, hkq, hkc, hkr, hmp, hss⟩ := hcut
      obtain ⟨w8, hw8⟩ : ∃ z, z = wc := ⟨_, rfl⟩
      subst hw8
      have HCH := hide hch
      have HKQ := hide hkq
      have HKC := hide hkc
      have HKR := hide hkr
      have HMP := hide hmp
      have HSS := hide hss
      have HBX := hide (fun b (h : X ≤ b) (hb : b < w5.heap.size) => hch.block b hb (fun hm => by have := HFX.out b hm; omega))
      have KM8 := hide (show Blk w8 X 33 #[.string m.key, .int .i64 m.fr, .int .i64 m.to, .int .i64 m.ca, .int .i64 m.tg, .int .i64 m.va, .int .i64 m.sz, .bool m.tk] from (HBX.out X (Nat.le_refl _) KM5.out.lt).trans KM5.out)
      have KC8 := hide (show Blk w8 C 95 #[.string m.key, .int .i64 m.fr, .int .i64 m.to] from (HBX.out C (Nat.le_of_lt HXC.out) KC5.out.lt).trans KC5.out)
      have KR8 := hide (show Blk w8 R 103 #[.slice A n cap, .int .i64 fi] from (HBX.out R (Nat.le_of_lt (Nat.lt_trans HXC.out HCR.out)) K5.out.lt).trans K5.out)
      have hown8 : w8.ownsRow 0 33 8 (.slice A n cap) n (msgCs (rowsOf l m.ch)) := by
        rcases HCS.out with ⟨e1, e2, _⟩ | ⟨y, hy, e2, _, _⟩
        · have := HOW5.out
          subst e2
          exact ⟨this.1, this.2.imp id (fun ⟨g, _, _, hv, _⟩ => by cases hv)⟩
        · subst e2
          exact own_heap HOW5.out (hkr _ hy)
      have HOW8 := hide hown8
      have hn1 : n ≤ 1000 := by have := HN.out; have := rowsOf_len l m.ch; omega
      obtain ⟨A1, c1', w9, hrun9, hown9, hgr9, hob9⟩ := push_m w8 0 A cap n _ m hown8 (Nat.zero_le _) (by omega)
      obtain ⟨g1, hA1, _, _, _, _, hc9, _⟩ := own_cell hown9 (by omega)
      subst hA1
      have HNL := hide hn1
      have HG9 := hide hgr9
      have HO9 := hide hown9
      have hob : (A = some ⟨g1, 0, none⟩) ∨ w8.heap.size ≤ g1 := by
        rcases hob9 with e | ⟨g, e, hg⟩
        · have e1 : (some g1 : Option Nat) = (Value.slice A n cap).ownBlock := e
          rcases HCS.out with ⟨_, e2, _⟩ | ⟨y, _, e2, _, _⟩
          · subst e2; cases e1
          · subst e2
            injection e1 with e1
            exact .inl (by rw [e1])
        · injection e with e
          exact .inr (by have : g1 = g := e; omega)
      have HOB := hide hob
      have hRA : some R ≠ (Value.slice A n cap).ownBlock := by
        intro e
        rcases HCS.out with ⟨_, e2, _⟩ | ⟨y, hy, e2, _, _⟩
        · subst e2; cases e
        · subst e2
          injection e with e
          have h1 := HFX.out _ (foot_row hy)
          have h2 : R = y.g := e
          have h3 := HXC.out
          have h4 := HCR.out
          simp only at h1
          omega
      have hCA : some C ≠ (Value.slice A n cap).ownBlock := by
        intro e
        rcases HCS.out with ⟨_, e2, _⟩ | ⟨y, hy, e2, _, _⟩
        · subst e2; cases e
        · subst e2
          injection e with e
          have h1 := HFX.out _ (foot_row hy)
          have h2 : C = y.g := e
          have h3 := HXC.out
          simp only at h1
          omega
      have KR9 := hide (KR8.out.grown hgr9 hRA)
      have KC9 := hide (KC8.out.grown hgr9 hCA)
      have K10 := hide (KR9.out.set_ 0 (.slice (some ⟨g1, 0, none⟩) (n + 1) c1'))
      have KC10 := hide (KC9.out.far (p := ⟨R, 0, none⟩) (by have := HCR.out; exact Nat.ne_of_lt this) (.slice (some ⟨g1, 0, none⟩) (n + 1) c1'))
      have RUN := hide hrun9
      have r0 : w8.cell? ⟨R, 0, none⟩ = some (.slice A n cap) := KR8.out.cell 0
      have z0 : w9.cell? ⟨R, 0, none⟩ = some (.slice A n cap) := KR9.out.cell 0
      have f0 := KR9.out.frozen 0
      have x0 : w8.cell? ⟨X, 0, none⟩ = some (.string m.key) := KM8.out.cell 0
      have x1 : w8.cell? ⟨X, 1, none⟩ = some (.int .i64 m.fr) := KM8.out.cell 1
      have x2 : w8.cell? ⟨X, 2, none⟩ = some (.int .i64 m.to) := KM8.out.cell 2
      have x3 : w8.cell? ⟨X, 3, none⟩ = some (.int .i64 m.ca) := KM8.out.cell 3
      have x4 : w8.cell? ⟨X, 4, none⟩ = some (.int .i64 m.tg) := KM8.out.cell 4
      have x5 : w8.cell? ⟨X, 5, none⟩ = some (.int .i64 m.va) := KM8.out.cell 5
      have x6 : w8.cell? ⟨X, 6, none⟩ = some (.int .i64 m.sz) := KM8.out.cell 6
      have x7 : w8.cell? ⟨X, 7, none⟩ = some (.bool m.tk) := KM8.out.cell 7
      clear hch hkq hkc hkr hmp hss hown8 hn1 hrun9 hown9 hgr9 hob9 hob hRA hCA hc9
      go_wp2_with (at_builtin; refine Lib.wpList_append_run _ rfl _ _ 45 45 rfl _ _ rfl rfl _ _ RUN.out ?_)
      obtain ⟨w10, hw10⟩ : ∃ z, w9.setCell ⟨R, 0, none⟩ (.slice (some ⟨g1, 0, none⟩) (n + 1) c1') = z := ⟨_, rfl⟩
      have hs10 : ∀ b, b ≠ R → w10.heap[b]? = w9.heap[b]? := fun b hb => by rw [← hw10]; exact Below.heap_setCell w9 ⟨R, 0, none⟩ _ b hb
      have k10 := K10.out
      have kc10 := KC10.out
      have z10 : w10.heap.size = w9.heap.size := by rw [← hw10]; simp [World.setCell]
      have hch10 : Ch [R] w9 w10 := by rw [← hw10]; exact Ch.set_ w9 _ List.mem_cons_self
      rw [hw10] at k10 kc10
      have HW10 := hide hw10
      have hA : ∀ b ∈ L.foot q, (∀ y, (m.ch, y) ∈ L.cl → b ≠ y.g) → some b ≠ (Value.slice A n cap).ownBlock := fun b _ hb e => by
        rcases HCS.out with ⟨_, e2, _⟩ | ⟨y, hy, e2, _, _⟩
        · subst e2; cases e
        · subst e2
          injection e with e
          exact hb y hy e
      have hFR : ∀ b ∈ L.foot q, b ≠ R := fun b hb => by have h1 := HFX.out b hb; have h2 := HXC.out; have h3 := HCR.out; omega
      have hF8 : ∀ b ∈ L.foot q, b < w8.heap.size := fun b hb => Nat.lt_of_lt_of_le (HQ5.out.lt b hb) HCH.out.size
      have hrow_ne : ∀ y, (m.ch, y) ∈ L.cl → y.g ∈ L.cl.map (·.2.g) ++ L.sl.map (·.2.g) := fun y hy => List.mem_append_left _ (List.mem_map_of_mem (f := fun p : Chan × CRow => p.2.g) hy)
      have hqA := hA q foot_q fun y hy e => N1.out (by rw [e]; exact List.mem_cons_of_mem _ (List.mem_cons_of_mem _ (List.mem_cons_of_mem _ (hrow_ne y hy))))
      have hcA := hA L.cm foot_c fun y hy e => N2.out (by rw [e]; exact List.mem_cons_of_mem _ (List.mem_cons_of_mem _ (hrow_ne y hy)))
      have hpA := hA L.pm foot_p fun y hy e => HPM.out y.g (List.mem_cons_of_mem _ (hrow_ne y hy)) (by rw [e]; exact List.mem_cons_self)
      have hsA := hA L.sm foot_s fun y hy e => N4.out (by rw [e]; exact hrow_ne y hy)
      have h89 : ∀ b, b < w8.heap.size → some b ≠ (Value.slice A n cap).ownBlock → b ≠ R → w10.heap[b]? = w8.heap[b]? := fun b hb h1 h2 => (hs10 b h2).trans (HG9.out.block b hb h1)
      have mcm : SMap.MB chV w10.drew L.cm (L.cl.map fun p => (p.1, rowV (rowsOf l p.1) p.2)) := ((h89 L.cm (hF8 _ foot_c) hcA (hFR _ foot_c)).trans HKC.out).trans HQ5.out.mc
      obtain ⟨w11, hrun, h11e, hmb, hgr⟩ := SMap.run_mapUpdate keyChan Try.underlying89 m.ch (rowV (rowsOf l m.ch ++ [m]) ⟨g1, c1', fi⟩) L.cm _ w10.drew mcm
      have hln : (rowsOf l m.ch ++ [m]).length = n + 1 := by rw [List.length_append, HN.out]; rfl
      have RUN2 : (Instr.mapUpdate 89 (.map (some L.cm)) (.agg #[.string m.key, .int .i64 m.fr, .int .i64 m.to]) (.agg #[.slice (some ⟨g1, 0, none⟩) (n + 1) c1', .int .i64 fi])).run Try.prog w10.drew = .ok () w11 := by
        have h1 := hrun
        unfold rowV chV Msg.ch at h1
        unfold Msg.ch at hln
        rw [hln] at h1
        exact h1
      have s11 : ∀ b, b < w8.heap.size → some b ≠ (Value.slice A n cap).ownBlock → b ≠ R → b ≠ L.cm → w11.heap[b]? = w8.heap[b]? := fun b hb h1 h2 h3 =>
        (hgr.block b (by show b < w10.heap.size; rw [z10]; exact Nat.lt_of_lt_of_le hb HG9.out.size) (fun e => h3 (by injection e))).trans (h89 b hb h1 h2)
      have hgR : g1 ≠ R := by
        rcases HOB.out with e | e
        · rcases HCS.out with ⟨_, e2, _⟩ | ⟨y, hy, e2, _, _⟩
          · rw [e2] at e; cases e
          · rw [e2] at e; injection e with e; injection e with e; rw [← e]; exact hFR _ (foot_row hy)
        · have : R < w8.heap.size := Nat.lt_of_lt_of_le K5.out.lt HCH.out.size
          omega
      have hgc : g1 ≠ L.cm := by
        rcases HOB.out with e | e
        · intro e3
          exact hcA (by rw [e, ← e3]; rfl)
        · have := hF8 _ (foot_c (L := L) (q := q))
          omega
      have hrow11 : w11.ownsRow 0 33 8 (.slice (some ⟨g1, 0, none⟩) ((rowsOf l m.ch).length + 1) c1') ((rowsOf l m.ch).length + 1) (msgCs (rowsOf l m.ch ++ [m])) := by
        rw [HN.out, msgCs_app]
        have h1 : w9.ownsRow 0 33 8 (.slice (some ⟨g1, 0, none⟩) (n + 1) c1') (n + 1) (msgCs (rowsOf l m.ch) ++ msgCs [m]) := by simpa [msgCs] using HO9.out
        have hg9 := own_in h1
        exact own_heap h1 ((hgr.block g1 (by show g1 < w10.heap.size; rw [z10]; exact hg9) (fun e => hgc (by injection e))).trans (hs10 g1 hgR))
      have hpc : L.pm ≠ L.cm := fun e => N2.out (by rw [← e]; exact List.mem_cons_self)
      have hsc : L.sm ≠ L.cm := fun e => N2.out (by rw [← e]; exact List.mem_cons_of_mem _ List.mem_cons_self)
      have hqc : q ≠ L.cm := fun e => N1.out (by rw [e]; exact List.mem_cons_self)
      have hslk : ∀ p ∈ L.sl, w11.heap[p.2.g]? = w8.heap[p.2.g]? := fun p hp => by
        have hpm : p.2.g ∈ L.sl.map (·.2.g) := List.mem_map_of_mem (f := fun p : Inb × SRow => p.2.g) hp
        refine s11 _ (hF8 _ (foot_srow hp)) (hA _ (foot_srow hp) fun y hy e => N5.out.2.2 y.g (List.mem_map_of_mem (f := fun p : Chan × CRow => p.2.g) hy) _ hpm e.symm) (hFR _ (foot_srow hp)) (fun e => N2.out (by rw [← e]; exact List.mem_cons_of_mem _ (List.mem_cons_of_mem _ (List.mem_append_right _ hpm))))
      have hclk : ∀ p ∈ L.cl, ¬ p.1 = m.ch → w11.heap[p.2.g]? = w5.heap[p.2.g]? := fun p hp hne => (s11 _ (hF8 _ (foot_row hp)) (hA _ (foot_row hp) fun y hy e => rows_apart HQ5.out hp hy hne e) (hFR _ (foot_row hp)) (fun e => N2.out (by rw [← e]; exact List.mem_cons_of_mem _ (List.mem_cons_of_mem _ (List.mem_append_left _ (List.mem_map_of_mem (f := fun p : Chan × CRow => p.2.g) hp)))))).trans (HKR.out p hp)
      have hmp11 : SMap.MB whV w11 L.pm _ := (s11 L.pm (hF8 _ foot_p) hpA (hFR _ foot_p) hpc).trans HMP.out
      have hq11 : w11.heap[q]? = w5.heap[q]? := (s11 q (hF8 _ foot_q) hqA (hFR _ foot_q) hqc).trans HKQ.out
      have hsm11 := s11 L.sm (hF8 _ foot_s) hsA (hFR _ foot_s) hsc
      have hy8 : ∀ y : SRow, rowsOf l m.ch = [] → y.g < w8.heap.size → ((∃ y0, (m.inb, y0) ∈ L.sl ∧ y0.g = y.g) ∨ w5.heap.size ≤ y.g) → w11.heap[y.g]? = w8.heap[y.g]? := fun y he hlt ho => by
        have hAn : some y.g ≠ (Value.slice A n cap).ownBlock := fun e => by
          rcases HCS.out with ⟨_, e2, _⟩ | ⟨_, _, _, _, hne⟩
          · subst e2; cases e
          · exact hne he
        rcases ho with ⟨y0, hy0, e⟩ | ho
        · rw [← e]; exact hslk _ hy0
        · exact s11 _ hlt hAn (by have := K5.out.lt; omega) (by have := HQ5.out.lt _ (foot_c (L := L) (q := q)); omega)
      have hss11 := HSS.out
      have hfd1 : ([q, L.cm, L.pm, L.sm] ++ ((updA L.cl m.ch ⟨g1, c1', fi⟩).map (fun p => p.2.g) ++ L.sl.map (fun p : Inb × SRow => p.2.g))).Nodup := by
        refine updA_foot CRow.g L.cl [q, L.cm, L.pm, L.sm] (L.sl.map (fun p : Inb × SRow => p.2.g)) HQ5.out.fd HQ5.out.kc ?_
        rcases HOB.out with e | e
        · rcases HCS.out with ⟨_, e2, _⟩ | ⟨y, hy, e2, _, _⟩
          · rw [e2] at e; cases e
          · rw [e2] at e; injection e with e; injection e with e; exact .inl ⟨y, hy, e⟩
        · exact .inr fun hm => by have := hF8 g1 hm; omega
      have hsent : ∃ L', QSt w11 q L' (l ++ [m]) ∧ ∀ b ∈ L'.foot q, b ∈ L.foot q ∨ w.heap.size ≤ b := by
        have h58 := HCH.out.size
        have h05 := HB5.out.2
        have hg1 : g1 ∈ L.foot q ∨ w.heap.size ≤ g1 := by
          rcases HOB.out with e | e
          · rcases HCS.out with ⟨_, e2, _⟩ | ⟨y, hy, e2, _, _⟩
            · rw [e2] at e; cases e
            · rw [e2] at e; injection e with e; injection e with e; rw [← e]; exact .inl (foot_row hy)
          · exact .inr (by omega)
        have hin : ∀ (sl' : List (Inb × SRow)), (∀ p ∈ sl', p.2.g ∈ L.foot q ∨ w.heap.size ≤ p.2.g) → ∀ b ∈ (⟨L.cm, L.pm, L.sm, updA L.cl m.ch ⟨g1, c1', fi⟩, updA L.pl m.who ⟨m.ch, (rowsOf l m.ch).length⟩, sl'⟩ : QL).foot q, b ∈ L.foot q ∨ w.heap.size ≤ b := fun sl' hsl b hb => by
          rcases List.mem_cons.1 hb with rfl | hb
          · exact .inl foot_q
          rcases List.mem_cons.1 hb with rfl | hb
          · exact .inl foot_c
          rcases List.mem_cons.1 hb with rfl | hb
          · exact .inl foot_p
          rcases List.mem_cons.1 hb with rfl | hb
          · exact .inl foot_s
          rcases List.mem_append.1 hb with hb | hb
          · obtain ⟨p, hp, rfl⟩ := List.mem_map.1 hb
            rcases updA_mem HQ5.out.kc hp with e | ⟨e, _⟩
            · rw [e]; exact hg1
            · exact .inl (foot_row e)
          · obtain ⟨p, hp, rfl⟩ := List.mem_map.1 hb
            exact hsl p hp
        have hfi : (rowsOf l m.ch = [] ∧ (⟨g1, c1', fi⟩ : CRow).fi = 0) ∨ ∃ y, (m.ch, y) ∈ L.cl ∧ (⟨g1, c1', fi⟩ : CRow).fi = y.fi := by
          rcases HCS.out with ⟨e1, _, e3⟩ | ⟨y, hy, _, e3, _⟩
          · exact .inl ⟨e1, e3⟩
          · exact .inr ⟨y, hy, e3⟩
        rcases hss11 with ⟨hne, rfl, hms, hk⟩ | ⟨hem, y, rfl, hms, hown, hk, hyg⟩
        · exact ⟨_, HQ5.out.sent HYM.out HPN.out hfi hrow11 hmb hmp11 (.inl ⟨hne, rfl, hsm11.trans hms, fun p hp => (hslk p hp).trans (hk p hp)⟩) hfd1 hq11 hclk, hin _ fun p hp => .inl (foot_srow hp)⟩
        · have hyl := own_in hown
          have hy11 := hy8 y hem hyl hyg
          refine ⟨_, HQ5.out.sent HYM.out HPN.out hfi hrow11 hmb hmp11 (.inr ⟨hem, y, rfl, hsm11.trans hms, own_heap hown hy11, fun p hp hne => (hslk p hp).trans (hk p hp hne)⟩) ?_ hq11 hclk, hin _ fun p hp => ?_⟩
          · have e : ∀ z : List Nat, (q :: L.cm :: L.pm :: L.sm :: ((updA L.cl m.ch (⟨g1, c1', fi⟩ : CRow)).map (fun p => p.2.g) ++ z)) = ([q, L.cm, L.pm, L.sm] ++ (updA L.cl m.ch (⟨g1, c1', fi⟩ : CRow)).map (fun p => p.2.g)) ++ (z ++ []) := fun z => by simp
            show (q :: L.cm :: L.pm :: L.sm :: ((updA L.cl m.ch (⟨g1, c1', fi⟩ : CRow)).map (fun p => p.2.g) ++ (updA L.sl m.inb y).map (fun p => p.2.g))).Nodup
            rw [e]
            refine updA_foot SRow.g L.sl _ [] (by rw [← e]; exact hfd1) HQ5.out.ks ?_
            rcases hyg with ⟨y0, h1, h2⟩ | hyg
            · exact .inl ⟨y0, h1, h2⟩
            · refine .inr fun hm => ?_
              rw [← e] at hm
              have hold : ∀ b ∈ L.foot q, b ≠ y.g := fun b hb e => by have := HQ5.out.lt b hb; omega
              rcases List.mem_cons.1 hm with e | hm
              · exact hold q foot_q e.symm
              rcases List.mem_cons.1 hm with e | hm
              · exact hold _ foot_c e.symm
              rcases List.mem_cons.1 hm with e | hm
              · exact hold _ foot_p e.symm
              rcases List.mem_cons.1 hm with e | hm
              · exact hold _ foot_s e.symm
              rcases List.mem_append.1 hm with hm | hm
              · obtain ⟨p, hp, e⟩ := List.mem_map.1 hm
                rcases updA_mem HQ5.out.kc hp with e2 | ⟨e2, _⟩
                · rw [e2] at e
                  have e3 : g1 = y.g := e
                  rcases HOB.out with e4 | e4
                  · rcases HCS.out with ⟨_, e5, _⟩ | ⟨_, _, _, _, hne⟩
                    · rw [e5] at e4; cases e4
                    · exact hne hem
                  · omega
                · exact hold _ (foot_row e2) e
              · obtain ⟨p, hp, e⟩ := List.mem_map.1 hm
                exact hold _ (foot_srow hp) e
          · rcases updA_mem HQ5.out.ks hp with e | ⟨e, _⟩
            · rw [e]
              rcases hyg with ⟨y0, h1, h2⟩ | hyg
              · exact .inl (by show y.g ∈ _; rw [← h2]; exact foot_srow h1)
              · exact .inr (by show w.heap.size ≤ y.g; omega)
            · exact .inl (foot_srow e)
      have hch11 : Ch (L.foot q) w w11 := by
        have a1 : Ch (R :: L.foot q) w w5 := Ch.of_below HB5.out.1
        have a2 : Ch (R :: L.foot q) w5 w8 := HCH.out.more fun j hj => .inl (List.mem_cons_of_mem _ hj)
        have a3 : Ch (R :: L.foot q) w8 w9 := ⟨HG9.out.os, HG9.out.tape, HG9.out.output, HG9.out.size, fun j hj hn => HG9.out.block j hj fun e => hn (by
          rcases HCS.out with ⟨_, e2, _⟩ | ⟨y, hy, e2, _, _⟩
          · subst e2; cases e
          · subst e2
            injection e with e
            rw [show j = y.g from e]
            exact List.mem_cons_of_mem _ (foot_row hy))⟩
        have a4 : Ch (R :: L.foot q) w9 w10 := hch10.more fun j hj => .inl (by rw [List.mem_singleton.1 hj]; exact List.mem_cons_self)
        have a5 : Ch (R :: L.foot q) w10 w10.drew := Ch.of_below (Below.refl _ _).drew
        have a6 : Ch (R :: L.foot q) w10.drew w11 := Ch.of_grown hgr (List.mem_cons_of_mem _ foot_c)
        exact (((((a1.trans a2).trans a3).trans a4).trans a5).trans a6).more fun j hj => by
          rcases List.mem_cons.1 hj with e | hj
          · exact .inr (by
              have h1 := HXC.out
              have h2 := HCR.out
              have h3 : w.heap.size = X := HX.out
              omega)
          · exact .inl hj
      have GO : Hid (Goes w q L (sendL l m) w11) := hide (by
        obtain ⟨L', h1, h2⟩ := hsent
        rw [FL.out]
        exact ⟨L', h1, hch11, h2⟩)
      have q0 : w10.cell? ⟨q, 0, none⟩ = some (.map (some L.cm)) := (World.cell?_of_block (w := w5) ((h89 q (hF8 _ foot_q) hqA (hFR _ foot_q)).trans HKQ.out)).trans (HQ5.out.blk.cell 0)
      have p0 : w10.cell? ⟨C, 0, none⟩ = some (.string m.key) := kc10.cell 0
      have p1 : w10.cell? ⟨C, 1, none⟩ = some (.int .i64 m.fr) := kc10.cell 1
      have p2 : w10.cell? ⟨C, 2, none⟩ = some (.int .i64 m.to) := kc10.cell 2
      have s0 : w10.cell? ⟨R, 0, none⟩ = some (.slice (some ⟨g1, 0, none⟩) (n + 1) c1') := k10.cell 0
      have s1 : w10.cell? ⟨R, 1, none⟩ = some (.int .i64 fi) := k10.cell 1
      clear hs10 k10 kc10 z10 hch10 hw10 hA hFR hF8 hrow_ne hqA hcA hpA hsA h89 mcm hrun h11e hmb hgr hln s11 hgR hgc hrow11 hpc hsc hqc hslk hclk hmp11 hq11 hsm11 hy8 hss11 hfd1 hsent hch11 r0 z0 f0 x0 x1 x2 x3 x4 x5 x6 x7
      go_upto_region 14 with (fail)
      rw [HW10.out]
      go_region
      all_goals (go_wp2_with fail)
      all_goals go_ret
      all_goals exact ⟨by rw [FE.out]; rfl, GO.out⟩
end Qu
end Go.Proofs.Ytonmojinijpneaa
