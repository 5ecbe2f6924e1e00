/- The walk of the statement QueuePlays: of any acts; without conditions. -/
import Derived.Test.YtomladbdebfikaaRows
import Derived.Test.YtomladbdebfikaaQuXj
import Derived.Test.YtomladbdebfikaaQuXk
import Derived.Test.YtomladbdebfikaaQuXe
import Derived.Test.YtomladbdebfikaaRelG
import Derived.Deep.CutBlock
namespace Go.Proofs.Ytomladbdebfikaa.QueuePlaysW
open Go Go.Joins Go.ChangeShapes Go.WideShapes Go.RowKit Go.Deep Go.Lib Go.Proofs.Ytomladbdebfikaa Go.Proofs.Ytomladbdebfikaa.Qu
set_option linter.unusedVariables false
set_option linter.unusedSimpArgs false
/-- Both queues, and a message's box apart from them. -/
def BX (W : World) (q p X : Nat) (cs : Array Value) (l k : List Msg) (w : World) : Prop := ∃ L A, Both w W.heap.size q L p A l k ∧ Blk w X 31 cs ∧ ¬ X ∈ L.foot q ∧ ¬ X ∈ rf p A ∧ Below W.heap.size W w
section
variable {W w w' : World} {q p X : Nat} {cs : Array Value} {l k l' : List Msg}
theorem BX.below (h : BX W q p X cs l k w) (hb : Below w.heap.size w w') : BX W q p X cs l k w' := by
  obtain ⟨L, A, h1, h2, h3, h4, h5⟩ := h
  exact ⟨L, A, h1.below hb, h2.below hb h2.lt, h3, h4, h5.trans (hb.mono h5.size)⟩
theorem BX.goQ {L : QL} {A : Option Addr} (h : Both w W.heap.size q L p A l k) (hk : Blk w X 31 cs) (hx : ¬ X ∈ L.foot q) (hr : ¬ X ∈ rf p A) (hbl : Below W.heap.size W w) (hg : Goes w q L l' w') : BX W q p X cs l' k w' := by
  obtain ⟨L', g1, g2, g3⟩ := hg
  have hs := h.size
  refine ⟨L', A, ⟨g1, h.ra.ch g2 h.ap, fun b hb hr => ?_, fun b hb => ?_, h.lr⟩, (g2.block X hk.lt hx).trans hk, fun hm => ?_, hr, hbl.trans (g2.below h.lo hs)⟩
  · rcases g3 b hb with h4 | h4
    · exact h.ap b h4 hr
    · have := h.ra.lt b hr; omega
  · rcases g3 b hb with h4 | h4
    · exact h.lo b h4
    · omega
  · rcases g3 X hm with h4 | h4
    · exact hx h4
    · have := hk.lt; omega
theorem BX.goR {L : QL} {A : Option Addr} (h : Both w W.heap.size q L p A l k) (hk : Blk w X 31 cs) (hx : ¬ X ∈ L.foot q) (hr : ¬ X ∈ rf p A) (hbl : Below W.heap.size W w) (hg : GoesR w p A l' w') : BX W q p X cs l l' w' := by
  obtain ⟨A', g1, g2, g3⟩ := hg
  have hs := h.size
  refine ⟨L, A', ⟨h.qs.ch g2 fun b hb hf => h.ap b hf hb, g1, fun b hb hr => ?_, h.lo, fun b hb => ?_⟩, (g2.block X hk.lt hr).trans hk, hx, fun hm => ?_, hbl.trans (g2.below h.lr hs)⟩
  · rcases g3 b hr with h4 | h4
    · exact h.ap b hb h4
    · have := h.qs.lt b hb; omega
  · rcases g3 b hb with h4 | h4
    · exact h.lr b h4
    · omega
  · rcases g3 X hm with h4 | h4
    · exact hr h4
    · have := hk.lt; omega
end
/-- Two calls, one behind the other: what the world is like. -/
structure JS (a b : Nat) (S0 S1 S2 : World → Prop) (V : Nat → Option Value) (w : World) : Prop where
  ord : (V b).isSome = true → (V a).isSome = true
  s0 : V a = none → S0 w
  s1 : (V a).isSome = true → V b = none → S1 w
  s2 : (V b).isSome = true → S2 w
section
variable {a b : Nat} {S0 S1 S2 : World → Prop} {V : Nat → Option Value} {w w' : World} {v : Value}
theorem JS.plain {i : Nat} (h : JS a b S0 S1 S2 V w) (k0 : S0 w → S0 w') (k1 : S1 w → S1 w') (k2 : S2 w → S2 w') (ha : i ≠ a) (hb : i ≠ b) : JS a b S0 S1 S2 (setV V i v) w' := by
  have e1 : setV V i v a = V a := if_neg (fun e => ha e.symm)
  have e2 : setV V i v b = V b := if_neg (fun e => hb e.symm)
  exact ⟨by rw [e1, e2]; exact h.ord, fun h0 => (by rw [e1] at h0; exact k0 (h.s0 h0)), fun h0 h1 => (by rw [e1] at h0; rw [e2] at h1; exact k1 (h.s1 h0 h1)), fun h0 => (by rw [e2] at h0; exact k2 (h.s2 h0))⟩
theorem JS.first (h : JS a b S0 S1 S2 V w) (hV : V a = none) (hab : a ≠ b) (hs : S1 w') : JS a b S0 S1 S2 (setV V a v) w' := by
  have e1 : setV V a v a = some v := if_pos rfl
  have e2 : setV V a v b = V b := if_neg (fun e => hab e.symm)
  have hn : V b = none := by
    cases hb : V b with
    | none => rfl
    | some z =>
      have := h.ord (by rw [hb]; rfl)
      rw [hV] at this
      cases this
  exact ⟨fun _ => (by rw [e1]; rfl), fun h0 => (by rw [e1] at h0; cases h0), fun _ _ => hs, fun h0 => (by rw [e2, hn] at h0; cases h0)⟩
theorem JS.second (h16 : (V a).isSome = true) (hab : a ≠ b) (hs : S2 w') : JS a b S0 S1 S2 (setV V b v) w' := by
  have e1 : setV V b v a = V a := if_neg hab
  have e2 : setV V b v b = some v := if_pos rfl
  exact ⟨fun _ => (by rw [e1]; exact h16), fun h0 => (by rw [e1] at h0; rw [h0] at h16; cases h16), fun _ h0 => (by rw [e2] at h0; cases h0), fun _ => hs⟩
end
theorem JS.blk {W w : World} {q p X a b : Nat} {cs : Array Value} {l l3 : List Msg} {V : Nat → Option Value} (h : JS a b (fun w2 => BX W q p X cs l l w2) (fun w2 => BX W q p X cs l3 l w2) (fun w2 => BX W q p X cs l3 l3 w2) V w) : Blk w X 31 cs := by
  cases ha : V a with
  | none =>
    obtain ⟨L, A, _, h2, _⟩ := h.s0 ha
    exact h2
  | some z =>
    cases hb : V b with
    | none =>
      obtain ⟨L, A, _, h2, _⟩ := h.s1 (by rw [ha]; rfl) hb
      exact h2
    | some y =>
      obtain ⟨L, A, _, h2, _⟩ := h.s2 (by rw [hb]; rfl)
      exact h2
theorem msgCs_set4 : ∀ (K : List Msg) (k : Nat) (m : Msg) (t : Int), K[k]? = some m → (msgCs K).set (k * 8 + 4) (.int .i64 t) = msgCs (K.set k { m with tg := t })
  | x :: K, 0, m, t, h => by
    obtain rfl : x = m := by simpa using h
    rfl
  | x :: K, k + 1, m, t, h => by
    rw [List.set_cons_succ, msgCs, msgCs, ← msgCs_set4 K k m t (by simpa using h), show (k + 1) * 8 + 4 = (msgC x).length + (k * 8 + 4) by rw [msgC_len]; omega, List.set_append_right _ _ (by omega), Nat.add_sub_cancel_left]
set_option maxRecDepth 100000 in
set_option maxHeartbeats 32000000 in
theorem walk {H : Type} {enc : TypeId × Value → H} {base : Nat} (W : World) (v0 : Value) (d0 : DataW H) (p0 : List MemPlace) (o0 : Value.okWide Try.prog W .any base 22 v0) (r0 : DataW.Trod enc Try.prog W 0 (fun _ => true) true 22 v0 d0 p0) :
    Calls Try.prog 3 #[v0] W fun e w' => e = .returned (.bool true) ∧ Below W.heap.size W w' := by
  obtain ⟨A, n, cap, F, rfl, hn, hF⟩ := acts_of o0 r0
  have G1 := hide (Great_c cap hF)
  have HF := hide hF
  have HB00 := hide (Below.refl W.heap.size W)
  clear o0 r0 hF hn
  go_enter Try.func3, Try.ntmps3
  cases hg : grt n F with
  | true =>
    rw [hg] at G1
    go_wp2_with fail
    refine G1.out.mono ?_
    rintro e w2 ⟨rfl, hw2⟩
    subst hw2
    go_wp2_with fail
    go_ret
    exact ⟨rfl, HB00.out⟩
  | false =>
  rw [hg] at G1
  have hn2 : n ≤ 200 := by
    unfold grt at hg
    simp at hg
    omega
  have HN2 := hide hn2
  clear hg hn2
  go_wp2_with fail
  refine G1.out.mono ?_
  rintro e w2 ⟨rfl, hw2⟩
  subst hw2
  have NC := hide (New_c W)
  go_wp2_with fail
  refine NC.out.mono ?_
  rintro e w1 ⟨q0, L0, rfl, hq, hf, hb⟩
  have hbo := both_new hq hf hb.size
  have hbb := hb.trans (((Below.refl w1.heap.size w1).alloc (Nat.le_refl _) (.cells #[.slice none 0 0] 29)).mono hb.size)
  obtain ⟨p1, hp⟩ : ∃ z, w1.heap.size = z := ⟨_, rfl⟩
  obtain ⟨w2, hw2⟩ : ∃ z, w1.alloc (.cells #[.slice none 0 0] 29) = z := ⟨_, rfl⟩
  rw [hp, hw2] at hbo
  rw [hw2] at hbb
  have HBO := hide hbo
  have HBB := hide hbb
  have HE := hide (And.intro hw2 hp)
  clear hbo hbb hw2 hp hq hf hb NC G1
  go_upto_region 4 with (fail)
  rw [HE.out.1, HE.out.2]
  clear HE
  go_wp2_with fail
  go_loopw [3, 4, 5, 6, 7, 8, 9] (fun v3 v4 v5 _ _ _ _ wr => ∃ (i q p : Nat) (L : QL) (A' : Option Addr) (l : List Msg), i ≤ n ∧ v3 = .pointer (some ⟨q, 0, none⟩) ∧ v4 = .pointer (some ⟨p, 0, none⟩) ∧ v5 = .int .i64 i ∧ Hid (l.length ≤ i) ∧ Hid (Both wr W.heap.size q L p A' l l) ∧ Hid (Below W.heap.size W wr)) (fun _ _ v5 _ _ _ _ _ => n - (RowKit.intOf v5).toNat)
  case atStart => exact ⟨0, q0, p1, L0, none, [], Nat.zero_le _, rfl, rfl, rfl, hide (Nat.le_refl _), HBO, HBB⟩
  case round =>
    obtain ⟨i, q, p, L, A', l, hi, rfl, rfl, rfl, HLL, HBR, HBW⟩ := hrel
    rename World => wr
    have hn1 := HN2.out
    by_cases hlt : i < n
    rotate_left
    · have hltI : ¬ (i : Int) < (n : Int) := by omega
      clear hlt
      go_wp2_with fail
      go_ret
      exact ⟨rfl, HBW.out⟩
    have hltI : (i : Int) < (n : Int) := by omega
    have hge : (0 : Int) ≤ (i : Int) := by omega
    obtain ⟨a, rfl, k0, k1, c0, hc⟩ := (HF.out.below HBW.out).cells hlt
    have HAL := hide (show a.block < W.heap.size by obtain ⟨_, _, a', e, hal, _⟩ := HF.out i hlt; cases e; exact hal)
    obtain ⟨x, hx⟩ : ∃ z, F i = z := ⟨_, rfl⟩
    rw [hx] at k0 k1 c0 hc
    obtain ⟨kind, ⟨xk, xf, xt, xc, xg, xv, xz, xb⟩⟩ := x
    simp only at k0 k1 c0 hc
    have c1 : wr.cell? ⟨(a.add (i * 9)).block, (a.add (i * 9)).off + 1, none⟩ = some (.string xk) := hc 0 _ rfl
    have c2 : wr.cell? ⟨(a.add (i * 9)).block, (a.add (i * 9)).off + 2, none⟩ = some (.int .i64 xf) := hc 1 _ rfl
    have c3 : wr.cell? ⟨(a.add (i * 9)).block, (a.add (i * 9)).off + 3, none⟩ = some (.int .i64 xt) := hc 2 _ rfl
    have c4 : wr.cell? ⟨(a.add (i * 9)).block, (a.add (i * 9)).off + 4, none⟩ = some (.int .i64 xc) := hc 3 _ rfl
    have c5 : wr.cell? ⟨(a.add (i * 9)).block, (a.add (i * 9)).off + 5, none⟩ = some (.int .i64 xg) := hc 4 _ rfl
    have c6 : wr.cell? ⟨(a.add (i * 9)).block, (a.add (i * 9)).off + 6, none⟩ = some (.int .i64 xv) := hc 5 _ rfl
    have c7 : wr.cell? ⟨(a.add (i * 9)).block, (a.add (i * 9)).off + 7, none⟩ = some (.int .i64 xz) := hc 6 _ rfl
    have c8 : wr.cell? ⟨(a.add (i * 9)).block, (a.add (i * 9)).off + 8, none⟩ = some (.bool xb) := hc 7 _ rfl
    have HLT := hide hlt
    have RM := hide (rem4 k0)
    have ba := (Below.refl wr.heap.size wr).alloc (Nat.le_refl _) (.cells #[.string xk, .int .i64 xf, .int .i64 xt, .int .i64 xc, .int .i64 xg, .int .i64 xv, .int .i64 xz, .bool xb] 31)
    have kx := Blk.new wr 31 #[.string xk, .int .i64 xf, .int .i64 xt, .int .i64 xc, .int .i64 xg, .int .i64 xv, .int .i64 xz, .bool xb]
    have cs := (ba.cell (p := a.add (i * 9)) (by rw [Qu.block_add]; have := HAL.out; have := HBW.out.size; omega)).trans c0
    have hny : ¬ wr.heap.size ∈ L.foot q ∧ ¬ wr.heap.size ∈ rf p A' := ⟨fun hm => by have := HBR.out.qs.lt _ hm; omega, fun hm => by have := HBR.out.ra.lt _ hm; omega⟩
    have hbx : BX W q p wr.heap.size #[.string xk, .int .i64 xf, .int .i64 xt, .int .i64 xc, .int .i64 xg, .int .i64 xv, .int .i64 xz, .bool xb] l l (wr.alloc (.cells #[.string xk, .int .i64 xf, .int .i64 xt, .int .i64 xc, .int .i64 xg, .int .i64 xv, .int .i64 xz, .bool xb] 31)) := ⟨L, A', HBR.out.below ba, kx, hny.1, hny.2, HBW.out.trans (ba.mono HBR.out.size)⟩
    obtain ⟨ws, hws⟩ : ∃ z, wr.alloc (.cells #[.string xk, .int .i64 xf, .int .i64 xt, .int .i64 xc, .int .i64 xg, .int .i64 xv, .int .i64 xz, .bool xb] 31) = z := ⟨_, rfl⟩
    obtain ⟨X, hX⟩ : ∃ z, wr.heap.size = z := ⟨_, rfl⟩
    rw [hws] at hbx cs
    rw [hX] at hbx
    have HBX := hide hbx
    have HE := hide (And.intro hws hX)
    clear ba kx hws hX hny hbx hc hx hlt k0 k1
    go_upto_region 10 with (fail)
    rw [HE.out.1, HE.out.2]
    clear HE c0 c1 c2 c3 c4 c5 c6 c7 c8
    have c0 := cs
    clear cs
    obtain ⟨rm, hrm⟩ : ∃ z, Int.tmod kind 4 = z := ⟨_, rfl⟩
    rw [hrm] at RM
    go_upto_block 2 with (fail)
    clear c0 hrm
    go_cut [3, 4, 7] from 34 to 72 (fun v3 v4 _ wx => ∃ (q2 p2 : Nat) (L2 : QL) (A2 : Option Addr) (l2 : List Msg), v3 = .pointer (some ⟨q2, 0, none⟩) ∧ v4 = .pointer (some ⟨p2, 0, none⟩) ∧ Hid (l2.length ≤ i + 1) ∧ Hid (Both wx W.heap.size q2 L2 p2 A2 l2 l2) ∧ Hid (Below W.heap.size W wx))
    case first =>
      rcases RM.out with hm | hm | hm | hm
      · obtain ⟨l3, hl3⟩ : ∃ z, sendL l ⟨xk, xf, xt, xc, xg, xv, xz, xb⟩ = z := ⟨_, rfl⟩
        obtain ⟨er, her⟩ : ∃ z, sendE l ⟨xk, xf, xt, xc, xg, xv, xz, xb⟩ = z := ⟨_, rfl⟩
        have CQ : Hid (∀ wx, BX W q p X #[.string xk, .int .i64 xf, .int .i64 xt, .int .i64 xc, .int .i64 xg, .int .i64 xv, .int .i64 xz, .bool xb] l l wx → Calls Try.prog 10 #[.pointer (some ⟨q, 0, none⟩), .agg #[.string xk, .int .i64 xf, .int .i64 xt, .int .i64 xc, .int .i64 xg, .int .i64 xv, .int .i64 xz, .bool xb]] wx fun e w' => e = .returned (.int .i64 er) ∧ BX W q p X #[.string xk, .int .i64 xf, .int .i64 xt, .int .i64 xc, .int .i64 xg, .int .i64 xv, .int .i64 xz, .bool xb] l3 l w') := hide (fun wx ⟨L', A2, h1, h2, h3, h4, h5⟩ => by
          have h := Send_c h1.qs ⟨xk, xf, xt, xc, xg, xv, xz, xb⟩ (by have := HLL.out; omega)
          rw [her, hl3] at h
          exact h.mono fun e w' ⟨he, hg⟩ => ⟨he, BX.goQ h1 h2 h3 h4 h5 hg⟩)
        have CR : Hid (∀ wx, BX W q p X #[.string xk, .int .i64 xf, .int .i64 xt, .int .i64 xc, .int .i64 xg, .int .i64 xv, .int .i64 xz, .bool xb] l3 l wx → Calls Try.prog 11 #[.pointer (some ⟨p, 0, none⟩), .agg #[.string xk, .int .i64 xf, .int .i64 xt, .int .i64 xc, .int .i64 xg, .int .i64 xv, .int .i64 xz, .bool xb]] wx fun e w' => e = .returned (.int .i64 er) ∧ BX W q p X #[.string xk, .int .i64 xf, .int .i64 xt, .int .i64 xc, .int .i64 xg, .int .i64 xv, .int .i64 xz, .bool xb] l3 l3 w') := hide (fun wx ⟨L', A2, h1, h2, h3, h4, h5⟩ => by
          have h := Send_b h1.ra ⟨xk, xf, xt, xc, xg, xv, xz, xb⟩ (by have := HLL.out; omega)
          rw [her, hl3] at h
          exact h.mono fun e w' ⟨he, hg⟩ => ⟨he, BX.goR h1 h2 h3 h4 h5 hg⟩)
        have HJ0 := hide (show JS 2 5 (fun w2 => BX W q p X #[.string xk, .int .i64 xf, .int .i64 xt, .int .i64 xc, .int .i64 xg, .int .i64 xv, .int .i64 xz, .bool xb] l l w2) (fun w2 => BX W q p X #[.string xk, .int .i64 xf, .int .i64 xt, .int .i64 xc, .int .i64 xg, .int .i64 xv, .int .i64 xz, .bool xb] l3 l w2) (fun w2 => BX W q p X #[.string xk, .int .i64 xf, .int .i64 xt, .int .i64 xc, .int .i64 xg, .int .i64 xv, .int .i64 xz, .bool xb] l3 l3 w2) (fun _ => none) ws.drew from ⟨fun h => (by cases h), fun _ => HBX.out.below (Below.refl _ _).drew, fun h => (by cases h), fun h => (by cases h)⟩)
        have HL3 := hide (show l3.length ≤ i + 1 by rw [← hl3]; have := sendL_len l ⟨xk, xf, xt, xc, xg, xv, xz, xb⟩; have := HLL.out; omega)
        clear her hl3
        subst hm
        go_upto_region 17 with (fail)
        let R : Nat → Value → World → Prop := fun sl u w1 => match sl with
          | 51 => u = .pointer (some ⟨q, 0, none⟩)
          | 52 => u = .agg #[.string xk, .int .i64 xf, .int .i64 xt, .int .i64 xc, .int .i64 xg, .int .i64 xv, .int .i64 xz, .bool xb]
          | 53 => u = .int .i64 er
          | 54 => u = .pointer (some ⟨p, 0, none⟩)
          | 55 => u = .agg #[.string xk, .int .i64 xf, .int .i64 xt, .int .i64 xc, .int .i64 xg, .int .i64 xv, .int .i64 xz, .bool xb]
          | 56 => u = .int .i64 er
          | 57 => u = .bool false
          | _ => True
        refine wp_region_relGW [] R (fun _ _ => True) (fun V w1 => JS 2 5 (fun w2 => BX W q p X #[.string xk, .int .i64 xf, .int .i64 xt, .int .i64 xc, .int .i64 xg, .int .i64 xv, .int .i64 xz, .bool xb] l l w2) (fun w2 => BX W q p X #[.string xk, .int .i64 xf, .int .i64 xt, .int .i64 xc, .int .i64 xg, .int .i64 xv, .int .i64 xz, .bool xb] l3 l w2) (fun w2 => BX W q p X #[.string xk, .int .i64 xf, .int .i64 xt, .int .i64 xc, .int .i64 xg, .int .i64 xv, .int .i64 xz, .bool xb] l3 l3 w2) V w1) (by kernel_rfl) (by kernel_rfl) (by kernel_rfl) (by kernel_rfl) ?mono (fun _ => trivial) HJ0.out ?gs ?step ?fin
        case mono =>
          intro sl u wx wy h hk
          match sl with
          | 0 | 1 | 2 | 3 | 4 | 5 | 6 | 7 | 8 | 9 | 10 | 11 | 12 | 13 | 14 | 15 | 16 | 17 | 18 | 19 | 20 | 21 | 22 | 23 | 24 | 25 | 26 | 27 | 28 | 29 | 30 | 31 | 32 | 33 | 34 | 35 | 36 | 37 | 38 | 39 | 40 | 41 | 42 | 43 | 44 | 45 | 46 | 47 | 48 | 49 | 50 | 51 | 52 | 53 | 54 | 55 | 56 | 57 | _ + 58 => exact h
        case gs =>
          intro p hp u w1 h
          cases hp
        case step =>
          intro j o ho
          match j, ho with
          | 0, ho =>
            cases ho
            intro V aa wx hV hdep hval hj hsm hr
            have e3 : aa.tmps.getD 3 undef = .pointer (some ⟨q, 0, none⟩) := hsm 3 (by decide)
            rw [Array.getD_eq_getD_getElem?] at e3
            unfold Oper.wp
            simp only [execOp, Act.eval, Array.getD_eq_getD_getElem?, e3]
            go_simp
            first | exact ⟨_, rfl, rfl, hj.plain (fun h => h) (fun h => h) (fun h => h) (by decide) (by decide)⟩ | exact ⟨_, rfl, hj.plain (fun h => h) (fun h => h) (fun h => h) (by decide) (by decide)⟩
          | 1, ho =>
            cases ho
            intro V aa wx hV hdep hval hj hsm hr
            have e6 : aa.tmps.getD 6 undef = .pointer (some ⟨X, 0, none⟩) := hsm 6 (by decide)
            have hkx : Blk wx X 31 #[.string xk, .int .i64 xf, .int .i64 xt, .int .i64 xc, .int .i64 xg, .int .i64 xv, .int .i64 xz, .bool xb] := hj.blk
            have x0 : wx.cell? ⟨X, 0, none⟩ = some (.string xk) := hkx.cell 0
            have x1 : wx.cell? ⟨X, 1, none⟩ = some (.int .i64 xf) := hkx.cell 1
            have x2 : wx.cell? ⟨X, 2, none⟩ = some (.int .i64 xt) := hkx.cell 2
            have x3 : wx.cell? ⟨X, 3, none⟩ = some (.int .i64 xc) := hkx.cell 3
            have x4 : wx.cell? ⟨X, 4, none⟩ = some (.int .i64 xg) := hkx.cell 4
            have x5 : wx.cell? ⟨X, 5, none⟩ = some (.int .i64 xv) := hkx.cell 5
            have x6 : wx.cell? ⟨X, 6, none⟩ = some (.int .i64 xz) := hkx.cell 6
            have x7 : wx.cell? ⟨X, 7, none⟩ = some (.bool xb) := hkx.cell 7
            clear hkx
            rw [Array.getD_eq_getD_getElem?] at e6
            unfold Oper.wp
            simp only [execOp, Act.eval, Array.getD_eq_getD_getElem?, e6]
            go_simp
            first | exact ⟨_, rfl, rfl, hj.plain (fun h => h) (fun h => h) (fun h => h) (by decide) (by decide)⟩ | exact ⟨_, rfl, hj.plain (fun h => h) (fun h => h) (fun h => h) (by decide) (by decide)⟩
          | 2, ho =>
            cases ho
            intro V aa wx hV hdep hval hj hsm hr
            have e51 : aa.tmps.getD 51 undef = .pointer (some ⟨q, 0, none⟩) := hr 51 (by decide) (by apply Array.mem_toList_iff.1; repeat (first | exact List.Mem.head _ | apply List.Mem.tail))
            have e52 : aa.tmps.getD 52 undef = .agg #[.string xk, .int .i64 xf, .int .i64 xt, .int .i64 xc, .int .i64 xg, .int .i64 xv, .int .i64 xz, .bool xb] := hr 52 (by decide) (by apply Array.mem_toList_iff.1; repeat (first | exact List.Mem.head _ | apply List.Mem.tail))
            rw [Array.getD_eq_getD_getElem?] at e51
            rw [Array.getD_eq_getD_getElem?] at e52
            unfold Oper.wp
            simp only [execOp, Act.eval, Array.getD_eq_getD_getElem?, e51, e52]
            go_simp
            refine (CQ.out wx (hj.s0 hV)).mono ?_
            rintro e w' ⟨rfl, hs⟩
            exact ⟨_, rfl, rfl, hj.first hV (by decide) hs⟩
          | 3, ho =>
            cases ho
            intro V aa wx hV hdep hval hj hsm hr
            have e4 : aa.tmps.getD 4 undef = .pointer (some ⟨p, 0, none⟩) := hsm 4 (by decide)
            rw [Array.getD_eq_getD_getElem?] at e4
            unfold Oper.wp
            simp only [execOp, Act.eval, Array.getD_eq_getD_getElem?, e4]
            go_simp
            first | exact ⟨_, rfl, rfl, hj.plain (fun h => h) (fun h => h) (fun h => h) (by decide) (by decide)⟩ | exact ⟨_, rfl, hj.plain (fun h => h) (fun h => h) (fun h => h) (by decide) (by decide)⟩
          | 4, ho =>
            cases ho
            intro V aa wx hV hdep hval hj hsm hr
            have e6 : aa.tmps.getD 6 undef = .pointer (some ⟨X, 0, none⟩) := hsm 6 (by decide)
            have hkx : Blk wx X 31 #[.string xk, .int .i64 xf, .int .i64 xt, .int .i64 xc, .int .i64 xg, .int .i64 xv, .int .i64 xz, .bool xb] := hj.blk
            have x0 : wx.cell? ⟨X, 0, none⟩ = some (.string xk) := hkx.cell 0
            have x1 : wx.cell? ⟨X, 1, none⟩ = some (.int .i64 xf) := hkx.cell 1
            have x2 : wx.cell? ⟨X, 2, none⟩ = some (.int .i64 xt) := hkx.cell 2
            have x3 : wx.cell? ⟨X, 3, none⟩ = some (.int .i64 xc) := hkx.cell 3
            have x4 : wx.cell? ⟨X, 4, none⟩ = some (.int .i64 xg) := hkx.cell 4
            have x5 : wx.cell? ⟨X, 5, none⟩ = some (.int .i64 xv) := hkx.cell 5
            have x6 : wx.cell? ⟨X, 6, none⟩ = some (.int .i64 xz) := hkx.cell 6
            have x7 : wx.cell? ⟨X, 7, none⟩ = some (.bool xb) := hkx.cell 7
            clear hkx
            rw [Array.getD_eq_getD_getElem?] at e6
            unfold Oper.wp
            simp only [execOp, Act.eval, Array.getD_eq_getD_getElem?, e6]
            go_simp
            first | exact ⟨_, rfl, rfl, hj.plain (fun h => h) (fun h => h) (fun h => h) (by decide) (by decide)⟩ | exact ⟨_, rfl, hj.plain (fun h => h) (fun h => h) (fun h => h) (by decide) (by decide)⟩
          | 5, ho =>
            cases ho
            intro V aa wx hV hdep hval hj hsm hr
            have e54 : aa.tmps.getD 54 undef = .pointer (some ⟨p, 0, none⟩) := hr 54 (by decide) (by apply Array.mem_toList_iff.1; repeat (first | exact List.Mem.head _ | apply List.Mem.tail))
            have e55 : aa.tmps.getD 55 undef = .agg #[.string xk, .int .i64 xf, .int .i64 xt, .int .i64 xc, .int .i64 xg, .int .i64 xv, .int .i64 xz, .bool xb] := hr 55 (by decide) (by apply Array.mem_toList_iff.1; repeat (first | exact List.Mem.head _ | apply List.Mem.tail))
            rw [Array.getD_eq_getD_getElem?] at e54
            rw [Array.getD_eq_getD_getElem?] at e55
            unfold Oper.wp
            simp only [execOp, Act.eval, Array.getD_eq_getD_getElem?, e54, e55]
            go_simp
            refine (CR.out wx (hj.s1 (hdep ⟨2, Ground.chain⟩ (by simp) (by decide)) hV)).mono ?_
            rintro e w' ⟨rfl, hs⟩
            exact ⟨_, rfl, rfl, JS.second (hdep ⟨2, Ground.chain⟩ (by simp) (by decide)) (by decide) hs⟩
          | 6, ho =>
            cases ho
            intro V aa wx hV hdep hval hj hsm hr
            have e53 : aa.tmps.getD 53 undef = .int .i64 er := hr 53 (by decide) (by apply Array.mem_toList_iff.1; repeat (first | exact List.Mem.head _ | apply List.Mem.tail))
            have e56 : aa.tmps.getD 56 undef = .int .i64 er := hr 56 (by decide) (by apply Array.mem_toList_iff.1; repeat (first | exact List.Mem.head _ | apply List.Mem.tail))
            have em : (er != er) = false := by simp
            rw [Array.getD_eq_getD_getElem?] at e53
            rw [Array.getD_eq_getD_getElem?] at e56
            unfold Oper.wp
            simp only [execOp, Act.eval, Array.getD_eq_getD_getElem?, e53, e56]
            go_simp
            first | exact ⟨_, rfl, rfl, hj.plain (fun h => h) (fun h => h) (fun h => h) (by decide) (by decide)⟩ | exact ⟨_, rfl, hj.plain (fun h => h) (fun h => h) (fun h => h) (by decide) (by decide)⟩
          | _ + 7, ho => cases ho
        case fin =>
          intro ff V wz hV hj hr
          have elast : ff 57 = .bool false := hr 57 (by decide)
          obtain ⟨L3, A3, h1, _, _, _, h5⟩ := hj.s2 (by rw [hV 5 _ rfl]; rfl)
          have HB3 := hide h1
          have HW3 := hide h5
          clear hV hr hj h1 h5
          simp only [putAll, slotsOf, List.filterMap_cons, List.filterMap_nil, List.foldl_cons, List.foldl_nil, Act.put, elast]
          simp only [List.setIfInBounds_toArray, List.set_cons_succ, List.set_cons_zero]
          go_wp2_with fail
          go_meet
          exact ⟨q, p, L3, A3, l3, rfl, rfl, HL3, HB3, HW3⟩
      · obtain ⟨l3, hl3⟩ : ∃ z, sendL l ⟨xk, xf, xt, xc, xg, xv, xz, xb⟩ = z := ⟨_, rfl⟩
        obtain ⟨er, her⟩ : ∃ z, sendE l ⟨xk, xf, xt, xc, xg, xv, xz, xb⟩ = z := ⟨_, rfl⟩
        have CQ : Hid (∀ wx, BX W q p X #[.string xk, .int .i64 xf, .int .i64 xt, .int .i64 xc, .int .i64 xg, .int .i64 xv, .int .i64 xz, .bool xb] l l wx → Calls Try.prog 10 #[.pointer (some ⟨q, 0, none⟩), .agg #[.string xk, .int .i64 xf, .int .i64 xt, .int .i64 xc, .int .i64 xg, .int .i64 xv, .int .i64 xz, .bool xb]] wx fun e w' => e = .returned (.int .i64 er) ∧ BX W q p X #[.string xk, .int .i64 xf, .int .i64 xt, .int .i64 xc, .int .i64 xg, .int .i64 xv, .int .i64 xz, .bool xb] l3 l w') := hide (fun wx ⟨L', A2, h1, h2, h3, h4, h5⟩ => by
          have h := Send_c h1.qs ⟨xk, xf, xt, xc, xg, xv, xz, xb⟩ (by have := HLL.out; omega)
          rw [her, hl3] at h
          exact h.mono fun e w' ⟨he, hg⟩ => ⟨he, BX.goQ h1 h2 h3 h4 h5 hg⟩)
        have CR : Hid (∀ wx, BX W q p X #[.string xk, .int .i64 xf, .int .i64 xt, .int .i64 xc, .int .i64 xg, .int .i64 xv, .int .i64 xz, .bool xb] l3 l wx → Calls Try.prog 11 #[.pointer (some ⟨p, 0, none⟩), .agg #[.string xk, .int .i64 xf, .int .i64 xt, .int .i64 xc, .int .i64 xg, .int .i64 xv, .int .i64 xz, .bool xb]] wx fun e w' => e = .returned (.int .i64 er) ∧ BX W q p X #[.string xk, .int .i64 xf, .int .i64 xt, .int .i64 xc, .int .i64 xg, .int .i64 xv, .int .i64 xz, .bool xb] l3 l3 w') := hide (fun wx ⟨L', A2, h1, h2, h3, h4, h5⟩ => by
          have h := Send_b h1.ra ⟨xk, xf, xt, xc, xg, xv, xz, xb⟩ (by have := HLL.out; omega)
          rw [her, hl3] at h
          exact h.mono fun e w' ⟨he, hg⟩ => ⟨he, BX.goR h1 h2 h3 h4 h5 hg⟩)
        have HJ0 := hide (show JS 2 5 (fun w2 => BX W q p X #[.string xk, .int .i64 xf, .int .i64 xt, .int .i64 xc, .int .i64 xg, .int .i64 xv, .int .i64 xz, .bool xb] l l w2) (fun w2 => BX W q p X #[.string xk, .int .i64 xf, .int .i64 xt, .int .i64 xc, .int .i64 xg, .int .i64 xv, .int .i64 xz, .bool xb] l3 l w2) (fun w2 => BX W q p X #[.string xk, .int .i64 xf, .int .i64 xt, .int .i64 xc, .int .i64 xg, .int .i64 xv, .int .i64 xz, .bool xb] l3 l3 w2) (fun _ => none) ws.drew from ⟨fun h => (by cases h), fun _ => HBX.out.below (Below.refl _ _).drew, fun h => (by cases h), fun h => (by cases h)⟩)
        have HL3 := hide (show l3.length ≤ i + 1 by rw [← hl3]; have := sendL_len l ⟨xk, xf, xt, xc, xg, xv, xz, xb⟩; have := HLL.out; omega)
        clear her hl3
        subst hm
        go_upto_region 17 with (fail)
        let R : Nat → Value → World → Prop := fun sl u w1 => match sl with
          | 51 => u = .pointer (some ⟨q, 0, none⟩)
          | 52 => u = .agg #[.string xk, .int .i64 xf, .int .i64 xt, .int .i64 xc, .int .i64 xg, .int .i64 xv, .int .i64 xz, .bool xb]
          | 53 => u = .int .i64 er
          | 54 => u = .pointer (some ⟨p, 0, none⟩)
          | 55 => u = .agg #[.string xk, .int .i64 xf, .int .i64 xt, .int .i64 xc, .int .i64 xg, .int .i64 xv, .int .i64 xz, .bool xb]
          | 56 => u = .int .i64 er
          | 57 => u = .bool false
          | _ => True
        refine wp_region_relGW [] R (fun _ _ => True) (fun V w1 => JS 2 5 (fun w2 => BX W q p X #[.string xk, .int .i64 xf, .int .i64 xt, .int .i64 xc, .int .i64 xg, .int .i64 xv, .int .i64 xz, .bool xb] l l w2) (fun w2 => BX W q p X #[.string xk, .int .i64 xf, .int .i64 xt, .int .i64 xc, .int .i64 xg, .int .i64 xv, .int .i64 xz, .bool xb] l3 l w2) (fun w2 => BX W q p X #[.string xk, .int .i64 xf, .int .i64 xt, .int .i64 xc, .int .i64 xg, .int .i64 xv, .int .i64 xz, .bool xb] l3 l3 w2) V w1) (by kernel_rfl) (by kernel_rfl) (by kernel_rfl) (by kernel_rfl) ?mono (fun _ => trivial) HJ0.out ?gs ?step ?fin
        case mono =>
          intro sl u wx wy h hk
          match sl with
          | 0 | 1 | 2 | 3 | 4 | 5 | 6 | 7 | 8 | 9 | 10 | 11 | 12 | 13 | 14 | 15 | 16 | 17 | 18 | 19 | 20 | 21 | 22 | 23 | 24 | 25 | 26 | 27 | 28 | 29 | 30 | 31 | 32 | 33 | 34 | 35 | 36 | 37 | 38 | 39 | 40 | 41 | 42 | 43 | 44 | 45 | 46 | 47 | 48 | 49 | 50 | 51 | 52 | 53 | 54 | 55 | 56 | 57 | _ + 58 => exact h
        case gs =>
          intro p hp u w1 h
          cases hp
        case step =>
          intro j o ho
          match j, ho with
          | 0, ho =>
            cases ho
            intro V aa wx hV hdep hval hj hsm hr
            have e3 : aa.tmps.getD 3 undef = .pointer (some ⟨q, 0, none⟩) := hsm 3 (by decide)
            rw [Array.getD_eq_getD_getElem?] at e3
            unfold Oper.wp
            simp only [execOp, Act.eval, Array.getD_eq_getD_getElem?, e3]
            go_simp
            first | exact ⟨_, rfl, rfl, hj.plain (fun h => h) (fun h => h) (fun h => h) (by decide) (by decide)⟩ | exact ⟨_, rfl, hj.plain (fun h => h) (fun h => h) (fun h => h) (by decide) (by decide)⟩
          | 1, ho =>
            cases ho
            intro V aa wx hV hdep hval hj hsm hr
            have e6 : aa.tmps.getD 6 undef = .pointer (some ⟨X, 0, none⟩) := hsm 6 (by decide)
            have hkx : Blk wx X 31 #[.string xk, .int .i64 xf, .int .i64 xt, .int .i64 xc, .int .i64 xg, .int .i64 xv, .int .i64 xz, .bool xb] := hj.blk
            have x0 : wx.cell? ⟨X, 0, none⟩ = some (.string xk) := hkx.cell 0
            have x1 : wx.cell? ⟨X, 1, none⟩ = some (.int .i64 xf) := hkx.cell 1
            have x2 : wx.cell? ⟨X, 2, none⟩ = some (.int .i64 xt) := hkx.cell 2
            have x3 : wx.cell? ⟨X, 3, none⟩ = some (.int .i64 xc) := hkx.cell 3
            have x4 : wx.cell? ⟨X, 4, none⟩ = some (.int .i64 xg) := hkx.cell 4
            have x5 : wx.cell? ⟨X, 5, none⟩ = some (.int .i64 xv) := hkx.cell 5
            have x6 : wx.cell? ⟨X, 6, none⟩ = some (.int .i64 xz) := hkx.cell 6
            have x7 : wx.cell? ⟨X, 7, none⟩ = some (.bool xb) := hkx.cell 7
            clear hkx
            rw [Array.getD_eq_getD_getElem?] at e6
            unfold Oper.wp
            simp only [execOp, Act.eval, Array.getD_eq_getD_getElem?, e6]
            go_simp
            first | exact ⟨_, rfl, rfl, hj.plain (fun h => h) (fun h => h) (fun h => h) (by decide) (by decide)⟩ | exact ⟨_, rfl, hj.plain (fun h => h) (fun h => h) (fun h => h) (by decide) (by decide)⟩
          | 2, ho =>
            cases ho
            intro V aa wx hV hdep hval hj hsm hr
            have e51 : aa.tmps.getD 51 undef = .pointer (some ⟨q, 0, none⟩) := hr 51 (by decide) (by apply Array.mem_toList_iff.1; repeat (first | exact List.Mem.head _ | apply List.Mem.tail))
            have e52 : aa.tmps.getD 52 undef = .agg #[.string xk, .int .i64 xf, .int .i64 xt, .int .i64 xc, .int .i64 xg, .int .i64 xv, .int .i64 xz, .bool xb] := hr 52 (by decide) (by apply Array.mem_toList_iff.1; repeat (first | exact List.Mem.head _ | apply List.Mem.tail))
            rw [Array.getD_eq_getD_getElem?] at e51
            rw [Array.getD_eq_getD_getElem?] at e52
            unfold Oper.wp
            simp only [execOp, Act.eval, Array.getD_eq_getD_getElem?, e51, e52]
            go_simp
            refine (CQ.out wx (hj.s0 hV)).mono ?_
            rintro e w' ⟨rfl, hs⟩
            exact ⟨_, rfl, rfl, hj.first hV (by decide) hs⟩
          | 3, ho =>
            cases ho
            intro V aa wx hV hdep hval hj hsm hr
            have e4 : aa.tmps.getD 4 undef = .pointer (some ⟨p, 0, none⟩) := hsm 4 (by decide)
            rw [Array.getD_eq_getD_getElem?] at e4
            unfold Oper.wp
            simp only [execOp, Act.eval, Array.getD_eq_getD_getElem?, e4]
            go_simp
            first | exact ⟨_, rfl, rfl, hj.plain (fun h => h) (fun h => h) (fun h => h) (by decide) (by decide)⟩ | exact ⟨_, rfl, hj.plain (fun h => h) (fun h => h) (fun h => h) (by decide) (by decide)⟩
          | 4, ho =>
            cases ho
            intro V aa wx hV hdep hval hj hsm hr
            have e6 : aa.tmps.getD 6 undef = .pointer (some ⟨X, 0, none⟩) := hsm 6 (by decide)
            have hkx : Blk wx X 31 #[.string xk, .int .i64 xf, .int .i64 xt, .int .i64 xc, .int .i64 xg, .int .i64 xv, .int .i64 xz, .bool xb] := hj.blk
            have x0 : wx.cell? ⟨X, 0, none⟩ = some (.string xk) := hkx.cell 0
            have x1 : wx.cell? ⟨X, 1, none⟩ = some (.int .i64 xf) := hkx.cell 1
            have x2 : wx.cell? ⟨X, 2, none⟩ = some (.int .i64 xt) := hkx.cell 2
            have x3 : wx.cell? ⟨X, 3, none⟩ = some (.int .i64 xc) := hkx.cell 3
            have x4 : wx.cell? ⟨X, 4, none⟩ = some (.int .i64 xg) := hkx.cell 4
            have x5 : wx.cell? ⟨X, 5, none⟩ = some (.int .i64 xv) := hkx.cell 5
            have x6 : wx.cell? ⟨X, 6, none⟩ = some (.int .i64 xz) := hkx.cell 6
            have x7 : wx.cell? ⟨X, 7, none⟩ = some (.bool xb) := hkx.cell 7
            clear hkx
            rw [Array.getD_eq_getD_getElem?] at e6
            unfold Oper.wp
            simp only [execOp, Act.eval, Array.getD_eq_getD_getElem?, e6]
            go_simp
            first | exact ⟨_, rfl, rfl, hj.plain (fun h => h) (fun h => h) (fun h => h) (by decide) (by decide)⟩ | exact ⟨_, rfl, hj.plain (fun h => h) (fun h => h) (fun h => h) (by decide) (by decide)⟩
          | 5, ho =>
            cases ho
            intro V aa wx hV hdep hval hj hsm hr
            have e54 : aa.tmps.getD 54 undef = .pointer (some ⟨p, 0, none⟩) := hr 54 (by decide) (by apply Array.mem_toList_iff.1; repeat (first | exact List.Mem.head _ | apply List.Mem.tail))
            have e55 : aa.tmps.getD 55 undef = .agg #[.string xk, .int .i64 xf, .int .i64 xt, .int .i64 xc, .int .i64 xg, .int .i64 xv, .int .i64 xz, .bool xb] := hr 55 (by decide) (by apply Array.mem_toList_iff.1; repeat (first | exact List.Mem.head _ | apply List.Mem.tail))
            rw [Array.getD_eq_getD_getElem?] at e54
            rw [Array.getD_eq_getD_getElem?] at e55
            unfold Oper.wp
            simp only [execOp, Act.eval, Array.getD_eq_getD_getElem?, e54, e55]
            go_simp
            refine (CR.out wx (hj.s1 (hdep ⟨2, Ground.chain⟩ (by simp) (by decide)) hV)).mono ?_
            rintro e w' ⟨rfl, hs⟩
            exact ⟨_, rfl, rfl, JS.second (hdep ⟨2, Ground.chain⟩ (by simp) (by decide)) (by decide) hs⟩
          | 6, ho =>
            cases ho
            intro V aa wx hV hdep hval hj hsm hr
            have e53 : aa.tmps.getD 53 undef = .int .i64 er := hr 53 (by decide) (by apply Array.mem_toList_iff.1; repeat (first | exact List.Mem.head _ | apply List.Mem.tail))
            have e56 : aa.tmps.getD 56 undef = .int .i64 er := hr 56 (by decide) (by apply Array.mem_toList_iff.1; repeat (first | exact List.Mem.head _ | apply List.Mem.tail))
            have em : (er != er) = false := by simp
            rw [Array.getD_eq_getD_getElem?] at e53
            rw [Array.getD_eq_getD_getElem?] at e56
            unfold Oper.wp
            simp only [execOp, Act.eval, Array.getD_eq_getD_getElem?, e53, e56]
            go_simp
            first | exact ⟨_, rfl, rfl, hj.plain (fun h => h) (fun h => h) (fun h => h) (by decide) (by decide)⟩ | exact ⟨_, rfl, hj.plain (fun h => h) (fun h => h) (fun h => h) (by decide) (by decide)⟩
          | _ + 7, ho => cases ho
        case fin =>
          intro ff V wz hV hj hr
          have elast : ff 57 = .bool false := hr 57 (by decide)
          obtain ⟨L3, A3, h1, _, _, _, h5⟩ := hj.s2 (by rw [hV 5 _ rfl]; rfl)
          have HB3 := hide h1
          have HW3 := hide h5
          clear hV hr hj h1 h5
          simp only [putAll, slotsOf, List.filterMap_cons, List.filterMap_nil, List.foldl_cons, List.foldl_nil, Act.put, elast]
          simp only [List.setIfInBounds_toArray, List.set_cons_succ, List.set_cons_zero]
          go_wp2_with fail
          go_meet
          exact ⟨q, p, L3, A3, l3, rfl, rfl, HL3, HB3, HW3⟩
      · obtain ⟨l3, hl3⟩ : ∃ z, takeL l ⟨xf, xc⟩ = z := ⟨_, rfl⟩
        obtain ⟨er, her⟩ : ∃ z, takeE l ⟨xf, xc⟩ = z := ⟨_, rfl⟩
        have CQ : Hid (∀ wx, BX W q p X #[.string xk, .int .i64 xf, .int .i64 xt, .int .i64 xc, .int .i64 xg, .int .i64 xv, .int .i64 xz, .bool xb] l l wx → Calls Try.prog 12 #[.pointer (some ⟨q, 0, none⟩), .int .i64 xf, .int .i64 xc] wx fun e w' => e = .returned (.int .i64 er) ∧ BX W q p X #[.string xk, .int .i64 xf, .int .i64 xt, .int .i64 xc, .int .i64 xg, .int .i64 xv, .int .i64 xz, .bool xb] l3 l w') := hide (fun wx ⟨L', A2, h1, h2, h3, h4, h5⟩ => by
          have h := Take_c h1.qs ⟨xf, xc⟩ (by have := HLL.out; omega)
          rw [her, hl3] at h
          exact h.mono fun e w' ⟨he, hg⟩ => ⟨he, BX.goQ h1 h2 h3 h4 h5 hg⟩)
        have CR : Hid (∀ wx, BX W q p X #[.string xk, .int .i64 xf, .int .i64 xt, .int .i64 xc, .int .i64 xg, .int .i64 xv, .int .i64 xz, .bool xb] l3 l wx → Calls Try.prog 13 #[.pointer (some ⟨p, 0, none⟩), .int .i64 xf, .int .i64 xc] wx fun e w' => e = .returned (.int .i64 er) ∧ BX W q p X #[.string xk, .int .i64 xf, .int .i64 xt, .int .i64 xc, .int .i64 xg, .int .i64 xv, .int .i64 xz, .bool xb] l3 l3 w') := hide (fun wx ⟨L', A2, h1, h2, h3, h4, h5⟩ => by
          have h := Take_b h1.ra ⟨xf, xc⟩ (by have := HLL.out; omega)
          rw [her, hl3] at h
          exact h.mono fun e w' ⟨he, hg⟩ => ⟨he, BX.goR h1 h2 h3 h4 h5 hg⟩)
        have HJ0 := hide (show JS 5 11 (fun w2 => BX W q p X #[.string xk, .int .i64 xf, .int .i64 xt, .int .i64 xc, .int .i64 xg, .int .i64 xv, .int .i64 xz, .bool xb] l l w2) (fun w2 => BX W q p X #[.string xk, .int .i64 xf, .int .i64 xt, .int .i64 xc, .int .i64 xg, .int .i64 xv, .int .i64 xz, .bool xb] l3 l w2) (fun w2 => BX W q p X #[.string xk, .int .i64 xf, .int .i64 xt, .int .i64 xc, .int .i64 xg, .int .i64 xv, .int .i64 xz, .bool xb] l3 l3 w2) (fun _ => none) ws.drew from ⟨fun h => (by cases h), fun _ => HBX.out.below (Below.refl _ _).drew, fun h => (by cases h), fun h => (by cases h)⟩)
        have HL3 := hide (show l3.length ≤ i + 1 by rw [← hl3]; rw [takeL_len]; have := HLL.out; omega)
        clear her hl3
        subst hm
        go_upto_region 20 with (fail)
        let R : Nat → Value → World → Prop := fun sl u w1 => match sl with
          | 60 => u = .pointer (some ⟨q, 0, none⟩)
          | 61 => u = .pointer (some ⟨X, 1, none⟩)
          | 62 => u = .int .i64 xf
          | 63 => u = .pointer (some ⟨X, 3, none⟩)
          | 64 => u = .int .i64 xc
          | 65 => u = .int .i64 er
          | 66 => u = .pointer (some ⟨p, 0, none⟩)
          | 67 => u = .pointer (some ⟨X, 1, none⟩)
          | 68 => u = .int .i64 xf
          | 69 => u = .pointer (some ⟨X, 3, none⟩)
          | 70 => u = .int .i64 xc
          | 71 => u = .int .i64 er
          | 72 => u = .bool false
          | _ => True
        refine wp_region_relGW [] R (fun _ _ => True) (fun V w1 => JS 5 11 (fun w2 => BX W q p X #[.string xk, .int .i64 xf, .int .i64 xt, .int .i64 xc, .int .i64 xg, .int .i64 xv, .int .i64 xz, .bool xb] l l w2) (fun w2 => BX W q p X #[.string xk, .int .i64 xf, .int .i64 xt, .int .i64 xc, .int .i64 xg, .int .i64 xv, .int .i64 xz, .bool xb] l3 l w2) (fun w2 => BX W q p X #[.string xk, .int .i64 xf, .int .i64 xt, .int .i64 xc, .int .i64 xg, .int .i64 xv, .int .i64 xz, .bool xb] l3 l3 w2) V w1) (by kernel_rfl) (by kernel_rfl) (by kernel_rfl) (by kernel_rfl) ?mono (fun _ => trivial) HJ0.out ?gs ?step ?fin
        case mono =>
          intro sl u wx wy h hk
          match sl with
          | 0 | 1 | 2 | 3 | 4 | 5 | 6 | 7 | 8 | 9 | 10 | 11 | 12 | 13 | 14 | 15 | 16 | 17 | 18 | 19 | 20 | 21 | 22 | 23 | 24 | 25 | 26 | 27 | 28 | 29 | 30 | 31 | 32 | 33 | 34 | 35 | 36 | 37 | 38 | 39 | 40 | 41 | 42 | 43 | 44 | 45 | 46 | 47 | 48 | 49 | 50 | 51 | 52 | 53 | 54 | 55 | 56 | 57 | 58 | 59 | 60 | 61 | 62 | 63 | 64 | 65 | 66 | 67 | 68 | 69 | 70 | 71 | 72 | _ + 73 => exact h
        case gs =>
          intro p hp u w1 h
          cases hp
        case step =>
          intro j o ho
          match j, ho with
          | 0, ho =>
            cases ho
            intro V aa wx hV hdep hval hj hsm hr
            have e3 : aa.tmps.getD 3 undef = .pointer (some ⟨q, 0, none⟩) := hsm 3 (by decide)
            rw [Array.getD_eq_getD_getElem?] at e3
            unfold Oper.wp
            simp only [execOp, Act.eval, Array.getD_eq_getD_getElem?, e3]
            go_simp
            first | exact ⟨_, rfl, rfl, hj.plain (fun h => h) (fun h => h) (fun h => h) (by decide) (by decide)⟩ | exact ⟨_, rfl, hj.plain (fun h => h) (fun h => h) (fun h => h) (by decide) (by decide)⟩
          | 1, ho =>
            cases ho
            intro V aa wx hV hdep hval hj hsm hr
            have e6 : aa.tmps.getD 6 undef = .pointer (some ⟨X, 0, none⟩) := hsm 6 (by decide)
            rw [Array.getD_eq_getD_getElem?] at e6
            unfold Oper.wp
            simp only [execOp, Act.eval, Array.getD_eq_getD_getElem?, e6]
            go_simp
            first | exact ⟨_, rfl, rfl, hj.plain (fun h => h) (fun h => h) (fun h => h) (by decide) (by decide)⟩ | exact ⟨_, rfl, hj.plain (fun h => h) (fun h => h) (fun h => h) (by decide) (by decide)⟩
          | 2, ho =>
            cases ho
            intro V aa wx hV hdep hval hj hsm hr
            have e61 : aa.tmps.getD 61 undef = .pointer (some ⟨X, 1, none⟩) := hr 61 (by decide) (by apply Array.mem_toList_iff.1; repeat (first | exact List.Mem.head _ | apply List.Mem.tail))
            have hkx : Blk wx X 31 #[.string xk, .int .i64 xf, .int .i64 xt, .int .i64 xc, .int .i64 xg, .int .i64 xv, .int .i64 xz, .bool xb] := hj.blk
            have x1 : wx.cell? ⟨X, 1, none⟩ = some (.int .i64 xf) := hkx.cell 1
            clear hkx
            rw [Array.getD_eq_getD_getElem?] at e61
            unfold Oper.wp
            simp only [execOp, Act.eval, Array.getD_eq_getD_getElem?, e61]
            go_simp
            first | exact ⟨_, rfl, rfl, hj.plain (fun h => h) (fun h => h) (fun h => h) (by decide) (by decide)⟩ | exact ⟨_, rfl, hj.plain (fun h => h) (fun h => h) (fun h => h) (by decide) (by decide)⟩
          | 3, ho =>
            cases ho
            intro V aa wx hV hdep hval hj hsm hr
            have e6 : aa.tmps.getD 6 undef = .pointer (some ⟨X, 0, none⟩) := hsm 6 (by decide)
            rw [Array.getD_eq_getD_getElem?] at e6
            unfold Oper.wp
            simp only [execOp, Act.eval, Array.getD_eq_getD_getElem?, e6]
            go_simp
            first | exact ⟨_, rfl, rfl, hj.plain (fun h => h) (fun h => h) (fun h => h) (by decide) (by decide)⟩ | exact ⟨_, rfl, hj.plain (fun h => h) (fun h => h) (fun h => h) (by decide) (by decide)⟩
          | 4, ho =>
            cases ho
            intro V aa wx hV hdep hval hj hsm hr
            have e63 : aa.tmps.getD 63 undef = .pointer (some ⟨X, 3, none⟩) := hr 63 (by decide) (by apply Array.mem_toList_iff.1; repeat (first | exact List.Mem.head _ | apply List.Mem.tail))
            have hkx : Blk wx X 31 #[.string xk, .int .i64 xf, .int .i64 xt, .int .i64 xc, .int .i64 xg, .int .i64 xv, .int .i64 xz, .bool xb] := hj.blk
            have x3 : wx.cell? ⟨X, 3, none⟩ = some (.int .i64 xc) := hkx.cell 3
            clear hkx
            rw [Array.getD_eq_getD_getElem?] at e63
            unfold Oper.wp
            simp only [execOp, Act.eval, Array.getD_eq_getD_getElem?, e63]
            go_simp
            first | exact ⟨_, rfl, rfl, hj.plain (fun h => h) (fun h => h) (fun h => h) (by decide) (by decide)⟩ | exact ⟨_, rfl, hj.plain (fun h => h) (fun h => h) (fun h => h) (by decide) (by decide)⟩
          | 5, ho =>
            cases ho
            intro V aa wx hV hdep hval hj hsm hr
            have e60 : aa.tmps.getD 60 undef = .pointer (some ⟨q, 0, none⟩) := hr 60 (by decide) (by apply Array.mem_toList_iff.1; repeat (first | exact List.Mem.head _ | apply List.Mem.tail))
            have e62 : aa.tmps.getD 62 undef = .int .i64 xf := hr 62 (by decide) (by apply Array.mem_toList_iff.1; repeat (first | exact List.Mem.head _ | apply List.Mem.tail))
            have e64 : aa.tmps.getD 64 undef = .int .i64 xc := hr 64 (by decide) (by apply Array.mem_toList_iff.1; repeat (first | exact List.Mem.head _ | apply List.Mem.tail))
            rw [Array.getD_eq_getD_getElem?] at e60
            rw [Array.getD_eq_getD_getElem?] at e62
            rw [Array.getD_eq_getD_getElem?] at e64
            unfold Oper.wp
            simp only [execOp, Act.eval, Array.getD_eq_getD_getElem?, e60, e62, e64]
            go_simp
            refine (CQ.out wx (hj.s0 hV)).mono ?_
            rintro e w' ⟨rfl, hs⟩
            exact ⟨_, rfl, rfl, hj.first hV (by decide) hs⟩
          | 6, ho =>
            cases ho
            intro V aa wx hV hdep hval hj hsm hr
            have e4 : aa.tmps.getD 4 undef = .pointer (some ⟨p, 0, none⟩) := hsm 4 (by decide)
            rw [Array.getD_eq_getD_getElem?] at e4
            unfold Oper.wp
            simp only [execOp, Act.eval, Array.getD_eq_getD_getElem?, e4]
            go_simp
            first | exact ⟨_, rfl, rfl, hj.plain (fun h => h) (fun h => h) (fun h => h) (by decide) (by decide)⟩ | exact ⟨_, rfl, hj.plain (fun h => h) (fun h => h) (fun h => h) (by decide) (by decide)⟩
          | 7, ho =>
            cases ho
            intro V aa wx hV hdep hval hj hsm hr
            have e6 : aa.tmps.getD 6 undef = .pointer (some ⟨X, 0, none⟩) := hsm 6 (by decide)
            rw [Array.getD_eq_getD_getElem?] at e6
            unfold Oper.wp
            simp only [execOp, Act.eval, Array.getD_eq_getD_getElem?, e6]
            go_simp
            first | exact ⟨_, rfl, rfl, hj.plain (fun h => h) (fun h => h) (fun h => h) (by decide) (by decide)⟩ | exact ⟨_, rfl, hj.plain (fun h => h) (fun h => h) (fun h => h) (by decide) (by decide)⟩
          | 8, ho =>
            cases ho
            intro V aa wx hV hdep hval hj hsm hr
            have e67 : aa.tmps.getD 67 undef = .pointer (some ⟨X, 1, none⟩) := hr 67 (by decide) (by apply Array.mem_toList_iff.1; repeat (first | exact List.Mem.head _ | apply List.Mem.tail))
            have hkx : Blk wx X 31 #[.string xk, .int .i64 xf, .int .i64 xt, .int .i64 xc, .int .i64 xg, .int .i64 xv, .int .i64 xz, .bool xb] := hj.blk
            have x1 : wx.cell? ⟨X, 1, none⟩ = some (.int .i64 xf) := hkx.cell 1
            clear hkx
            rw [Array.getD_eq_getD_getElem?] at e67
            unfold Oper.wp
            simp only [execOp, Act.eval, Array.getD_eq_getD_getElem?, e67]
            go_simp
            first | exact ⟨_, rfl, rfl, hj.plain (fun h => h) (fun h => h) (fun h => h) (by decide) (by decide)⟩ | exact ⟨_, rfl, hj.plain (fun h => h) (fun h => h) (fun h => h) (by decide) (by decide)⟩
          | 9, ho =>
            cases ho
            intro V aa wx hV hdep hval hj hsm hr
            have e6 : aa.tmps.getD 6 undef = .pointer (some ⟨X, 0, none⟩) := hsm 6 (by decide)
            rw [Array.getD_eq_getD_getElem?] at e6
            unfold Oper.wp
            simp only [execOp, Act.eval, Array.getD_eq_getD_getElem?, e6]
            go_simp
            first | exact ⟨_, rfl, rfl, hj.plain (fun h => h) (fun h => h) (fun h => h) (by decide) (by decide)⟩ | exact ⟨_, rfl, hj.plain (fun h => h) (fun h => h) (fun h => h) (by decide) (by decide)⟩
          | 10, ho =>
            cases ho
            intro V aa wx hV hdep hval hj hsm hr
            have e69 : aa.tmps.getD 69 undef = .pointer (some ⟨X, 3, none⟩) := hr 69 (by decide) (by apply Array.mem_toList_iff.1; repeat (first | exact List.Mem.head _ | apply List.Mem.tail))
            have hkx : Blk wx X 31 #[.string xk, .int .i64 xf, .int .i64 xt, .int .i64 xc, .int .i64 xg, .int .i64 xv, .int .i64 xz, .bool xb] := hj.blk
            have x3 : wx.cell? ⟨X, 3, none⟩ = some (.int .i64 xc) := hkx.cell 3
            clear hkx
            rw [Array.getD_eq_getD_getElem?] at e69
            unfold Oper.wp
            simp only [execOp, Act.eval, Array.getD_eq_getD_getElem?, e69]
            go_simp
            first | exact ⟨_, rfl, rfl, hj.plain (fun h => h) (fun h => h) (fun h => h) (by decide) (by decide)⟩ | exact ⟨_, rfl, hj.plain (fun h => h) (fun h => h) (fun h => h) (by decide) (by decide)⟩
          | 11, ho =>
            cases ho
            intro V aa wx hV hdep hval hj hsm hr
            have e66 : aa.tmps.getD 66 undef = .pointer (some ⟨p, 0, none⟩) := hr 66 (by decide) (by apply Array.mem_toList_iff.1; repeat (first | exact List.Mem.head _ | apply List.Mem.tail))
            have e68 : aa.tmps.getD 68 undef = .int .i64 xf := hr 68 (by decide) (by apply Array.mem_toList_iff.1; repeat (first | exact List.Mem.head _ | apply List.Mem.tail))
            have e70 : aa.tmps.getD 70 undef = .int .i64 xc := hr 70 (by decide) (by apply Array.mem_toList_iff.1; repeat (first | exact List.Mem.head _ | apply List.Mem.tail))
            rw [Array.getD_eq_getD_getElem?] at e66
            rw [Array.getD_eq_getD_getElem?] at e68
            rw [Array.getD_eq_getD_getElem?] at e70
            unfold Oper.wp
            simp only [execOp, Act.eval, Array.getD_eq_getD_getElem?, e66, e68, e70]
            go_simp
            refine (CR.out wx (hj.s1 (hdep ⟨5, Ground.chain⟩ (by simp) (by decide)) hV)).mono ?_
            rintro e w' ⟨rfl, hs⟩
            exact ⟨_, rfl, rfl, JS.second (hdep ⟨5, Ground.chain⟩ (by simp) (by decide)) (by decide) hs⟩
          | 12, ho =>
            cases ho
            intro V aa wx hV hdep hval hj hsm hr
            have e65 : aa.tmps.getD 65 undef = .int .i64 er := hr 65 (by decide) (by apply Array.mem_toList_iff.1; repeat (first | exact List.Mem.head _ | apply List.Mem.tail))
            have e71 : aa.tmps.getD 71 undef = .int .i64 er := hr 71 (by decide) (by apply Array.mem_toList_iff.1; repeat (first | exact List.Mem.head _ | apply List.Mem.tail))
            have em : (er != er) = false := by simp
            rw [Array.getD_eq_getD_getElem?] at e65
            rw [Array.getD_eq_getD_getElem?] at e71
            unfold Oper.wp
            simp only [execOp, Act.eval, Array.getD_eq_getD_getElem?, e65, e71]
            go_simp
            first | exact ⟨_, rfl, rfl, hj.plain (fun h => h) (fun h => h) (fun h => h) (by decide) (by decide)⟩ | exact ⟨_, rfl, hj.plain (fun h => h) (fun h => h) (fun h => h) (by decide) (by decide)⟩
          | _ + 13, ho => cases ho
        case fin =>
          intro ff V wz hV hj hr
          have elast : ff 72 = .bool false := hr 72 (by decide)
          obtain ⟨L3, A3, h1, _, _, _, h5⟩ := hj.s2 (by rw [hV 11 _ rfl]; rfl)
          have HB3 := hide h1
          have HW3 := hide h5
          clear hV hr hj h1 h5
          simp only [putAll, slotsOf, List.filterMap_cons, List.filterMap_nil, List.foldl_cons, List.foldl_nil, Act.put, elast]
          simp only [List.setIfInBounds_toArray, List.set_cons_succ, List.set_cons_zero]
          go_wp2_with fail
          go_meet
          exact ⟨q, p, L3, A3, l3, rfl, rfl, HL3, HB3, HW3⟩
      · subst hm
        obtain ⟨Lo, Ao, hb, kx, hx1, hx2, hbl⟩ := HBX.out
        have HBo := hide hb
        have KX := hide kx
        have HX1 := hide hx1
        have HX2 := hide hx2
        have HBLo := hide hbl
        have CC := hide (Copy_c hb.qs (by have := HLL.out; omega))
        clear hb kx hx1 hx2 hbl
        go_wp2_with fail
        refine CC.out.mono ?_
        rintro e w5 ⟨q2, L2, rfl, hq2, hf2, hb5⟩
        have HQ2 := hide hq2
        have HF2 := hide hf2
        have HB5 := hide hb5
        have RC := hide (CopyR_b (HBo.out.ra.below hb5) (by have := HLL.out; omega))
        clear hq2 hf2 hb5 CC
        go_wp2_with fail
        refine RC.out.mono ?_
        rintro e w6 ⟨p2, A2, rfl, hr2, hg2, hb6⟩
        have hs5 := HB5.out.size
        have hs6 := hb6.size
        have hsw := HBLo.out.size
        have hnew : Both w6 W.heap.size q2 L2 p2 A2 l l := ⟨HQ2.out.below hb6, hr2, fun b hb hr => by have := HQ2.out.lt b hb; have := hg2 b hr; omega, fun b hb => by have := HF2.out b hb; omega, fun b hb => by have := hg2 b hb; omega⟩
        have hold : QSt w6 q Lo l := (HBo.out.qs.below HB5.out).below hb6
        have hkx := (KX.out.below HB5.out KX.out.lt).below hb6 (Nat.lt_of_lt_of_le KX.out.lt hs5)
        have hd1 : ∀ b ∈ Lo.foot q, ¬ b ∈ L2.foot q2 ∧ ¬ b ∈ rf p2 A2 := fun b hb => by
          have h1 := HBo.out.qs.lt b hb
          exact ⟨fun h => by have := HF2.out b h; omega, fun h => by have := hg2 b h; omega⟩
        have HNEW := hide hnew
        have HOLD := hide hold
        have HD1 := hide hd1
        have KX6 := hide hkx
        have HBL6 := hide ((HBLo.out.trans (HB5.out.mono HBLo.out.size)).trans (hb6.mono (by omega)))
        have hxl := KX.out.lt
        clear hr2 hg2 hb6 hnew hold hd1 hkx RC
        have x1 : w6.cell? ⟨X, 1, none⟩ = some (.int .i64 xf) := KX6.out.cell 1
        have x3 : w6.cell? ⟨X, 3, none⟩ = some (.int .i64 xc) := KX6.out.cell 3
        have TC := hide (Take_c HOLD.out ⟨xf, xc⟩ (by have := HLL.out; omega))
        clear hs5 hs6 hsw hxl
        go_wp2_with fail
        refine TC.out.mono ?_
        rintro e w7 ⟨rfl, L4, g1, g2, g3⟩
        have hnew7 : Both w7 W.heap.size q2 L2 p2 A2 l l := ⟨HNEW.out.qs.ch g2 fun b hb h => (HD1.out b hb).1 h, HNEW.out.ra.ch g2 fun b hb h => (HD1.out b hb).2 h, HNEW.out.ap, HNEW.out.lo, HNEW.out.lr⟩
        have hkx7 := (g2.block X KX6.out.lt HX1.out).trans KX6.out
        have hd4 : ∀ b ∈ L4.foot q, ¬ b ∈ L2.foot q2 ∧ ¬ b ∈ rf p2 A2 := fun b hb => by
          rcases g3 b hb with h4 | h4
          · exact HD1.out b h4
          · exact ⟨fun h => by have := HNEW.out.qs.lt b h; omega, fun h => by have := HNEW.out.ra.lt b h; omega⟩
        have hlo4 : ∀ b ∈ L4.foot q, W.heap.size ≤ b := fun b hb => by
          rcases g3 b hb with h4 | h4
          · exact HBo.out.lo b h4
          · have := HBL6.out.size; omega
        have HNEW7 := hide hnew7
        have HOLD7 := hide g1
        have HD4 := hide hd4
        have HLO4 := hide hlo4
        have KX7 : Hid (Blk w7 X 31 #[.string xk, .int .i64 xf, .int .i64 xt, .int .i64 xc, .int .i64 xg, .int .i64 xv, .int .i64 xz, .bool xb]) := hide hkx7
        have HBL7 := hide (HBL6.out.trans (g2.below HBo.out.lo HBL6.out.size))
        clear g1 g2 g3 hnew7 hkx7 hd4 hlo4 x1 x3 TC
        have x0 : w7.cell? ⟨X, 0, none⟩ = some (.string xk) := KX7.out.cell 0
        have x1 : w7.cell? ⟨X, 1, none⟩ = some (.int .i64 xf) := KX7.out.cell 1
        have x2 : w7.cell? ⟨X, 2, none⟩ = some (.int .i64 xt) := KX7.out.cell 2
        have x3 : w7.cell? ⟨X, 3, none⟩ = some (.int .i64 xc) := KX7.out.cell 3
        have x4 : w7.cell? ⟨X, 4, none⟩ = some (.int .i64 xg) := KX7.out.cell 4
        have x5 : w7.cell? ⟨X, 5, none⟩ = some (.int .i64 xv) := KX7.out.cell 5
        have x6 : w7.cell? ⟨X, 6, none⟩ = some (.int .i64 xz) := KX7.out.cell 6
        have x7 : w7.cell? ⟨X, 7, none⟩ = some (.bool xb) := KX7.out.cell 7
        have SC := hide (Send_c HOLD7.out ⟨xk, xf, xt, xc, xg, xv, xz, xb⟩ (by rw [takeL_len]; have := HLL.out; omega))
        go_wp2_with fail
        refine SC.out.mono ?_
        rintro e w8 ⟨rfl, L5, g1, g2, g3⟩
        have HNEW8 : Hid (Both w8 W.heap.size q2 L2 p2 A2 l l) := hide ⟨HNEW7.out.qs.ch g2 fun b hb h => (HD4.out b hb).1 h, HNEW7.out.ra.ch g2 fun b hb h => (HD4.out b hb).2 h, HNEW7.out.ap, HNEW7.out.lo, HNEW7.out.lr⟩
        have HBL8 := hide (HBL7.out.trans (g2.below HLO4.out HBL7.out.size))
        have HLEN := hide (show l.length ≤ i + 1 by have := HLL.out; omega)
        clear g1 g2 g3 SC x0 x1 x2 x3 x4 x5 x6 x7
        go_wp2_with fail
        go_meet
        exact ⟨q2, p2, L2, A2, l, rfl, rfl, HLEN, HNEW8, HBL8⟩
    obtain ⟨q2, p2, L2, A2, l2, rfl, rfl, HL2, HB2, HW2⟩ := hcut
    rename World => wc
    have LC := hide (Left_c HB2.out.qs (by have := HL2.out; omega))
    go_wp2_with fail
    refine LC.out.mono ?_
    rintro e w5 ⟨A8, c8, K, rfl, hk, hown8, hb5⟩
    have HK := hide hk
    have HOW8 := hide hown8
    have HB5 := hide hb5
    have RC := hide (Left_b (HB2.out.ra.below hb5) (by have := HL2.out; omega))
    clear hk hown8 hb5 LC
    go_wp2_with fail
    refine RC.out.mono ?_
    rintro e w6 ⟨A9, c9, K2, rfl, hk2, hown9, hb6⟩
    have hKK : K2 = K := isLeft_one hk2 HK.out
    subst hKK
    obtain ⟨nk, hnk⟩ : ∃ z, K2.length = z := ⟨_, rfl⟩
    have hnl : nk ≤ 300 := by rw [← hnk]; have := isLeft_len hk2; have := HL2.out; omega
    rw [hnk]
    rw [hnk] at hown9 HOW8
    have SM := hide (Same_b A8 A9 c8 c9 nk K2 (MRow.of_own (own_belowR HOW8.out hb6) hnk) (MRow.of_own hown9 hnk) hnk (by omega))
    have HOW86 := hide (own_belowR HOW8.out hb6)
    have HB6 := hide (HB5.out.trans (hb6.mono HB5.out.size))
    have HNK := hide hnk
    have HNL := hide hnl
    clear hk2 hown9 hb6 hnk hnl RC
    go_wp2_with fail
    refine SM.out.mono ?_
    rintro e w7 ⟨rfl, hb7⟩
    have HOW7 := hide (own_belowR HOW86.out hb7)
    have HB7 := hide (HB6.out.trans (hb7.mono HB6.out.size))
    have HBo7 := hide (HB2.out.below HB7.out)
    have HW7 := hide (HW2.out.trans (HB7.out.mono HW2.out.size))
    have HFC := hide (And.intro HB2.out.qs.lt HB2.out.ra.lt)
    have HWC := hide HW2.out.size
    clear hb7 SM
    obtain ⟨C, hC⟩ : ∃ z, wc.heap.size = z := ⟨_, rfl⟩
    rw [hC] at HOW7 HFC HWC
    clear hC HOW8 HOW86
    go_wp2_with fail
    go_loopw [9] (fun v9 wz => ∃ (k : Nat) (R : List Msg), k ≤ nk ∧ v9 = .int .i64 k ∧ Hid (R.length = nk) ∧ Hid (wz.ownsRow C 31 8 (.slice A8 nk c8) nk (msgCs R)) ∧ Hid (Both wz W.heap.size q2 L2 p2 A2 l2 l2) ∧ Hid (Below W.heap.size W wz)) (fun v9 _ => nk - (RowKit.intOf v9).toNat)
    case atStart => exact ⟨0, K2, Nat.zero_le _, rfl, HNK, HOW7, HBo7, HW7⟩
    case round =>
      obtain ⟨k, R, hk, rfl, HRL, HOR, HBR2, HWR⟩ := hrel
      rename World => wz
      have hnk1 := HNL.out
      by_cases hltk : k < nk
      rotate_left
      · have hltK : ¬ (k : Int) < (nk : Int) := by omega
        clear hltk
        go_wp2_with fail
        go_roundw
        case rel => exact ⟨i + 1, q2, p2, L2, A2, l2, HLT.out, rfl, rfl, by go_num, HL2, HBR2, HWR⟩
        case measure => have := HLT.out; simp [RowKit.intOf] <;> omega
      have hltK : (k : Int) < (nk : Int) := by omega
      have hgeK : (0 : Int) ≤ (k : Int) := by omega
      obtain ⟨⟨mk, mf, mt, mc, mg, mv, mz, mb⟩, hm⟩ : ∃ m, R[k]? = some m := ⟨_, List.getElem?_eq_getElem (by rw [HRL.out]; exact hltk)⟩
      obtain ⟨g, hA8, hCg, _, ⟨cs, hgb⟩, hfz, _, hcell⟩ := own_cell HOR.out (by omega)
      subst hA8
      have x4 : wz.cell? ⟨g, k * 8 + 4, none⟩ = some (.int .i64 mg) := hcell _ _ (msgCs_at R k _ hm 4 (by decide))
      have f4 := hfz (k * 8 + 4)
      obtain ⟨t, ht⟩ : ∃ z, wrap64 (mg + 1) = z := ⟨_, rfl⟩
      have hch : Ch [g] wz (wz.setCell ⟨g, k * 8 + 4, none⟩ (.int .i64 t)) := Ch.set_ _ _ (by simp)
      have hbo : Both (wz.setCell ⟨g, k * 8 + 4, none⟩ (.int .i64 t)) W.heap.size q2 L2 p2 A2 l2 l2 := ⟨HBR2.out.qs.ch hch (fun b hb h => by rw [List.mem_singleton.1 hb] at h; have := HFC.out.1 g h; omega), HBR2.out.ra.ch hch (fun b hb h => by rw [List.mem_singleton.1 hb] at h; have := HFC.out.2 g h; omega), HBR2.out.ap, HBR2.out.lo, HBR2.out.lr⟩
      have hor := own_set (k := k * 8 + 4) HOR.out (.int .i64 t)
      rw [msgCs_set4 R k _ t hm] at hor
      have HRL2 := hide (show (R.set k ⟨mk, mf, mt, mc, t, mv, mz, mb⟩).length = nk by rw [List.length_set]; exact HRL.out)
      have HWR2 := hide (HWR.out.trans (hch.below (fun j hj => by rw [List.mem_singleton.1 hj]; have := HWC.out; omega) HWR.out.size))
      have HBR3 := hide hbo
      have HOR3 := hide hor
      have HLTK := hide hltk
      clear hm hcell hfz hgb hch hbo hor hltk hCg
      obtain ⟨w9, hw9⟩ : ∃ z, wz.setCell ⟨g, k * 8 + 4, none⟩ (.int .i64 t) = z := ⟨_, rfl⟩
      rw [hw9] at HBR3 HOR3 HWR2
      have HW9 := hide hw9
      clear hw9
      go_wp2_with fail
      try rw [HW9.out]
      go_roundw
      case rel => exact ⟨k + 1, R.set k ⟨mk, mf, mt, mc, t, mv, mz, mb⟩, HLTK.out, by go_num, HRL2, HOR3, HBR3, HWR2⟩
      case measure => have := HLTK.out; simp [RowKit.intOf] <;> omega
end Go.Proofs.Ytomladbdebfikaa.QueuePlaysW
