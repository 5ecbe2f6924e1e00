import Derived.Test.YtonmojinijpneaaRows
import Derived.Test.YtonmojinijpneaaPoDz
import Derived.Test.YtonmojinijpneaaQuZ
section
/- Both plays: an act comes to the same for both. -/
namespace Go.Proofs.Ytonmojinijpneaa
open Go Go.Joins Go.ChangeShapes Go.WideShapes Go.RowKit Go.Deep Go.Lib Go.Proofs.Ytonmojinijpneaa.Qu
set_option linter.unusedVariables false
set_option linter.unusedSimpArgs false
namespace Po
/-- What is kept: all below a world, and one box more. -/
structure WR where
  w : World
  R : Option Nat
  c : Option Obj
def WR.far (W : WR) (b : Nat) : Prop := W.w.heap.size ≤ b ∧ W.R ≠ some b
structure WR.Kept (W : WR) (w : World) : Prop where
  be : Below W.w.heap.size W.w w
  rk : ∀ r, W.R = some r → w.heap[r]? = W.c ∧ r < w.heap.size
section
variable {W : WR} {w w' : World}
theorem WR.Kept.new (h : W.Kept w) {b : Nat} (hb : w.heap.size ≤ b) : W.far b := ⟨Nat.le_trans h.be.size hb, fun e => by have := (h.rk b e).2; omega⟩
theorem WR.Kept.below (h : W.Kept w) (hb : Below w.heap.size w w') : W.Kept w' := ⟨h.be.trans (hb.mono h.be.size), fun r e => ⟨(hb.block r (h.rk r e).2).trans (h.rk r e).1, Nat.lt_of_lt_of_le (h.rk r e).2 hb.size⟩⟩
theorem WR.Kept.ch {S : List Nat} (h : W.Kept w) (hc : Ch S w w') (hS : ∀ b ∈ S, W.far b) : W.Kept w' :=
  ⟨h.be.trans (hc.below (fun b hb => (hS b hb).1) h.be.size), fun r e => ⟨(hc.block r (h.rk r e).2 fun hm => (hS r hm).2 e).trans (h.rk r e).1, Nat.lt_of_lt_of_le (h.rk r e).2 hc.size⟩⟩
end
theorem PQ.keep' {w w' : World} {p q : Nat} {L : Nat → Option Addr × Nat} {K : QL} {ls : Nat → List Rc} {l : List Msg} (h : PQ w p q L K ls l) (hk : ∀ b ∈ foot2 p q L K, w'.heap[b]? = w.heap[b]?) : PQ w' p q L K ls l :=
  ⟨h.hp.heap fun b hb => hk b (List.mem_append_left _ hb), h.hq.keep fun b hb => hk b (List.mem_append_right _ hb), h.ap⟩
/-- Both plays lie beside an act's box. -/
structure BXS (W : WR) (X : Nat) (cs : Array Value) (Y q p rq d : Nat) (L : Nat → Option Addr × Nat) (K : QL) (A Aq : Option Addr) (rl : List Rc) (l : List Msg) (rl2 : List Rc) (l2 : List Msg) (w : World) : Prop where
  pq : PQ w p q L K (lsOf rl) l
  ds : DS w d rq A Aq rl2 l2
  bx : Blk w X 37 cs
  by_ : Blk w Y 31 #[.pointer (some ⟨q, 0, none⟩), .pointer (some ⟨p, 0, none⟩), .pointer (some ⟨rq, 0, none⟩), .pointer (some ⟨d, 0, none⟩)]
  ap : ∀ b ∈ foot2 p q L K, ¬ b ∈ footD d rq A Aq
  fp : ∀ b ∈ foot2 p q L K, b ≠ X ∧ b ≠ Y ∧ W.far b
  fd : ∀ b ∈ footD d rq A Aq, b ≠ X ∧ b ≠ Y ∧ W.far b
  be : W.Kept w
def BXP (W : WR) (X : Nat) (cs : Array Value) (Y q p rq d : Nat) (rl : List Rc) (l : List Msg) (rl2 : List Rc) (l2 : List Msg) (w : World) : Prop := ∃ L K A Aq, BXS W X cs Y q p rq d L K A Aq rl l rl2 l2 w
section
variable {W : WR} {w w' : World} {X Y q p rq d : Nat} {cs : Array Value} {rl rl' rl2 : List Rc} {l l' l2 : List Msg} {L : Nat → Option Addr × Nat} {K : QL} {A Aq : Option Addr}
theorem BXP.blks (h : BXP W X cs Y q p rq d rl l rl2 l2 w) : Blk w X 37 cs ∧ Blk w Y 31 #[.pointer (some ⟨q, 0, none⟩), .pointer (some ⟨p, 0, none⟩), .pointer (some ⟨rq, 0, none⟩), .pointer (some ⟨d, 0, none⟩)] := by
  obtain ⟨_, _, _, _, h⟩ := h
  exact ⟨h.bx, h.by_⟩
theorem BXS.below (h : BXS W X cs Y q p rq d L K A Aq rl l rl2 l2 w) (hb : Below w.heap.size w w') : BXS W X cs Y q p rq d L K A Aq rl l rl2 l2 w' :=
  ⟨h.pq.below hb, h.ds.below hb, h.bx.below hb h.bx.lt, h.by_.below hb h.by_.lt, h.ap, h.fp, h.fd, h.be.below hb⟩
theorem BXP.below (h : BXP W X cs Y q p rq d rl l rl2 l2 w) (hb : Below w.heap.size w w') : BXP W X cs Y q p rq d rl l rl2 l2 w' := by
  obtain ⟨L, K, A, Aq, h⟩ := h
  exact ⟨L, K, A, Aq, h.below hb⟩
theorem BXS.goP {ls' : Nat → List Rc} (h : BXS W X cs Y q p rq d L K A Aq rl l rl2 l2 w) (hg : GoesPQ w p q L K ls' l' w') (e : ls' = lsOf rl') : BXP W X cs Y q p rq d rl' l' rl2 l2 w' := by
  obtain ⟨L', K', g1, g2, g3⟩ := hg
  subst e
  have h9 := h.bx.lt
  have h10 := h.by_.lt
  refine ⟨L', K', A, Aq, g1, h.ds.keep fun b hb => g2.block b (h.ds.lt b hb) (fun hm => h.ap b hm hb), (g2.block X h9 fun hm => (h.fp X hm).1 rfl).trans h.bx, (g2.block Y h10 fun hm => (h.fp Y hm).2.1 rfl).trans h.by_, fun b hb hd => ?_, fun b hb => ?_, h.fd, h.be.ch g2 (fun b hb => (h.fp b hb).2.2)⟩
  · rcases g3 b hb with e | e
    · exact h.ap b e hd
    · have := h.ds.lt b hd
      omega
  · rcases g3 b hb with e | e
    · exact h.fp b e
    · exact ⟨by omega, by omega, h.be.new e⟩
theorem BXS.goD {rl2' : List Rc} {l2' : List Msg} (h : BXS W X cs Y q p rq d L K A Aq rl l rl2 l2 w) (hg : GoesDS w d rq A Aq rl2' l2' w') : BXP W X cs Y q p rq d rl l rl2' l2' w' := by
  obtain ⟨A', Aq', g1, g2, g3⟩ := hg
  have h9 := h.bx.lt
  have h10 := h.by_.lt
  refine ⟨L, K, A', Aq', h.pq.keep' fun b hb => g2.block b (h.pq.lt b hb) (h.ap b hb), g1, (g2.block X h9 fun hm => (h.fd X hm).1 rfl).trans h.bx, (g2.block Y h10 fun hm => (h.fd Y hm).2.1 rfl).trans h.by_, fun b hb hd => ?_, h.fp, fun b hb => ?_, h.be.ch g2 (fun b hb => (h.fd b hb).2.2)⟩
  · rcases g3 b hd with e | e
    · exact h.ap b hb e
    · have := h.pq.lt b hb
      omega
  · rcases g3 b hb with e | e
    · exact h.fd b e
    · exact ⟨by omega, by omega, h.be.new e⟩
end
/-- Two calls, one behind the other: what the world is like. -/
structure JS (a b : Nat) (S0 S1 S2 : World → Prop) (V : Nat → Option Value) (w : World) : Prop where
  ord : (V b).isSome = true → (V a).isSome = true
  s0 : V a = none → S0 w
  s1 : (V a).isSome = true → V b = none → S1 w
  s2 : (V b).isSome = true → S2 w
section
variable {a b : Nat} {S0 S1 S2 : World → Prop} {V : Nat → Option Value} {w w' : World} {v : Value}
theorem JS.plain {i : Nat} (h : JS a b S0 S1 S2 V w) (k0 : S0 w → S0 w') (k1 : S1 w → S1 w') (k2 : S2 w → S2 w') (ha : i ≠ a) (hb : i ≠ b) : JS a b S0 S1 S2 (setV V i v) w' := by
  have e1 : setV V i v a = V a := if_neg (fun e => ha e.symm)
  have e2 : setV V i v b = V b := if_neg (fun e => hb e.symm)
  exact ⟨by rw [e1, e2]; exact h.ord, fun h0 => (by rw [e1] at h0; exact k0 (h.s0 h0)), fun h0 h1 => (by rw [e1] at h0; rw [e2] at h1; exact k1 (h.s1 h0 h1)), fun h0 => (by rw [e2] at h0; exact k2 (h.s2 h0))⟩
theorem JS.first (h : JS a b S0 S1 S2 V w) (hV : V a = none) (hab : a ≠ b) (hs : S1 w') : JS a b S0 S1 S2 (setV V a v) w' := by
  have e1 : setV V a v a = some v := if_pos rfl
  have e2 : setV V a v b = V b := if_neg (fun e => hab e.symm)
  have hn : V b = none := by
    cases hb : V b with
    | none => rfl
    | some z =>
      have := h.ord (by rw [hb]; rfl)
      rw [hV] at this
      cases this
  exact ⟨fun _ => (by rw [e1]; rfl), fun h0 => (by rw [e1] at h0; cases h0), fun _ _ => hs, fun h0 => (by rw [e2, hn] at h0; cases h0)⟩
theorem JS.second (h16 : (V a).isSome = true) (hab : a ≠ b) (hs : S2 w') : JS a b S0 S1 S2 (setV V b v) w' := by
  have e1 : setV V b v a = V a := if_neg hab
  have e2 : setV V b v b = some v := if_pos rfl
  exact ⟨fun _ => (by rw [e1]; exact h16), fun h0 => (by rw [e1] at h0; rw [h0] at h16; cases h16), fun _ h0 => (by rw [e2] at h0; cases h0), fun _ => hs⟩
end
theorem JS.get {a b : Nat} {S0 S1 S2 : World → Prop} {V : Nat → Option Value} {w : World} {G : Prop} (h : JS a b S0 S1 S2 V w) (k0 : S0 w → G) (k1 : S1 w → G) (k2 : S2 w → G) : G := by
  cases ha : V a with
  | none => exact k0 (h.s0 ha)
  | some z =>
    cases hb : V b with
    | none => exact k1 (h.s1 (by rw [ha]; rfl) hb)
    | some y => exact k2 (h.s2 (by rw [hb]; rfl))
/-- What is known of both sides' lists. -/
structure Fine (rl : List Rc) (l : List Msg) : Prop where
  ok : okG rl
  uq : Uniq l
  may : ∀ m ∈ l, mayM' m
theorem rem5 {k : Int} (h0 : 0 ≤ k) : Int.tmod k 5 = 0 ∨ Int.tmod k 5 = 1 ∨ Int.tmod k 5 = 2 ∨ Int.tmod k 5 = 3 ∨ Int.tmod k 5 = 4 := by
  rw [Int.tmod_eq_emod_of_nonneg h0]
  omega
theorem send_uq {l : List Msg} (h : Uniq l) (m : Msg) : Uniq (sendL l m) := by
  unfold sendL
  split
  · rename_i hc
    unfold Uniq at h ⊢
    rw [List.map_append, List.nodup_append]
    refine ⟨h, by simp, fun a ha b hb e => ?_⟩
    obtain ⟨x, hx, rfl⟩ := List.mem_map.1 ha
    have hb : b = m.who := by simpa using hb
    exact plc_none.1 hc.2 x hx (e.trans hb)
  · exact h
theorem send_may {l : List Msg} (h : ∀ m ∈ l, mayM' m) (m : Msg) : ∀ x ∈ sendL l m, mayM' x := by
  unfold sendL
  split
  · rename_i hc
    intro x hx
    rcases List.mem_append.1 hx with hx | hx
    · exact h x hx
    · rw [List.mem_singleton] at hx
      subst hx
      have h1 := hc.1
      unfold mayM' mayM at *
      exact ⟨h1.1, h1.2.1, h1.2.2.1, h1.2.2.2.1, h1.2.2.2.2.1, h1.2.2.2.2.2.1, h1.2.2.2.2.2.2.1, h1.2.2.2.2.2.2.2.1, h1.2.2.2.2.2.2.2.2.1, rfl⟩
  · exact h
theorem modify_mem {l : List Msg} {i : Nat} {x : Msg} (h : x ∈ l.modify i Msg.took) : ∃ y ∈ l, x = y ∨ x = y.took := by
  obtain ⟨j, hj, rfl⟩ := List.getElem_of_mem h
  rw [List.length_modify] at hj
  refine ⟨l[j], List.getElem_mem hj, ?_⟩
  rw [List.getElem_modify]
  split
  · exact .inr rfl
  · exact .inl rfl
theorem take_may' {l : List Msg} (h : ∀ m ∈ l, mayM' m) (v : Who) : ∀ x ∈ takeL l v, mayM' x := by
  unfold takeL
  split
  · exact h
  · intro x hx
    obtain ⟨y, hy, e | e⟩ := modify_mem hx
    · rw [e]; exact h y hy
    · rw [e]
      have := h y hy
      unfold mayM' at this ⊢
      exact this
theorem take_uq {l : List Msg} (h : Uniq l) (v : Who) : Uniq (takeL l v) := by
  unfold takeL
  split
  · exact h
  · rename_i i _
    unfold Uniq at h ⊢
    have : (l.modify i Msg.took).map (·.who) = l.map (·.who) := by
      refine List.ext_getElem? fun j => ?_
      rw [List.getElem?_map, List.getElem?_map, List.getElem?_modify]
      cases l[j]? with
      | none => rfl
      | some y =>
        show some (Msg.who (if i = j then y.took else y)) = _
        split <;> rfl
    rw [this]
    exact h
set_option maxRecDepth 100000 in
set_option maxHeartbeats 8000000 in
/-- A match of a rank that isn't there. -/
theorem match_out {w : World} {p q : Nat} {L : Nat → Option Addr × Nat} {ls : Nat → List Rc} (h : PSt w p L ls) (rk ca fr sq : Int) (hk : rk < 0 ∨ 64 ≤ rk) :
    Calls Try.prog 30 #[.pointer (some ⟨p, 0, none⟩), .pointer (some ⟨q, 0, none⟩), .int .i64 rk, .int .i64 ca, .int .i64 fr, .int .i64 sq] w fun e w' => e = .returned (.int .i64 2) ∧ Below w.heap.size w w' := by
  have b1 := (Below.refl w.heap.size w).alloc (Nat.le_refl _) (.cells #[.int .i64 fr] 3)
  have k1 := Blk.new w 3 #[.int .i64 fr]
  obtain ⟨w1, hw1⟩ : ∃ z, w.alloc (.cells #[.int .i64 fr] 3) = z := ⟨_, rfl⟩
  obtain ⟨X, hX⟩ : ∃ z, w.heap.size = z := ⟨_, rfl⟩
  have s1 : w1.heap.size = w.heap.size + 1 := by rw [← hw1]; simp
  rw [hw1] at b1 k1
  have b2 := (Below.refl w1.heap.size w1).alloc (Nat.le_refl _) (.cells #[.int .i64 sq] 3)
  have k2 := Blk.new w1 3 #[.int .i64 sq]
  obtain ⟨w2, hw2⟩ : ∃ z, w1.alloc (.cells #[.int .i64 sq] 3) = z := ⟨_, rfl⟩
  rw [hw2] at b2 k2
  rw [hX] at k1 s1
  rw [s1] at k2
  have KA := hide (k1.below b2 (by omega))
  have KB := hide k2
  have B2 : Hid (Below w.heap.size w w2) := hide (b1.trans (b2.mono (by omega)))
  have H2 := hide (h.below B2.out)
  have HW1 := hide hw1
  have HW2 := hide hw2
  have HX := hide hX
  have MY := hide (may_out w2 p L ls H2.out rk hk ca (some ⟨q, 0, none⟩))
  have CC := hide (contains_c w2 none 0 0 [] ⟨fun i m hm => by cases hm⟩ rfl (by omega) fr sq X (X + 1) (KA.out.cell 0) (KB.out.cell 0) KA.out.lt KB.out.lt)
  clear hw1 hw2 hX b1 b2 k1 k2 s1 h hk
  go_enter Try.func30, Try.ntmps30
  go_upto_region 1 with (fail)
  rw [HW1.out, HX.out, HW2.out]
  go_upto_region 4 with (go_at_call 60; refine (made_yes _ _ _ _ H2.out).mono ?_; rintro e w' ⟨rfl, rfl⟩)
  go_wp2_with fail
  refine MY.out.mono ?_
  rintro e w3 ⟨rfl, hw3⟩
  obtain rfl : w2 = w3 := hw3
  go_wp2_with fail
  refine CC.out.mono ?_
  rintro e w4 ⟨rfl, hb4⟩
  have B4 := hide (B2.out.trans (hb4.mono B2.out.size))
  have hf : hasB [] fr sq = false := rfl
  rw [hf]
  clear hb4 CC
  go_wp2_with fail
  go_ret
  exact ⟨rfl, B4.out⟩
/-- A match, as the document tells it. -/
theorem matchG_c {w : World} {p q : Nat} {L : Nat → Option Addr × Nat} {K : QL} {rl : List Rc} {l : List Msg} (h : PQ w p q L K (lsOf rl) l) (hf : Fine rl l) (hl : rl.length ≤ 1000) (hlq : l.length ≤ 1000) (rk ca fr sq : Int) :
    Calls Try.prog 30 #[.pointer (some ⟨p, 0, none⟩), .pointer (some ⟨q, 0, none⟩), .int .i64 rk, .int .i64 ca, .int .i64 fr, .int .i64 sq] w fun e w' => e = .returned (.int .i64 (matchDE rl l rk ca fr sq)) ∧ GoesPQ w p q L K (lsOf (matchDR rl l rk ca fr sq)) (matchDM rl l rk ca fr sq) w' := by
  by_cases hk : rk < 0 ∨ 64 ≤ rk
  · refine (match_out (q := q) h.hp rk ca fr sq hk).mono fun e w' hh => ?_
    have he : hasB (mayD rl l rk ca) fr sq = false := by rw [mayD_out hf.ok hk]; rfl
    unfold matchDE matchDR matchDM
    rw [he]
    exact ⟨hh.1, GoesPQ.same h hh.2⟩
  · obtain ⟨k, rfl⟩ : ∃ k : Nat, rk = k := ⟨rk.toNat, by omega⟩
    have hk64 : k < 64 := by omega
    refine (Match_c h (fun j _ => Nat.le_trans (lsOf_len rl j) hl) hlq k hk64 ca fr sq).mono fun e w' hh => ?_
    unfold matchE matchP matchQ at hh
    rw [mayD_in hk64, setG_ls] at hh
    unfold matchDE matchDR matchDM
    refine ⟨hh.1, ?_⟩
    split
    · rename_i hb
      have h2 := hh.2
      rw [if_pos hb, if_pos hb] at h2
      exact h2
    · rename_i hb
      have h2 := hh.2
      rw [if_neg hb, if_neg hb] at h2
      exact h2
/-- Two calls that lay copies, and two stores of what they answer: what the world is like. -/
structure JC (w5 : World) (Y : Nat) (c0 c1 c2 c3 : Value) (V : Nat → Option Value) (w : World) : Prop where
  ch : Ch [Y] w5 w
  o1 : (V 6).isSome = true → (V 5).isSome = true
  o2 : (V 14).isSome = true → (V 6).isSome = true
  o3 : (V 11).isSome = true → (V 10).isSome = true
  o4 : (V 17).isSome = true → (V 11).isSome = true
  bl : Blk w Y 31 #[c0, c1, if (V 14).isSome then (V 6).getD undef else c2, if (V 17).isSome then (V 11).getD undef else c3]
theorem setV_ne (V : Nat → Option Value) {i j : Nat} (v : Value) (h : j ≠ i) : setV V i v j = V j := if_neg h
theorem setV_at (V : Nat → Option Value) (i : Nat) (v : Value) : setV V i v i = some v := if_pos rfl
theorem setV_mono {V : Nat → Option Value} {i j : Nat} {v : Value} (h : (V j).isSome = true) : (setV V i v j).isSome = true := by
  by_cases e : j = i
  · subst e; rw [setV_at]; rfl
  · rw [setV_ne V v e]; exact h
section
variable {w5 w w' : World} {Y : Nat} {c0 c1 c2 c3 v : Value} {V : Nat → Option Value}
theorem JC.plain {i : Nat} (h : JC w5 Y c0 c1 c2 c3 V w) (hb : Below w.heap.size w w') (h1 : i ≠ 6) (h2 : i ≠ 14) (h3 : i ≠ 11) (h4 : i ≠ 17) : JC w5 Y c0 c1 c2 c3 (setV V i v) w' := by
  have e6 := setV_ne V v (Ne.symm h1)
  have e14 := setV_ne V v (Ne.symm h2)
  have e11 := setV_ne V v (Ne.symm h3)
  have e17 := setV_ne V v (Ne.symm h4)
  refine ⟨h.ch.trans (Ch.of_below hb), fun h0 => setV_mono (h.o1 (by rwa [e6] at h0)), fun h0 => setV_mono (h.o2 (by rwa [e14] at h0)), fun h0 => setV_mono (h.o3 (by rwa [e11] at h0)), fun h0 => setV_mono (h.o4 (by rwa [e17] at h0)), ?_⟩
  rw [e6, e14, e11, e17]
  exact h.bl.below hb h.bl.lt
theorem JC.first (h : JC w5 Y c0 c1 c2 c3 V w) (hV : V 6 = none) (h5 : (V 5).isSome = true) (hb : Below w.heap.size w w') : JC w5 Y c0 c1 c2 c3 (setV V 6 v) w' := by
  have e14 := setV_ne V v (show 14 ≠ 6 by decide)
  have e11 := setV_ne V v (show 11 ≠ 6 by decide)
  have e17 := setV_ne V v (show 17 ≠ 6 by decide)
  have hn : (V 14).isSome = false := by
    cases h0 : (V 14).isSome with
    | false => rfl
    | true => have := h.o2 h0; rw [hV] at this; cases this
  refine ⟨h.ch.trans (Ch.of_below hb), fun _ => setV_mono h5, fun h0 => (by rw [e14, hn] at h0; cases h0), fun h0 => setV_mono (h.o3 (by rwa [e11] at h0)), fun h0 => setV_mono (h.o4 (by rwa [e17] at h0)), ?_⟩
  have h1 := h.bl.below hb h.bl.lt
  rw [e14, e11, e17, hn]
  rw [hn] at h1
  exact h1
theorem JC.second (h : JC w5 Y c0 c1 c2 c3 V w) (hV : V 11 = none) (h5 : (V 10).isSome = true) (hb : Below w.heap.size w w') : JC w5 Y c0 c1 c2 c3 (setV V 11 v) w' := by
  have e14 := setV_ne V v (show 14 ≠ 11 by decide)
  have e6 := setV_ne V v (show 6 ≠ 11 by decide)
  have e17 := setV_ne V v (show 17 ≠ 11 by decide)
  have hn : (V 17).isSome = false := by
    cases h0 : (V 17).isSome with
    | false => rfl
    | true => have := h.o4 h0; rw [hV] at this; cases this
  refine ⟨h.ch.trans (Ch.of_below hb), fun h0 => setV_mono (h.o1 (by rwa [e6] at h0)), fun h0 => setV_mono (h.o2 (by rwa [e14] at h0)), fun _ => setV_mono h5, fun h0 => (by rw [e17, hn] at h0; cases h0), ?_⟩
  have h1 := h.bl.below hb h.bl.lt
  rw [e14, e6, e17, hn]
  rw [hn] at h1
  exact h1
theorem JC.store1 {u : Value} (h : JC w5 Y c0 c1 c2 c3 V w) (h6 : V 6 = some u) : JC w5 Y c0 c1 c2 c3 (setV V 14 v) (w.setCell ⟨Y, 2, none⟩ u) := by
  have e6 := setV_ne V v (show 6 ≠ 14 by decide)
  have e11 := setV_ne V v (show 11 ≠ 14 by decide)
  have e17 := setV_ne V v (show 17 ≠ 14 by decide)
  refine ⟨h.ch.trans (Ch.set_ w _ List.mem_cons_self), fun h0 => setV_mono (h.o1 (by rwa [e6] at h0)), fun _ => by rw [e6, h6]; rfl, fun h0 => setV_mono (h.o3 (by rwa [e11] at h0)), fun h0 => setV_mono (h.o4 (by rwa [e17] at h0)), ?_⟩
  have h1 := h.bl.set_ 2 u
  rw [setV_at, e6, e11, e17, h6]
  simpa using h1
theorem JC.store2 {u : Value} (h : JC w5 Y c0 c1 c2 c3 V w) (h6 : V 11 = some u) : JC w5 Y c0 c1 c2 c3 (setV V 17 v) (w.setCell ⟨Y, 3, none⟩ u) := by
  have e6 := setV_ne V v (show 6 ≠ 17 by decide)
  have e11 := setV_ne V v (show 11 ≠ 17 by decide)
  have e14 := setV_ne V v (show 14 ≠ 17 by decide)
  refine ⟨h.ch.trans (Ch.set_ w _ List.mem_cons_self), fun h0 => setV_mono (h.o1 (by rwa [e6] at h0)), fun h0 => setV_mono (h.o2 (by rwa [e14] at h0)), fun h0 => setV_mono (h.o3 (by rwa [e11] at h0)), fun _ => by rw [e11, h6]; rfl, ?_⟩
  have h1 := h.bl.set_ 3 u
  rw [setV_at, e6, e11, e14, h6]
  simpa using h1
theorem JC.cell2 (h : JC w5 Y c0 c1 c2 c3 V w) (hV : V 5 = none) : w.cell? ⟨Y, 2, none⟩ = some c2 := by
  have hn : (V 14).isSome = false := by
    cases h0 : (V 14).isSome with
    | false => rfl
    | true => have := h.o1 (h.o2 h0); rw [hV] at this; cases this
  have h1 := h.bl.cell 2
  rw [hn] at h1
  exact h1
theorem JC.cell3 (h : JC w5 Y c0 c1 c2 c3 V w) (hV : V 10 = none) : w.cell? ⟨Y, 3, none⟩ = some c3 := by
  have hn : (V 17).isSome = false := by
    cases h0 : (V 17).isSome with
    | false => rfl
    | true => have := h.o3 (h.o4 h0); rw [hV] at this; cases this
  have h1 := h.bl.cell 3
  rw [hn] at h1
  exact h1
end
/-- The document's two tables never lie in one block. -/
theorem apart_types {w : World} {d rq : Nat} {A Aq : Option Addr} {rl : List Rc} {l : List Msg} (hd : DAt w d A rl) (hq : RAt w rq Aq l) : ∀ b ∈ df d A, ¬ b ∈ rf rq Aq := by
  obtain ⟨c1, h1, h2⟩ := hd
  obtain ⟨c2, h3, h4⟩ := hq
  have ty1 : ∀ b ∈ df d A, ∃ cs, Blk w b 49 cs ∨ Blk w b 35 cs := fun b hb => by
    unfold df at hb
    rcases List.mem_cons.1 hb with rfl | hb
    · exact ⟨_, .inl h1⟩
    · cases A with
      | none => simp at hb
      | some a =>
        have e : b = a.block := by simpa using hb
        obtain ⟨_, cs, hc⟩ := own_inA h2 a rfl
        exact ⟨cs, .inr (by rw [e]; exact hc)⟩
  have ty2 : ∀ b ∈ rf rq Aq, ∃ cs, Blk w b 77 cs ∨ Blk w b 33 cs := fun b hb => by
    unfold rf at hb
    rcases List.mem_cons.1 hb with rfl | hb
    · exact ⟨_, .inl h3⟩
    · cases Aq with
      | none => simp at hb
      | some a =>
        have e : b = a.block := by simpa using hb
        obtain ⟨_, cs, hc⟩ := own_inA h4 a rfl
        exact ⟨cs, .inr (by rw [e]; exact hc)⟩
  intro b hb1 hb2
  obtain ⟨cs1, e1⟩ := ty1 b hb1
  obtain ⟨cs2, e2⟩ := ty2 b hb2
  rcases e1 with e1 | e1 <;> rcases e2 with e2 | e2 <;>
  · have := e1.symm.trans e2
    injection this with h5
    injection h5 with _ h6
    exact absurd h6 (by decide)
set_option maxRecDepth 100000 in
set_option maxHeartbeats 16000000 in
theorem does_c {W : WR} {w : World} {Y q p rq d n : Nat} {rl : List Rc} {l : List Msg} (LS : LeftSaid) (hf : Fine rl l) (hll : rl.length ≤ n ∧ l.length ≤ n) (hn : n ≤ 900) (kd : Int) (hk0 : 0 ≤ kd) (xk : ByteArray) (xf xt xc xg xv xz : Int) (xb : Bool) (yk : ByteArray) (yr yc yp yt yq : Int) (yd : Bool) (yf ys : Int)
    (hYB : W.far Y) (hbx : ∀ X w1, X = w.heap.size → w1 = w.alloc (.cells #[.int .u8 kd, .string xk, .int .i64 xf, .int .i64 xt, .int .i64 xc, .int .i64 xg, .int .i64 xv, .int .i64 xz, .bool xb, .string yk, .int .i64 yr, .int .i64 yc, .int .i64 yp, .int .i64 yt, .int .i64 yq, .bool yd, .int .i64 yf, .int .i64 ys] 37) → BXP W X #[.int .u8 kd, .string xk, .int .i64 xf, .int .i64 xt, .int .i64 xc, .int .i64 xg, .int .i64 xv, .int .i64 xz, .bool xb, .string yk, .int .i64 yr, .int .i64 yc, .int .i64 yp, .int .i64 yt, .int .i64 yq, .bool yd, .int .i64 yf, .int .i64 ys] Y q p rq d rl l rl l w1) :
    Calls Try.prog 12 #[.pointer (some ⟨Y, 0, none⟩), .agg #[.int .u8 kd, .string xk, .int .i64 xf, .int .i64 xt, .int .i64 xc, .int .i64 xg, .int .i64 xv, .int .i64 xz, .bool xb, .string yk, .int .i64 yr, .int .i64 yc, .int .i64 yp, .int .i64 yt, .int .i64 yq, .bool yd, .int .i64 yf, .int .i64 ys]] w fun e w' => e = .returned (.bool true) ∧ ∃ rl' l', (Fine rl' l' ∧ rl'.length ≤ n + 1 ∧ l'.length ≤ n + 1) ∧ ∃ q' p' rq' d', BXP W w.heap.size #[.int .u8 kd, .string xk, .int .i64 xf, .int .i64 xt, .int .i64 xc, .int .i64 xg, .int .i64 xv, .int .i64 xz, .bool xb, .string yk, .int .i64 yr, .int .i64 yc, .int .i64 yp, .int .i64 yt, .int .i64 yq, .bool yd, .int .i64 yf, .int .i64 ys] Y q' p' rq' d' rl' l' rl' l' w' := by
  obtain ⟨w1, hw1⟩ : ∃ z, w.alloc (.cells #[.int .u8 kd, .string xk, .int .i64 xf, .int .i64 xt, .int .i64 xc, .int .i64 xg, .int .i64 xv, .int .i64 xz, .bool xb, .string yk, .int .i64 yr, .int .i64 yc, .int .i64 yp, .int .i64 yt, .int .i64 yq, .bool yd, .int .i64 yf, .int .i64 ys] 37) = z := ⟨_, rfl⟩
  obtain ⟨X, hX⟩ : ∃ z, w.heap.size = z := ⟨_, rfl⟩
  have HBX := hide (hbx X w1 hX.symm hw1.symm)
  rw [hX]
  have HFI := hide hf
  have HLL := hide (show rl.length ≤ n ∧ l.length ≤ n from hll)
  have HNN := hide hn
  have HW1 := hide hw1
  have HX := hide hX
  have RM := hide (rem5 hk0)
  have HYB := hide hYB
  clear hw1 hX hf hll hk0 hbx hYB
  go_enter Try.func12, Try.ntmps12
  go_upto_region 1 with (fail)
  rw [HW1.out, HX.out]
  have c0 : w1.cell? ⟨X, 0, none⟩ = some (.int .u8 kd) := HBX.out.blks.1.cell 0
  rcases RM.out with hm | hm | hm | hm | hm
  · obtain ⟨rl3, hrl3⟩ : ∃ z, rl = z := ⟨_, rfl⟩
    obtain ⟨l3, hl3⟩ : ∃ z, sendL l ⟨xk, xf, xt, xc, xg, xv, xz, xb⟩ = z := ⟨_, rfl⟩
    obtain ⟨er, her⟩ : ∃ z, sendE l ⟨xk, xf, xt, xc, xg, xv, xz, xb⟩ = z := ⟨_, rfl⟩
    have HFIN := hide (show Fine rl3 l3 ∧ rl3.length ≤ n + 1 ∧ l3.length ≤ n + 1 from by
      rw [← hrl3, ← hl3]
      exact ⟨⟨HFI.out.ok, send_uq HFI.out.uq _, send_may HFI.out.may _⟩, by have := HLL.out.1; omega, Nat.le_trans (Po.sendL_len _ _) (by have := HLL.out.2; have := HNN.out; omega)⟩)
    have CQ : Hid (∀ wx, BXP W X #[.int .u8 kd, .string xk, .int .i64 xf, .int .i64 xt, .int .i64 xc, .int .i64 xg, .int .i64 xv, .int .i64 xz, .bool xb, .string yk, .int .i64 yr, .int .i64 yc, .int .i64 yp, .int .i64 yt, .int .i64 yq, .bool yd, .int .i64 yf, .int .i64 ys] Y q p rq d rl l rl l wx → Calls Try.prog 28 #[.pointer (some ⟨q, 0, none⟩), .agg #[.string xk, .int .i64 xf, .int .i64 xt, .int .i64 xc, .int .i64 xg, .int .i64 xv, .int .i64 xz, .bool xb]] wx fun e w' => e = .returned (.int .i64 er) ∧ BXP W X #[.int .u8 kd, .string xk, .int .i64 xf, .int .i64 xt, .int .i64 xc, .int .i64 xg, .int .i64 xv, .int .i64 xz, .bool xb, .string yk, .int .i64 yr, .int .i64 yc, .int .i64 yp, .int .i64 yt, .int .i64 yq, .bool yd, .int .i64 yf, .int .i64 ys] Y q p rq d rl3 l3 rl l w') := hide (fun wx ⟨L, K, A, Aq, hx⟩ => by
      have h := Send_c hx.pq.hq ⟨xk, xf, xt, xc, xg, xv, xz, xb⟩ (by have := HLL.out.2; have := HNN.out; omega)
      exact h.mono fun e w' hh => ⟨by rw [← her]; exact hh.1, hx.goP (by rw [← hrl3, ← hl3]; exact GoesPQ.of_q hx.pq hh.2) rfl⟩)
    have CR : Hid (∀ wx, BXP W X #[.int .u8 kd, .string xk, .int .i64 xf, .int .i64 xt, .int .i64 xc, .int .i64 xg, .int .i64 xv, .int .i64 xz, .bool xb, .string yk, .int .i64 yr, .int .i64 yc, .int .i64 yp, .int .i64 yt, .int .i64 yq, .bool yd, .int .i64 yf, .int .i64 ys] Y q p rq d rl3 l3 rl l wx → Calls Try.prog 39 #[.pointer (some ⟨rq, 0, none⟩), .agg #[.string xk, .int .i64 xf, .int .i64 xt, .int .i64 xc, .int .i64 xg, .int .i64 xv, .int .i64 xz, .bool xb]] wx fun e w' => e = .returned (.int .i64 er) ∧ BXP W X #[.int .u8 kd, .string xk, .int .i64 xf, .int .i64 xt, .int .i64 xc, .int .i64 xg, .int .i64 xv, .int .i64 xz, .bool xb, .string yk, .int .i64 yr, .int .i64 yc, .int .i64 yp, .int .i64 yt, .int .i64 yq, .bool yd, .int .i64 yf, .int .i64 ys] Y q p rq d rl3 l3 rl3 l3 w') := hide (fun wx ⟨L, K, A, Aq, hx⟩ => by
      have h := Send_b hx.ds.hq ⟨xk, xf, xt, xc, xg, xv, xz, xb⟩ (by have := HLL.out.2; have := HNN.out; omega)
      exact h.mono fun e w' hh => ⟨by rw [← her]; exact hh.1, hx.goD (by rw [← hrl3, ← hl3]; exact GoesDS.of_q hx.ds hh.2)⟩)
    have HJ0 := hide (show JS 6 13 (fun w2 => BXP W X #[.int .u8 kd, .string xk, .int .i64 xf, .int .i64 xt, .int .i64 xc, .int .i64 xg, .int .i64 xv, .int .i64 xz, .bool xb, .string yk, .int .i64 yr, .int .i64 yc, .int .i64 yp, .int .i64 yt, .int .i64 yq, .bool yd, .int .i64 yf, .int .i64 ys] Y q p rq d rl l rl l w2) (fun w2 => BXP W X #[.int .u8 kd, .string xk, .int .i64 xf, .int .i64 xt, .int .i64 xc, .int .i64 xg, .int .i64 xv, .int .i64 xz, .bool xb, .string yk, .int .i64 yr, .int .i64 yc, .int .i64 yp, .int .i64 yt, .int .i64 yq, .bool yd, .int .i64 yf, .int .i64 ys] Y q p rq d rl3 l3 rl l w2) (fun w2 => BXP W X #[.int .u8 kd, .string xk, .int .i64 xf, .int .i64 xt, .int .i64 xc, .int .i64 xg, .int .i64 xv, .int .i64 xz, .bool xb, .string yk, .int .i64 yr, .int .i64 yc, .int .i64 yp, .int .i64 yt, .int .i64 yq, .bool yd, .int .i64 yf, .int .i64 ys] Y q p rq d rl3 l3 rl3 l3 w2) (fun _ => none) w1.drew from ⟨fun h => (by cases h), fun _ => HBX.out.below (Below.refl _ _).drew, fun h => (by cases h), fun h => (by cases h)⟩)
    clear hrl3 hl3 her
    go_upto_region 4 with (fail)
    clear c0
    let R : Nat → Value → World → Prop := fun sl u w1 => match sl with
      | 4 => u = .bool true
      | 13 => u = .pointer (some ⟨Y, 0, none⟩)
      | 14 => u = .pointer (some ⟨Y, 0, none⟩)
      | 15 => u = .pointer (some ⟨Y, 0, none⟩)
      | 16 => u = .pointer (some ⟨q, 0, none⟩)
      | 17 => u = .pointer (some ⟨X, 1, none⟩)
      | 18 => u = .agg #[.string xk, .int .i64 xf, .int .i64 xt, .int .i64 xc, .int .i64 xg, .int .i64 xv, .int .i64 xz, .bool xb]
      | 19 => u = .int .i64 er
      | 20 => u = .pointer (some ⟨Y, 0, none⟩)
      | 21 => u = .pointer (some ⟨Y, 0, none⟩)
      | 22 => u = .pointer (some ⟨Y, 2, none⟩)
      | 23 => u = .pointer (some ⟨rq, 0, none⟩)
      | 24 => u = .pointer (some ⟨X, 1, none⟩)
      | 25 => u = .agg #[.string xk, .int .i64 xf, .int .i64 xt, .int .i64 xc, .int .i64 xg, .int .i64 xv, .int .i64 xz, .bool xb]
      | 26 => u = .int .i64 er
      | 27 => u = .bool true
      | _ => True
    refine wp_region_relGW [] R (fun _ _ => True) (fun V w1 => JS 6 13 (fun w2 => BXP W X #[.int .u8 kd, .string xk, .int .i64 xf, .int .i64 xt, .int .i64 xc, .int .i64 xg, .int .i64 xv, .int .i64 xz, .bool xb, .string yk, .int .i64 yr, .int .i64 yc, .int .i64 yp, .int .i64 yt, .int .i64 yq, .bool yd, .int .i64 yf, .int .i64 ys] Y q p rq d rl l rl l w2) (fun w2 => BXP W X #[.int .u8 kd, .string xk, .int .i64 xf, .int .i64 xt, .int .i64 xc, .int .i64 xg, .int .i64 xv, .int .i64 xz, .bool xb, .string yk, .int .i64 yr, .int .i64 yc, .int .i64 yp, .int .i64 yt, .int .i64 yq, .bool yd, .int .i64 yf, .int .i64 ys] Y q p rq d rl3 l3 rl l w2) (fun w2 => BXP W X #[.int .u8 kd, .string xk, .int .i64 xf, .int .i64 xt, .int .i64 xc, .int .i64 xg, .int .i64 xv, .int .i64 xz, .bool xb, .string yk, .int .i64 yr, .int .i64 yc, .int .i64 yp, .int .i64 yt, .int .i64 yq, .bool yd, .int .i64 yf, .int .i64 ys] Y q p rq d rl3 l3 rl3 l3 w2) V w1) (by kernel_rfl) (by kernel_rfl) (by kernel_rfl) (by kernel_rfl) ?mono (fun _ => trivial) HJ0.out ?gs ?step ?fin
    case mono =>
      intro sl u wx wy h hk
      match sl with
      | 0 | 1 | 2 | 3 | 4 | 5 | 6 | 7 | 8 | 9 | 10 | 11 | 12 | 13 | 14 | 15 | 16 | 17 | 18 | 19 | 20 | 21 | 22 | 23 | 24 | 25 | 26 | 27 | _ + 28 => exact h
    case gs =>
      intro p hp u w1 h
      cases hp
    case step =>
      intro j o ho
      match j, ho with
      | 0, ho =>
        cases ho
        intro V aa wx hV hdep hval hj hsm hr
        have e0 : aa.tmps.getD 0 undef = .pointer (some ⟨Y, 0, none⟩) := hsm 0 (by decide)
        rw [Array.getD_eq_getD_getElem?] at e0
        unfold Oper.wp
        simp only [execOp, Act.eval, Array.getD_eq_getD_getElem?, e0]
        go_simp
        first | exact ⟨_, rfl, rfl, hj.plain (fun h => h) (fun h => h) (fun h => h) (by decide) (by decide)⟩ | exact ⟨_, rfl, hj.plain (fun h => h) (fun h => h) (fun h => h) (by decide) (by decide)⟩
      | 1, ho =>
        cases ho
        intro V aa wx hV hdep hval hj hsm hr
        have e13 : aa.tmps.getD 13 undef = .pointer (some ⟨Y, 0, none⟩) := hr 13 (by decide) (by apply Array.mem_toList_iff.1; repeat (first | exact List.Mem.head _ | apply List.Mem.tail))
        rw [Array.getD_eq_getD_getElem?] at e13
        unfold Oper.wp
        simp only [execOp, Act.eval, Array.getD_eq_getD_getElem?, e13]
        go_simp
        first | exact ⟨_, rfl, rfl, hj.plain (fun h => h) (fun h => h) (fun h => h) (by decide) (by decide)⟩ | exact ⟨_, rfl, hj.plain (fun h => h) (fun h => h) (fun h => h) (by decide) (by decide)⟩
      | 2, ho =>
        cases ho
        intro V aa wx hV hdep hval hj hsm hr
        have e14 : aa.tmps.getD 14 undef = .pointer (some ⟨Y, 0, none⟩) := hr 14 (by decide) (by apply Array.mem_toList_iff.1; repeat (first | exact List.Mem.head _ | apply List.Mem.tail))
        rw [Array.getD_eq_getD_getElem?] at e14
        unfold Oper.wp
        simp only [execOp, Act.eval, Array.getD_eq_getD_getElem?, e14]
        go_simp
        first | exact ⟨_, rfl, rfl, hj.plain (fun h => h) (fun h => h) (fun h => h) (by decide) (by decide)⟩ | exact ⟨_, rfl, hj.plain (fun h => h) (fun h => h) (fun h => h) (by decide) (by decide)⟩
      | 3, ho =>
        cases ho
        intro V aa wx hV hdep hval hj hsm hr
        have e15 : aa.tmps.getD 15 undef = .pointer (some ⟨Y, 0, none⟩) := hr 15 (by decide) (by apply Array.mem_toList_iff.1; repeat (first | exact List.Mem.head _ | apply List.Mem.tail))
        obtain ⟨hkx, hky⟩ := hj.get BXP.blks BXP.blks BXP.blks
        have y0 : wx.cell? ⟨Y, 0, none⟩ = some (.pointer (some ⟨q, 0, none⟩)) := hky.cell 0
        clear hkx hky
        rw [Array.getD_eq_getD_getElem?] at e15
        unfold Oper.wp
        simp only [execOp, Act.eval, Array.getD_eq_getD_getElem?, e15]
        go_simp
        first | exact ⟨_, rfl, rfl, hj.plain (fun h => h) (fun h => h) (fun h => h) (by decide) (by decide)⟩ | exact ⟨_, rfl, hj.plain (fun h => h) (fun h => h) (fun h => h) (by decide) (by decide)⟩
      | 4, ho =>
        cases ho
        intro V aa wx hV hdep hval hj hsm hr
        have e3 : aa.tmps.getD 3 undef = .pointer (some ⟨X, 0, none⟩) := hsm 3 (by decide)
        rw [Array.getD_eq_getD_getElem?] at e3
        unfold Oper.wp
        simp only [execOp, Act.eval, Array.getD_eq_getD_getElem?, e3]
        go_simp
        first | exact ⟨_, rfl, rfl, hj.plain (fun h => h) (fun h => h) (fun h => h) (by decide) (by decide)⟩ | exact ⟨_, rfl, hj.plain (fun h => h) (fun h => h) (fun h => h) (by decide) (by decide)⟩
      | 5, ho =>
        cases ho
        intro V aa wx hV hdep hval hj hsm hr
        have e17 : aa.tmps.getD 17 undef = .pointer (some ⟨X, 1, none⟩) := hr 17 (by decide) (by apply Array.mem_toList_iff.1; repeat (first | exact List.Mem.head _ | apply List.Mem.tail))
        obtain ⟨hkx, hky⟩ := hj.get BXP.blks BXP.blks BXP.blks
        have x1 : wx.cell? ⟨X, 1, none⟩ = some (.string xk) := hkx.cell 1
        have x2 : wx.cell? ⟨X, 2, none⟩ = some (.int .i64 xf) := hkx.cell 2
        have x3 : wx.cell? ⟨X, 3, none⟩ = some (.int .i64 xt) := hkx.cell 3
        have x4 : wx.cell? ⟨X, 4, none⟩ = some (.int .i64 xc) := hkx.cell 4
        have x5 : wx.cell? ⟨X, 5, none⟩ = some (.int .i64 xg) := hkx.cell 5
        have x6 : wx.cell? ⟨X, 6, none⟩ = some (.int .i64 xv) := hkx.cell 6
        have x7 : wx.cell? ⟨X, 7, none⟩ = some (.int .i64 xz) := hkx.cell 7
        have x8 : wx.cell? ⟨X, 8, none⟩ = some (.bool xb) := hkx.cell 8
        clear hkx hky
        rw [Array.getD_eq_getD_getElem?] at e17
        unfold Oper.wp
        simp only [execOp, Act.eval, Array.getD_eq_getD_getElem?, e17]
        go_simp
        first | exact ⟨_, rfl, rfl, hj.plain (fun h => h) (fun h => h) (fun h => h) (by decide) (by decide)⟩ | exact ⟨_, rfl, hj.plain (fun h => h) (fun h => h) (fun h => h) (by decide) (by decide)⟩
      | 6, ho =>
        cases ho
        intro V aa wx hV hdep hval hj hsm hr
        have e16 : aa.tmps.getD 16 undef = .pointer (some ⟨q, 0, none⟩) := hr 16 (by decide) (by apply Array.mem_toList_iff.1; repeat (first | exact List.Mem.head _ | apply List.Mem.tail))
        have e18 : aa.tmps.getD 18 undef = .agg #[.string xk, .int .i64 xf, .int .i64 xt, .int .i64 xc, .int .i64 xg, .int .i64 xv, .int .i64 xz, .bool xb] := hr 18 (by decide) (by apply Array.mem_toList_iff.1; repeat (first | exact List.Mem.head _ | apply List.Mem.tail))
        rw [Array.getD_eq_getD_getElem?] at e16
        rw [Array.getD_eq_getD_getElem?] at e18
        unfold Oper.wp
        simp only [execOp, Act.eval, Array.getD_eq_getD_getElem?, e16, e18]
        go_simp
        refine (CQ.out wx (hj.s0 hV)).mono ?_
        rintro e w' ⟨rfl, hs⟩
        exact ⟨_, rfl, rfl, hj.first hV (by decide) hs⟩
      | 7, ho =>
        cases ho
        intro V aa wx hV hdep hval hj hsm hr
        have e0 : aa.tmps.getD 0 undef = .pointer (some ⟨Y, 0, none⟩) := hsm 0 (by decide)
        rw [Array.getD_eq_getD_getElem?] at e0
        unfold Oper.wp
        simp only [execOp, Act.eval, Array.getD_eq_getD_getElem?, e0]
        go_simp
        first | exact ⟨_, rfl, rfl, hj.plain (fun h => h) (fun h => h) (fun h => h) (by decide) (by decide)⟩ | exact ⟨_, rfl, hj.plain (fun h => h) (fun h => h) (fun h => h) (by decide) (by decide)⟩
      | 8, ho =>
        cases ho
        intro V aa wx hV hdep hval hj hsm hr
        have e20 : aa.tmps.getD 20 undef = .pointer (some ⟨Y, 0, none⟩) := hr 20 (by decide) (by apply Array.mem_toList_iff.1; repeat (first | exact List.Mem.head _ | apply List.Mem.tail))
        rw [Array.getD_eq_getD_getElem?] at e20
        unfold Oper.wp
        simp only [execOp, Act.eval, Array.getD_eq_getD_getElem?, e20]
        go_simp
        first | exact ⟨_, rfl, rfl, hj.plain (fun h => h) (fun h => h) (fun h => h) (by decide) (by decide)⟩ | exact ⟨_, rfl, hj.plain (fun h => h) (fun h => h) (fun h => h) (by decide) (by decide)⟩
      | 9, ho =>
        cases ho
        intro V aa wx hV hdep hval hj hsm hr
        have e21 : aa.tmps.getD 21 undef = .pointer (some ⟨Y, 0, none⟩) := hr 21 (by decide) (by apply Array.mem_toList_iff.1; repeat (first | exact List.Mem.head _ | apply List.Mem.tail))
        rw [Array.getD_eq_getD_getElem?] at e21
        unfold Oper.wp
        simp only [execOp, Act.eval, Array.getD_eq_getD_getElem?, e21]
        go_simp
        first | exact ⟨_, rfl, rfl, hj.plain (fun h => h) (fun h => h) (fun h => h) (by decide) (by decide)⟩ | exact ⟨_, rfl, hj.plain (fun h => h) (fun h => h) (fun h => h) (by decide) (by decide)⟩
      | 10, ho =>
        cases ho
        intro V aa wx hV hdep hval hj hsm hr
        have e22 : aa.tmps.getD 22 undef = .pointer (some ⟨Y, 2, none⟩) := hr 22 (by decide) (by apply Array.mem_toList_iff.1; repeat (first | exact List.Mem.head _ | apply List.Mem.tail))
        obtain ⟨hkx, hky⟩ := hj.get BXP.blks BXP.blks BXP.blks
        have y2 : wx.cell? ⟨Y, 2, none⟩ = some (.pointer (some ⟨rq, 0, none⟩)) := hky.cell 2
        clear hkx hky
        rw [Array.getD_eq_getD_getElem?] at e22
        unfold Oper.wp
        simp only [execOp, Act.eval, Array.getD_eq_getD_getElem?, e22]
        go_simp
        first | exact ⟨_, rfl, rfl, hj.plain (fun h => h) (fun h => h) (fun h => h) (by decide) (by decide)⟩ | exact ⟨_, rfl, hj.plain (fun h => h) (fun h => h) (fun h => h) (by decide) (by decide)⟩
      | 11, ho =>
        cases ho
        intro V aa wx hV hdep hval hj hsm hr
        have e3 : aa.tmps.getD 3 undef = .pointer (some ⟨X, 0, none⟩) := hsm 3 (by decide)
        rw [Array.getD_eq_getD_getElem?] at e3
        unfold Oper.wp
        simp only [execOp, Act.eval, Array.getD_eq_getD_getElem?, e3]
        go_simp
        first | exact ⟨_, rfl, rfl, hj.plain (fun h => h) (fun h => h) (fun h => h) (by decide) (by decide)⟩ | exact ⟨_, rfl, hj.plain (fun h => h) (fun h => h) (fun h => h) (by decide) (by decide)⟩
      | 12, ho =>
        cases ho
        intro V aa wx hV hdep hval hj hsm hr
        have e24 : aa.tmps.getD 24 undef = .pointer (some ⟨X, 1, none⟩) := hr 24 (by decide) (by apply Array.mem_toList_iff.1; repeat (first | exact List.Mem.head _ | apply List.Mem.tail))
        obtain ⟨hkx, hky⟩ := hj.get BXP.blks BXP.blks BXP.blks
        have x1 : wx.cell? ⟨X, 1, none⟩ = some (.string xk) := hkx.cell 1
        have x2 : wx.cell? ⟨X, 2, none⟩ = some (.int .i64 xf) := hkx.cell 2
        have x3 : wx.cell? ⟨X, 3, none⟩ = some (.int .i64 xt) := hkx.cell 3
        have x4 : wx.cell? ⟨X, 4, none⟩ = some (.int .i64 xc) := hkx.cell 4
        have x5 : wx.cell? ⟨X, 5, none⟩ = some (.int .i64 xg) := hkx.cell 5
        have x6 : wx.cell? ⟨X, 6, none⟩ = some (.int .i64 xv) := hkx.cell 6
        have x7 : wx.cell? ⟨X, 7, none⟩ = some (.int .i64 xz) := hkx.cell 7
        have x8 : wx.cell? ⟨X, 8, none⟩ = some (.bool xb) := hkx.cell 8
        clear hkx hky
        rw [Array.getD_eq_getD_getElem?] at e24
        unfold Oper.wp
        simp only [execOp, Act.eval, Array.getD_eq_getD_getElem?, e24]
        go_simp
        first | exact ⟨_, rfl, rfl, hj.plain (fun h => h) (fun h => h) (fun h => h) (by decide) (by decide)⟩ | exact ⟨_, rfl, hj.plain (fun h => h) (fun h => h) (fun h => h) (by decide) (by decide)⟩
      | 13, ho =>
        cases ho
        intro V aa wx hV hdep hval hj hsm hr
        have e23 : aa.tmps.getD 23 undef = .pointer (some ⟨rq, 0, none⟩) := hr 23 (by decide) (by apply Array.mem_toList_iff.1; repeat (first | exact List.Mem.head _ | apply List.Mem.tail))
        have e25 : aa.tmps.getD 25 undef = .agg #[.string xk, .int .i64 xf, .int .i64 xt, .int .i64 xc, .int .i64 xg, .int .i64 xv, .int .i64 xz, .bool xb] := hr 25 (by decide) (by apply Array.mem_toList_iff.1; repeat (first | exact List.Mem.head _ | apply List.Mem.tail))
        rw [Array.getD_eq_getD_getElem?] at e23
        rw [Array.getD_eq_getD_getElem?] at e25
        unfold Oper.wp
        simp only [execOp, Act.eval, Array.getD_eq_getD_getElem?, e23, e25]
        go_simp
        refine (CR.out wx (hj.s1 (hdep ⟨6, Ground.chain⟩ (by simp) (by decide)) hV)).mono ?_
        rintro e w' ⟨rfl, hs⟩
        exact ⟨_, rfl, rfl, JS.second (hdep ⟨6, Ground.chain⟩ (by simp) (by decide)) (by decide) hs⟩
      | 14, ho =>
        cases ho
        intro V aa wx hV hdep hval hj hsm hr
        have e19 : aa.tmps.getD 19 undef = .int .i64 er := hr 19 (by decide) (by apply Array.mem_toList_iff.1; repeat (first | exact List.Mem.head _ | apply List.Mem.tail))
        have e26 : aa.tmps.getD 26 undef = .int .i64 er := hr 26 (by decide) (by apply Array.mem_toList_iff.1; repeat (first | exact List.Mem.head _ | apply List.Mem.tail))
        have em : (er == er) = true := by simp
        rw [Array.getD_eq_getD_getElem?] at e19
        rw [Array.getD_eq_getD_getElem?] at e26
        unfold Oper.wp
        simp only [execOp, Act.eval, Array.getD_eq_getD_getElem?, e19, e26]
        go_simp
        first | exact ⟨_, rfl, rfl, hj.plain (fun h => h) (fun h => h) (fun h => h) (by decide) (by decide)⟩ | exact ⟨_, rfl, hj.plain (fun h => h) (fun h => h) (fun h => h) (by decide) (by decide)⟩
      | 15, ho =>
        cases ho
        intro V aa wx hV hdep hval hj hsm hr
        have e27 : aa.tmps.getD 27 undef = .bool true := hr 27 (by decide) (by apply Array.mem_toList_iff.1; repeat (first | exact List.Mem.head _ | apply List.Mem.tail))
        rw [Array.getD_eq_getD_getElem?] at e27
        unfold Oper.wp
        simp only [execOp, Act.eval, Array.getD_eq_getD_getElem?, e27]
        go_simp
        first | exact ⟨_, rfl, rfl, hj.plain (fun h => h) (fun h => h) (fun h => h) (by decide) (by decide)⟩ | exact ⟨_, rfl, hj.plain (fun h => h) (fun h => h) (fun h => h) (by decide) (by decide)⟩
      | _ + 16, ho => cases ho
    case fin =>
      intro ff V wz hV hj hr
      have elast : ff 4 = .bool true := hr 4 (by decide)
      have HB3 := hide (hj.s2 (by rw [hV 13 _ rfl]; rfl))
      clear hV hr hj
      simp only [putAll, slotsOf, List.filterMap_cons, List.filterMap_nil, List.foldl_cons, List.foldl_nil, Act.put, elast]
      simp only [List.setIfInBounds_toArray, List.set_cons_succ, List.set_cons_zero]
      go_wp2_with fail
      go_ret
      exact ⟨rfl, rl3, l3, HFIN.out, q, p, rq, d, HB3.out⟩
  · obtain ⟨rl3, hrl3⟩ : ∃ z, rl = z := ⟨_, rfl⟩
    obtain ⟨l3, hl3⟩ : ∃ z, sendL l ⟨xk, xf, xt, xc, xg, xv, xz, xb⟩ = z := ⟨_, rfl⟩
    obtain ⟨er, her⟩ : ∃ z, sendE l ⟨xk, xf, xt, xc, xg, xv, xz, xb⟩ = z := ⟨_, rfl⟩
    have HFIN := hide (show Fine rl3 l3 ∧ rl3.length ≤ n + 1 ∧ l3.length ≤ n + 1 from by
      rw [← hrl3, ← hl3]
      exact ⟨⟨HFI.out.ok, send_uq HFI.out.uq _, send_may HFI.out.may _⟩, by have := HLL.out.1; omega, Nat.le_trans (Po.sendL_len _ _) (by have := HLL.out.2; have := HNN.out; omega)⟩)
    have CQ : Hid (∀ wx, BXP W X #[.int .u8 kd, .string xk, .int .i64 xf, .int .i64 xt, .int .i64 xc, .int .i64 xg, .int .i64 xv, .int .i64 xz, .bool xb, .string yk, .int .i64 yr, .int .i64 yc, .int .i64 yp, .int .i64 yt, .int .i64 yq, .bool yd, .int .i64 yf, .int .i64 ys] Y q p rq d rl l rl l wx → Calls Try.prog 28 #[.pointer (some ⟨q, 0, none⟩), .agg #[.string xk, .int .i64 xf, .int .i64 xt, .int .i64 xc, .int .i64 xg, .int .i64 xv, .int .i64 xz, .bool xb]] wx fun e w' => e = .returned (.int .i64 er) ∧ BXP W X #[.int .u8 kd, .string xk, .int .i64 xf, .int .i64 xt, .int .i64 xc, .int .i64 xg, .int .i64 xv, .int .i64 xz, .bool xb, .string yk, .int .i64 yr, .int .i64 yc, .int .i64 yp, .int .i64 yt, .int .i64 yq, .bool yd, .int .i64 yf, .int .i64 ys] Y q p rq d rl3 l3 rl l w') := hide (fun wx ⟨L, K, A, Aq, hx⟩ => by
      have h := Send_c hx.pq.hq ⟨xk, xf, xt, xc, xg, xv, xz, xb⟩ (by have := HLL.out.2; have := HNN.out; omega)
      exact h.mono fun e w' hh => ⟨by rw [← her]; exact hh.1, hx.goP (by rw [← hrl3, ← hl3]; exact GoesPQ.of_q hx.pq hh.2) rfl⟩)
    have CR : Hid (∀ wx, BXP W X #[.int .u8 kd, .string xk, .int .i64 xf, .int .i64 xt, .int .i64 xc, .int .i64 xg, .int .i64 xv, .int .i64 xz, .bool xb, .string yk, .int .i64 yr, .int .i64 yc, .int .i64 yp, .int .i64 yt, .int .i64 yq, .bool yd, .int .i64 yf, .int .i64 ys] Y q p rq d rl3 l3 rl l wx → Calls Try.prog 39 #[.pointer (some ⟨rq, 0, none⟩), .agg #[.string xk, .int .i64 xf, .int .i64 xt, .int .i64 xc, .int .i64 xg, .int .i64 xv, .int .i64 xz, .bool xb]] wx fun e w' => e = .returned (.int .i64 er) ∧ BXP W X #[.int .u8 kd, .string xk, .int .i64 xf, .int .i64 xt, .int .i64 xc, .int .i64 xg, .int .i64 xv, .int .i64 xz, .bool xb, .string yk, .int .i64 yr, .int .i64 yc, .int .i64 yp, .int .i64 yt, .int .i64 yq, .bool yd, .int .i64 yf, .int .i64 ys] Y q p rq d rl3 l3 rl3 l3 w') := hide (fun wx ⟨L, K, A, Aq, hx⟩ => by
      have h := Send_b hx.ds.hq ⟨xk, xf, xt, xc, xg, xv, xz, xb⟩ (by have := HLL.out.2; have := HNN.out; omega)
      exact h.mono fun e w' hh => ⟨by rw [← her]; exact hh.1, hx.goD (by rw [← hrl3, ← hl3]; exact GoesDS.of_q hx.ds hh.2)⟩)
    have HJ0 := hide (show JS 6 13 (fun w2 => BXP W X #[.int .u8 kd, .string xk, .int .i64 xf, .int .i64 xt, .int .i64 xc, .int .i64 xg, .int .i64 xv, .int .i64 xz, .bool xb, .string yk, .int .i64 yr, .int .i64 yc, .int .i64 yp, .int .i64 yt, .int .i64 yq, .bool yd, .int .i64 yf, .int .i64 ys] Y q p rq d rl l rl l w2) (fun w2 => BXP W X #[.int .u8 kd, .string xk, .int .i64 xf, .int .i64 xt, .int .i64 xc, .int .i64 xg, .int .i64 xv, .int .i64 xz, .bool xb, .string yk, .int .i64 yr, .int .i64 yc, .int .i64 yp, .int .i64 yt, .int .i64 yq, .bool yd, .int .i64 yf, .int .i64 ys] Y q p rq d rl3 l3 rl l w2) (fun w2 => BXP W X #[.int .u8 kd, .string xk, .int .i64 xf, .int .i64 xt, .int .i64 xc, .int .i64 xg, .int .i64 xv, .int .i64 xz, .bool xb, .string yk, .int .i64 yr, .int .i64 yc, .int .i64 yp, .int .i64 yt, .int .i64 yq, .bool yd, .int .i64 yf, .int .i64 ys] Y q p rq d rl3 l3 rl3 l3 w2) (fun _ => none) w1.drew from ⟨fun h => (by cases h), fun _ => HBX.out.below (Below.refl _ _).drew, fun h => (by cases h), fun h => (by cases h)⟩)
    clear hrl3 hl3 her
    go_upto_region 4 with (fail)
    clear c0
    let R : Nat → Value → World → Prop := fun sl u w1 => match sl with
      | 4 => u = .bool true
      | 13 => u = .pointer (some ⟨Y, 0, none⟩)
      | 14 => u = .pointer (some ⟨Y, 0, none⟩)
      | 15 => u = .pointer (some ⟨Y, 0, none⟩)
      | 16 => u = .pointer (some ⟨q, 0, none⟩)
      | 17 => u = .pointer (some ⟨X, 1, none⟩)
      | 18 => u = .agg #[.string xk, .int .i64 xf, .int .i64 xt, .int .i64 xc, .int .i64 xg, .int .i64 xv, .int .i64 xz, .bool xb]
      | 19 => u = .int .i64 er
      | 20 => u = .pointer (some ⟨Y, 0, none⟩)
      | 21 => u = .pointer (some ⟨Y, 0, none⟩)
      | 22 => u = .pointer (some ⟨Y, 2, none⟩)
      | 23 => u = .pointer (some ⟨rq, 0, none⟩)
      | 24 => u = .pointer (some ⟨X, 1, none⟩)
      | 25 => u = .agg #[.string xk, .int .i64 xf, .int .i64 xt, .int .i64 xc, .int .i64 xg, .int .i64 xv, .int .i64 xz, .bool xb]
      | 26 => u = .int .i64 er
      | 27 => u = .bool true
      | _ => True
    refine wp_region_relGW [] R (fun _ _ => True) (fun V w1 => JS 6 13 (fun w2 => BXP W X #[.int .u8 kd, .string xk, .int .i64 xf, .int .i64 xt, .int .i64 xc, .int .i64 xg, .int .i64 xv, .int .i64 xz, .bool xb, .string yk, .int .i64 yr, .int .i64 yc, .int .i64 yp, .int .i64 yt, .int .i64 yq, .bool yd, .int .i64 yf, .int .i64 ys] Y q p rq d rl l rl l w2) (fun w2 => BXP W X #[.int .u8 kd, .string xk, .int .i64 xf, .int .i64 xt, .int .i64 xc, .int .i64 xg, .int .i64 xv, .int .i64 xz, .bool xb, .string yk, .int .i64 yr, .int .i64 yc, .int .i64 yp, .int .i64 yt, .int .i64 yq, .bool yd, .int .i64 yf, .int .i64 ys] Y q p rq d rl3 l3 rl l w2) (fun w2 => BXP W X #[.int .u8 kd, .string xk, .int .i64 xf, .int .i64 xt, .int .i64 xc, .int .i64 xg, .int .i64 xv, .int .i64 xz, .bool xb, .string yk, .int .i64 yr, .int .i64 yc, .int .i64 yp, .int .i64 yt, .int .i64 yq, .bool yd, .int .i64 yf, .int .i64 ys] Y q p rq d rl3 l3 rl3 l3 w2) V w1) (by kernel_rfl) (by kernel_rfl) (by kernel_rfl) (by kernel_rfl) ?mono (fun _ => trivial) HJ0.out ?gs ?step ?fin
    case mono =>
      intro sl u wx wy h hk
      match sl with
      | 0 | 1 | 2 | 3 | 4 | 5 | 6 | 7 | 8 | 9 | 10 | 11 | 12 | 13 | 14 | 15 | 16 | 17 | 18 | 19 | 20 | 21 | 22 | 23 | 24 | 25 | 26 | 27 | _ + 28 => exact h
    case gs =>
      intro p hp u w1 h
      cases hp
    case step =>
      intro j o ho
      match j, ho with
      | 0, ho =>
        cases ho
        intro V aa wx hV hdep hval hj hsm hr
        have e0 : aa.tmps.getD 0 undef = .pointer (some ⟨Y, 0, none⟩) := hsm 0 (by decide)
        rw [Array.getD_eq_getD_getElem?] at e0
        unfold Oper.wp
        simp only [execOp, Act.eval, Array.getD_eq_getD_getElem?, e0]
        go_simp
        first | exact ⟨_, rfl, rfl, hj.plain (fun h => h) (fun h => h) (fun h => h) (by decide) (by decide)⟩ | exact ⟨_, rfl, hj.plain (fun h => h) (fun h => h) (fun h => h) (by decide) (by decide)⟩
      | 1, ho =>
        cases ho
        intro V aa wx hV hdep hval hj hsm hr
        have e13 : aa.tmps.getD 13 undef = .pointer (some ⟨Y, 0, none⟩) := hr 13 (by decide) (by apply Array.mem_toList_iff.1; repeat (first | exact List.Mem.head _ | apply List.Mem.tail))
        rw [Array.getD_eq_getD_getElem?] at e13
        unfold Oper.wp
        simp only [execOp, Act.eval, Array.getD_eq_getD_getElem?, e13]
        go_simp
        first | exact ⟨_, rfl, rfl, hj.plain (fun h => h) (fun h => h) (fun h => h) (by decide) (by decide)⟩ | exact ⟨_, rfl, hj.plain (fun h => h) (fun h => h) (fun h => h) (by decide) (by decide)⟩
      | 2, ho =>
        cases ho
        intro V aa wx hV hdep hval hj hsm hr
        have e14 : aa.tmps.getD 14 undef = .pointer (some ⟨Y, 0, none⟩) := hr 14 (by decide) (by apply Array.mem_toList_iff.1; repeat (first | exact List.Mem.head _ | apply List.Mem.tail))
        rw [Array.getD_eq_getD_getElem?] at e14
        unfold Oper.wp
        simp only [execOp, Act.eval, Array.getD_eq_getD_getElem?, e14]
        go_simp
        first | exact ⟨_, rfl, rfl, hj.plain (fun h => h) (fun h => h) (fun h => h) (by decide) (by decide)⟩ | exact ⟨_, rfl, hj.plain (fun h => h) (fun h => h) (fun h => h) (by decide) (by decide)⟩
      | 3, ho =>
        cases ho
        intro V aa wx hV hdep hval hj hsm hr
        have e15 : aa.tmps.getD 15 undef = .pointer (some ⟨Y, 0, none⟩) := hr 15 (by decide) (by apply Array.mem_toList_iff.1; repeat (first | exact List.Mem.head _ | apply List.Mem.tail))
        obtain ⟨hkx, hky⟩ := hj.get BXP.blks BXP.blks BXP.blks
        have y0 : wx.cell? ⟨Y, 0, none⟩ = some (.pointer (some ⟨q, 0, none⟩)) := hky.cell 0
        clear hkx hky
        rw [Array.getD_eq_getD_getElem?] at e15
        unfold Oper.wp
        simp only [execOp, Act.eval, Array.getD_eq_getD_getElem?, e15]
        go_simp
        first | exact ⟨_, rfl, rfl, hj.plain (fun h => h) (fun h => h) (fun h => h) (by decide) (by decide)⟩ | exact ⟨_, rfl, hj.plain (fun h => h) (fun h => h) (fun h => h) (by decide) (by decide)⟩
      | 4, ho =>
        cases ho
        intro V aa wx hV hdep hval hj hsm hr
        have e3 : aa.tmps.getD 3 undef = .pointer (some ⟨X, 0, none⟩) := hsm 3 (by decide)
        rw [Array.getD_eq_getD_getElem?] at e3
        unfold Oper.wp
        simp only [execOp, Act.eval, Array.getD_eq_getD_getElem?, e3]
        go_simp
        first | exact ⟨_, rfl, rfl, hj.plain (fun h => h) (fun h => h) (fun h => h) (by decide) (by decide)⟩ | exact ⟨_, rfl, hj.plain (fun h => h) (fun h => h) (fun h => h) (by decide) (by decide)⟩
      | 5, ho =>
        cases ho
        intro V aa wx hV hdep hval hj hsm hr
        have e17 : aa.tmps.getD 17 undef = .pointer (some ⟨X, 1, none⟩) := hr 17 (by decide) (by apply Array.mem_toList_iff.1; repeat (first | exact List.Mem.head _ | apply List.Mem.tail))
        obtain ⟨hkx, hky⟩ := hj.get BXP.blks BXP.blks BXP.blks
        have x1 : wx.cell? ⟨X, 1, none⟩ = some (.string xk) := hkx.cell 1
        have x2 : wx.cell? ⟨X, 2, none⟩ = some (.int .i64 xf) := hkx.cell 2
        have x3 : wx.cell? ⟨X, 3, none⟩ = some (.int .i64 xt) := hkx.cell 3
        have x4 : wx.cell? ⟨X, 4, none⟩ = some (.int .i64 xc) := hkx.cell 4
        have x5 : wx.cell? ⟨X, 5, none⟩ = some (.int .i64 xg) := hkx.cell 5
        have x6 : wx.cell? ⟨X, 6, none⟩ = some (.int .i64 xv) := hkx.cell 6
        have x7 : wx.cell? ⟨X, 7, none⟩ = some (.int .i64 xz) := hkx.cell 7
        have x8 : wx.cell? ⟨X, 8, none⟩ = some (.bool xb) := hkx.cell 8
        clear hkx hky
        rw [Array.getD_eq_getD_getElem?] at e17
        unfold Oper.wp
        simp only [execOp, Act.eval, Array.getD_eq_getD_getElem?, e17]
        go_simp
        first | exact ⟨_, rfl, rfl, hj.plain (fun h => h) (fun h => h) (fun h => h) (by decide) (by decide)⟩ | exact ⟨_, rfl, hj.plain (fun h => h) (fun h => h) (fun h => h) (by decide) (by decide)⟩
      | 6, ho =>
        cases ho
        intro V aa wx hV hdep hval hj hsm hr
        have e16 : aa.tmps.getD 16 undef = .pointer (some ⟨q, 0, none⟩) := hr 16 (by decide) (by apply Array.mem_toList_iff.1; repeat (first | exact List.Mem.head _ | apply List.Mem.tail))
        have e18 : aa.tmps.getD 18 undef = .agg #[.string xk, .int .i64 xf, .int .i64 xt, .int .i64 xc, .int .i64 xg, .int .i64 xv, .int .i64 xz, .bool xb] := hr 18 (by decide) (by apply Array.mem_toList_iff.1; repeat (first | exact List.Mem.head _ | apply List.Mem.tail))
        rw [Array.getD_eq_getD_getElem?] at e16
        rw [Array.getD_eq_getD_getElem?] at e18
        unfold Oper.wp
        simp only [execOp, Act.eval, Array.getD_eq_getD_getElem?, e16, e18]
        go_simp
        refine (CQ.out wx (hj.s0 hV)).mono ?_
        rintro e w' ⟨rfl, hs⟩
        exact ⟨_, rfl, rfl, hj.first hV (by decide) hs⟩
      | 7, ho =>
        cases ho
        intro V aa wx hV hdep hval hj hsm hr
        have e0 : aa.tmps.getD 0 undef = .pointer (some ⟨Y, 0, none⟩) := hsm 0 (by decide)
        rw [Array.getD_eq_getD_getElem?] at e0
        unfold Oper.wp
        simp only [execOp, Act.eval, Array.getD_eq_getD_getElem?, e0]
        go_simp
        first | exact ⟨_, rfl, rfl, hj.plain (fun h => h) (fun h => h) (fun h => h) (by decide) (by decide)⟩ | exact ⟨_, rfl, hj.plain (fun h => h) (fun h => h) (fun h => h) (by decide) (by decide)⟩
      | 8, ho =>
        cases ho
        intro V aa wx hV hdep hval hj hsm hr
        have e20 : aa.tmps.getD 20 undef = .pointer (some ⟨Y, 0, none⟩) := hr 20 (by decide) (by apply Array.mem_toList_iff.1; repeat (first | exact List.Mem.head _ | apply List.Mem.tail))
        rw [Array.getD_eq_getD_getElem?] at e20
        unfold Oper.wp
        simp only [execOp, Act.eval, Array.getD_eq_getD_getElem?, e20]
        go_simp
        first | exact ⟨_, rfl, rfl, hj.plain (fun h => h) (fun h => h) (fun h => h) (by decide) (by decide)⟩ | exact ⟨_, rfl, hj.plain (fun h => h) (fun h => h) (fun h => h) (by decide) (by decide)⟩
      | 9, ho =>
        cases ho
        intro V aa wx hV hdep hval hj hsm hr
        have e21 : aa.tmps.getD 21 undef = .pointer (some ⟨Y, 0, none⟩) := hr 21 (by decide) (by apply Array.mem_toList_iff.1; repeat (first | exact List.Mem.head _ | apply List.Mem.tail))
        rw [Array.getD_eq_getD_getElem?] at e21
        unfold Oper.wp
        simp only [execOp, Act.eval, Array.getD_eq_getD_getElem?, e21]
        go_simp
        first | exact ⟨_, rfl, rfl, hj.plain (fun h => h) (fun h => h) (fun h => h) (by decide) (by decide)⟩ | exact ⟨_, rfl, hj.plain (fun h => h) (fun h => h) (fun h => h) (by decide) (by decide)⟩
      | 10, ho =>
        cases ho
        intro V aa wx hV hdep hval hj hsm hr
        have e22 : aa.tmps.getD 22 undef = .pointer (some ⟨Y, 2, none⟩) := hr 22 (by decide) (by apply Array.mem_toList_iff.1; repeat (first | exact List.Mem.head _ | apply List.Mem.tail))
        obtain ⟨hkx, hky⟩ := hj.get BXP.blks BXP.blks BXP.blks
        have y2 : wx.cell? ⟨Y, 2, none⟩ = some (.pointer (some ⟨rq, 0, none⟩)) := hky.cell 2
        clear hkx hky
        rw [Array.getD_eq_getD_getElem?] at e22
        unfold Oper.wp
        simp only [execOp, Act.eval, Array.getD_eq_getD_getElem?, e22]
        go_simp
        first | exact ⟨_, rfl, rfl, hj.plain (fun h => h) (fun h => h) (fun h => h) (by decide) (by decide)⟩ | exact ⟨_, rfl, hj.plain (fun h => h) (fun h => h) (fun h => h) (by decide) (by decide)⟩
      | 11, ho =>
        cases ho
        intro V aa wx hV hdep hval hj hsm hr
        have e3 : aa.tmps.getD 3 undef = .pointer (some ⟨X, 0, none⟩) := hsm 3 (by decide)
        rw [Array.getD_eq_getD_getElem?] at e3
        unfold Oper.wp
        simp only [execOp, Act.eval, Array.getD_eq_getD_getElem?, e3]
        go_simp
        first | exact ⟨_, rfl, rfl, hj.plain (fun h => h) (fun h => h) (fun h => h) (by decide) (by decide)⟩ | exact ⟨_, rfl, hj.plain (fun h => h) (fun h => h) (fun h => h) (by decide) (by decide)⟩
      | 12, ho =>
        cases ho
        intro V aa wx hV hdep hval hj hsm hr
        have e24 : aa.tmps.getD 24 undef = .pointer (some ⟨X, 1, none⟩) := hr 24 (by decide) (by apply Array.mem_toList_iff.1; repeat (first | exact List.Mem.head _ | apply List.Mem.tail))
        obtain ⟨hkx, hky⟩ := hj.get BXP.blks BXP.blks BXP.blks
        have x1 : wx.cell? ⟨X, 1, none⟩ = some (.string xk) := hkx.cell 1
        have x2 : wx.cell? ⟨X, 2, none⟩ = some (.int .i64 xf) := hkx.cell 2
        have x3 : wx.cell? ⟨X, 3, none⟩ = some (.int .i64 xt) := hkx.cell 3
        have x4 : wx.cell? ⟨X, 4, none⟩ = some (.int .i64 xc) := hkx.cell 4
        have x5 : wx.cell? ⟨X, 5, none⟩ = some (.int .i64 xg) := hkx.cell 5
        have x6 : wx.cell? ⟨X, 6, none⟩ = some (.int .i64 xv) := hkx.cell 6
        have x7 : wx.cell? ⟨X, 7, none⟩ = some (.int .i64 xz) := hkx.cell 7
        have x8 : wx.cell? ⟨X, 8, none⟩ = some (.bool xb) := hkx.cell 8
        clear hkx hky
        rw [Array.getD_eq_getD_getElem?] at e24
        unfold Oper.wp
        simp only [execOp, Act.eval, Array.getD_eq_getD_getElem?, e24]
        go_simp
        first | exact ⟨_, rfl, rfl, hj.plain (fun h => h) (fun h => h) (fun h => h) (by decide) (by decide)⟩ | exact ⟨_, rfl, hj.plain (fun h => h) (fun h => h) (fun h => h) (by decide) (by decide)⟩
      | 13, ho =>
        cases ho
        intro V aa wx hV hdep hval hj hsm hr
        have e23 : aa.tmps.getD 23 undef = .pointer (some ⟨rq, 0, none⟩) := hr 23 (by decide) (by apply Array.mem_toList_iff.1; repeat (first | exact List.Mem.head _ | apply List.Mem.tail))
        have e25 : aa.tmps.getD 25 undef = .agg #[.string xk, .int .i64 xf, .int .i64 xt, .int .i64 xc, .int .i64 xg, .int .i64 xv, .int .i64 xz, .bool xb] := hr 25 (by decide) (by apply Array.mem_toList_iff.1; repeat (first | exact List.Mem.head _ | apply List.Mem.tail))
        rw [Array.getD_eq_getD_getElem?] at e23
        rw [Array.getD_eq_getD_getElem?] at e25
        unfold Oper.wp
        simp only [execOp, Act.eval, Array.getD_eq_getD_getElem?, e23, e25]
        go_simp
        refine (CR.out wx (hj.s1 (hdep ⟨6, Ground.chain⟩ (by simp) (by decide)) hV)).mono ?_
        rintro e w' ⟨rfl, hs⟩
        exact ⟨_, rfl, rfl, JS.second (hdep ⟨6, Ground.chain⟩ (by simp) (by decide)) (by decide) hs⟩
      | 14, ho =>
        cases ho
        intro V aa wx hV hdep hval hj hsm hr
        have e19 : aa.tmps.getD 19 undef = .int .i64 er := hr 19 (by decide) (by apply Array.mem_toList_iff.1; repeat (first | exact List.Mem.head _ | apply List.Mem.tail))
        have e26 : aa.tmps.getD 26 undef = .int .i64 er := hr 26 (by decide) (by apply Array.mem_toList_iff.1; repeat (first | exact List.Mem.head _ | apply List.Mem.tail))
        have em : (er == er) = true := by simp
        rw [Array.getD_eq_getD_getElem?] at e19
        rw [Array.getD_eq_getD_getElem?] at e26
        unfold Oper.wp
        simp only [execOp, Act.eval, Array.getD_eq_getD_getElem?, e19, e26]
        go_simp
        first | exact ⟨_, rfl, rfl, hj.plain (fun h => h) (fun h => h) (fun h => h) (by decide) (by decide)⟩ | exact ⟨_, rfl, hj.plain (fun h => h) (fun h => h) (fun h => h) (by decide) (by decide)⟩
      | 15, ho =>
        cases ho
        intro V aa wx hV hdep hval hj hsm hr
        have e27 : aa.tmps.getD 27 undef = .bool true := hr 27 (by decide) (by apply Array.mem_toList_iff.1; repeat (first | exact List.Mem.head _ | apply List.Mem.tail))
        rw [Array.getD_eq_getD_getElem?] at e27
        unfold Oper.wp
        simp only [execOp, Act.eval, Array.getD_eq_getD_getElem?, e27]
        go_simp
        first | exact ⟨_, rfl, rfl, hj.plain (fun h => h) (fun h => h) (fun h => h) (by decide) (by decide)⟩ | exact ⟨_, rfl, hj.plain (fun h => h) (fun h => h) (fun h => h) (by decide) (by decide)⟩
      | _ + 16, ho => cases ho
    case fin =>
      intro ff V wz hV hj hr
      have elast : ff 4 = .bool true := hr 4 (by decide)
      have HB3 := hide (hj.s2 (by rw [hV 13 _ rfl]; rfl))
      clear hV hr hj
      simp only [putAll, slotsOf, List.filterMap_cons, List.filterMap_nil, List.foldl_cons, List.foldl_nil, Act.put, elast]
      simp only [List.setIfInBounds_toArray, List.set_cons_succ, List.set_cons_zero]
      go_wp2_with fail
      go_ret
      exact ⟨rfl, rl3, l3, HFIN.out, q, p, rq, d, HB3.out⟩
  · obtain ⟨rl3, hrl3⟩ : ∃ z, postG rl ⟨yk, yr, yc, yp, yt, yq, yd, yf, ys⟩ = z := ⟨_, rfl⟩
    obtain ⟨l3, hl3⟩ : ∃ z, l = z := ⟨_, rfl⟩
    obtain ⟨er, her⟩ : ∃ z, postI rl ⟨yk, yr, yc, yp, yt, yq, yd, yf, ys⟩ = z := ⟨_, rfl⟩
    have HFIN := hide (show Fine rl3 l3 ∧ rl3.length ≤ n + 1 ∧ l3.length ≤ n + 1 from by
      rw [← hrl3, ← hl3]
      exact ⟨⟨postG_ok HFI.out.ok, HFI.out.uq, HFI.out.may⟩, Nat.le_trans (postG_len _ _) (by have := HLL.out.1; have := HNN.out; omega), by have := HLL.out.2; omega⟩)
    have CQ : Hid (∀ wx, BXP W X #[.int .u8 kd, .string xk, .int .i64 xf, .int .i64 xt, .int .i64 xc, .int .i64 xg, .int .i64 xv, .int .i64 xz, .bool xb, .string yk, .int .i64 yr, .int .i64 yc, .int .i64 yp, .int .i64 yt, .int .i64 yq, .bool yd, .int .i64 yf, .int .i64 ys] Y q p rq d rl l rl l wx → Calls Try.prog 29 #[.pointer (some ⟨p, 0, none⟩), .agg #[.string yk, .int .i64 yr, .int .i64 yc, .int .i64 yp, .int .i64 yt, .int .i64 yq, .bool yd, .int .i64 yf, .int .i64 ys]] wx fun e w' => e = .returned (.int .i64 er) ∧ BXP W X #[.int .u8 kd, .string xk, .int .i64 xf, .int .i64 xt, .int .i64 xc, .int .i64 xg, .int .i64 xv, .int .i64 xz, .bool xb, .string yk, .int .i64 yr, .int .i64 yc, .int .i64 yp, .int .i64 yt, .int .i64 yq, .bool yd, .int .i64 yf, .int .i64 ys] Y q p rq d rl3 l3 rl l w') := hide (fun wx ⟨L, K, A, Aq, hx⟩ => by
      have h := Post_c hx.pq.hp (fun k _ => Nat.le_trans (lsOf_len rl k) (by have := HLL.out.1; have := HNN.out; omega)) yk yr yc yp yt yq yd yf ys
      exact h.mono fun e w' hh => ⟨by rw [← her]; exact hh.1.trans (by rw [postE_G]; rfl), hx.goP (l' := l3) (by rw [← hl3]; exact GoesPQ.of_p hx.pq hh.2) (by rw [postL_G, hrl3])⟩)
    have CR : Hid (∀ wx, BXP W X #[.int .u8 kd, .string xk, .int .i64 xf, .int .i64 xt, .int .i64 xc, .int .i64 xg, .int .i64 xv, .int .i64 xz, .bool xb, .string yk, .int .i64 yr, .int .i64 yc, .int .i64 yp, .int .i64 yt, .int .i64 yq, .bool yd, .int .i64 yf, .int .i64 ys] Y q p rq d rl3 l3 rl l wx → Calls Try.prog 40 #[.pointer (some ⟨d, 0, none⟩), .agg #[.string yk, .int .i64 yr, .int .i64 yc, .int .i64 yp, .int .i64 yt, .int .i64 yq, .bool yd, .int .i64 yf, .int .i64 ys]] wx fun e w' => e = .returned (.int .i64 er) ∧ BXP W X #[.int .u8 kd, .string xk, .int .i64 xf, .int .i64 xt, .int .i64 xc, .int .i64 xg, .int .i64 xv, .int .i64 xz, .bool xb, .string yk, .int .i64 yr, .int .i64 yc, .int .i64 yp, .int .i64 yt, .int .i64 yq, .bool yd, .int .i64 yf, .int .i64 ys] Y q p rq d rl3 l3 rl3 l3 w') := hide (fun wx ⟨L, K, A, Aq, hx⟩ => by
      have h := post_b hx.ds.hd (by have := HLL.out.1; have := HNN.out; omega) yk yr yc yp yt yq yd yf ys
      exact h.mono fun e w' hh => ⟨by rw [← her]; exact hh.1, hx.goD (by rw [← hrl3, ← hl3]; exact GoesDS.of_d hx.ds hh.2)⟩)
    have HJ0 := hide (show JS 6 13 (fun w2 => BXP W X #[.int .u8 kd, .string xk, .int .i64 xf, .int .i64 xt, .int .i64 xc, .int .i64 xg, .int .i64 xv, .int .i64 xz, .bool xb, .string yk, .int .i64 yr, .int .i64 yc, .int .i64 yp, .int .i64 yt, .int .i64 yq, .bool yd, .int .i64 yf, .int .i64 ys] Y q p rq d rl l rl l w2) (fun w2 => BXP W X #[.int .u8 kd, .string xk, .int .i64 xf, .int .i64 xt, .int .i64 xc, .int .i64 xg, .int .i64 xv, .int .i64 xz, .bool xb, .string yk, .int .i64 yr, .int .i64 yc, .int .i64 yp, .int .i64 yt, .int .i64 yq, .bool yd, .int .i64 yf, .int .i64 ys] Y q p rq d rl3 l3 rl l w2) (fun w2 => BXP W X #[.int .u8 kd, .string xk, .int .i64 xf, .int .i64 xt, .int .i64 xc, .int .i64 xg, .int .i64 xv, .int .i64 xz, .bool xb, .string yk, .int .i64 yr, .int .i64 yc, .int .i64 yp, .int .i64 yt, .int .i64 yq, .bool yd, .int .i64 yf, .int .i64 ys] Y q p rq d rl3 l3 rl3 l3 w2) (fun _ => none) w1.drew from ⟨fun h => (by cases h), fun _ => HBX.out.below (Below.refl _ _).drew, fun h => (by cases h), fun h => (by cases h)⟩)
    clear hrl3 hl3 her
    go_upto_region 6 with (fail)
    clear c0
    let R : Nat → Value → World → Prop := fun sl u w1 => match sl with
      | 4 => u = .bool true
      | 30 => u = .pointer (some ⟨Y, 0, none⟩)
      | 31 => u = .pointer (some ⟨Y, 0, none⟩)
      | 32 => u = .pointer (some ⟨Y, 1, none⟩)
      | 33 => u = .pointer (some ⟨p, 0, none⟩)
      | 34 => u = .pointer (some ⟨X, 9, none⟩)
      | 35 => u = .agg #[.string yk, .int .i64 yr, .int .i64 yc, .int .i64 yp, .int .i64 yt, .int .i64 yq, .bool yd, .int .i64 yf, .int .i64 ys]
      | 36 => u = .int .i64 er
      | 37 => u = .pointer (some ⟨Y, 0, none⟩)
      | 38 => u = .pointer (some ⟨Y, 0, none⟩)
      | 39 => u = .pointer (some ⟨Y, 3, none⟩)
      | 40 => u = .pointer (some ⟨d, 0, none⟩)
      | 41 => u = .pointer (some ⟨X, 9, none⟩)
      | 42 => u = .agg #[.string yk, .int .i64 yr, .int .i64 yc, .int .i64 yp, .int .i64 yt, .int .i64 yq, .bool yd, .int .i64 yf, .int .i64 ys]
      | 43 => u = .int .i64 er
      | 44 => u = .bool true
      | _ => True
    refine wp_region_relGW [] R (fun _ _ => True) (fun V w1 => JS 6 13 (fun w2 => BXP W X #[.int .u8 kd, .string xk, .int .i64 xf, .int .i64 xt, .int .i64 xc, .int .i64 xg, .int .i64 xv, .int .i64 xz, .bool xb, .string yk, .int .i64 yr, .int .i64 yc, .int .i64 yp, .int .i64 yt, .int .i64 yq, .bool yd, .int .i64 yf, .int .i64 ys] Y q p rq d rl l rl l w2) (fun w2 => BXP W X #[.int .u8 kd, .string xk, .int .i64 xf, .int .i64 xt, .int .i64 xc, .int .i64 xg, .int .i64 xv, .int .i64 xz, .bool xb, .string yk, .int .i64 yr, .int .i64 yc, .int .i64 yp, .int .i64 yt, .int .i64 yq, .bool yd, .int .i64 yf, .int .i64 ys] Y q p rq d rl3 l3 rl l w2) (fun w2 => BXP W X #[.int .u8 kd, .string xk, .int .i64 xf, .int .i64 xt, .int .i64 xc, .int .i64 xg, .int .i64 xv, .int .i64 xz, .bool xb, .string yk, .int .i64 yr, .int .i64 yc, .int .i64 yp, .int .i64 yt, .int .i64 yq, .bool yd, .int .i64 yf, .int .i64 ys] Y q p rq d rl3 l3 rl3 l3 w2) V w1) (by kernel_rfl) (by kernel_rfl) (by kernel_rfl) (by kernel_rfl) ?mono (fun _ => trivial) HJ0.out ?gs ?step ?fin
    case mono =>
      intro sl u wx wy h hk
      match sl with
      | 0 | 1 | 2 | 3 | 4 | 5 | 6 | 7 | 8 | 9 | 10 | 11 | 12 | 13 | 14 | 15 | 16 | 17 | 18 | 19 | 20 | 21 | 22 | 23 | 24 | 25 | 26 | 27 | 28 | 29 | 30 | 31 | 32 | 33 | 34 | 35 | 36 | 37 | 38 | 39 | 40 | 41 | 42 | 43 | 44 | _ + 45 => exact h
    case gs =>
      intro p hp u w1 h
      cases hp
    case step =>
      intro j o ho
      match j, ho with
      | 0, ho =>
        cases ho
        intro V aa wx hV hdep hval hj hsm hr
        have e0 : aa.tmps.getD 0 undef = .pointer (some ⟨Y, 0, none⟩) := hsm 0 (by decide)
        rw [Array.getD_eq_getD_getElem?] at e0
        unfold Oper.wp
        simp only [execOp, Act.eval, Array.getD_eq_getD_getElem?, e0]
        go_simp
        first | exact ⟨_, rfl, rfl, hj.plain (fun h => h) (fun h => h) (fun h => h) (by decide) (by decide)⟩ | exact ⟨_, rfl, hj.plain (fun h => h) (fun h => h) (fun h => h) (by decide) (by decide)⟩
      | 1, ho =>
        cases ho
        intro V aa wx hV hdep hval hj hsm hr
        have e30 : aa.tmps.getD 30 undef = .pointer (some ⟨Y, 0, none⟩) := hr 30 (by decide) (by apply Array.mem_toList_iff.1; repeat (first | exact List.Mem.head _ | apply List.Mem.tail))
        rw [Array.getD_eq_getD_getElem?] at e30
        unfold Oper.wp
        simp only [execOp, Act.eval, Array.getD_eq_getD_getElem?, e30]
        go_simp
        first | exact ⟨_, rfl, rfl, hj.plain (fun h => h) (fun h => h) (fun h => h) (by decide) (by decide)⟩ | exact ⟨_, rfl, hj.plain (fun h => h) (fun h => h) (fun h => h) (by decide) (by decide)⟩
      | 2, ho =>
        cases ho
        intro V aa wx hV hdep hval hj hsm hr
        have e31 : aa.tmps.getD 31 undef = .pointer (some ⟨Y, 0, none⟩) := hr 31 (by decide) (by apply Array.mem_toList_iff.1; repeat (first | exact List.Mem.head _ | apply List.Mem.tail))
        rw [Array.getD_eq_getD_getElem?] at e31
        unfold Oper.wp
        simp only [execOp, Act.eval, Array.getD_eq_getD_getElem?, e31]
        go_simp
        first | exact ⟨_, rfl, rfl, hj.plain (fun h => h) (fun h => h) (fun h => h) (by decide) (by decide)⟩ | exact ⟨_, rfl, hj.plain (fun h => h) (fun h => h) (fun h => h) (by decide) (by decide)⟩
      | 3, ho =>
        cases ho
        intro V aa wx hV hdep hval hj hsm hr
        have e32 : aa.tmps.getD 32 undef = .pointer (some ⟨Y, 1, none⟩) := hr 32 (by decide) (by apply Array.mem_toList_iff.1; repeat (first | exact List.Mem.head _ | apply List.Mem.tail))
        obtain ⟨hkx, hky⟩ := hj.get BXP.blks BXP.blks BXP.blks
        have y1 : wx.cell? ⟨Y, 1, none⟩ = some (.pointer (some ⟨p, 0, none⟩)) := hky.cell 1
        clear hkx hky
        rw [Array.getD_eq_getD_getElem?] at e32
        unfold Oper.wp
        simp only [execOp, Act.eval, Array.getD_eq_getD_getElem?, e32]
        go_simp
        first | exact ⟨_, rfl, rfl, hj.plain (fun h => h) (fun h => h) (fun h => h) (by decide) (by decide)⟩ | exact ⟨_, rfl, hj.plain (fun h => h) (fun h => h) (fun h => h) (by decide) (by decide)⟩
      | 4, ho =>
        cases ho
        intro V aa wx hV hdep hval hj hsm hr
        have e3 : aa.tmps.getD 3 undef = .pointer (some ⟨X, 0, none⟩) := hsm 3 (by decide)
        rw [Array.getD_eq_getD_getElem?] at e3
        unfold Oper.wp
        simp only [execOp, Act.eval, Array.getD_eq_getD_getElem?, e3]
        go_simp
        first | exact ⟨_, rfl, rfl, hj.plain (fun h => h) (fun h => h) (fun h => h) (by decide) (by decide)⟩ | exact ⟨_, rfl, hj.plain (fun h => h) (fun h => h) (fun h => h) (by decide) (by decide)⟩
      | 5, ho =>
        cases ho
        intro V aa wx hV hdep hval hj hsm hr
        have e34 : aa.tmps.getD 34 undef = .pointer (some ⟨X, 9, none⟩) := hr 34 (by decide) (by apply Array.mem_toList_iff.1; repeat (first | exact List.Mem.head _ | apply List.Mem.tail))
        obtain ⟨hkx, hky⟩ := hj.get BXP.blks BXP.blks BXP.blks
        have x9 : wx.cell? ⟨X, 9, none⟩ = some (.string yk) := hkx.cell 9
        have x10 : wx.cell? ⟨X, 10, none⟩ = some (.int .i64 yr) := hkx.cell 10
        have x11 : wx.cell? ⟨X, 11, none⟩ = some (.int .i64 yc) := hkx.cell 11
        have x12 : wx.cell? ⟨X, 12, none⟩ = some (.int .i64 yp) := hkx.cell 12
        have x13 : wx.cell? ⟨X, 13, none⟩ = some (.int .i64 yt) := hkx.cell 13
        have x14 : wx.cell? ⟨X, 14, none⟩ = some (.int .i64 yq) := hkx.cell 14
        have x15 : wx.cell? ⟨X, 15, none⟩ = some (.bool yd) := hkx.cell 15
        have x16 : wx.cell? ⟨X, 16, none⟩ = some (.int .i64 yf) := hkx.cell 16
        have x17 : wx.cell? ⟨X, 17, none⟩ = some (.int .i64 ys) := hkx.cell 17
        clear hkx hky
        rw [Array.getD_eq_getD_getElem?] at e34
        unfold Oper.wp
        simp only [execOp, Act.eval, Array.getD_eq_getD_getElem?, e34]
        go_simp
        first | exact ⟨_, rfl, rfl, hj.plain (fun h => h) (fun h => h) (fun h => h) (by decide) (by decide)⟩ | exact ⟨_, rfl, hj.plain (fun h => h) (fun h => h) (fun h => h) (by decide) (by decide)⟩
      | 6, ho =>
        cases ho
        intro V aa wx hV hdep hval hj hsm hr
        have e33 : aa.tmps.getD 33 undef = .pointer (some ⟨p, 0, none⟩) := hr 33 (by decide) (by apply Array.mem_toList_iff.1; repeat (first | exact List.Mem.head _ | apply List.Mem.tail))
        have e35 : aa.tmps.getD 35 undef = .agg #[.string yk, .int .i64 yr, .int .i64 yc, .int .i64 yp, .int .i64 yt, .int .i64 yq, .bool yd, .int .i64 yf, .int .i64 ys] := hr 35 (by decide) (by apply Array.mem_toList_iff.1; repeat (first | exact List.Mem.head _ | apply List.Mem.tail))
        rw [Array.getD_eq_getD_getElem?] at e33
        rw [Array.getD_eq_getD_getElem?] at e35
        unfold Oper.wp
        simp only [execOp, Act.eval, Array.getD_eq_getD_getElem?, e33, e35]
        go_simp
        refine (CQ.out wx (hj.s0 hV)).mono ?_
        rintro e w' ⟨rfl, hs⟩
        exact ⟨_, rfl, rfl, hj.first hV (by decide) hs⟩
      | 7, ho =>
        cases ho
        intro V aa wx hV hdep hval hj hsm hr
        have e0 : aa.tmps.getD 0 undef = .pointer (some ⟨Y, 0, none⟩) := hsm 0 (by decide)
        rw [Array.getD_eq_getD_getElem?] at e0
        unfold Oper.wp
        simp only [execOp, Act.eval, Array.getD_eq_getD_getElem?, e0]
        go_simp
        first | exact ⟨_, rfl, rfl, hj.plain (fun h => h) (fun h => h) (fun h => h) (by decide) (by decide)⟩ | exact ⟨_, rfl, hj.plain (fun h => h) (fun h => h) (fun h => h) (by decide) (by decide)⟩
      | 8, ho =>
        cases ho
        intro V aa wx hV hdep hval hj hsm hr
        have e37 : aa.tmps.getD 37 undef = .pointer (some ⟨Y, 0, none⟩) := hr 37 (by decide) (by apply Array.mem_toList_iff.1; repeat (first | exact List.Mem.head _ | apply List.Mem.tail))
        rw [Array.getD_eq_getD_getElem?] at e37
        unfold Oper.wp
        simp only [execOp, Act.eval, Array.getD_eq_getD_getElem?, e37]
        go_simp
        first | exact ⟨_, rfl, rfl, hj.plain (fun h => h) (fun h => h) (fun h => h) (by decide) (by decide)⟩ | exact ⟨_, rfl, hj.plain (fun h => h) (fun h => h) (fun h => h) (by decide) (by decide)⟩
      | 9, ho =>
        cases ho
        intro V aa wx hV hdep hval hj hsm hr
        have e38 : aa.tmps.getD 38 undef = .pointer (some ⟨Y, 0, none⟩) := hr 38 (by decide) (by apply Array.mem_toList_iff.1; repeat (first | exact List.Mem.head _ | apply List.Mem.tail))
        rw [Array.getD_eq_getD_getElem?] at e38
        unfold Oper.wp
        simp only [execOp, Act.eval, Array.getD_eq_getD_getElem?, e38]
        go_simp
        first | exact ⟨_, rfl, rfl, hj.plain (fun h => h) (fun h => h) (fun h => h) (by decide) (by decide)⟩ | exact ⟨_, rfl, hj.plain (fun h => h) (fun h => h) (fun h => h) (by decide) (by decide)⟩
      | 10, ho =>
        cases ho
        intro V aa wx hV hdep hval hj hsm hr
        have e39 : aa.tmps.getD 39 undef = .pointer (some ⟨Y, 3, none⟩) := hr 39 (by decide) (by apply Array.mem_toList_iff.1; repeat (first | exact List.Mem.head _ | apply List.Mem.tail))
        obtain ⟨hkx, hky⟩ := hj.get BXP.blks BXP.blks BXP.blks
        have y3 : wx.cell? ⟨Y, 3, none⟩ = some (.pointer (some ⟨d, 0, none⟩)) := hky.cell 3
        clear hkx hky
        rw [Array.getD_eq_getD_getElem?] at e39
        unfold Oper.wp
        simp only [execOp, Act.eval, Array.getD_eq_getD_getElem?, e39]
        go_simp
        first | exact ⟨_, rfl, rfl, hj.plain (fun h => h) (fun h => h) (fun h => h) (by decide) (by decide)⟩ | exact ⟨_, rfl, hj.plain (fun h => h) (fun h => h) (fun h => h) (by decide) (by decide)⟩
      | 11, ho =>
        cases ho
        intro V aa wx hV hdep hval hj hsm hr
        have e3 : aa.tmps.getD 3 undef = .pointer (some ⟨X, 0, none⟩) := hsm 3 (by decide)
        rw [Array.getD_eq_getD_getElem?] at e3
        unfold Oper.wp
        simp only [execOp, Act.eval, Array.getD_eq_getD_getElem?, e3]
        go_simp
        first | exact ⟨_, rfl, rfl, hj.plain (fun h => h) (fun h => h) (fun h => h) (by decide) (by decide)⟩ | exact ⟨_, rfl, hj.plain (fun h => h) (fun h => h) (fun h => h) (by decide) (by decide)⟩
      | 12, ho =>
        cases ho
        intro V aa wx hV hdep hval hj hsm hr
        have e41 : aa.tmps.getD 41 undef = .pointer (some ⟨X, 9, none⟩) := hr 41 (by decide) (by apply Array.mem_toList_iff.1; repeat (first | exact List.Mem.head _ | apply List.Mem.tail))
        obtain ⟨hkx, hky⟩ := hj.get BXP.blks BXP.blks BXP.blks
        have x9 : wx.cell? ⟨X, 9, none⟩ = some (.string yk) := hkx.cell 9
        have x10 : wx.cell? ⟨X, 10, none⟩ = some (.int .i64 yr) := hkx.cell 10
        have x11 : wx.cell? ⟨X, 11, none⟩ = some (.int .i64 yc) := hkx.cell 11
        have x12 : wx.cell? ⟨X, 12, none⟩ = some (.int .i64 yp) := hkx.cell 12
        have x13 : wx.cell? ⟨X, 13, none⟩ = some (.int .i64 yt) := hkx.cell 13
        have x14 : wx.cell? ⟨X, 14, none⟩ = some (.int .i64 yq) := hkx.cell 14
        have x15 : wx.cell? ⟨X, 15, none⟩ = some (.bool yd) := hkx.cell 15
        have x16 : wx.cell? ⟨X, 16, none⟩ = some (.int .i64 yf) := hkx.cell 16
        have x17 : wx.cell? ⟨X, 17, none⟩ = some (.int .i64 ys) := hkx.cell 17
        clear hkx hky
        rw [Array.getD_eq_getD_getElem?] at e41
        unfold Oper.wp
        simp only [execOp, Act.eval, Array.getD_eq_getD_getElem?, e41]
        go_simp
        first | exact ⟨_, rfl, rfl, hj.plain (fun h => h) (fun h => h) (fun h => h) (by decide) (by decide)⟩ | exact ⟨_, rfl, hj.plain (fun h => h) (fun h => h) (fun h => h) (by decide) (by decide)⟩
      | 13, ho =>
        cases ho
        intro V aa wx hV hdep hval hj hsm hr
        have e40 : aa.tmps.getD 40 undef = .pointer (some ⟨d, 0, none⟩) := hr 40 (by decide) (by apply Array.mem_toList_iff.1; repeat (first | exact List.Mem.head _ | apply List.Mem.tail))
        have e42 : aa.tmps.getD 42 undef = .agg #[.string yk, .int .i64 yr, .int .i64 yc, .int .i64 yp, .int .i64 yt, .int .i64 yq, .bool yd, .int .i64 yf, .int .i64 ys] := hr 42 (by decide) (by apply Array.mem_toList_iff.1; repeat (first | exact List.Mem.head _ | apply List.Mem.tail))
        rw [Array.getD_eq_getD_getElem?] at e40
        rw [Array.getD_eq_getD_getElem?] at e42
        unfold Oper.wp
        simp only [execOp, Act.eval, Array.getD_eq_getD_getElem?, e40, e42]
        go_simp
        refine (CR.out wx (hj.s1 (hdep ⟨6, Ground.chain⟩ (by simp) (by decide)) hV)).mono ?_
        rintro e w' ⟨rfl, hs⟩
        exact ⟨_, rfl, rfl, JS.second (hdep ⟨6, Ground.chain⟩ (by simp) (by decide)) (by decide) hs⟩
      | 14, ho =>
        cases ho
        intro V aa wx hV hdep hval hj hsm hr
        have e36 : aa.tmps.getD 36 undef = .int .i64 er := hr 36 (by decide) (by apply Array.mem_toList_iff.1; repeat (first | exact List.Mem.head _ | apply List.Mem.tail))
        have e43 : aa.tmps.getD 43 undef = .int .i64 er := hr 43 (by decide) (by apply Array.mem_toList_iff.1; repeat (first | exact List.Mem.head _ | apply List.Mem.tail))
        have em : (er == er) = true := by simp
        rw [Array.getD_eq_getD_getElem?] at e36
        rw [Array.getD_eq_getD_getElem?] at e43
        unfold Oper.wp
        simp only [execOp, Act.eval, Array.getD_eq_getD_getElem?, e36, e43]
        go_simp
        first | exact ⟨_, rfl, rfl, hj.plain (fun h => h) (fun h => h) (fun h => h) (by decide) (by decide)⟩ | exact ⟨_, rfl, hj.plain (fun h => h) (fun h => h) (fun h => h) (by decide) (by decide)⟩
      | 15, ho =>
        cases ho
        intro V aa wx hV hdep hval hj hsm hr
        have e44 : aa.tmps.getD 44 undef = .bool true := hr 44 (by decide) (by apply Array.mem_toList_iff.1; repeat (first | exact List.Mem.head _ | apply List.Mem.tail))
        rw [Array.getD_eq_getD_getElem?] at e44
        unfold Oper.wp
        simp only [execOp, Act.eval, Array.getD_eq_getD_getElem?, e44]
        go_simp
        first | exact ⟨_, rfl, rfl, hj.plain (fun h => h) (fun h => h) (fun h => h) (by decide) (by decide)⟩ | exact ⟨_, rfl, hj.plain (fun h => h) (fun h => h) (fun h => h) (by decide) (by decide)⟩
      | _ + 16, ho => cases ho
    case fin =>
      intro ff V wz hV hj hr
      have elast : ff 4 = .bool true := hr 4 (by decide)
      have HB3 := hide (hj.s2 (by rw [hV 13 _ rfl]; rfl))
      clear hV hr hj
      simp only [putAll, slotsOf, List.filterMap_cons, List.filterMap_nil, List.foldl_cons, List.foldl_nil, Act.put, elast]
      simp only [List.setIfInBounds_toArray, List.set_cons_succ, List.set_cons_zero]
      go_wp2_with fail
      go_ret
      exact ⟨rfl, rl3, l3, HFIN.out, q, p, rq, d, HB3.out⟩
  · obtain ⟨rl3, hrl3⟩ : ∃ z, matchDR rl l yr yc xf xc = z := ⟨_, rfl⟩
    obtain ⟨l3, hl3⟩ : ∃ z, matchDM rl l yr yc xf xc = z := ⟨_, rfl⟩
    obtain ⟨er, her⟩ : ∃ z, matchDE rl l yr yc xf xc = z := ⟨_, rfl⟩
    have HFIN := hide (show Fine rl3 l3 ∧ rl3.length ≤ n + 1 ∧ l3.length ≤ n + 1 from by
      rw [← hrl3, ← hl3]
      unfold matchDR matchDM
      split
      · exact ⟨⟨setG_ok HFI.out.ok, take_uq HFI.out.uq _, take_may' HFI.out.may _⟩, by rw [setG_len]; have := HLL.out.1; omega, by rw [Po.takeL_len]; have := HLL.out.2; omega⟩
      · exact ⟨HFI.out, by have := HLL.out.1; omega, by have := HLL.out.2; omega⟩)
    have CQ : Hid (∀ wx, BXP W X #[.int .u8 kd, .string xk, .int .i64 xf, .int .i64 xt, .int .i64 xc, .int .i64 xg, .int .i64 xv, .int .i64 xz, .bool xb, .string yk, .int .i64 yr, .int .i64 yc, .int .i64 yp, .int .i64 yt, .int .i64 yq, .bool yd, .int .i64 yf, .int .i64 ys] Y q p rq d rl l rl l wx → Calls Try.prog 30 #[.pointer (some ⟨p, 0, none⟩), .pointer (some ⟨q, 0, none⟩), .int .i64 yr, .int .i64 yc, .int .i64 xf, .int .i64 xc] wx fun e w' => e = .returned (.int .i64 er) ∧ BXP W X #[.int .u8 kd, .string xk, .int .i64 xf, .int .i64 xt, .int .i64 xc, .int .i64 xg, .int .i64 xv, .int .i64 xz, .bool xb, .string yk, .int .i64 yr, .int .i64 yc, .int .i64 yp, .int .i64 yt, .int .i64 yq, .bool yd, .int .i64 yf, .int .i64 ys] Y q p rq d rl3 l3 rl l w') := hide (fun wx ⟨L, K, A, Aq, hx⟩ => by
      have h := matchG_c hx.pq HFI.out (by have := HLL.out.1; have := HNN.out; omega) (by have := HLL.out.2; have := HNN.out; omega) yr yc xf xc
      exact h.mono fun e w' hh => ⟨by rw [← her]; exact hh.1, hx.goP (by rw [← hl3]; exact hh.2) (by rw [hrl3])⟩)
    have CR : Hid (∀ wx, BXP W X #[.int .u8 kd, .string xk, .int .i64 xf, .int .i64 xt, .int .i64 xc, .int .i64 xg, .int .i64 xv, .int .i64 xz, .bool xb, .string yk, .int .i64 yr, .int .i64 yc, .int .i64 yp, .int .i64 yt, .int .i64 yq, .bool yd, .int .i64 yf, .int .i64 ys] Y q p rq d rl3 l3 rl l wx → Calls Try.prog 41 #[.pointer (some ⟨d, 0, none⟩), .pointer (some ⟨rq, 0, none⟩), .int .i64 yr, .int .i64 yc, .int .i64 xf, .int .i64 xc] wx fun e w' => e = .returned (.int .i64 er) ∧ BXP W X #[.int .u8 kd, .string xk, .int .i64 xf, .int .i64 xt, .int .i64 xc, .int .i64 xg, .int .i64 xv, .int .i64 xz, .bool xb, .string yk, .int .i64 yr, .int .i64 yc, .int .i64 yp, .int .i64 yt, .int .i64 yq, .bool yd, .int .i64 yf, .int .i64 ys] Y q p rq d rl3 l3 rl3 l3 w') := hide (fun wx ⟨L, K, A, Aq, hx⟩ => by
      have h := match_d LS hx.ds HFI.out.ok HFI.out.uq HFI.out.may (by have := HLL.out.1; have := HNN.out; omega) (by have := HLL.out.2; have := HNN.out; omega) yr yc xf xc
      exact h.mono fun e w' hh => ⟨by rw [← her]; exact hh.1, hx.goD (by rw [← hrl3, ← hl3]; exact hh.2)⟩)
    have HJ0 := hide (show JS 20 41 (fun w2 => BXP W X #[.int .u8 kd, .string xk, .int .i64 xf, .int .i64 xt, .int .i64 xc, .int .i64 xg, .int .i64 xv, .int .i64 xz, .bool xb, .string yk, .int .i64 yr, .int .i64 yc, .int .i64 yp, .int .i64 yt, .int .i64 yq, .bool yd, .int .i64 yf, .int .i64 ys] Y q p rq d rl l rl l w2) (fun w2 => BXP W X #[.int .u8 kd, .string xk, .int .i64 xf, .int .i64 xt, .int .i64 xc, .int .i64 xg, .int .i64 xv, .int .i64 xz, .bool xb, .string yk, .int .i64 yr, .int .i64 yc, .int .i64 yp, .int .i64 yt, .int .i64 yq, .bool yd, .int .i64 yf, .int .i64 ys] Y q p rq d rl3 l3 rl l w2) (fun w2 => BXP W X #[.int .u8 kd, .string xk, .int .i64 xf, .int .i64 xt, .int .i64 xc, .int .i64 xg, .int .i64 xv, .int .i64 xz, .bool xb, .string yk, .int .i64 yr, .int .i64 yc, .int .i64 yp, .int .i64 yt, .int .i64 yq, .bool yd, .int .i64 yf, .int .i64 ys] Y q p rq d rl3 l3 rl3 l3 w2) (fun _ => none) w1.drew from ⟨fun h => (by cases h), fun _ => HBX.out.below (Below.refl _ _).drew, fun h => (by cases h), fun h => (by cases h)⟩)
    clear hrl3 hl3 her
    go_upto_region 8 with (fail)
    clear c0
    let R : Nat → Value → World → Prop := fun sl u w1 => match sl with
      | 4 => u = .bool true
      | 47 => u = .pointer (some ⟨Y, 0, none⟩)
      | 48 => u = .pointer (some ⟨Y, 0, none⟩)
      | 49 => u = .pointer (some ⟨Y, 1, none⟩)
      | 50 => u = .pointer (some ⟨p, 0, none⟩)
      | 51 => u = .pointer (some ⟨Y, 0, none⟩)
      | 52 => u = .pointer (some ⟨Y, 0, none⟩)
      | 53 => u = .pointer (some ⟨Y, 0, none⟩)
      | 54 => u = .pointer (some ⟨q, 0, none⟩)
      | 55 => u = .pointer (some ⟨X, 9, none⟩)
      | 56 => u = .pointer (some ⟨X, 10, none⟩)
      | 57 => u = .int .i64 yr
      | 58 => u = .pointer (some ⟨X, 9, none⟩)
      | 59 => u = .pointer (some ⟨X, 11, none⟩)
      | 60 => u = .int .i64 yc
      | 61 => u = .pointer (some ⟨X, 1, none⟩)
      | 62 => u = .pointer (some ⟨X, 2, none⟩)
      | 63 => u = .int .i64 xf
      | 64 => u = .pointer (some ⟨X, 1, none⟩)
      | 65 => u = .pointer (some ⟨X, 4, none⟩)
      | 66 => u = .int .i64 xc
      | 67 => u = .int .i64 er
      | 68 => u = .pointer (some ⟨Y, 0, none⟩)
      | 69 => u = .pointer (some ⟨Y, 0, none⟩)
      | 70 => u = .pointer (some ⟨Y, 3, none⟩)
      | 71 => u = .pointer (some ⟨d, 0, none⟩)
      | 72 => u = .pointer (some ⟨Y, 0, none⟩)
      | 73 => u = .pointer (some ⟨Y, 0, none⟩)
      | 74 => u = .pointer (some ⟨Y, 2, none⟩)
      | 75 => u = .pointer (some ⟨rq, 0, none⟩)
      | 76 => u = .pointer (some ⟨X, 9, none⟩)
      | 77 => u = .pointer (some ⟨X, 10, none⟩)
      | 78 => u = .int .i64 yr
      | 79 => u = .pointer (some ⟨X, 9, none⟩)
      | 80 => u = .pointer (some ⟨X, 11, none⟩)
      | 81 => u = .int .i64 yc
      | 82 => u = .pointer (some ⟨X, 1, none⟩)
      | 83 => u = .pointer (some ⟨X, 2, none⟩)
      | 84 => u = .int .i64 xf
      | 85 => u = .pointer (some ⟨X, 1, none⟩)
      | 86 => u = .pointer (some ⟨X, 4, none⟩)
      | 87 => u = .int .i64 xc
      | 88 => u = .int .i64 er
      | 89 => u = .bool true
      | _ => True
    refine wp_region_relGW [] R (fun _ _ => True) (fun V w1 => JS 20 41 (fun w2 => BXP W X #[.int .u8 kd, .string xk, .int .i64 xf, .int .i64 xt, .int .i64 xc, .int .i64 xg, .int .i64 xv, .int .i64 xz, .bool xb, .string yk, .int .i64 yr, .int .i64 yc, .int .i64 yp, .int .i64 yt, .int .i64 yq, .bool yd, .int .i64 yf, .int .i64 ys] Y q p rq d rl l rl l w2) (fun w2 => BXP W X #[.int .u8 kd, .string xk, .int .i64 xf, .int .i64 xt, .int .i64 xc, .int .i64 xg, .int .i64 xv, .int .i64 xz, .bool xb, .string yk, .int .i64 yr, .int .i64 yc, .int .i64 yp, .int .i64 yt, .int .i64 yq, .bool yd, .int .i64 yf, .int .i64 ys] Y q p rq d rl3 l3 rl l w2) (fun w2 => BXP W X #[.int .u8 kd, .string xk, .int .i64 xf, .int .i64 xt, .int .i64 xc, .int .i64 xg, .int .i64 xv, .int .i64 xz, .bool xb, .string yk, .int .i64 yr, .int .i64 yc, .int .i64 yp, .int .i64 yt, .int .i64 yq, .bool yd, .int .i64 yf, .int .i64 ys] Y q p rq d rl3 l3 rl3 l3 w2) V w1) (by kernel_rfl) (by kernel_rfl) (by kernel_rfl) (by kernel_rfl) ?mono (fun _ => trivial) HJ0.out ?gs ?step ?fin
    case mono =>
      intro sl u wx wy h hk
      match sl with
      | 0 | 1 | 2 | 3 | 4 | 5 | 6 | 7 | 8 | 9 | 10 | 11 | 12 | 13 | 14 | 15 | 16 | 17 | 18 | 19 | 20 | 21 | 22 | 23 | 24 | 25 | 26 | 27 | 28 | 29 | 30 | 31 | 32 | 33 | 34 | 35 | 36 | 37 | 38 | 39 | 40 | 41 | 42 | 43 | 44 | 45 | 46 | 47 | 48 | 49 | 50 | 51 | 52 | 53 | 54 | 55 | 56 | 57 | 58 | 59 | 60 | 61 | 62 | 63 | 64 | 65 | 66 | 67 | 68 | 69 | 70 | 71 | 72 | 73 | 74 | 75 | 76 | 77 | 78 | 79 | 80 | 81 | 82 | 83 | 84 | 85 | 86 | 87 | 88 | 89 | _ + 90 => exact h
    case gs =>
      intro p hp u w1 h
      cases hp
    case step =>
      intro j o ho
      match j, ho with
      | 0, ho =>
        cases ho
        intro V aa wx hV hdep hval hj hsm hr
        have e0 : aa.tmps.getD 0 undef = .pointer (some ⟨Y, 0, none⟩) := hsm 0 (by decide)
        rw [Array.getD_eq_getD_getElem?] at e0
        unfold Oper.wp
        simp only [execOp, Act.eval, Array.getD_eq_getD_getElem?, e0]
        go_simp
        first | exact ⟨_, rfl, rfl, hj.plain (fun h => h) (fun h => h) (fun h => h) (by decide) (by decide)⟩ | exact ⟨_, rfl, hj.plain (fun h => h) (fun h => h) (fun h => h) (by decide) (by decide)⟩
      | 1, ho =>
        cases ho
        intro V aa wx hV hdep hval hj hsm hr
        have e47 : aa.tmps.getD 47 undef = .pointer (some ⟨Y, 0, none⟩) := hr 47 (by decide) (by apply Array.mem_toList_iff.1; repeat (first | exact List.Mem.head _ | apply List.Mem.tail))
        rw [Array.getD_eq_getD_getElem?] at e47
        unfold Oper.wp
        simp only [execOp, Act.eval, Array.getD_eq_getD_getElem?, e47]
        go_simp
        first | exact ⟨_, rfl, rfl, hj.plain (fun h => h) (fun h => h) (fun h => h) (by decide) (by decide)⟩ | exact ⟨_, rfl, hj.plain (fun h => h) (fun h => h) (fun h => h) (by decide) (by decide)⟩
      | 2, ho =>
        cases ho
        intro V aa wx hV hdep hval hj hsm hr
        have e48 : aa.tmps.getD 48 undef = .pointer (some ⟨Y, 0, none⟩) := hr 48 (by decide) (by apply Array.mem_toList_iff.1; repeat (first | exact List.Mem.head _ | apply List.Mem.tail))
        rw [Array.getD_eq_getD_getElem?] at e48
        unfold Oper.wp
        simp only [execOp, Act.eval, Array.getD_eq_getD_getElem?, e48]
        go_simp
        first | exact ⟨_, rfl, rfl, hj.plain (fun h => h) (fun h => h) (fun h => h) (by decide) (by decide)⟩ | exact ⟨_, rfl, hj.plain (fun h => h) (fun h => h) (fun h => h) (by decide) (by decide)⟩
      | 3, ho =>
        cases ho
        intro V aa wx hV hdep hval hj hsm hr
        have e49 : aa.tmps.getD 49 undef = .pointer (some ⟨Y, 1, none⟩) := hr 49 (by decide) (by apply Array.mem_toList_iff.1; repeat (first | exact List.Mem.head _ | apply List.Mem.tail))
        obtain ⟨hkx, hky⟩ := hj.get BXP.blks BXP.blks BXP.blks
        have y1 : wx.cell? ⟨Y, 1, none⟩ = some (.pointer (some ⟨p, 0, none⟩)) := hky.cell 1
        clear hkx hky
        rw [Array.getD_eq_getD_getElem?] at e49
        unfold Oper.wp
        simp only [execOp, Act.eval, Array.getD_eq_getD_getElem?, e49]
        go_simp
        first | exact ⟨_, rfl, rfl, hj.plain (fun h => h) (fun h => h) (fun h => h) (by decide) (by decide)⟩ | exact ⟨_, rfl, hj.plain (fun h => h) (fun h => h) (fun h => h) (by decide) (by decide)⟩
      | 4, ho =>
        cases ho
        intro V aa wx hV hdep hval hj hsm hr
        have e0 : aa.tmps.getD 0 undef = .pointer (some ⟨Y, 0, none⟩) := hsm 0 (by decide)
        rw [Array.getD_eq_getD_getElem?] at e0
        unfold Oper.wp
        simp only [execOp, Act.eval, Array.getD_eq_getD_getElem?, e0]
        go_simp
        first | exact ⟨_, rfl, rfl, hj.plain (fun h => h) (fun h => h) (fun h => h) (by decide) (by decide)⟩ | exact ⟨_, rfl, hj.plain (fun h => h) (fun h => h) (fun h => h) (by decide) (by decide)⟩
      | 5, ho =>
        cases ho
        intro V aa wx hV hdep hval hj hsm hr
        have e51 : aa.tmps.getD 51 undef = .pointer (some ⟨Y, 0, none⟩) := hr 51 (by decide) (by apply Array.mem_toList_iff.1; repeat (first | exact List.Mem.head _ | apply List.Mem.tail))
        rw [Array.getD_eq_getD_getElem?] at e51
        unfold Oper.wp
        simp only [execOp, Act.eval, Array.getD_eq_getD_getElem?, e51]
        go_simp
        first | exact ⟨_, rfl, rfl, hj.plain (fun h => h) (fun h => h) (fun h => h) (by decide) (by decide)⟩ | exact ⟨_, rfl, hj.plain (fun h => h) (fun h => h) (fun h => h) (by decide) (by decide)⟩
      | 6, ho =>
        cases ho
        intro V aa wx hV hdep hval hj hsm hr
        have e52 : aa.tmps.getD 52 undef = .pointer (some ⟨Y, 0, none⟩) := hr 52 (by decide) (by apply Array.mem_toList_iff.1; repeat (first | exact List.Mem.head _ | apply List.Mem.tail))
        rw [Array.getD_eq_getD_getElem?] at e52
        unfold Oper.wp
        simp only [execOp, Act.eval, Array.getD_eq_getD_getElem?, e52]
        go_simp
        first | exact ⟨_, rfl, rfl, hj.plain (fun h => h) (fun h => h) (fun h => h) (by decide) (by decide)⟩ | exact ⟨_, rfl, hj.plain (fun h => h) (fun h => h) (fun h => h) (by decide) (by decide)⟩
      | 7, ho =>
        cases ho
        intro V aa wx hV hdep hval hj hsm hr
        have e53 : aa.tmps.getD 53 undef = .pointer (some ⟨Y, 0, none⟩) := hr 53 (by decide) (by apply Array.mem_toList_iff.1; repeat (first | exact List.Mem.head _ | apply List.Mem.tail))
        obtain ⟨hkx, hky⟩ := hj.get BXP.blks BXP.blks BXP.blks
        have y0 : wx.cell? ⟨Y, 0, none⟩ = some (.pointer (some ⟨q, 0, none⟩)) := hky.cell 0
        clear hkx hky
        rw [Array.getD_eq_getD_getElem?] at e53
        unfold Oper.wp
        simp only [execOp, Act.eval, Array.getD_eq_getD_getElem?, e53]
        go_simp
        first | exact ⟨_, rfl, rfl, hj.plain (fun h => h) (fun h => h) (fun h => h) (by decide) (by decide)⟩ | exact ⟨_, rfl, hj.plain (fun h => h) (fun h => h) (fun h => h) (by decide) (by decide)⟩
      | 8, ho =>
        cases ho
        intro V aa wx hV hdep hval hj hsm hr
        have e3 : aa.tmps.getD 3 undef = .pointer (some ⟨X, 0, none⟩) := hsm 3 (by decide)
        rw [Array.getD_eq_getD_getElem?] at e3
        unfold Oper.wp
        simp only [execOp, Act.eval, Array.getD_eq_getD_getElem?, e3]
        go_simp
        first | exact ⟨_, rfl, rfl, hj.plain (fun h => h) (fun h => h) (fun h => h) (by decide) (by decide)⟩ | exact ⟨_, rfl, hj.plain (fun h => h) (fun h => h) (fun h => h) (by decide) (by decide)⟩
      | 9, ho =>
        cases ho
        intro V aa wx hV hdep hval hj hsm hr
        have e55 : aa.tmps.getD 55 undef = .pointer (some ⟨X, 9, none⟩) := hr 55 (by decide) (by apply Array.mem_toList_iff.1; repeat (first | exact List.Mem.head _ | apply List.Mem.tail))
        rw [Array.getD_eq_getD_getElem?] at e55
        unfold Oper.wp
        simp only [execOp, Act.eval, Array.getD_eq_getD_getElem?, e55]
        go_simp
        first | exact ⟨_, rfl, rfl, hj.plain (fun h => h) (fun h => h) (fun h => h) (by decide) (by decide)⟩ | exact ⟨_, rfl, hj.plain (fun h => h) (fun h => h) (fun h => h) (by decide) (by decide)⟩
      | 10, ho =>
        cases ho
        intro V aa wx hV hdep hval hj hsm hr
        have e56 : aa.tmps.getD 56 undef = .pointer (some ⟨X, 10, none⟩) := hr 56 (by decide) (by apply Array.mem_toList_iff.1; repeat (first | exact List.Mem.head _ | apply List.Mem.tail))
        obtain ⟨hkx, hky⟩ := hj.get BXP.blks BXP.blks BXP.blks
        have x10 : wx.cell? ⟨X, 10, none⟩ = some (.int .i64 yr) := hkx.cell 10
        clear hkx hky
        rw [Array.getD_eq_getD_getElem?] at e56
        unfold Oper.wp
        simp only [execOp, Act.eval, Array.getD_eq_getD_getElem?, e56]
        go_simp
        first | exact ⟨_, rfl, rfl, hj.plain (fun h => h) (fun h => h) (fun h => h) (by decide) (by decide)⟩ | exact ⟨_, rfl, hj.plain (fun h => h) (fun h => h) (fun h => h) (by decide) (by decide)⟩
      | 11, ho =>
        cases ho
        intro V aa wx hV hdep hval hj hsm hr
        have e3 : aa.tmps.getD 3 undef = .pointer (some ⟨X, 0, none⟩) := hsm 3 (by decide)
        rw [Array.getD_eq_getD_getElem?] at e3
        unfold Oper.wp
        simp only [execOp, Act.eval, Array.getD_eq_getD_getElem?, e3]
        go_simp
        first | exact ⟨_, rfl, rfl, hj.plain (fun h => h) (fun h => h) (fun h => h) (by decide) (by decide)⟩ | exact ⟨_, rfl, hj.plain (fun h => h) (fun h => h) (fun h => h) (by decide) (by decide)⟩
      | 12, ho =>
        cases ho
        intro V aa wx hV hdep hval hj hsm hr
        have e58 : aa.tmps.getD 58 undef = .pointer (some ⟨X, 9, none⟩) := hr 58 (by decide) (by apply Array.mem_toList_iff.1; repeat (first | exact List.Mem.head _ | apply List.Mem.tail))
        rw [Array.getD_eq_getD_getElem?] at e58
        unfold Oper.wp
        simp only [execOp, Act.eval, Array.getD_eq_getD_getElem?, e58]
        go_simp
        first | exact ⟨_, rfl, rfl, hj.plain (fun h => h) (fun h => h) (fun h => h) (by decide) (by decide)⟩ | exact ⟨_, rfl, hj.plain (fun h => h) (fun h => h) (fun h => h) (by decide) (by decide)⟩
      | 13, ho =>
        cases ho
        intro V aa wx hV hdep hval hj hsm hr
        have e59 : aa.tmps.getD 59 undef = .pointer (some ⟨X, 11, none⟩) := hr 59 (by decide) (by apply Array.mem_toList_iff.1; repeat (first | exact List.Mem.head _ | apply List.Mem.tail))
        obtain ⟨hkx, hky⟩ := hj.get BXP.blks BXP.blks BXP.blks
        have x11 : wx.cell? ⟨X, 11, none⟩ = some (.int .i64 yc) := hkx.cell 11
        clear hkx hky
        rw [Array.getD_eq_getD_getElem?] at e59
        unfold Oper.wp
        simp only [execOp, Act.eval, Array.getD_eq_getD_getElem?, e59]
        go_simp
        first | exact ⟨_, rfl, rfl, hj.plain (fun h => h) (fun h => h) (fun h => h) (by decide) (by decide)⟩ | exact ⟨_, rfl, hj.plain (fun h => h) (fun h => h) (fun h => h) (by decide) (by decide)⟩
      | 14, ho =>
        cases ho
        intro V aa wx hV hdep hval hj hsm hr
        have e3 : aa.tmps.getD 3 undef = .pointer (some ⟨X, 0, none⟩) := hsm 3 (by decide)
        rw [Array.getD_eq_getD_getElem?] at e3
        unfold Oper.wp
        simp only [execOp, Act.eval, Array.getD_eq_getD_getElem?, e3]
        go_simp
        first | exact ⟨_, rfl, rfl, hj.plain (fun h => h) (fun h => h) (fun h => h) (by decide) (by decide)⟩ | exact ⟨_, rfl, hj.plain (fun h => h) (fun h => h) (fun h => h) (by decide) (by decide)⟩
      | 15, ho =>
        cases ho
        intro V aa wx hV hdep hval hj hsm hr
        have e61 : aa.tmps.getD 61 undef = .pointer (some ⟨X, 1, none⟩) := hr 61 (by decide) (by apply Array.mem_toList_iff.1; repeat (first | exact List.Mem.head _ | apply List.Mem.tail))
        rw [Array.getD_eq_getD_getElem?] at e61
        unfold Oper.wp
        simp only [execOp, Act.eval, Array.getD_eq_getD_getElem?, e61]
        go_simp
        first | exact ⟨_, rfl, rfl, hj.plain (fun h => h) (fun h => h) (fun h => h) (by decide) (by decide)⟩ | exact ⟨_, rfl, hj.plain (fun h => h) (fun h => h) (fun h => h) (by decide) (by decide)⟩
      | 16, ho =>
        cases ho
        intro V aa wx hV hdep hval hj hsm hr
        have e62 : aa.tmps.getD 62 undef = .pointer (some ⟨X, 2, none⟩) := hr 62 (by decide) (by apply Array.mem_toList_iff.1; repeat (first | exact List.Mem.head _ | apply List.Mem.tail))
        obtain ⟨hkx, hky⟩ := hj.get BXP.blks BXP.blks BXP.blks
        have x2 : wx.cell? ⟨X, 2, none⟩ = some (.int .i64 xf) := hkx.cell 2
        clear hkx hky
        rw [Array.getD_eq_getD_getElem?] at e62
        unfold Oper.wp
        simp only [execOp, Act.eval, Array.getD_eq_getD_getElem?, e62]
        go_simp
        first | exact ⟨_, rfl, rfl, hj.plain (fun h => h) (fun h => h) (fun h => h) (by decide) (by decide)⟩ | exact ⟨_, rfl, hj.plain (fun h => h) (fun h => h) (fun h => h) (by decide) (by decide)⟩
      | 17, ho =>
        cases ho
        intro V aa wx hV hdep hval hj hsm hr
        have e3 : aa.tmps.getD 3 undef = .pointer (some ⟨X, 0, none⟩) := hsm 3 (by decide)
        rw [Array.getD_eq_getD_getElem?] at e3
        unfold Oper.wp
        simp only [execOp, Act.eval, Array.getD_eq_getD_getElem?, e3]
        go_simp
        first | exact ⟨_, rfl, rfl, hj.plain (fun h => h) (fun h => h) (fun h => h) (by decide) (by decide)⟩ | exact ⟨_, rfl, hj.plain (fun h => h) (fun h => h) (fun h => h) (by decide) (by decide)⟩
      | 18, ho =>
        cases ho
        intro V aa wx hV hdep hval hj hsm hr
        have e64 : aa.tmps.getD 64 undef = .pointer (some ⟨X, 1, none⟩) := hr 64 (by decide) (by apply Array.mem_toList_iff.1; repeat (first | exact List.Mem.head _ | apply List.Mem.tail))
        rw [Array.getD_eq_getD_getElem?] at e64
        unfold Oper.wp
        simp only [execOp, Act.eval, Array.getD_eq_getD_getElem?, e64]
        go_simp
        first | exact ⟨_, rfl, rfl, hj.plain (fun h => h) (fun h => h) (fun h => h) (by decide) (by decide)⟩ | exact ⟨_, rfl, hj.plain (fun h => h) (fun h => h) (fun h => h) (by decide) (by decide)⟩
      | 19, ho =>
        cases ho
        intro V aa wx hV hdep hval hj hsm hr
        have e65 : aa.tmps.getD 65 undef = .pointer (some ⟨X, 4, none⟩) := hr 65 (by decide) (by apply Array.mem_toList_iff.1; repeat (first | exact List.Mem.head _ | apply List.Mem.tail))
        obtain ⟨hkx, hky⟩ := hj.get BXP.blks BXP.blks BXP.blks
        have x4 : wx.cell? ⟨X, 4, none⟩ = some (.int .i64 xc) := hkx.cell 4
        clear hkx hky
        rw [Array.getD_eq_getD_getElem?] at e65
        unfold Oper.wp
        simp only [execOp, Act.eval, Array.getD_eq_getD_getElem?, e65]
        go_simp
        first | exact ⟨_, rfl, rfl, hj.plain (fun h => h) (fun h => h) (fun h => h) (by decide) (by decide)⟩ | exact ⟨_, rfl, hj.plain (fun h => h) (fun h => h) (fun h => h) (by decide) (by decide)⟩
      | 20, ho =>
        cases ho
        intro V aa wx hV hdep hval hj hsm hr
        have e50 : aa.tmps.getD 50 undef = .pointer (some ⟨p, 0, none⟩) := hr 50 (by decide) (by apply Array.mem_toList_iff.1; repeat (first | exact List.Mem.head _ | apply List.Mem.tail))
        have e54 : aa.tmps.getD 54 undef = .pointer (some ⟨q, 0, none⟩) := hr 54 (by decide) (by apply Array.mem_toList_iff.1; repeat (first | exact List.Mem.head _ | apply List.Mem.tail))
        have e57 : aa.tmps.getD 57 undef = .int .i64 yr := hr 57 (by decide) (by apply Array.mem_toList_iff.1; repeat (first | exact List.Mem.head _ | apply List.Mem.tail))
        have e60 : aa.tmps.getD 60 undef = .int .i64 yc := hr 60 (by decide) (by apply Array.mem_toList_iff.1; repeat (first | exact List.Mem.head _ | apply List.Mem.tail))
        have e63 : aa.tmps.getD 63 undef = .int .i64 xf := hr 63 (by decide) (by apply Array.mem_toList_iff.1; repeat (first | exact List.Mem.head _ | apply List.Mem.tail))
        have e66 : aa.tmps.getD 66 undef = .int .i64 xc := hr 66 (by decide) (by apply Array.mem_toList_iff.1; repeat (first | exact List.Mem.head _ | apply List.Mem.tail))
        rw [Array.getD_eq_getD_getElem?] at e50
        rw [Array.getD_eq_getD_getElem?] at e54
        rw [Array.getD_eq_getD_getElem?] at e57
        rw [Array.getD_eq_getD_getElem?] at e60
        rw [Array.getD_eq_getD_getElem?] at e63
        rw [Array.getD_eq_getD_getElem?] at e66
        unfold Oper.wp
        simp only [execOp, Act.eval, Array.getD_eq_getD_getElem?, e50, e54, e57, e60, e63, e66]
        go_simp
        refine (CQ.out wx (hj.s0 hV)).mono ?_
        rintro e w' ⟨rfl, hs⟩
        exact ⟨_, rfl, rfl, hj.first hV (by decide) hs⟩
      | 21, ho =>
        cases ho
        intro V aa wx hV hdep hval hj hsm hr
        have e0 : aa.tmps.getD 0 undef = .pointer (some ⟨Y, 0, none⟩) := hsm 0 (by decide)
        rw [Array.getD_eq_getD_getElem?] at e0
        unfold Oper.wp
        simp only [execOp, Act.eval, Array.getD_eq_getD_getElem?, e0]
        go_simp
        first | exact ⟨_, rfl, rfl, hj.plain (fun h => h) (fun h => h) (fun h => h) (by decide) (by decide)⟩ | exact ⟨_, rfl, hj.plain (fun h => h) (fun h => h) (fun h => h) (by decide) (by decide)⟩
      | 22, ho =>
        cases ho
        intro V aa wx hV hdep hval hj hsm hr
        have e68 : aa.tmps.getD 68 undef = .pointer (some ⟨Y, 0, none⟩) := hr 68 (by decide) (by apply Array.mem_toList_iff.1; repeat (first | exact List.Mem.head _ | apply List.Mem.tail))
        rw [Array.getD_eq_getD_getElem?] at e68
        unfold Oper.wp
        simp only [execOp, Act.eval, Array.getD_eq_getD_getElem?, e68]
        go_simp
        first | exact ⟨_, rfl, rfl, hj.plain (fun h => h) (fun h => h) (fun h => h) (by decide) (by decide)⟩ | exact ⟨_, rfl, hj.plain (fun h => h) (fun h => h) (fun h => h) (by decide) (by decide)⟩
      | 23, ho =>
        cases ho
        intro V aa wx hV hdep hval hj hsm hr
        have e69 : aa.tmps.getD 69 undef = .pointer (some ⟨Y, 0, none⟩) := hr 69 (by decide) (by apply Array.mem_toList_iff.1; repeat (first | exact List.Mem.head _ | apply List.Mem.tail))
        rw [Array.getD_eq_getD_getElem?] at e69
        unfold Oper.wp
        simp only [execOp, Act.eval, Array.getD_eq_getD_getElem?, e69]
        go_simp
        first | exact ⟨_, rfl, rfl, hj.plain (fun h => h) (fun h => h) (fun h => h) (by decide) (by decide)⟩ | exact ⟨_, rfl, hj.plain (fun h => h) (fun h => h) (fun h => h) (by decide) (by decide)⟩
      | 24, ho =>
        cases ho
        intro V aa wx hV hdep hval hj hsm hr
        have e70 : aa.tmps.getD 70 undef = .pointer (some ⟨Y, 3, none⟩) := hr 70 (by decide) (by apply Array.mem_toList_iff.1; repeat (first | exact List.Mem.head _ | apply List.Mem.tail))
        obtain ⟨hkx, hky⟩ := hj.get BXP.blks BXP.blks BXP.blks
        have y3 : wx.cell? ⟨Y, 3, none⟩ = some (.pointer (some ⟨d, 0, none⟩)) := hky.cell 3
        clear hkx hky
        rw [Array.getD_eq_getD_getElem?] at e70
        unfold Oper.wp
        simp only [execOp, Act.eval, Array.getD_eq_getD_getElem?, e70]
        go_simp
        first | exact ⟨_, rfl, rfl, hj.plain (fun h => h) (fun h => h) (fun h => h) (by decide) (by decide)⟩ | exact ⟨_, rfl, hj.plain (fun h => h) (fun h => h) (fun h => h) (by decide) (by decide)⟩
      | 25, ho =>
        cases ho
        intro V aa wx hV hdep hval hj hsm hr
        have e0 : aa.tmps.getD 0 undef = .pointer (some ⟨Y, 0, none⟩) := hsm 0 (by decide)
        rw [Array.getD_eq_getD_getElem?] at e0
        unfold Oper.wp
        simp only [execOp, Act.eval, Array.getD_eq_getD_getElem?, e0]
        go_simp
        first | exact ⟨_, rfl, rfl, hj.plain (fun h => h) (fun h => h) (fun h => h) (by decide) (by decide)⟩ | exact ⟨_, rfl, hj.plain (fun h => h) (fun h => h) (fun h => h) (by decide) (by decide)⟩
      | 26, ho =>
        cases ho
        intro V aa wx hV hdep hval hj hsm hr
        have e72 : aa.tmps.getD 72 undef = .pointer (some ⟨Y, 0, none⟩) := hr 72 (by decide) (by apply Array.mem_toList_iff.1; repeat (first | exact List.Mem.head _ | apply List.Mem.tail))
        rw [Array.getD_eq_getD_getElem?] at e72
        unfold Oper.wp
        simp only [execOp, Act.eval, Array.getD_eq_getD_getElem?, e72]
        go_simp
        first | exact ⟨_, rfl, rfl, hj.plain (fun h => h) (fun h => h) (fun h => h) (by decide) (by decide)⟩ | exact ⟨_, rfl, hj.plain (fun h => h) (fun h => h) (fun h => h) (by decide) (by decide)⟩
      | 27, ho =>
        cases ho
        intro V aa wx hV hdep hval hj hsm hr
        have e73 : aa.tmps.getD 73 undef = .pointer (some ⟨Y, 0, none⟩) := hr 73 (by decide) (by apply Array.mem_toList_iff.1; repeat (first | exact List.Mem.head _ | apply List.Mem.tail))
        rw [Array.getD_eq_getD_getElem?] at e73
        unfold Oper.wp
        simp only [execOp, Act.eval, Array.getD_eq_getD_getElem?, e73]
        go_simp
        first | exact ⟨_, rfl, rfl, hj.plain (fun h => h) (fun h => h) (fun h => h) (by decide) (by decide)⟩ | exact ⟨_, rfl, hj.plain (fun h => h) (fun h => h) (fun h => h) (by decide) (by decide)⟩
      | 28, ho =>
        cases ho
        intro V aa wx hV hdep hval hj hsm hr
        have e74 : aa.tmps.getD 74 undef = .pointer (some ⟨Y, 2, none⟩) := hr 74 (by decide) (by apply Array.mem_toList_iff.1; repeat (first | exact List.Mem.head _ | apply List.Mem.tail))
        obtain ⟨hkx, hky⟩ := hj.get BXP.blks BXP.blks BXP.blks
        have y2 : wx.cell? ⟨Y, 2, none⟩ = some (.pointer (some ⟨rq, 0, none⟩)) := hky.cell 2
        clear hkx hky
        rw [Array.getD_eq_getD_getElem?] at e74
        unfold Oper.wp
        simp only [execOp, Act.eval, Array.getD_eq_getD_getElem?, e74]
        go_simp
        first | exact ⟨_, rfl, rfl, hj.plain (fun h => h) (fun h => h) (fun h => h) (by decide) (by decide)⟩ | exact ⟨_, rfl, hj.plain (fun h => h) (fun h => h) (fun h => h) (by decide) (by decide)⟩
      | 29, ho =>
        cases ho
        intro V aa wx hV hdep hval hj hsm hr
        have e3 : aa.tmps.getD 3 undef = .pointer (some ⟨X, 0, none⟩) := hsm 3 (by decide)
        rw [Array.getD_eq_getD_getElem?] at e3
        unfold Oper.wp
        simp only [execOp, Act.eval, Array.getD_eq_getD_getElem?, e3]
        go_simp
        first | exact ⟨_, rfl, rfl, hj.plain (fun h => h) (fun h => h) (fun h => h) (by decide) (by decide)⟩ | exact ⟨_, rfl, hj.plain (fun h => h) (fun h => h) (fun h => h) (by decide) (by decide)⟩
      | 30, ho =>
        cases ho
        intro V aa wx hV hdep hval hj hsm hr
        have e76 : aa.tmps.getD 76 undef = .pointer (some ⟨X, 9, none⟩) := hr 76 (by decide) (by apply Array.mem_toList_iff.1; repeat (first | exact List.Mem.head _ | apply List.Mem.tail))
        rw [Array.getD_eq_getD_getElem?] at e76
        unfold Oper.wp
        simp only [execOp, Act.eval, Array.getD_eq_getD_getElem?, e76]
        go_simp
        first | exact ⟨_, rfl, rfl, hj.plain (fun h => h) (fun h => h) (fun h => h) (by decide) (by decide)⟩ | exact ⟨_, rfl, hj.plain (fun h => h) (fun h => h) (fun h => h) (by decide) (by decide)⟩
      | 31, ho =>
        cases ho
        intro V aa wx hV hdep hval hj hsm hr
        have e77 : aa.tmps.getD 77 undef = .pointer (some ⟨X, 10, none⟩) := hr 77 (by decide) (by apply Array.mem_toList_iff.1; repeat (first | exact List.Mem.head _ | apply List.Mem.tail))
        obtain ⟨hkx, hky⟩ := hj.get BXP.blks BXP.blks BXP.blks
        have x10 : wx.cell? ⟨X, 10, none⟩ = some (.int .i64 yr) := hkx.cell 10
        clear hkx hky
        rw [Array.getD_eq_getD_getElem?] at e77
        unfold Oper.wp
        simp only [execOp, Act.eval, Array.getD_eq_getD_getElem?, e77]
        go_simp
        first | exact ⟨_, rfl, rfl, hj.plain (fun h => h) (fun h => h) (fun h => h) (by decide) (by decide)⟩ | exact ⟨_, rfl, hj.plain (fun h => h) (fun h => h) (fun h => h) (by decide) (by decide)⟩
      | 32, ho =>
        cases ho
        intro V aa wx hV hdep hval hj hsm hr
        have e3 : aa.tmps.getD 3 undef = .pointer (some ⟨X, 0, none⟩) := hsm 3 (by decide)
        rw [Array.getD_eq_getD_getElem?] at e3
        unfold Oper.wp
        simp only [execOp, Act.eval, Array.getD_eq_getD_getElem?, e3]
        go_simp
        first | exact ⟨_, rfl, rfl, hj.plain (fun h => h) (fun h => h) (fun h => h) (by decide) (by decide)⟩ | exact ⟨_, rfl, hj.plain (fun h => h) (fun h => h) (fun h => h) (by decide) (by decide)⟩
      | 33, ho =>
        cases ho
        intro V aa wx hV hdep hval hj hsm hr
        have e79 : aa.tmps.getD 79 undef = .pointer (some ⟨X, 9, none⟩) := hr 79 (by decide) (by apply Array.mem_toList_iff.1; repeat (first | exact List.Mem.head _ | apply List.Mem.tail))
        rw [Array.getD_eq_getD_getElem?] at e79
        unfold Oper.wp
        simp only [execOp, Act.eval, Array.getD_eq_getD_getElem?, e79]
        go_simp
        first | exact ⟨_, rfl, rfl, hj.plain (fun h => h) (fun h => h) (fun h => h) (by decide) (by decide)⟩ | exact ⟨_, rfl, hj.plain (fun h => h) (fun h => h) (fun h => h) (by decide) (by decide)⟩
      | 34, ho =>
        cases ho
        intro V aa wx hV hdep hval hj hsm hr
        have e80 : aa.tmps.getD 80 undef = .pointer (some ⟨X, 11, none⟩) := hr 80 (by decide) (by apply Array.mem_toList_iff.1; repeat (first | exact List.Mem.head _ | apply List.Mem.tail))
        obtain ⟨hkx, hky⟩ := hj.get BXP.blks BXP.blks BXP.blks
        have x11 : wx.cell? ⟨X, 11, none⟩ = some (.int .i64 yc) := hkx.cell 11
        clear hkx hky
        rw [Array.getD_eq_getD_getElem?] at e80
        unfold Oper.wp
        simp only [execOp, Act.eval, Array.getD_eq_getD_getElem?, e80]
        go_simp
        first | exact ⟨_, rfl, rfl, hj.plain (fun h => h) (fun h => h) (fun h => h) (by decide) (by decide)⟩ | exact ⟨_, rfl, hj.plain (fun h => h) (fun h => h) (fun h => h) (by decide) (by decide)⟩
      | 35, ho =>
        cases ho
        intro V aa wx hV hdep hval hj hsm hr
        have e3 : aa.tmps.getD 3 undef = .pointer (some ⟨X, 0, none⟩) := hsm 3 (by decide)
        rw [Array.getD_eq_getD_getElem?] at e3
        unfold Oper.wp
        simp only [execOp, Act.eval, Array.getD_eq_getD_getElem?, e3]
        go_simp
        first | exact ⟨_, rfl, rfl, hj.plain (fun h => h) (fun h => h) (fun h => h) (by decide) (by decide)⟩ | exact ⟨_, rfl, hj.plain (fun h => h) (fun h => h) (fun h => h) (by decide) (by decide)⟩
      | 36, ho =>
        cases ho
        intro V aa wx hV hdep hval hj hsm hr
        have e82 : aa.tmps.getD 82 undef = .pointer (some ⟨X, 1, none⟩) := hr 82 (by decide) (by apply Array.mem_toList_iff.1; repeat (first | exact List.Mem.head _ | apply List.Mem.tail))
        rw [Array.getD_eq_getD_getElem?] at e82
        unfold Oper.wp
        simp only [execOp, Act.eval, Array.getD_eq_getD_getElem?, e82]
        go_simp
        first | exact ⟨_, rfl, rfl, hj.plain (fun h => h) (fun h => h) (fun h => h) (by decide) (by decide)⟩ | exact ⟨_, rfl, hj.plain (fun h => h) (fun h => h) (fun h => h) (by decide) (by decide)⟩
      | 37, ho =>
        cases ho
        intro V aa wx hV hdep hval hj hsm hr
        have e83 : aa.tmps.getD 83 undef = .pointer (some ⟨X, 2, none⟩) := hr 83 (by decide) (by apply Array.mem_toList_iff.1; repeat (first | exact List.Mem.head _ | apply List.Mem.tail))
        obtain ⟨hkx, hky⟩ := hj.get BXP.blks BXP.blks BXP.blks
        have x2 : wx.cell? ⟨X, 2, none⟩ = some (.int .i64 xf) := hkx.cell 2
        clear hkx hky
        rw [Array.getD_eq_getD_getElem?] at e83
        unfold Oper.wp
        simp only [execOp, Act.eval, Array.getD_eq_getD_getElem?, e83]
        go_simp
        first | exact ⟨_, rfl, rfl, hj.plain (fun h => h) (fun h => h) (fun h => h) (by decide) (by decide)⟩ | exact ⟨_, rfl, hj.plain (fun h => h) (fun h => h) (fun h => h) (by decide) (by decide)⟩
      | 38, ho =>
        cases ho
        intro V aa wx hV hdep hval hj hsm hr
        have e3 : aa.tmps.getD 3 undef = .pointer (some ⟨X, 0, none⟩) := hsm 3 (by decide)
        rw [Array.getD_eq_getD_getElem?] at e3
        unfold Oper.wp
        simp only [execOp, Act.eval, Array.getD_eq_getD_getElem?, e3]
        go_simp
        first | exact ⟨_, rfl, rfl, hj.plain (fun h => h) (fun h => h) (fun h => h) (by decide) (by decide)⟩ | exact ⟨_, rfl, hj.plain (fun h => h) (fun h => h) (fun h => h) (by decide) (by decide)⟩
      | 39, ho =>
        cases ho
        intro V aa wx hV hdep hval hj hsm hr
        have e85 : aa.tmps.getD 85 undef = .pointer (some ⟨X, 1, none⟩) := hr 85 (by decide) (by apply Array.mem_toList_iff.1; repeat (first | exact List.Mem.head _ | apply List.Mem.tail))
        rw [Array.getD_eq_getD_getElem?] at e85
        unfold Oper.wp
        simp only [execOp, Act.eval, Array.getD_eq_getD_getElem?, e85]
        go_simp
        first | exact ⟨_, rfl, rfl, hj.plain (fun h => h) (fun h => h) (fun h => h) (by decide) (by decide)⟩ | exact ⟨_, rfl, hj.plain (fun h => h) (fun h => h) (fun h => h) (by decide) (by decide)⟩
      | 40, ho =>
        cases ho
        intro V aa wx hV hdep hval hj hsm hr
        have e86 : aa.tmps.getD 86 undef = .pointer (some ⟨X, 4, none⟩) := hr 86 (by decide) (by apply Array.mem_toList_iff.1; repeat (first | exact List.Mem.head _ | apply List.Mem.tail))
        obtain ⟨hkx, hky⟩ := hj.get BXP.blks BXP.blks BXP.blks
        have x4 : wx.cell? ⟨X, 4, none⟩ = some (.int .i64 xc) := hkx.cell 4
        clear hkx hky
        rw [Array.getD_eq_getD_getElem?] at e86
        unfold Oper.wp
        simp only [execOp, Act.eval, Array.getD_eq_getD_getElem?, e86]
        go_simp
        first | exact ⟨_, rfl, rfl, hj.plain (fun h => h) (fun h => h) (fun h => h) (by decide) (by decide)⟩ | exact ⟨_, rfl, hj.plain (fun h => h) (fun h => h) (fun h => h) (by decide) (by decide)⟩
      | 41, ho =>
        cases ho
        intro V aa wx hV hdep hval hj hsm hr
        have e71 : aa.tmps.getD 71 undef = .pointer (some ⟨d, 0, none⟩) := hr 71 (by decide) (by apply Array.mem_toList_iff.1; repeat (first | exact List.Mem.head _ | apply List.Mem.tail))
        have e75 : aa.tmps.getD 75 undef = .pointer (some ⟨rq, 0, none⟩) := hr 75 (by decide) (by apply Array.mem_toList_iff.1; repeat (first | exact List.Mem.head _ | apply List.Mem.tail))
        have e78 : aa.tmps.getD 78 undef = .int .i64 yr := hr 78 (by decide) (by apply Array.mem_toList_iff.1; repeat (first | exact List.Mem.head _ | apply List.Mem.tail))
        have e81 : aa.tmps.getD 81 undef = .int .i64 yc := hr 81 (by decide) (by apply Array.mem_toList_iff.1; repeat (first | exact List.Mem.head _ | apply List.Mem.tail))
        have e84 : aa.tmps.getD 84 undef = .int .i64 xf := hr 84 (by decide) (by apply Array.mem_toList_iff.1; repeat (first | exact List.Mem.head _ | apply List.Mem.tail))
        have e87 : aa.tmps.getD 87 undef = .int .i64 xc := hr 87 (by decide) (by apply Array.mem_toList_iff.1; repeat (first | exact List.Mem.head _ | apply List.Mem.tail))
        rw [Array.getD_eq_getD_getElem?] at e71
        rw [Array.getD_eq_getD_getElem?] at e75
        rw [Array.getD_eq_getD_getElem?] at e78
        rw [Array.getD_eq_getD_getElem?] at e81
        rw [Array.getD_eq_getD_getElem?] at e84
        rw [Array.getD_eq_getD_getElem?] at e87
        unfold Oper.wp
        simp only [execOp, Act.eval, Array.getD_eq_getD_getElem?, e71, e75, e78, e81, e84, e87]
        go_simp
        refine (CR.out wx (hj.s1 (hdep ⟨20, Ground.chain⟩ (by simp) (by decide)) hV)).mono ?_
        rintro e w' ⟨rfl, hs⟩
        exact ⟨_, rfl, rfl, JS.second (hdep ⟨20, Ground.chain⟩ (by simp) (by decide)) (by decide) hs⟩
      | 42, ho =>
        cases ho
        intro V aa wx hV hdep hval hj hsm hr
        have e67 : aa.tmps.getD 67 undef = .int .i64 er := hr 67 (by decide) (by apply Array.mem_toList_iff.1; repeat (first | exact List.Mem.head _ | apply List.Mem.tail))
        have e88 : aa.tmps.getD 88 undef = .int .i64 er := hr 88 (by decide) (by apply Array.mem_toList_iff.1; repeat (first | exact List.Mem.head _ | apply List.Mem.tail))
        have em : (er == er) = true := by simp
        rw [Array.getD_eq_getD_getElem?] at e67
        rw [Array.getD_eq_getD_getElem?] at e88
        unfold Oper.wp
        simp only [execOp, Act.eval, Array.getD_eq_getD_getElem?, e67, e88]
        go_simp
        first | exact ⟨_, rfl, rfl, hj.plain (fun h => h) (fun h => h) (fun h => h) (by decide) (by decide)⟩ | exact ⟨_, rfl, hj.plain (fun h => h) (fun h => h) (fun h => h) (by decide) (by decide)⟩
      | 43, ho =>
        cases ho
        intro V aa wx hV hdep hval hj hsm hr
        have e89 : aa.tmps.getD 89 undef = .bool true := hr 89 (by decide) (by apply Array.mem_toList_iff.1; repeat (first | exact List.Mem.head _ | apply List.Mem.tail))
        rw [Array.getD_eq_getD_getElem?] at e89
        unfold Oper.wp
        simp only [execOp, Act.eval, Array.getD_eq_getD_getElem?, e89]
        go_simp
        first | exact ⟨_, rfl, rfl, hj.plain (fun h => h) (fun h => h) (fun h => h) (by decide) (by decide)⟩ | exact ⟨_, rfl, hj.plain (fun h => h) (fun h => h) (fun h => h) (by decide) (by decide)⟩
      | _ + 44, ho => cases ho
    case fin =>
      intro ff V wz hV hj hr
      have elast : ff 4 = .bool true := hr 4 (by decide)
      have HB3 := hide (hj.s2 (by rw [hV 41 _ rfl]; rfl))
      clear hV hr hj
      simp only [putAll, slotsOf, List.filterMap_cons, List.filterMap_nil, List.foldl_cons, List.foldl_nil, Act.put, elast]
      simp only [List.setIfInBounds_toArray, List.set_cons_succ, List.set_cons_zero]
      go_wp2_with fail
      go_ret
      exact ⟨rfl, rl3, l3, HFIN.out, q, p, rq, d, HB3.out⟩
  · have HFIN := hide (show Fine rl l ∧ rl.length ≤ n + 1 ∧ l.length ≤ n + 1 from ⟨HFI.out, by have := HLL.out.1; omega, by have := HLL.out.2; omega⟩)
    have LQ1 : l.length ≤ 1000 := by have := HLL.out.2; omega
    have LR1 : rl.length ≤ 1000 := by have := HLL.out.1; omega
    obtain ⟨L, K, A, Aq, hS⟩ := HBX.out
    have HS := hide hS
    have y0 : w1.cell? ⟨Y, 0, none⟩ = some (.pointer (some ⟨q, 0, none⟩)) := hS.by_.cell 0
    have y1 : w1.cell? ⟨Y, 1, none⟩ = some (.pointer (some ⟨p, 0, none⟩)) := hS.by_.cell 1
    have CQ := hide (fun m => Copy_c (w := w1.drewN m) (hS.pq.hq.below (below_draws _ _ m)) LQ1)
    have HYX := hide (And.intro hS.bx.lt hS.by_.lt)
    have hxy : X ≠ Y := fun e => by
      have h1 := hS.bx
      have h2 := hS.by_
      rw [e] at h1
      have := h1.symm.trans h2
      injection this with h3
      injection h3 with _ h4
      exact absurd h4 (by decide)
    have HXY := hide hxy
    clear hS hxy
    go_upto_region 9 with (fail)
    clear c0
    go_quiet (fail)
    go_wp2_with fail
    refine (CQ.out _).mono ?_
    rintro e w3 ⟨q2, K2, rfl, hq2, hqf2, hb3⟩
    have hb3' : Below w1.heap.size w1 w3 := (below_draws _ _ _).trans hb3
    have hqf2' : ∀ b ∈ K2.foot q2, w1.heap.size ≤ b := hqf2
    have HQ2 := hide (And.intro hq2 hqf2')
    have HB3 := hide hb3'
    have S3 := hide (HS.out.below hb3')
    have CP := hide (copyP_c S3.out.pq.hp (fun k _ => Nat.le_trans (lsOf_len rl k) LR1))
    clear hq2 hqf2 hqf2' hb3 hb3' CQ y0 y1
    go_wp2_with fail
    refine CP.out.mono ?_
    rintro e w4 ⟨p2, L2, rfl, hp2, hpf2, hb4⟩
    have S4 := S3.out.below hb4
    have hq24 := HQ2.out.1.below hb4
    have hb14 := HB3.out.trans (hb4.mono HB3.out.size)
    have hYl : Y < w1.heap.size := HYX.out.2
    have hXl : X < w1.heap.size := HYX.out.1
    have f0 := S4.by_.frozen 0
    have f1 := S4.by_.frozen 1
    have y0 : w4.cell? ⟨Y, 0, none⟩ = some (.pointer (some ⟨q, 0, none⟩)) := S4.by_.cell 0
    have y1 : w4.cell? ⟨Y, 1, none⟩ = some (.pointer (some ⟨p, 0, none⟩)) := S4.by_.cell 1
    have hch : Ch [Y] w4 ((w4.setCell ⟨Y, 0, none⟩ (.pointer (some ⟨q2, 0, none⟩))).setCell ⟨Y, 1, none⟩ (.pointer (some ⟨p2, 0, none⟩))) := Ch.trans (S := [Y]) (Ch.set_ w4 (p := ⟨Y, 0, none⟩) _ (List.mem_singleton.2 rfl)) (Ch.set_ _ (p := ⟨Y, 1, none⟩) _ (List.mem_singleton.2 rfl))
    have hby : Blk ((w4.setCell ⟨Y, 0, none⟩ (.pointer (some ⟨q2, 0, none⟩))).setCell ⟨Y, 1, none⟩ (.pointer (some ⟨p2, 0, none⟩))) Y 31 #[.pointer (some ⟨q2, 0, none⟩), .pointer (some ⟨p2, 0, none⟩), .pointer (some ⟨rq, 0, none⟩), .pointer (some ⟨d, 0, none⟩)] := (S4.by_.set_ 0 _).set_ 1 _
    have hy1 : (w4.setCell ⟨Y, 0, none⟩ (.pointer (some ⟨q2, 0, none⟩))).cell? ⟨Y, 1, none⟩ = some (.pointer (some ⟨p, 0, none⟩)) := (S4.by_.set_ 0 (.pointer (some ⟨q2, 0, none⟩))).cell 1
    have hf1 := (S4.by_.set_ 0 (.pointer (some ⟨q2, 0, none⟩))).frozen 1
    obtain ⟨w5, hw5⟩ : ∃ z, (w4.setCell ⟨Y, 0, none⟩ (.pointer (some ⟨q2, 0, none⟩))).setCell ⟨Y, 1, none⟩ (.pointer (some ⟨p2, 0, none⟩)) = z := ⟨_, rfl⟩
    rw [hw5] at hch hby
    have hnY : ∀ {S : List Nat}, (∀ b ∈ S, b ≠ Y) → ∀ b ∈ S, ¬ b ∈ [Y] := fun h b hb hm => h b hb (List.mem_singleton.1 hm)
    have HDS5 := hide (show DS w5 d rq A Aq rl l from S4.ds.keep fun b hb => hch.block b (S4.ds.lt b hb) (hnY (fun b hb => (S4.fd b hb).2.1) b hb))
    have HPQ5 := hide (show PQ w5 p q L K (lsOf rl) l from S4.pq.keep' fun b hb => hch.block b (S4.pq.lt b hb) (hnY (fun b hb => (S4.fp b hb).2.1) b hb))
    have HBX5 := hide (show Blk w5 X 37 #[.int .u8 kd, .string xk, .int .i64 xf, .int .i64 xt, .int .i64 xc, .int .i64 xg, .int .i64 xv, .int .i64 xz, .bool xb, .string yk, .int .i64 yr, .int .i64 yc, .int .i64 yp, .int .i64 yt, .int .i64 yq, .bool yd, .int .i64 yf, .int .i64 ys] from (hch.block X S4.bx.lt (fun hm => HXY.out (List.mem_singleton.1 hm))).trans S4.bx)
    have hn2 : PQ w4 p2 q2 L2 K2 (lsOf rl) l := ⟨hp2, hq24, fun b h1 h2 => by have := hpf2 b h1; have := HQ2.out.1.lt b h2; omega⟩
    have hf2 : ∀ b ∈ foot2 p2 q2 L2 K2, w1.heap.size ≤ b := fun b hb => by
      rcases List.mem_append.1 hb with hb | hb
      · exact Nat.le_trans HB3.out.size (hpf2 b hb)
      · exact HQ2.out.2 b hb
    have HN5 := hide (show PQ w5 p2 q2 L2 K2 (lsOf rl) l from hn2.keep' fun b hb => hch.block b (hn2.lt b hb) (fun hm => by rw [List.mem_singleton] at hm; have := hf2 b hb; omega))
    have HF2 := hide hf2
    have HN4 := hide (fun b hb => Nat.lt_of_lt_of_le (hn2.lt b hb) hch.size)
    have HYD := hide (show ¬ Y ∈ df d A ∧ ¬ Y ∈ rf rq Aq from ⟨fun hm => (S4.fd Y (List.mem_append_left _ hm)).2.1 rfl, fun hm => (S4.fd Y (List.mem_append_right _ hm)).2.1 rfl⟩)
    have HBE := hide (show W.Kept w5 from S4.be.ch hch (fun b hb => by rw [List.mem_singleton] at hb; subst hb; exact HYB.out))
    have HOL := hide (show (∀ b ∈ foot2 p q L K, b ≠ X ∧ b ≠ Y ∧ W.far b ∧ b < w1.heap.size) from fun b hb => ⟨(S4.fp b hb).1, (S4.fp b hb).2.1, (S4.fp b hb).2.2, HS.out.pq.lt b hb⟩)
    have HY5 := hide (show Y < w5.heap.size by have := hch.size; have := hb14.size; omega)
    have HBY := hide hby
    have HW5 := hide hw5
    have HW15 := hide (show w1.heap.size ≤ w5.heap.size by have := hch.size; have := hb14.size; omega)
    clear hch hby hw5 hn2 hf2 hq24 hp2 hpf2 hb4 S4 CP hb14 hnY
    go_upto_region 11 with (fail)
    rw [HW5.out]
    clear y0 y1 f0 f1 hy1 hf1
    have HJ0 := hide (show JC w5 Y (.pointer (some ⟨q2, 0, none⟩)) (.pointer (some ⟨p2, 0, none⟩)) (.pointer (some ⟨rq, 0, none⟩)) (.pointer (some ⟨d, 0, none⟩)) (fun _ => none) w5.drew from ⟨Ch.of_below (Below.refl _ _).drew, fun h => (by cases h), fun h => (by cases h), fun h => (by cases h), fun h => (by cases h), HBY.out.below (Below.refl w5.heap.size w5).drew HBY.out.lt⟩)
    let R : Nat → Value → World → Prop := fun sl u w1 => match sl with
      | 108 => u = .pointer (some ⟨Y, 0, none⟩)
      | 109 => u = .pointer (some ⟨Y, 0, none⟩)
      | 110 => u = .pointer (some ⟨Y, 0, none⟩)
      | 111 => u = .pointer (some ⟨Y, 0, none⟩)
      | 112 => u = .pointer (some ⟨Y, 2, none⟩)
      | 113 => u = .pointer (some ⟨rq, 0, none⟩)
      | 114 => ∃ a2 A2, u = .pointer (some ⟨a2, 0, none⟩) ∧ RAt w1 a2 A2 l ∧ ∀ b ∈ rf a2 A2, w5.heap.size ≤ b
      | 115 => u = .pointer (some ⟨Y, 0, none⟩)
      | 116 => u = .pointer (some ⟨Y, 0, none⟩)
      | 117 => u = .pointer (some ⟨Y, 3, none⟩)
      | 118 => u = .pointer (some ⟨d, 0, none⟩)
      | 119 => ∃ d2 A2, u = .pointer (some ⟨d2, 0, none⟩) ∧ DAt w1 d2 A2 rl ∧ ∀ b ∈ df d2 A2, w5.heap.size ≤ b
      | 120 => u = .pointer (some ⟨Y, 0, none⟩)
      | 121 => u = .pointer (some ⟨Y, 2, none⟩)
      | 122 => u = .pointer (some ⟨Y, 0, none⟩)
      | 123 => u = .pointer (some ⟨Y, 3, none⟩)
      | _ => True
    refine wp_region_relGW [] R (fun a b => Ch [Y] a b) (fun V w1 => JC w5 Y (.pointer (some ⟨q2, 0, none⟩)) (.pointer (some ⟨p2, 0, none⟩)) (.pointer (some ⟨rq, 0, none⟩)) (.pointer (some ⟨d, 0, none⟩)) V w1) (by kernel_rfl) (by kernel_rfl) (by kernel_rfl) (by kernel_rfl) ?mono (fun w => Ch.refl _ _) HJ0.out ?gs ?step ?fin
    case mono =>
      intro sl u wx wy h hk
      match sl with
      | 114 =>
        obtain ⟨a2, A2, h1, h2, h3⟩ := h
        exact ⟨a2, A2, h1, h2.ch hk (fun b hb hm => by rw [List.mem_singleton] at hb; have := h3 b hm; have := HY5.out; omega), h3⟩
      | 119 =>
        obtain ⟨a2, A2, h1, h2, h3⟩ := h
        exact ⟨a2, A2, h1, h2.ch hk (fun b hb hm => by rw [List.mem_singleton] at hb; have := h3 b hm; have := HY5.out; omega), h3⟩
      | 0 | 1 | 2 | 3 | 4 | 5 | 6 | 7 | 8 | 9 | 10 | 11 | 12 | 13 | 14 | 15 | 16 | 17 | 18 | 19 | 20 | 21 | 22 | 23 | 24 | 25 | 26 | 27 | 28 | 29 | 30 | 31 | 32 | 33 | 34 | 35 | 36 | 37 | 38 | 39 | 40 | 41 | 42 | 43 | 44 | 45 | 46 | 47 | 48 | 49 | 50 | 51 | 52 | 53 | 54 | 55 | 56 | 57 | 58 | 59 | 60 | 61 | 62 | 63 | 64 | 65 | 66 | 67 | 68 | 69 | 70 | 71 | 72 | 73 | 74 | 75 | 76 | 77 | 78 | 79 | 80 | 81 | 82 | 83 | 84 | 85 | 86 | 87 | 88 | 89 | 90 | 91 | 92 | 93 | 94 | 95 | 96 | 97 | 98 | 99 | 100 | 101 | 102 | 103 | 104 | 105 | 106 | 107 | 108 | 109 | 110 | 111 | 112 | 113 | 115 | 116 | 117 | 118 | 120 | 121 | 122 | 123 | _ + 124 => exact h
    case gs =>
      intro p hp u w1 h
      cases hp
    case step =>
      intro j o ho
      match j, ho with
      | 0, ho =>
        cases ho
        intro V aa wx hV hdep hval hj hsm hr
        have e0 : aa.tmps.getD 0 undef = .pointer (some ⟨Y, 0, none⟩) := hsm 0 (by decide)
        rw [Array.getD_eq_getD_getElem?] at e0
        unfold Oper.wp
        simp only [execOp, Act.eval, Array.getD_eq_getD_getElem?, e0]
        go_simp
        first | exact ⟨_, rfl, rfl, Ch.refl _ _, hj.plain (Below.refl _ _) (by decide) (by decide) (by decide) (by decide)⟩ | exact ⟨_, rfl, Ch.refl _ _, hj.plain (Below.refl _ _) (by decide) (by decide) (by decide) (by decide)⟩
      | 1, ho =>
        cases ho
        intro V aa wx hV hdep hval hj hsm hr
        have e0 : aa.tmps.getD 0 undef = .pointer (some ⟨Y, 0, none⟩) := hsm 0 (by decide)
        rw [Array.getD_eq_getD_getElem?] at e0
        unfold Oper.wp
        simp only [execOp, Act.eval, Array.getD_eq_getD_getElem?, e0]
        go_simp
        first | exact ⟨_, rfl, rfl, Ch.refl _ _, hj.plain (Below.refl _ _) (by decide) (by decide) (by decide) (by decide)⟩ | exact ⟨_, rfl, Ch.refl _ _, hj.plain (Below.refl _ _) (by decide) (by decide) (by decide) (by decide)⟩
      | 2, ho =>
        cases ho
        intro V aa wx hV hdep hval hj hsm hr
        have e0 : aa.tmps.getD 0 undef = .pointer (some ⟨Y, 0, none⟩) := hsm 0 (by decide)
        rw [Array.getD_eq_getD_getElem?] at e0
        unfold Oper.wp
        simp only [execOp, Act.eval, Array.getD_eq_getD_getElem?, e0]
        go_simp
        first | exact ⟨_, rfl, rfl, Ch.refl _ _, hj.plain (Below.refl _ _) (by decide) (by decide) (by decide) (by decide)⟩ | exact ⟨_, rfl, Ch.refl _ _, hj.plain (Below.refl _ _) (by decide) (by decide) (by decide) (by decide)⟩
      | 3, ho =>
        cases ho
        intro V aa wx hV hdep hval hj hsm hr
        have e110 : aa.tmps.getD 110 undef = .pointer (some ⟨Y, 0, none⟩) := hr 110 (by decide) (by apply Array.mem_toList_iff.1; repeat (first | exact List.Mem.head _ | apply List.Mem.tail))
        rw [Array.getD_eq_getD_getElem?] at e110
        unfold Oper.wp
        simp only [execOp, Act.eval, Array.getD_eq_getD_getElem?, e110]
        go_simp
        first | exact ⟨_, rfl, rfl, Ch.refl _ _, hj.plain (Below.refl _ _) (by decide) (by decide) (by decide) (by decide)⟩ | exact ⟨_, rfl, Ch.refl _ _, hj.plain (Below.refl _ _) (by decide) (by decide) (by decide) (by decide)⟩
      | 4, ho =>
        cases ho
        intro V aa wx hV hdep hval hj hsm hr
        have e111 : aa.tmps.getD 111 undef = .pointer (some ⟨Y, 0, none⟩) := hr 111 (by decide) (by apply Array.mem_toList_iff.1; repeat (first | exact List.Mem.head _ | apply List.Mem.tail))
        rw [Array.getD_eq_getD_getElem?] at e111
        unfold Oper.wp
        simp only [execOp, Act.eval, Array.getD_eq_getD_getElem?, e111]
        go_simp
        first | exact ⟨_, rfl, rfl, Ch.refl _ _, hj.plain (Below.refl _ _) (by decide) (by decide) (by decide) (by decide)⟩ | exact ⟨_, rfl, Ch.refl _ _, hj.plain (Below.refl _ _) (by decide) (by decide) (by decide) (by decide)⟩
      | 5, ho =>
        cases ho
        intro V aa wx hV hdep hval hj hsm hr
        have e112 : aa.tmps.getD 112 undef = .pointer (some ⟨Y, 2, none⟩) := hr 112 (by decide) (by apply Array.mem_toList_iff.1; repeat (first | exact List.Mem.head _ | apply List.Mem.tail))
        have c2 := hj.cell2 hV
        rw [Array.getD_eq_getD_getElem?] at e112
        unfold Oper.wp
        simp only [execOp, Act.eval, Array.getD_eq_getD_getElem?, e112]
        go_simp
        first | exact ⟨_, rfl, rfl, Ch.refl _ _, hj.plain (Below.refl _ _) (by decide) (by decide) (by decide) (by decide)⟩ | exact ⟨_, rfl, Ch.refl _ _, hj.plain (Below.refl _ _) (by decide) (by decide) (by decide) (by decide)⟩
      | 6, ho =>
        cases ho
        intro V aa wx hV hdep hval hj hsm hr
        have e113 : aa.tmps.getD 113 undef = .pointer (some ⟨rq, 0, none⟩) := hr 113 (by decide) (by apply Array.mem_toList_iff.1; repeat (first | exact List.Mem.head _ | apply List.Mem.tail))
        rw [Array.getD_eq_getD_getElem?] at e113
        unfold Oper.wp
        simp only [execOp, Act.eval, Array.getD_eq_getD_getElem?, e113]
        go_simp
        refine (CopyR_b (HDS5.out.hq.ch hj.ch (fun b hb hm => by rw [List.mem_singleton] at hb; subst hb; exact HYD.out.2 hm)) LQ1).mono ?_
        rintro e w' ⟨a2, A2, rfl, h1, h2, h3⟩
        exact ⟨_, rfl, ⟨a2, A2, rfl, h1, fun b hb => Nat.le_trans hj.ch.size (h2 b hb)⟩, Ch.of_below h3, hj.first hV (hdep ⟨5, Ground.data⟩ (by simp) (by decide)) h3⟩
      | 7, ho =>
        cases ho
        intro V aa wx hV hdep hval hj hsm hr
        have e0 : aa.tmps.getD 0 undef = .pointer (some ⟨Y, 0, none⟩) := hsm 0 (by decide)
        rw [Array.getD_eq_getD_getElem?] at e0
        unfold Oper.wp
        simp only [execOp, Act.eval, Array.getD_eq_getD_getElem?, e0]
        go_simp
        first | exact ⟨_, rfl, rfl, Ch.refl _ _, hj.plain (Below.refl _ _) (by decide) (by decide) (by decide) (by decide)⟩ | exact ⟨_, rfl, Ch.refl _ _, hj.plain (Below.refl _ _) (by decide) (by decide) (by decide) (by decide)⟩
      | 8, ho =>
        cases ho
        intro V aa wx hV hdep hval hj hsm hr
        have e115 : aa.tmps.getD 115 undef = .pointer (some ⟨Y, 0, none⟩) := hr 115 (by decide) (by apply Array.mem_toList_iff.1; repeat (first | exact List.Mem.head _ | apply List.Mem.tail))
        rw [Array.getD_eq_getD_getElem?] at e115
        unfold Oper.wp
        simp only [execOp, Act.eval, Array.getD_eq_getD_getElem?, e115]
        go_simp
        first | exact ⟨_, rfl, rfl, Ch.refl _ _, hj.plain (Below.refl _ _) (by decide) (by decide) (by decide) (by decide)⟩ | exact ⟨_, rfl, Ch.refl _ _, hj.plain (Below.refl _ _) (by decide) (by decide) (by decide) (by decide)⟩
      | 9, ho =>
        cases ho
        intro V aa wx hV hdep hval hj hsm hr
        have e116 : aa.tmps.getD 116 undef = .pointer (some ⟨Y, 0, none⟩) := hr 116 (by decide) (by apply Array.mem_toList_iff.1; repeat (first | exact List.Mem.head _ | apply List.Mem.tail))
        rw [Array.getD_eq_getD_getElem?] at e116
        unfold Oper.wp
        simp only [execOp, Act.eval, Array.getD_eq_getD_getElem?, e116]
        go_simp
        first | exact ⟨_, rfl, rfl, Ch.refl _ _, hj.plain (Below.refl _ _) (by decide) (by decide) (by decide) (by decide)⟩ | exact ⟨_, rfl, Ch.refl _ _, hj.plain (Below.refl _ _) (by decide) (by decide) (by decide) (by decide)⟩
      | 10, ho =>
        cases ho
        intro V aa wx hV hdep hval hj hsm hr
        have e117 : aa.tmps.getD 117 undef = .pointer (some ⟨Y, 3, none⟩) := hr 117 (by decide) (by apply Array.mem_toList_iff.1; repeat (first | exact List.Mem.head _ | apply List.Mem.tail))
        have c3 := hj.cell3 hV
        rw [Array.getD_eq_getD_getElem?] at e117
        unfold Oper.wp
        simp only [execOp, Act.eval, Array.getD_eq_getD_getElem?, e117]
        go_simp
        first | exact ⟨_, rfl, rfl, Ch.refl _ _, hj.plain (Below.refl _ _) (by decide) (by decide) (by decide) (by decide)⟩ | exact ⟨_, rfl, Ch.refl _ _, hj.plain (Below.refl _ _) (by decide) (by decide) (by decide) (by decide)⟩
      | 11, ho =>
        cases ho
        intro V aa wx hV hdep hval hj hsm hr
        have e118 : aa.tmps.getD 118 undef = .pointer (some ⟨d, 0, none⟩) := hr 118 (by decide) (by apply Array.mem_toList_iff.1; repeat (first | exact List.Mem.head _ | apply List.Mem.tail))
        rw [Array.getD_eq_getD_getElem?] at e118
        unfold Oper.wp
        simp only [execOp, Act.eval, Array.getD_eq_getD_getElem?, e118]
        go_simp
        refine (copy_d (HDS5.out.hd.ch hj.ch (fun b hb hm => by rw [List.mem_singleton] at hb; subst hb; exact HYD.out.1 hm)) LR1).mono ?_
        rintro e w' ⟨d2, A2, rfl, h1, h2, h3⟩
        exact ⟨_, rfl, ⟨d2, A2, rfl, h1, fun b hb => Nat.le_trans hj.ch.size (h2 b hb)⟩, Ch.of_below h3, hj.second hV (hdep ⟨10, Ground.data⟩ (by simp) (by decide)) h3⟩
      | 12, ho =>
        cases ho
        intro V aa wx hV hdep hval hj hsm hr
        have e108 : aa.tmps.getD 108 undef = .pointer (some ⟨Y, 0, none⟩) := hr 108 (by decide) (by apply Array.mem_toList_iff.1; repeat (first | exact List.Mem.head _ | apply List.Mem.tail))
        rw [Array.getD_eq_getD_getElem?] at e108
        unfold Oper.wp
        simp only [execOp, Act.eval, Array.getD_eq_getD_getElem?, e108]
        go_simp
        first | exact ⟨_, rfl, rfl, Ch.refl _ _, hj.plain (Below.refl _ _) (by decide) (by decide) (by decide) (by decide)⟩ | exact ⟨_, rfl, Ch.refl _ _, hj.plain (Below.refl _ _) (by decide) (by decide) (by decide) (by decide)⟩
      | 13, ho =>
        cases ho
        intro V aa wx hV hdep hval hj hsm hr
        have e120 : aa.tmps.getD 120 undef = .pointer (some ⟨Y, 0, none⟩) := hr 120 (by decide) (by apply Array.mem_toList_iff.1; repeat (first | exact List.Mem.head _ | apply List.Mem.tail))
        rw [Array.getD_eq_getD_getElem?] at e120
        unfold Oper.wp
        simp only [execOp, Act.eval, Array.getD_eq_getD_getElem?, e120]
        go_simp
        first | exact ⟨_, rfl, rfl, Ch.refl _ _, hj.plain (Below.refl _ _) (by decide) (by decide) (by decide) (by decide)⟩ | exact ⟨_, rfl, Ch.refl _ _, hj.plain (Below.refl _ _) (by decide) (by decide) (by decide) (by decide)⟩
      | 14, ho =>
        cases ho
        intro V aa wx hV hdep hval hj hsm hr
        have e121 : aa.tmps.getD 121 undef = .pointer (some ⟨Y, 2, none⟩) := hr 121 (by decide) (by apply Array.mem_toList_iff.1; repeat (first | exact List.Mem.head _ | apply List.Mem.tail))
        have r114 := hr 114 (by decide) (by apply Array.mem_toList_iff.1; repeat (first | exact List.Mem.head _ | apply List.Mem.tail))
        obtain ⟨a2, A2, e114, _, _⟩ := r114
        have e114 : aa.tmps.getD 114 undef = .pointer (some ⟨a2, 0, none⟩) := e114
        have h6 := hval 6 _ 114 rfl rfl (hdep ⟨6, Ground.data⟩ (by simp) (by decide))
        rw [show aa.eval (.tmp 114) = .pointer (some ⟨a2, 0, none⟩) from e114] at h6
        rw [Array.getD_eq_getD_getElem?] at e114
        have f2 := hj.bl.frozen 2
        obtain ⟨vv, cc2⟩ : ∃ vv, wx.cell? ⟨Y, 2, none⟩ = some vv := ⟨_, hj.bl.cell 2⟩
        rw [Array.getD_eq_getD_getElem?] at e121
        unfold Oper.wp
        simp only [execOp, Act.eval, Array.getD_eq_getD_getElem?, e121]
        go_simp
        exact ⟨Ch.set_ _ _ List.mem_cons_self, hj.store1 h6⟩
      | 15, ho =>
        cases ho
        intro V aa wx hV hdep hval hj hsm hr
        have e109 : aa.tmps.getD 109 undef = .pointer (some ⟨Y, 0, none⟩) := hr 109 (by decide) (by apply Array.mem_toList_iff.1; repeat (first | exact List.Mem.head _ | apply List.Mem.tail))
        rw [Array.getD_eq_getD_getElem?] at e109
        unfold Oper.wp
        simp only [execOp, Act.eval, Array.getD_eq_getD_getElem?, e109]
        go_simp
        first | exact ⟨_, rfl, rfl, Ch.refl _ _, hj.plain (Below.refl _ _) (by decide) (by decide) (by decide) (by decide)⟩ | exact ⟨_, rfl, Ch.refl _ _, hj.plain (Below.refl _ _) (by decide) (by decide) (by decide) (by decide)⟩
      | 16, ho =>
        cases ho
        intro V aa wx hV hdep hval hj hsm hr
        have e122 : aa.tmps.getD 122 undef = .pointer (some ⟨Y, 0, none⟩) := hr 122 (by decide) (by apply Array.mem_toList_iff.1; repeat (first | exact List.Mem.head _ | apply List.Mem.tail))
        rw [Array.getD_eq_getD_getElem?] at e122
        unfold Oper.wp
        simp only [execOp, Act.eval, Array.getD_eq_getD_getElem?, e122]
        go_simp
        first | exact ⟨_, rfl, rfl, Ch.refl _ _, hj.plain (Below.refl _ _) (by decide) (by decide) (by decide) (by decide)⟩ | exact ⟨_, rfl, Ch.refl _ _, hj.plain (Below.refl _ _) (by decide) (by decide) (by decide) (by decide)⟩
      | 17, ho =>
        cases ho
        intro V aa wx hV hdep hval hj hsm hr
        have e123 : aa.tmps.getD 123 undef = .pointer (some ⟨Y, 3, none⟩) := hr 123 (by decide) (by apply Array.mem_toList_iff.1; repeat (first | exact List.Mem.head _ | apply List.Mem.tail))
        have r119 := hr 119 (by decide) (by apply Array.mem_toList_iff.1; repeat (first | exact List.Mem.head _ | apply List.Mem.tail))
        obtain ⟨a2, A2, e119, _, _⟩ := r119
        have e119 : aa.tmps.getD 119 undef = .pointer (some ⟨a2, 0, none⟩) := e119
        have h6 := hval 11 _ 119 rfl rfl (hdep ⟨11, Ground.data⟩ (by simp) (by decide))
        rw [show aa.eval (.tmp 119) = .pointer (some ⟨a2, 0, none⟩) from e119] at h6
        rw [Array.getD_eq_getD_getElem?] at e119
        have f3 := hj.bl.frozen 3
        obtain ⟨vv, cc3⟩ : ∃ vv, wx.cell? ⟨Y, 3, none⟩ = some vv := ⟨_, hj.bl.cell 3⟩
        rw [Array.getD_eq_getD_getElem?] at e123
        unfold Oper.wp
        simp only [execOp, Act.eval, Array.getD_eq_getD_getElem?, e123]
        go_simp
        exact ⟨Ch.set_ _ _ List.mem_cons_self, hj.store2 h6⟩
      | _ + 18, ho => cases ho
    case fin =>
      intro ff V w9 hV hj hr
      obtain ⟨rq2, A2q, e114, hrq, hrqf⟩ : ∃ a2 A2, ff 114 = .pointer (some ⟨a2, 0, none⟩) ∧ RAt w9 a2 A2 l ∧ ∀ b ∈ rf a2 A2, w5.heap.size ≤ b := hr 114 (by decide)
      obtain ⟨d2, A2d, e119, hd2, hd2f⟩ : ∃ d2 A2, ff 119 = .pointer (some ⟨d2, 0, none⟩) ∧ DAt w9 d2 A2 rl ∧ ∀ b ∈ df d2 A2, w5.heap.size ≤ b := hr 119 (by decide)
      have hby9 := hj.bl
      rw [hV 14 _ rfl, hV 17 _ rfl, hV 6 _ rfl, hV 11 _ rfl] at hby9
      have hby9 : Blk w9 Y 31 #[.pointer (some ⟨q2, 0, none⟩), .pointer (some ⟨p2, 0, none⟩), ff 114, ff 119] := hby9
      rw [e114, e119] at hby9
      have HBY9 := hide hby9
      have CH9 := hide hj.ch
      have HD9 := hide (show DS w9 d2 rq2 A2d A2q rl l from ⟨hd2, hrq, apart_types hd2 hrq⟩)
      have HF9 := hide (show ∀ b ∈ footD d2 rq2 A2d A2q, w5.heap.size ≤ b from fun b hb => by
        rcases List.mem_append.1 hb with hb | hb
        · exact hd2f b hb
        · exact hrqf b hb)
      have HN9 := hide (HN5.out.keep' fun b hb => hj.ch.block b (HN5.out.lt b hb) (fun hm => by rw [List.mem_singleton] at hm; have := HF2.out b hb; omega))
      have HPQ9 := hide (HPQ5.out.keep' fun b hb => hj.ch.block b (HPQ5.out.lt b hb) (fun hm => (HOL.out b hb).2.1 (List.mem_singleton.1 hm)))
      have HBX9 := hide ((hj.ch.block X HBX5.out.lt (fun hm => HXY.out (List.mem_singleton.1 hm))).trans HBX5.out)
      have HBE9 := hide (HBE.out.ch hj.ch (fun b hb => by rw [List.mem_singleton] at hb; subst hb; exact HYB.out))
      clear hV hr hby9 hrq hd2 hrqf hd2f hj
      simp only [putAll, slotsOf, List.filterMap_cons, List.filterMap_nil, List.foldl_cons, List.foldl_nil, Act.put]
      simp only [List.setIfInBounds_toArray, List.set_cons_succ, List.set_cons_zero]
      have TC := hide (Take_c HPQ9.out.hq ⟨xf, xc⟩ LQ1)
      have x2 : w9.cell? ⟨X, 2, none⟩ = some (.int .i64 xf) := Blk.cell HBX9.out 2
      have x4 : w9.cell? ⟨X, 4, none⟩ = some (.int .i64 xc) := Blk.cell HBX9.out 4
      go_wp2_with fail
      refine TC.out.mono ?_
      rintro e w10 ⟨rfl, hg10⟩
      have hgo := GoesPQ.of_q HPQ9.out hg10
      obtain ⟨L10, K10, hpq10, hch10, hft10⟩ := hgo
      have hk10 : ∀ b, b < w9.heap.size → ¬ b ∈ foot2 p q L K → w10.heap[b]? = w9.heap[b]? := hch10.block
      have HPQ10 := hide hpq10
      have HFT10 := hide hft10
      have HCH10 := hide hch10
      have x10 : w10.cell? ⟨X, 10, none⟩ = some (.int .i64 yr) := (World.cell?_of_block (w := w9) (w' := w10) (a := ⟨X, 10, none⟩) (hk10 X (Blk.lt HBX9.out) (fun hm => (HOL.out X hm).1 rfl))).trans (Blk.cell HBX9.out 10)
      have PC := hide (Post_c hpq10.hp (fun k _ => Nat.le_trans (lsOf_len rl k) LR1) ⟨#[]⟩ yr 1099511627776 (-1) (-1) 0 false 0 0)
      clear hg10 hpq10 hch10 hft10 hk10 TC x2 x4
      go_wp2_with fail
      refine PC.out.mono ?_
      rintro e w11 ⟨rfl, hg11⟩
      obtain ⟨L11, K11, _, hch11, _⟩ := GoesPQ.of_p HPQ10.out hg11
      have hoff : ∀ b, b < w9.heap.size → ¬ b ∈ foot2 p q L K → w11.heap[b]? = w9.heap[b]? := fun b hb hn => by
        have h1 := HCH10.out.block b hb hn
        have h2 := hch11.block b (Nat.lt_of_lt_of_le hb HCH10.out.size) (fun hm => by
          rcases HFT10.out b hm with e | e
          · exact hn e
          · omega)
        exact h2.trans h1
      have hold : ∀ b, w1.heap.size ≤ b → ¬ b ∈ foot2 p q L K := fun b hb hm => by have := (HOL.out b hm).2.2.2; omega
      have hs911 : w9.heap.size ≤ w11.heap.size := Nat.le_trans HCH10.out.size hch11.size
      have hfin : BXP W X #[.int .u8 kd, .string xk, .int .i64 xf, .int .i64 xt, .int .i64 xc, .int .i64 xg, .int .i64 xv, .int .i64 xz, .bool xb, .string yk, .int .i64 yr, .int .i64 yc, .int .i64 yp, .int .i64 yt, .int .i64 yq, .bool yd, .int .i64 yf, .int .i64 ys] Y q2 p2 rq2 d2 rl l rl l w11 := by
        refine ⟨L2, K2, A2d, A2q, HN9.out.keep' fun b hb => hoff b (HN9.out.lt b hb) (hold b (HF2.out b hb)), HD9.out.keep fun b hb => hoff b (HD9.out.lt b hb) (hold b (Nat.le_trans HW15.out (HF9.out b hb))), (hoff X (Blk.lt HBX9.out) (fun hm => (HOL.out X hm).1 rfl)).trans HBX9.out, (hoff Y (Blk.lt HBY9.out) (fun hm => (HOL.out Y hm).2.1 rfl)).trans HBY9.out, fun b h1 h2 => ?_, fun b hb => ?_, fun b hb => ?_, ?_⟩
        · have := HN4.out b h1
          have := HF9.out b h2
          omega
        · have h1 := HF2.out b hb
          have h2 := HYX.out
          exact ⟨by omega, by omega, HS.out.be.new (HF2.out b hb)⟩
        · have h1 := HF9.out b hb
          have h2 := HYX.out
          have h4 := HW15.out
          exact ⟨by omega, by omega, HS.out.be.new (Nat.le_trans HW15.out (HF9.out b hb))⟩
        · exact (HBE9.out.ch HCH10.out (fun b hb => (HOL.out b hb).2.2.1)).ch hch11 (fun b hb => by
            rcases HFT10.out b hb with e | e
            · exact (HOL.out b e).2.2.1
            · exact HBE9.out.new e)
      have HFI2 := hide hfin
      have z0 : w11.cell? ⟨Y, 0, none⟩ = some (.pointer (some ⟨q2, 0, none⟩)) := hfin.blks.2.cell 0
      have z1 : w11.cell? ⟨Y, 1, none⟩ = some (.pointer (some ⟨p2, 0, none⟩)) := hfin.blks.2.cell 1
      clear hg11 hch11 hoff hold hs911 hfin PC x10
      go_wp2_with fail
      go_ret
      exact ⟨rfl, rl, l, HFIN.out, q2, p2, rq2, d2, HFI2.out⟩
end Po
end Go.Proofs.Ytonmojinijpneaa
end
section
/- Both plays: how they begin, and an act's box beside them. -/
namespace Go.Proofs.Ytonmojinijpneaa
open Go Go.Joins Go.ChangeShapes Go.WideShapes Go.RowKit Go.Deep Go.Lib Go.Proofs.Ytonmojinijpneaa.Qu
set_option linter.unusedVariables false
set_option linter.unusedSimpArgs false
namespace Po
theorem left_said : LeftSaid := fun h hl => Left_b h hl
/-- Both plays, with no act's box beside them. -/
structure PL (W : WR) (Y q p rq d : Nat) (L : Nat → Option Addr × Nat) (K : QL) (A Aq : Option Addr) (rl : List Rc) (l : List Msg) (w : World) : Prop where
  pq : PQ w p q L K (lsOf rl) l
  ds : DS w d rq A Aq rl l
  by_ : Blk w Y 31 #[.pointer (some ⟨q, 0, none⟩), .pointer (some ⟨p, 0, none⟩), .pointer (some ⟨rq, 0, none⟩), .pointer (some ⟨d, 0, none⟩)]
  ap : ∀ b ∈ foot2 p q L K, ¬ b ∈ footD d rq A Aq
  fp : ∀ b ∈ foot2 p q L K, b ≠ Y ∧ W.far b
  fd : ∀ b ∈ footD d rq A Aq, b ≠ Y ∧ W.far b
  be : W.Kept w
def PLP (W : WR) (Y q p rq d : Nat) (rl : List Rc) (l : List Msg) (w : World) : Prop := ∃ L K A Aq, PL W Y q p rq d L K A Aq rl l w
section
variable {W : WR} {w w' : World} {X Y q p rq d : Nat} {cs : Array Value} {rl : List Rc} {l : List Msg}
theorem PLP.below (h : PLP W Y q p rq d rl l w) (hb : Below w.heap.size w w') : PLP W Y q p rq d rl l w' := by
  obtain ⟨L, K, A, Aq, h⟩ := h
  exact ⟨L, K, A, Aq, h.pq.below hb, h.ds.below hb, h.by_.below hb h.by_.lt, h.ap, h.fp, h.fd, h.be.below hb⟩
theorem PLP.blk (h : PLP W Y q p rq d rl l w) : Blk w Y 31 #[.pointer (some ⟨q, 0, none⟩), .pointer (some ⟨p, 0, none⟩), .pointer (some ⟨rq, 0, none⟩), .pointer (some ⟨d, 0, none⟩)] := by
  obtain ⟨_, _, _, _, h⟩ := h
  exact h.by_
theorem PLP.be (h : PLP W Y q p rq d rl l w) : Below W.w.heap.size W.w w := by
  obtain ⟨_, _, _, _, h⟩ := h
  exact h.be.be
theorem PLP.kept (h : PLP W Y q p rq d rl l w) : W.Kept w := by
  obtain ⟨_, _, _, _, h⟩ := h
  exact h.be
/-- A box laid beside the plays is kept from here on. -/
theorem PLP.hold {w0 : World} {R : Nat} (h : PLP ⟨w0, none, none⟩ Y q p rq d rl l w) (hb : Below w.heap.size w w') (hR : w.heap.size ≤ R) (kR : R < w'.heap.size) : PLP ⟨w0, some R, w'.heap[R]?⟩ Y q p rq d rl l w' := by
  obtain ⟨L, K, A, Aq, h⟩ := h
  refine ⟨L, K, A, Aq, h.pq.below hb, h.ds.below hb, h.by_.below hb h.by_.lt, h.ap, fun b hm => ⟨(h.fp b hm).1, (h.fp b hm).2.1, fun e => ?_⟩, fun b hm => ⟨(h.fd b hm).1, (h.fd b hm).2.1, fun e => ?_⟩, ⟨h.be.be.trans (hb.mono h.be.be.size), fun r e => ?_⟩⟩
  · have e2 : R = b := Option.some.inj e
    have := h.pq.lt b hm; omega
  · have e2 : R = b := Option.some.inj e
    have := h.ds.lt b hm; omega
  · have e2 : R = r := Option.some.inj e
    subst e2; exact ⟨rfl, kR⟩
theorem PLP.drop {w0 : World} {R : Option Nat} {c : Option Obj} (h : PLP ⟨w0, R, c⟩ Y q p rq d rl l w) : PLP ⟨w0, none, none⟩ Y q p rq d rl l w := by
  obtain ⟨L, K, A, Aq, h⟩ := h
  exact ⟨L, K, A, Aq, h.pq, h.ds, h.by_, h.ap, fun b hm => ⟨(h.fp b hm).1, (h.fp b hm).2.1, fun e => by cases e⟩, fun b hm => ⟨(h.fd b hm).1, (h.fd b hm).2.1, fun e => by cases e⟩, ⟨h.be.be, fun r e => by cases e⟩⟩
theorem PLP.box (h : PLP W Y q p rq d rl l w) (cs : Array Value) : ∀ X w1, X = w.heap.size → w1 = w.alloc (.cells cs 37) → BXP W X cs Y q p rq d rl l rl l w1 := by
  rintro X w1 rfl rfl
  have hb := (Below.refl w.heap.size w).alloc (Nat.le_refl _) (.cells cs 37)
  obtain ⟨L, K, A, Aq, h⟩ := h
  refine ⟨L, K, A, Aq, h.pq.below hb, h.ds.below hb, Blk.new w 37 cs, h.by_.below hb h.by_.lt, h.ap, fun b hb2 => ?_, fun b hb2 => ?_, h.be.below hb⟩
  · have := h.pq.lt b hb2
    exact ⟨by omega, h.fp b hb2⟩
  · have := h.ds.lt b hb2
    exact ⟨by omega, h.fd b hb2⟩
theorem BXP.play (h : BXP W X cs Y q p rq d rl l rl l w) : PLP W Y q p rq d rl l w := by
  obtain ⟨L, K, A, Aq, h⟩ := h
  exact ⟨L, K, A, Aq, h.pq, h.ds, h.by_, h.ap, fun b hb => (h.fp b hb).2, fun b hb => (h.fd b hb).2, h.be⟩
end
theorem fine_nil : Fine [] [] := by
  constructor <;> first | (intro m hm; cases hm) | exact List.Pairwise.nil | trivial
theorem ls_nil : lsOf [] = ls0 := by
  funext k; rfl
set_option maxRecDepth 100000 in
set_option maxHeartbeats 8000000 in
theorem begin_c (w : World) : Calls Try.prog 11 #[] w fun e w' => ∃ Y q p rq d, e = .returned (.pointer (some ⟨Y, 0, none⟩)) ∧ PLP ⟨w, none, none⟩ Y q p rq d [] [] w' ∧ w.heap.size ≤ Y := by
  have NC := hide (Qu.New_c w)
  have NP := hide (fun w' => Po.New_c w')
  go_enter Try.func11, Try.ntmps11
  go_wp2_with fail
  refine NC.out.mono ?_
  rintro e w1 ⟨q, K0, rfl, hq, hqf, hb1⟩
  have HQ := hide (And.intro hq (And.intro hqf hb1))
  clear hq hqf hb1 NC
  go_wp2_with fail
  refine (NP.out _).mono ?_
  rintro e w2 ⟨p, L0, rfl, hp, hpf, hb2⟩
  have HP := hide (And.intro hp (And.intro hpf hb2))
  clear hp hpf hb2 NP
  go_wp2_with fail
  go_ret
  refine ⟨w2.heap.size + 1 + 1, q, p, w2.heap.size, w2.heap.size + 1, rfl, ?_, by have := HP.out.2.2.size; have := HQ.out.2.2.size; omega⟩
  have h1 := HQ.out
  have h2 := HP.out
  have a1 := (Below.refl w2.heap.size w2).alloc (Nat.le_refl _) (.cells #[.slice none 0 0] 77)
  have k1 := Blk.new w2 77 #[.slice none 0 0]
  obtain ⟨w3, hw3⟩ : ∃ z, w2.alloc (.cells #[.slice none 0 0] 77) = z := ⟨_, rfl⟩
  have s3 : w3.heap.size = w2.heap.size + 1 := by rw [← hw3]; simp
  have a2 := (Below.refl w3.heap.size w3).alloc (Nat.le_refl _) (.cells #[.slice none 0 0] 49)
  have k2 := Blk.new w3 49 #[.slice none 0 0]
  obtain ⟨w4, hw4⟩ : ∃ z, w3.alloc (.cells #[.slice none 0 0] 49) = z := ⟨_, rfl⟩
  have s4 : w4.heap.size = w3.heap.size + 1 := by rw [← hw4]; simp
  have cs : #[Value.pointer (some ⟨q, 0, none⟩), .pointer (some ⟨p, 0, none⟩), .pointer (some ⟨w2.heap.size, 0, none⟩), .pointer (some ⟨w2.heap.size + 1, 0, none⟩)] = #[Value.pointer (some ⟨q, 0, none⟩), .pointer (some ⟨p, 0, none⟩), .pointer (some ⟨w2.heap.size, 0, none⟩), .pointer (some ⟨w2.heap.size + 1, 0, none⟩)] := rfl
  have a3 := (Below.refl w4.heap.size w4).alloc (Nat.le_refl _) (.cells #[.pointer (some ⟨q, 0, none⟩), .pointer (some ⟨p, 0, none⟩), .pointer (some ⟨w2.heap.size, 0, none⟩), .pointer (some ⟨w2.heap.size + 1, 0, none⟩)] 31)
  have k3 := Blk.new w4 31 #[.pointer (some ⟨q, 0, none⟩), .pointer (some ⟨p, 0, none⟩), .pointer (some ⟨w2.heap.size, 0, none⟩), .pointer (some ⟨w2.heap.size + 1, 0, none⟩)]
  rw [show w4.heap.size = w2.heap.size + 1 + 1 by omega] at k3
  rw [show w3.heap.size = w2.heap.size + 1 by omega] at k2
  rw [hw3] at a1 k1
  rw [hw4] at a2 k2
  show PLP ⟨w, none, none⟩ (w2.heap.size + 1 + 1) q p w2.heap.size (w2.heap.size + 1) [] [] (((w2.alloc (.cells #[.slice none 0 0] 77)).alloc (.cells #[.slice none 0 0] 49)).alloc (.cells #[.pointer (some ⟨q, 0, none⟩), .pointer (some ⟨p, 0, none⟩), .pointer (some ⟨w2.heap.size, 0, none⟩), .pointer (some ⟨w2.heap.size + 1, 0, none⟩)] 31))
  rw [hw3, hw4]
  obtain ⟨w5, hw5⟩ : ∃ z, w4.alloc (.cells #[.pointer (some ⟨q, 0, none⟩), .pointer (some ⟨p, 0, none⟩), .pointer (some ⟨w2.heap.size, 0, none⟩), .pointer (some ⟨w2.heap.size + 1, 0, none⟩)] 31) = z := ⟨_, rfl⟩
  rw [hw5] at a3 k3 ⊢
  have b45 : Below w3.heap.size w3 w5 := a2.trans (a3.mono a2.size)
  have b25 : Below w2.heap.size w2 w5 := a1.trans (b45.mono a1.size)
  have hpq : PQ w2 p q L0 K0 ls0 [] := ⟨h2.1, h1.1.below h2.2.2, fun b e1 e2 => by have := h2.2.1 b e1; have := h1.1.lt b e2; omega⟩
  have hs2 := h2.2.2.size
  have hs1 := h1.2.2.size
  have hf : ∀ b ∈ foot2 p q L0 K0, w.heap.size ≤ b ∧ b < w2.heap.size := fun b hb => ⟨by
    rcases List.mem_append.1 hb with hb | hb
    · have := h2.2.1 b hb; omega
    · exact h1.2.1 b hb, hpq.lt b hb⟩
  have hr : RAt w5 w2.heap.size none [] := ⟨0, k1.below b45 k1.lt, rfl, .inl ⟨rfl, rfl⟩⟩
  have hd : DAt w5 (w2.heap.size + 1) none [] := ⟨0, k2.below a3 k2.lt, rfl, .inl ⟨rfl, rfl⟩⟩
  have hdf : ∀ b ∈ footD (w2.heap.size + 1) w2.heap.size none none, b = w2.heap.size + 1 ∨ b = w2.heap.size := fun b hb => by simpa [footD, df, rf] using hb
  refine ⟨L0, K0, none, none, ?_, ⟨hd, hr, fun b e1 e2 => ?_⟩, k3, fun b e1 e2 => ?_, fun b e1 => ?_, fun b e1 => ?_, ⟨h1.2.2.trans ((h2.2.2.mono hs1).trans (b25.mono (by omega))), fun r e => by cases e⟩⟩
  · rw [ls_nil]; exact hpq.below b25
  · have e1 : b = w2.heap.size + 1 := by simpa [df] using e1
    have e2 : b = w2.heap.size := by simpa [rf] using e2
    omega
  · have := hf b e1
    have := hdf b e2
    omega
  · have := hf b e1
    exact ⟨by omega, show w.heap.size ≤ b by omega, fun e => by cases e⟩
  · have := hdf b e1
    exact ⟨by omega, show w.heap.size ≤ b by omega, fun e => by cases e⟩
end Po
end Go.Proofs.Ytonmojinijpneaa
end
section
/- Both plays: what May and Probe answer of either. -/
namespace Go.Proofs.Ytonmojinijpneaa
open Go Go.Joins Go.ChangeShapes Go.WideShapes Go.RowKit Go.Deep Go.Lib Go.Proofs.Ytonmojinijpneaa.Qu
set_option linter.unusedVariables false
set_option linter.unusedSimpArgs false
namespace Po
theorem mayD_neg {rl : List Rc} (h : okG rl) (l : List Msg) (rk : Int) : mayD rl l rk (-1) = [] := by
  have e : atG rl rk (-1) = none := by
    unfold atG
    rw [List.find?_eq_none]
    intro x hx
    have := (h x hx).2.2.1
    have h2 : ¬ x.ca = -1 := by omega
    simp [h2]
  unfold mayD
  rw [e]
def Said (w : World) (r : List Msg) (e : Ending) (w' : World) : Prop := ∃ A1 c1, e = .returned (.slice A1 r.length c1) ∧ MRow w' A1 r ∧ Below w.heap.size w w'
section
variable {W : WR} {w : World} {Y q p rq d : Nat} {rl : List Rc} {l : List Msg}
theorem PLP.may (h : PLP W Y q p rq d rl l w) (hf : Fine rl l) (hl : rl.length ≤ 1000) (hlq : l.length ≤ 1000) (rk ca : Int) :
    Calls Try.prog 23 #[.pointer (some ⟨p, 0, none⟩), .pointer (some ⟨q, 0, none⟩), .int .i64 rk, .int .i64 ca] w (Said w (mayD rl l rk ca)) := by
  obtain ⟨L, K, A, Aq, h⟩ := h
  by_cases hk : 0 ≤ rk ∧ rk < 64
  · obtain ⟨k, rfl⟩ := Int.eq_ofNat_of_zero_le hk.1
    have hk2 : k < 64 := by omega
    have := may_c h.pq.hp (fun j _ => Nat.le_trans (lsOf_len rl j) hl) h.pq.hq hlq k hk2 ca
    rw [mayD_in hk2 ca] at this
    exact this.mono fun e w' ⟨A1, c1, h1, h2, h3⟩ => ⟨A1, c1, h1, MRow.of_own h2 rfl, h3⟩
  · have hk2 : rk < 0 ∨ 64 ≤ rk := by omega
    rw [mayD_out hf.ok hk2 ca]
    exact (may_out w p L _ h.pq.hp rk hk2 ca (some ⟨q, 0, none⟩)).mono fun e w' ⟨h1, h2⟩ => ⟨none, 0, h1, ⟨fun i m hm => by cases hm⟩, h2 ▸ Below.refl _ _⟩
theorem PLP.mayD (h : PLP W Y q p rq d rl l w) (hf : Fine rl l) (hl : rl.length ≤ 1000) (hlq : l.length ≤ 1000) (rk ca : Int) :
    Calls Try.prog 24 #[.pointer (some ⟨d, 0, none⟩), .pointer (some ⟨rq, 0, none⟩), .int .i64 rk, .int .i64 ca] w (Said w (Po.mayD rl l rk ca)) := by
  obtain ⟨L, K, A, Aq, h⟩ := h
  exact (may_d left_said h.ds.hd h.ds.hq hf.ok hf.uq hf.may hl hlq rk ca).mono fun e w' ⟨A1, c1, h1, h2, h3⟩ => ⟨A1, c1, h1, MRow.of_own h2 rfl, h3⟩
theorem PLP.probe (h : PLP W Y q p rq d rl l w) (hl : rl.length ≤ 1000) (hlq : l.length ≤ 1000) (key : ByteArray) (rk ca pe tg rqq : Int) (dn : Bool) (fr sq : Int) :
    Calls Try.prog 25 #[.pointer (some ⟨p, 0, none⟩), .pointer (some ⟨q, 0, none⟩), .agg #[.string key, .int .i64 rk, .int .i64 ca, .int .i64 pe, .int .i64 tg, .int .i64 rqq, .bool dn, .int .i64 fr, .int .i64 sq]] w (Said w (freeL l ⟨key, rk, ca, pe, tg, rqq, dn, fr, sq⟩ (rowL (lsOf rl) rk))) := by
  obtain ⟨L, K, A, Aq, h⟩ := h
  exact (probe_c h.pq.hp (fun j _ => Nat.le_trans (lsOf_len rl j) hl) h.pq.hq hlq key rk ca pe tg rqq dn fr sq).mono fun e w' ⟨A1, c1, h1, h2, h3⟩ => ⟨A1, c1, h1, MRow.of_own h2 rfl, h3⟩
theorem PLP.probeD (h : PLP W Y q p rq d rl l w) (hf : Fine rl l) (hl : rl.length ≤ 1000) (hlq : l.length ≤ 1000) (key : ByteArray) (rk ca pe tg rqq : Int) (dn : Bool) (fr sq : Int) :
    Calls Try.prog 26 #[.pointer (some ⟨d, 0, none⟩), .pointer (some ⟨rq, 0, none⟩), .agg #[.string key, .int .i64 rk, .int .i64 ca, .int .i64 pe, .int .i64 tg, .int .i64 rqq, .bool dn, .int .i64 fr, .int .i64 sq]] w (Said w (freeL l ⟨key, rk, ca, pe, tg, rqq, dn, fr, sq⟩ (rowL (lsOf rl) rk))) := by
  obtain ⟨L, K, A, Aq, h⟩ := h
  exact (probe_d left_said h.ds.hd h.ds.hq hf.ok hf.uq hf.may hl hlq key rk ca pe tg rqq dn fr sq).mono fun e w' ⟨A1, c1, h1, h2, h3⟩ => ⟨A1, c1, h1, MRow.of_own h2 rfl, h3⟩
theorem PLP.all (h : PLP W Y q p rq d rl l w) : ∃ A cap, w.cell? ⟨d, 0, none⟩ = some (.slice A rl.length cap) ∧ RRow w A rl ∧ rl.length ≤ cap := by
  obtain ⟨L, K, A, Aq, h⟩ := h
  obtain ⟨cap, h1, h2, h3⟩ := h.ds.hd.cell0
  exact ⟨A, cap, h1, h2, h3⟩
end
theorem free_len (l : List Msg) (r : Rc) (ah : List Rc) : (freeL l r ah).length ≤ 64 := by
  unfold freeL flt
  refine Nat.le_trans (List.length_filter_le _ _) (Nat.le_trans (fsts_len _ _ _ _ _) ?_)
  unfold sndL
  split
  · exact senders_len _ _
  · exact Nat.le_of_ble_eq_true rfl
end Po
end Go.Proofs.Ytonmojinijpneaa
end
section
/- Both plays: At of either; a call whose answer is laid into a box of one's own. -/
namespace Go.Proofs.Ytonmojinijpneaa
open Go Go.Joins Go.ChangeShapes Go.WideShapes Go.RowKit Go.Deep Go.Lib Go.Proofs.Ytonmojinijpneaa.Qu
set_option linter.unusedVariables false
set_option linter.unusedSimpArgs false
namespace Po
section
variable {W : WR} {w : World} {Y q p rq d : Nat} {rl : List Rc} {l : List Msg}
theorem PLP.at_ (h : PLP W Y q p rq d rl l w) (hf : Fine rl l) (hl : rl.length ≤ 1000) (rk ca : Int) :
    Calls Try.prog 13 #[.pointer (some ⟨p, 0, none⟩), .int .i64 rk, .int .i64 ca] w fun e w' => e = .returned (atV (atG rl rk ca)) ∧ Below w.heap.size w w' := by
  obtain ⟨L, K, A, Aq, h⟩ := h
  by_cases hk : 0 ≤ rk ∧ rk < 64
  · obtain ⟨k, rfl⟩ := Int.eq_ofNat_of_zero_le hk.1
    have := at_c h.pq.hp (fun j _ => Nat.le_trans (lsOf_len rl j) hl) k (by omega) ca
    rw [atG_in] at this
    exact this
  · have hk2 : rk < 0 ∨ 64 ≤ rk := by omega
    rw [atG_out hf.ok hk2 ca]
    exact at_out h.pq.hp rk ca hk2
theorem PLP.atD (h : PLP W Y q p rq d rl l w) (hl : rl.length ≤ 1000) (rk ca : Int) :
    Calls Try.prog 14 #[.pointer (some ⟨d, 0, none⟩), .int .i64 rk, .int .i64 ca] w fun e w' => e = .returned (atV (atG rl rk ca)) ∧ Below w.heap.size w w' := by
  obtain ⟨L, K, A, Aq, h⟩ := h
  exact at_b h.ds.hd rk ca hl
theorem waitG_len (rl : List Rc) (rk : Int) : (waitG rl rk).length ≤ rl.length := List.length_filter_le _ _
theorem PLP.waiting (h : PLP W Y q p rq d rl l w) (hf : Fine rl l) (hl : rl.length ≤ 1000) (rk : Int) :
    Calls Try.prog 16 #[.pointer (some ⟨p, 0, none⟩), .int .i64 rk] w fun e w' => ∃ A1 c1, e = .returned (.slice A1 (waitG rl rk).length c1) ∧ RRow w' A1 (waitG rl rk) ∧ Below w.heap.size w w' := by
  obtain ⟨L, K, A, Aq, h⟩ := h
  have := waiting_c h.pq.hp (fun j _ => Nat.le_trans (lsOf_len rl j) hl) rk
  rw [waitG_wts hf.ok] at this
  exact this.mono fun e w' ⟨A1, c1, h1, h2, h3⟩ => ⟨A1, c1, h1, RRow.of_own h2 rfl, h3⟩
theorem PLP.waitingD (h : PLP W Y q p rq d rl l w) (hl : rl.length ≤ 1000) (rk : Int) :
    Calls Try.prog 17 #[.pointer (some ⟨d, 0, none⟩), .int .i64 rk] w fun e w' => ∃ A1 c1, e = .returned (.slice A1 (waitG rl rk).length c1) ∧ RRow w' A1 (waitG rl rk) ∧ Below w.heap.size w w' := by
  obtain ⟨L, K, A, Aq, h⟩ := h
  exact (waiting_b h.ds.hd rk hl).mono fun e w' ⟨A1, c1, h1, h2, h3⟩ => ⟨A1, c1, h1, RRow.of_own h2 rfl, h3⟩
theorem PLP.left (h : PLP W Y q p rq d rl l w) (hlq : l.length ≤ 1000) :
    Calls Try.prog 19 #[.pointer (some ⟨q, 0, none⟩)] w fun e w' => ∃ A1 c1 K, e = .returned (.slice A1 K.length c1) ∧ IsLeft l K ∧ MRow w' A1 K ∧ Below w.heap.size w w' := by
  obtain ⟨L, K, A, Aq, h⟩ := h
  exact (Left_c h.pq.hq hlq).mono fun e w' ⟨A1, c1, K, h1, h2, h3, h4⟩ => ⟨A1, c1, K, h1, h2, MRow.of_own h3 rfl, h4⟩
theorem PLP.leftD (h : PLP W Y q p rq d rl l w) (hlq : l.length ≤ 1000) :
    Calls Try.prog 20 #[.pointer (some ⟨rq, 0, none⟩)] w fun e w' => ∃ A1 c1 K, e = .returned (.slice A1 K.length c1) ∧ IsLeft l K ∧ MRow w' A1 K ∧ Below w.heap.size w w' := by
  obtain ⟨L, K, A, Aq, h⟩ := h
  exact (left_said h.ds.hq hlq).mono fun e w' ⟨A1, c1, K, h1, h2, h3, h4⟩ => ⟨A1, c1, K, h1, h2, MRow.of_own h3 rfl, h4⟩
end
/-- A call among the operations, a box, and a store of nine cells into it: what the world is like. -/
structure AJ (w5 : World) (Z0 V0 : Array Value) (V : Nat → Option Value) (w : World) : Prop where
  be : Below w5.heap.size w5 w
  od : (V 13).isSome = true → (V 12).isSome = true
  bx : ∀ u, V 12 = some u → ∃ Z, u = .pointer (some ⟨Z, 0, none⟩) ∧ w5.heap.size ≤ Z ∧ Blk w Z 35 (if (V 13).isSome = true then V0 else Z0)
section
variable {w5 w w' : World} {Z0 V0 : Array Value} {V : Nat → Option Value} {v : Value}
theorem AJ.start (Z0 V0 : Array Value) : AJ w5 Z0 V0 (fun _ => none) w5.drew := ⟨(Below.refl _ _).drew, fun h => (by cases h), fun u h => (by cases h)⟩
theorem AJ.plain {i : Nat} (h : AJ w5 Z0 V0 V w) (hb : Below w.heap.size w w') (h1 : i ≠ 12) (h2 : i ≠ 13) : AJ w5 Z0 V0 (setV V i v) w' := by
  have e12 := setV_ne V v (Ne.symm h1)
  have e13 := setV_ne V v (Ne.symm h2)
  refine ⟨h.be.trans (hb.mono h.be.size), by rw [e12, e13]; exact h.od, fun u hu => ?_⟩
  rw [e12] at hu
  obtain ⟨Z, g1, g2, g3⟩ := h.bx u hu
  refine ⟨Z, g1, g2, ?_⟩
  rw [e13]
  exact g3.below hb g3.lt
theorem AJ.alloc (h : AJ w5 Z0 V0 V w) (hV : V 12 = none) : AJ w5 Z0 V0 (setV V 12 (.pointer (some ⟨w.heap.size, 0, none⟩))) (w.alloc (.cells Z0 35)) := by
  have hb := (Below.refl w.heap.size w).alloc (Nat.le_refl _) (.cells Z0 35)
  have e13 := setV_ne V (.pointer (some ⟨w.heap.size, 0, none⟩)) (show 13 ≠ 12 by decide)
  have h13 : (V 13).isSome = false := by
    cases h0 : (V 13).isSome with
    | false => rfl
    | true => have := h.od h0; rw [hV] at this; cases this
  refine ⟨h.be.trans (hb.mono h.be.size), fun _ => (by rw [setV_at]; rfl), fun u hu => ?_⟩
  rw [setV_at] at hu
  refine ⟨w.heap.size, (Option.some.inj hu).symm, h.be.size, ?_⟩
  rw [e13, h13]
  exact Blk.new w 35 Z0
theorem AJ.blk {Z : Nat} (h : AJ w5 Z0 V0 V w) (h12 : V 12 = some (.pointer (some ⟨Z, 0, none⟩))) (h13 : V 13 = none) : w5.heap.size ≤ Z ∧ Blk w Z 35 Z0 := by
  obtain ⟨Z', hz, hle, hb⟩ := h.bx _ h12
  rw [h13] at hb
  cases hz
  exact ⟨hle, hb⟩
theorem AJ.store {Z : Nat} {c0 c1 c2 c3 c4 c5 c6 c7 c8 u0 u1 u2 u3 u4 u5 u6 u7 u8 : Value} (h : AJ w5 #[c0, c1, c2, c3, c4, c5, c6, c7, c8] #[u0, u1, u2, u3, u4, u5, u6, u7, u8] V w) (h12 : V 12 = some (.pointer (some ⟨Z, 0, none⟩))) (h13 : V 13 = none) : AJ w5 #[c0, c1, c2, c3, c4, c5, c6, c7, c8] #[u0, u1, u2, u3, u4, u5, u6, u7, u8] (setV V 13 v) (((((((((w.setCell ⟨Z, 0, none⟩ u0).setCell ⟨Z, 1, none⟩ u1).setCell ⟨Z, 2, none⟩ u2).setCell ⟨Z, 3, none⟩ u3).setCell ⟨Z, 4, none⟩ u4).setCell ⟨Z, 5, none⟩ u5).setCell ⟨Z, 6, none⟩ u6).setCell ⟨Z, 7, none⟩ u7).setCell ⟨Z, 8, none⟩ u8) := by
  obtain ⟨hle, hb⟩ := h.blk h12 h13
  have e12 := setV_ne V v (show 12 ≠ 13 by decide)
  refine ⟨bel9 h.be hle u0 u1 u2 u3 u4 u5 u6 u7 u8, fun _ => (by rw [e12, h12]; rfl), fun u hu => ?_⟩
  rw [e12, h12] at hu
  refine ⟨Z, (Option.some.inj hu).symm, hle, ?_⟩
  rw [setV_at]
  exact put9 hb u0 u1 u2 u3 u4 u5 u6 u7 u8
end
end Po
end Go.Proofs.Ytonmojinijpneaa
end
