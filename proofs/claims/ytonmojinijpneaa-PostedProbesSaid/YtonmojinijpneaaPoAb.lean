/- A receive that comes in; a match that is refused; what a probe's are. -/
import Derived.Test.YtonmojinijpneaaRows
import Derived.Test.YtonmojinijpneaaPoAa
import Derived.Test.YtonmojinijpneaaQuU
namespace Go.Proofs.Ytonmojinijpneaa
open Go Go.Joins Go.ChangeShapes Go.WideShapes Go.RowKit Go.Deep Go.Lib Go.Proofs.Ytonmojinijpneaa.Qu
set_option linter.unusedVariables false
set_option linter.unusedSimpArgs false
namespace Po
theorem nine (l : List Value) (h : l.length = 9) : ∃ c0 c1 c2 c3 c4 c5 c6 c7 c8, l = [c0, c1, c2, c3, c4, c5, c6, c7, c8] := by
  match l, h with
  | [c0, c1, c2, c3, c4, c5, c6, c7, c8], _ => exact ⟨_, _, _, _, _, _, _, _, _, rfl⟩
def recK : List Kd := [.s, .i .i64, .i .i64, .i .i64, .i .i64, .i .i64, .b, .i .i64, .i .i64]
section
variable {H : Type} {enc : TypeId × Value → H} {w : World} {base : Nat} {spare : Nat → Bool} {held : Bool}
set_option maxRecDepth 100000 in
theorem rec_of {v : Value} {d : DataW H} {p : List MemPlace} {b0 : Nat} (o : Value.okWide Try.prog w .any b0 35 v) (r : DataW.Trod enc Try.prog w base spare held 35 v d p) :
    ∃ (key : ByteArray) (rk ca pe tg rq : Int) (dn : Bool) (fr sq : Int), v = .agg #[.string key, .int .i64 rk, .int .i64 ca, .int .i64 pe, .int .i64 tg, .int .i64 rq, .bool dn, .int .i64 fr, .int .i64 sq] := by
  obtain ⟨cs, rfl, hsz⟩ := okWide_struct Try.underlying35 o
  obtain ⟨fuel, hf⟩ := r
  obtain ⟨l⟩ := cs
  have hfit : Fits recK l := (flat_both 30).1 35 recK (by kernel_rfl) fuel l (d, p) (by simpa [Value.cells] using hf)
  obtain ⟨c0, c1, c2, c3, c4, c5, c6, c7, c8, rfl⟩ := nine l hfit.1
  obtain ⟨v0, g0, f0⟩ := hfit.2 0 _ rfl
  obtain ⟨v1, g1, f1⟩ := hfit.2 1 _ rfl
  obtain ⟨v2, g2, f2⟩ := hfit.2 2 _ rfl
  obtain ⟨v3, g3, f3⟩ := hfit.2 3 _ rfl
  obtain ⟨v4, g4, f4⟩ := hfit.2 4 _ rfl
  obtain ⟨v5, g5, f5⟩ := hfit.2 5 _ rfl
  obtain ⟨v6, g6, f6⟩ := hfit.2 6 _ rfl
  obtain ⟨v7, g7, f7⟩ := hfit.2 7 _ rfl
  obtain ⟨v8, g8, f8⟩ := hfit.2 8 _ rfl
  obtain ⟨z0, rfl, _⟩ := f0
  obtain ⟨z1, rfl, _⟩ := f1
  obtain ⟨z2, rfl, _⟩ := f2
  obtain ⟨z3, rfl, _⟩ := f3
  obtain ⟨z4, rfl, _⟩ := f4
  obtain ⟨z5, rfl, _⟩ := f5
  obtain ⟨z6, rfl⟩ := f6
  obtain ⟨z7, rfl, _⟩ := f7
  obtain ⟨z8, rfl, _⟩ := f8
  obtain rfl : c0 = .string z0 := by simpa using g0
  obtain rfl : c1 = .int .i64 z1 := by simpa using g1
  obtain rfl : c2 = .int .i64 z2 := by simpa using g2
  obtain rfl : c3 = .int .i64 z3 := by simpa using g3
  obtain rfl : c4 = .int .i64 z4 := by simpa using g4
  obtain rfl : c5 = .int .i64 z5 := by simpa using g5
  obtain rfl : c6 = .bool z6 := by simpa using g6
  obtain rfl : c7 = .int .i64 z7 := by simpa using g7
  obtain rfl : c8 = .int .i64 z8 := by simpa using g8
  exact ⟨z0, z1, z2, z3, z4, z5, z6, z7, z8, rfl⟩
end
/-- What may be a probe's is what would be a receive's that is posted now. -/
theorem probe_post {l : List Msg} {ls : Nat → List Rc} {r : Rc} {k : Nat} (hk : r.rk = k) (hok : postOk ls r) : mayL l (postL ls r k) r.ca = freeL l r (ls k) := by
  have hrk : r.rk.toNat = k := by omega
  have hlt := hok.2
  rw [hrk] at hlt
  unfold postL
  rw [if_pos hok, hrk, updF_at]
  unfold mayL
  have hf : (ls k ++ [fresh r]).find? (fun x => decide (x.ca = r.ca)) = some (fresh r) := by
    rw [List.find?_append, List.find?_eq_none.2 (fun x hx => by have := hlt x hx; simp; omega)]
    simp [fresh]
  have hg : (ls k ++ [fresh r]).filter (fun x => decide (x.ca < r.ca)) = ls k := by
    rw [List.filter_append, List.filter_eq_self.2 (fun x hx => by have := hlt x hx; simpa using this)]
    simp [fresh]
  rw [hf, hg]
  rfl
/-- One of a sender alone may be a receive's. -/
theorem has_other {l : List Msg} {rs : List Rc} {ca : Int} {m : Msg} {x : Int} (hm : m ∈ mayL l rs ca) (hx : x ≠ m.ca) : hasB (mayL l rs ca) m.fr x = false := by
  cases hb : hasB (mayL l rs ca) m.fr x with
  | false => rfl
  | true =>
    obtain ⟨y, hy, h1, h2⟩ := hasB_mem hb
    have : y = m := by
      obtain ⟨i, hi⟩ := List.getElem?_of_mem hy
      obtain ⟨j, hj⟩ := List.getElem?_of_mem hm
      obtain ⟨h3, e3⟩ := List.getElem?_eq_some_iff.1 hi
      obtain ⟨h4, e4⟩ := List.getElem?_eq_some_iff.1 hj
      rcases Nat.lt_trichotomy i j with h | h | h
      · have := (List.pairwise_iff_getElem.1 (may_rise l rs ca)) i j h3 h4 h
        rw [e3, e4] at this
        omega
      · subst h
        rw [hi] at hj
        injection hj
      · have := (List.pairwise_iff_getElem.1 (may_rise l rs ca)) j i h4 h3 h
        rw [e3, e4] at this
        omega
    rw [this] at h2
    exact absurd h2.symm hx
theorem has_first {l : List Msg} {rs : List Rc} {ca : Int} {m : Msg} (hm : m ∈ mayL l rs ca) : matchE l rs ca m.fr m.ca = 0 := by
  unfold matchE
  rw [hasB_of hm]
  rfl
set_option maxRecDepth 100000 in
set_option maxHeartbeats 8000000 in
theorem Match_no {w : World} {p q : Nat} {L : Nat → Option Addr × Nat} {K : QL} {ls : Nat → List Rc} {l : List Msg} (h : PQ w p q L K ls l) (hlen : ∀ k, k < 64 → (ls k).length ≤ 1000) (hl : l.length ≤ 1000) (k : Nat) (hk : k < 64) (ca fr sq : Int) (hno : hasB (mayL l (ls k) ca) fr sq = false) :
    Calls Try.prog 30 #[.pointer (some ⟨p, 0, none⟩), .pointer (some ⟨q, 0, none⟩), .int .i64 k, .int .i64 ca, .int .i64 fr, .int .i64 sq] w fun e w' => e = .returned (.int .i64 2) ∧ Below w.heap.size w w' := by
  have b1 := (Below.refl w.heap.size w).alloc (Nat.le_refl _) (.cells #[.int .i64 fr] 3)
  have k1 := Blk.new w 3 #[.int .i64 fr]
  obtain ⟨w1, hw1⟩ : ∃ z, w.alloc (.cells #[.int .i64 fr] 3) = z := ⟨_, rfl⟩
  obtain ⟨X, hX⟩ : ∃ z, w.heap.size = z := ⟨_, rfl⟩
  have s1 : w1.heap.size = w.heap.size + 1 := by rw [← hw1]; simp
  rw [hw1] at b1 k1
  have b2 := (Below.refl w1.heap.size w1).alloc (Nat.le_refl _) (.cells #[.int .i64 sq] 3)
  have k2 := Blk.new w1 3 #[.int .i64 sq]
  obtain ⟨w2, hw2⟩ : ∃ z, w1.alloc (.cells #[.int .i64 sq] 3) = z := ⟨_, rfl⟩
  have s2 : w2.heap.size = w.heap.size + 2 := by rw [← hw2]; simp [s1]
  rw [hw2] at b2 k2
  have HL0 := hide h.lt
  rw [hX] at k1 s1 s2
  rw [s1] at k2
  have KA := hide (k1.below b2 (by omega))
  have KB := hide k2
  have B2 : Hid (Below w.heap.size w w2) := hide (b1.trans (b2.mono (by omega)))
  have H2 := hide (h.below B2.out)
  have HNO := hide hno
  clear hno
  have HW1 := hide hw1
  have HW2 := hide hw2
  have HX := hide hX
  have S1 := hide s1
  have MY := hide (may_c H2.out.hp hlen H2.out.hq hl k hk ca)
  have HLEN := hide (hlen k hk)
  have hk0 : ¬ (k : Int) < 0 := by omega
  have hk2 : (k : Int) < 64 := by omega
  have HML : Hid ((mayL l (ls k) ca).length ≤ 64) := hide (by
    unfold mayL
    split
    · exact Nat.zero_le _
    · split
      · exact Nat.zero_le _
      · unfold freeL flt
        refine Nat.le_trans (List.length_filter_le _ _) (Nat.le_trans (fsts_len _ _ _ _ _) ?_)
        unfold sndL
        split
        · exact senders_len _ _
        · exact Nat.le_of_ble_eq_true rfl)
  clear hw1 hw2 hX b1 b2 k1 k2 s1 s2 h hlen
  go_enter Try.func30, Try.ntmps30
  go_upto_region 1 with (fail)
  rw [HW1.out, HX.out, HW2.out]
  go_upto_region 4 with (go_at_call 60; refine (made_yes _ _ _ _ H2.out.hp).mono ?_; rintro e w' ⟨rfl, rfl⟩)
  go_wp2_with fail
  refine MY.out.mono ?_
  rintro e w3 ⟨A1, c1, rfl, hob, hb3⟩
  obtain ⟨ml, hml⟩ : ∃ z, mayL l (ls k) ca = z := ⟨_, rfl⟩
  rw [hml] at hob HML
  rw [hml]
  obtain ⟨n, hn⟩ : ∃ z, ml.length = z := ⟨_, rfl⟩
  rw [hn] at hob HML
  rw [hn]
  have CC := hide (contains_c w3 A1 c1 n ml (MRow.of_own hob hn) hn (by have := HML.out; omega) fr sq X (X + 1) ((KA.out.below hb3 KA.out.lt).cell 0) ((KB.out.below hb3 KB.out.lt).cell 0) (Nat.lt_of_lt_of_le KA.out.lt hb3.size) (Nat.lt_of_lt_of_le KB.out.lt hb3.size))
  have B3 := hide (B2.out.trans (hb3.mono B2.out.size))
  have KA3 := hide (KA.out.below hb3 KA.out.lt)
  have KB3 := hide (KB.out.below hb3 KB.out.lt)
  have H3 := hide (H2.out.below hb3)
  have HMLE := hide hml
  clear hob hb3 hml hn MY
  go_wp2_with fail
  refine CC.out.mono ?_
  rintro e w4 ⟨rfl, hb4⟩
  have B4 := hide (B3.out.trans (hb4.mono B3.out.size))
  have KA4 := hide (KA3.out.below hb4 KA3.out.lt)
  have KB4 := hide (KB3.out.below hb4 KB3.out.lt)
  have H4 := hide (H3.out.below hb4)
  obtain ⟨hb, hhb⟩ : ∃ z, hasB ml fr sq = z := ⟨_, rfl⟩
  rw [hhb]
  have HHB : Hid (hasB (mayL l (ls k) ca) fr sq = hb) := hide (by rw [HMLE.out, hhb])
  clear hb4 hhb CC
  obtain rfl : hb = false := HHB.out.symm.trans HNO.out
  go_wp2_with fail
  go_ret
  exact ⟨rfl, B4.out⟩
end Po
end Go.Proofs.Ytonmojinijpneaa
