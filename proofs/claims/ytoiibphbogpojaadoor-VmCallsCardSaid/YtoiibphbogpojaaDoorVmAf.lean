/- The run of a code of one call, and once more. -/
import Derived.Test.YtoiibphbogpojaaDoorRows
import Derived.Test.YtoiibphbogpojaaDoorVmAe
import Derived.Test.YtoiibphbogpojaaDoorVmT
import Derived.Test.YtoiibphbogpojaaDoorVmQ
namespace Go.Proofs.YtoiibphbogpojaaDoor
open Go Go.RowKit Go.Lib Go.Proofs.YtoiibphbogpojaaDoor.Cod
set_option linter.unusedVariables false
set_option linter.unusedSimpArgs false
namespace Vm
/-- The cells of a code. -/
def cdCs (cs : List In) : List Value := cs.flatMap fun x => [.int .u8 x.op, .int .i64 x.n]
theorem cdCs_len (cs : List In) : (cdCs cs).length = cs.length * 2 := by
  unfold cdCs
  induction cs with
  | nil => rfl
  | cons x l ih => rw [List.flatMap_cons, List.length_append, ih, List.length_cons]; simp only [List.length_cons, List.length_nil]; omega
theorem cdCs_at : ∀ (cs : List In) (i : Nat) (hi : i < cs.length), (cdCs cs)[i * 2]? = some (.int .u8 cs[i].op) ∧ (cdCs cs)[i * 2 + 1]? = some (.int .i64 cs[i].n)
  | [], i, hi => absurd hi (Nat.not_lt_zero i)
  | x :: l, 0, hi => ⟨rfl, rfl⟩
  | x :: l, i + 1, hi => by
    have := cdCs_at l i (by simpa using hi)
    rw [show (i + 1) * 2 = i * 2 + 1 + 1 by omega]
    exact this
theorem cdCs_one (cs : List In) : ∀ u ∈ cdCs cs, u.oneCell' = true := by
  intro u hu
  unfold cdCs at hu
  obtain ⟨x, _, h⟩ := List.mem_flatMap.1 hu
  simp only [List.mem_cons, List.not_mem_nil, or_false] at h
  rcases h with rfl | rfl <;> rfl
theorem cdCs_app (a b : List In) : cdCs (a ++ b) = cdCs a ++ cdCs b := by unfold cdCs; simp
theorem callCs_len (l : List Int) (n : Int) : (callCs l n).length = l.length + 2 := by simp [callCs]
theorem callCs_num (l : List Int) (n : Int) (i : Nat) (h : i < l.length) (h' : i < (callCs l n).length) : (callCs l n)[i] = ⟨1, l.getD i 0⟩ := by
  have e : (callCs l n)[i]? = some ⟨1, l.getD i 0⟩ := by
    unfold callCs
    rw [List.getElem?_append_left (by simpa using h), List.getElem?_map, List.getD, List.getElem?_eq_getElem h]
    rfl
  exact Option.some.inj ((List.getElem?_eq_getElem h').symm.trans e)
theorem callCs_call (l : List Int) (n : Int) (h' : l.length < (callCs l n).length) : (callCs l n)[l.length] = ⟨28, n⟩ := by
  have e : (callCs l n)[l.length]? = some ⟨28, n⟩ := by
    unfold callCs
    rw [List.getElem?_append_right (by simp)]
    simp
  exact Option.some.inj ((List.getElem?_eq_getElem h').symm.trans e)
theorem clOf_rq (k op : Int) (l : List Int) (h : l.length ≤ 1000) : (clOf k op l).rq.length ≤ 1000 := by
  unfold clOf
  repeat' split
  all_goals first | exact h | simp
theorem RqAt.same {w w' : World} {B : Nat} {ra : Option Addr} {rc : Nat} {rq : List Int} (h : RqAt w B ra rc rq) (he : ∀ j, B ≤ j → w'.heap[j]? = w.heap[j]?) : RqAt w' B ra rc rq := by
  rcases h with h | ⟨g, cur, h0, h1, h2, h3, h4⟩
  · exact .inl h
  · exact .inr ⟨g, cur, h0, h1, h2, (he g h2).trans h3, h4⟩
/-- A rank that waits at a call. -/
def Waits (w : World) (r : Nat) (sb : Addr) (C : Cl) : Prop := ∃ (cur : Array Value) (ra : Option Addr) (rc : Nat), Blk w r 55 cur ∧ cur[4]? = some (.pointer (some sb)) ∧ cur[7]? = some (.int .u8 1) ∧ (∀ j, j < 11 → cur[21 + j]? = (C.A ra rc)[j]?) ∧ RqAt w 0 ra rc C.rq
theorem Waits.below {w w' : World} {r : Nat} {sb : Addr} {C : Cl} (h : Waits w r sb C) (hb : Below w.heap.size w w') : Waits w' r sb C := by
  obtain ⟨cur, ra, rc, h1, h2, h3, h4, h5⟩ := h
  exact ⟨cur, ra, rc, h1.below hb h1.lt, h2, h3, h4, h5.below hb⟩
/-- What a run leaves that ends at a call. -/
def RunPost (w : World) (C : Cl) (N : Nat) (e : Ending) (w' : World) : Prop := ∃ rb rd, e = .returned (.tuple #[.agg (C.O rb rd), .int .i64 N]) ∧ RqAt w' 0 rb rd C.rq
theorem run_again {w : World} {r : Nat} (sb : Addr) (C : Cl) (h : Waits w r sb C) (h8 : C.rq.length ≤ 1000) :
    Calls Tryd.prog 6 #[.pointer (some ⟨r, 0, none⟩), .int .i64 (20 : Nat)] w fun e w' => RunPost w C 0 e w' ∧ Below w.heap.size w w' := by
  obtain ⟨cur, ra, rc, h1, h2, h3, h4, h5⟩ := h
  have b1 : Below w.heap.size w (w.alloc (.cells #[.int .u8 0, .int .u8 0, .int .i64 0, .int .i64 0, .int .i64 0, .int .i64 0, .int .i64 0, .int .i64 0, .int .u8 0, .slice none 0 0, .int .i64 0, .int .i64 0, .int .u8 0] 35)) := (Below.refl _ _).alloc (Nat.le_refl _) _
  have k1 := h1.below b1 h1.lt
  refine (Run_d (w := w) (r := r) C.k C.co C.pe C.tg C.va C.sz C.ro C.op C.cl C.ky C.rq C.rq.length rfl (fun _ w1 => Blk w1 r 55 cur ∧ RqAt w1 0 ra rc C.rq ∧ Blk w1 w.heap.size 35 #[.int .u8 0, .int .u8 0, .int .i64 0, .int .i64 0, .int .i64 0, .int .i64 0, .int .i64 0, .int .i64 0, .int .u8 0, .slice none 0 0, .int .i64 0, .int .i64 0, .int .u8 0] ∧ Below w.heap.size w w1) sb 0 20 h1.lt (by rw [h1.cell 4]; exact h2) (by rw [k1.cell 4]; exact h2) ⟨k1, h5.below b1, Blk.new w 35 #[.int .u8 0, .int .u8 0, .int .i64 0, .int .i64 0, .int .i64 0, .int .i64 0, .int .i64 0, .int .i64 0, .int .u8 0, .slice none 0 0, .int .i64 0, .int .i64 0, .int .u8 0], b1⟩ ?_ ?_ ?_ ?_ ?_ ?_ (by omega) (by omega)).mono ?_
  · intro u w1 hu
    exact absurd hu (Nat.not_lt_zero u)
  · intro u w1 hu
    exact absurd hu (Nat.not_lt_zero u)
  · rintro w1 ⟨q1, q2, q3, q4⟩
    rw [q1.cell 7]
    exact h3
  · rintro w1 ⟨q1, q2, q3, q4⟩
    exact out_call C ra rc 0 (by rw [q1.cell 7]; exact h3) (fun j hj => by rw [q1.cell]; exact h4 j hj) q2 h8
  · rintro u w1 w' ⟨q1, q2, q3, q4⟩ hb
    exact ⟨q1.below hb q1.lt, q2.below hb, q3.below hb q3.lt, q4.trans (hb.mono q4.size)⟩
  · rintro u w1 ⟨q1, q2, q3, q4⟩
    exact q3
  · rintro e w' ⟨rb, rd, w1, w9, he, hq, ⟨q1, q2, q3, q4⟩, hb, hs, hk, hbb⟩
    exact ⟨⟨rb, rd, he, hq.mono (Nat.zero_le _)⟩, hbb _ _ (q4.trans (hb.mono q4.size)) (Nat.le_refl _)⟩
section
variable {W wn : World} {r h sb vb : Nat} {ce : Value}
theorem run_call (l : List Int) (n k op : Int) (h0 : 0 < l.length) (h8 : l.length ≤ 8) (hn : n = k + 32 * l.length + 1024 * op) (hk0 : 0 ≤ k) (hk1 : k ≤ 31) (ho0 : 0 ≤ op) (ho2 : op ≤ 2) (hM : CMay k l.length)
    (hr : Blk wn r 55 (rkA { nwR h (l.length + 2) sb vb 0 with ce := ce })) (cur : Array Value) (hh : Blk wn h 23 cur) (hcur : ∀ (j : Nat) (v : Value), (cdCs (callCs l n))[j]? = some v → cur[j]? = some v) (hWr : W.heap.size ≤ r) (hW : Below W.heap.size W wn) :
    Calls Tryd.prog 6 #[.pointer (some ⟨r, 0, none⟩), .int .i64 (20 : Nat)] wn fun e w' => RunPost wn (clOf k op l) (l.length + 1) e w' ∧ Waits w' r ⟨sb, 0, none⟩ (clOf k op l) ∧ Below W.heap.size W w' := by
  have hb1 : Below wn.heap.size wn (wn.alloc (.cells #[.int .u8 0, .int .u8 0, .int .i64 0, .int .i64 0, .int .i64 0, .int .i64 0, .int .i64 0, .int .i64 0, .int .u8 0, .slice none 0 0, .int .i64 0, .int .i64 0, .int .u8 0] 35)) := (Below.refl _ _).alloc (Nat.le_refl _) _
  have hsz : (wn.alloc (.cells #[.int .u8 0, .int .u8 0, .int .i64 0, .int .i64 0, .int .i64 0, .int .i64 0, .int .i64 0, .int .i64 0, .int .u8 0, .slice none 0 0, .int .i64 0, .int .i64 0, .int .u8 0] 35)).heap.size = wn.heap.size + 1 := by simp
  have hrS := hr.below hb1 hr.lt
  have hhS := hh.below hb1 hh.lt
  have hrl := hr.lt
  have hhl := hh.lt
  have hhr : h ≠ r := blk_ne hh hr (by decide)
  have hout := Blk.new wn 35 #[.int .u8 0, .int .u8 0, .int .i64 0, .int .i64 0, .int .i64 0, .int .i64 0, .int .i64 0, .int .i64 0, .int .u8 0, .slice none 0 0, .int .i64 0, .int .i64 0, .int .u8 0]
  have hrq := clOf_rq k op l (by omega)
  have hcl := callCs_len l n
  generalize hC : clOf k op l = C at *
  let P : Nat → World → Prop := fun u w1 => (u ≤ l.length ∧ ∃ A c, RSt W (wn.alloc (.cells #[.int .u8 0, .int .u8 0, .int .i64 0, .int .i64 0, .int .i64 0, .int .i64 0, .int .i64 0, .int .i64 0, .int .u8 0, .slice none 0 0, .int .i64 0, .int .i64 0, .int .u8 0] 35)) w1 (wn.heap.size + 1) r { nwR h (l.length + 2) sb vb 0 with ce := ce, pl := .int .i64 (u : Int), sk := .slice A u c } A c (l.take u)) ∨ (u = l.length + 1 ∧ ∃ A c, CallPost W (wn.alloc (.cells #[.int .u8 0, .int .u8 0, .int .i64 0, .int .i64 0, .int .i64 0, .int .i64 0, .int .i64 0, .int .i64 0, .int .u8 0, .slice none 0 0, .int .i64 0, .int .i64 0, .int .u8 0] 35)) (wn.heap.size + 1) r { nwR h (l.length + 2) sb vb 0 with ce := ce, pl := .int .i64 ((l.length : Int) + 1), sk := .slice A l.length c } C A c w1)
  have hkp : ∀ u w1, P u w1 → Blk w1 wn.heap.size 35 #[.int .u8 0, .int .u8 0, .int .i64 0, .int .i64 0, .int .i64 0, .int .i64 0, .int .i64 0, .int .i64 0, .int .u8 0, .slice none 0 0, .int .i64 0, .int .i64 0, .int .u8 0] := by
    rintro u w1 (⟨hu, A, c, s⟩ | ⟨hu, A, c, ra, rc, s, hq⟩)
    · exact (s.kp wn.heap.size (Nat.lt_succ_self _) (by omega)).trans hout
    · exact (s.kp wn.heap.size (Nat.lt_succ_self _) (by omega)).trans hout
  refine (Run_d (w := wn) (r := r) C.k C.co C.pe C.tg C.va C.sz C.ro C.op C.cl C.ky C.rq C.rq.length rfl P ⟨sb, 0, none⟩ (l.length + 1) 20 hrl (hr.cell 4) (hrS.cell 4) ?_ ?_ ?_ ?_ ?_ ?_ hkp (by omega) (by omega)).mono ?_
  · exact .inl ⟨Nat.zero_le _, none, 0, hrS, rfl, ⟨rfl, .inl ⟨rfl, rfl⟩⟩, fun _ _ _ => rfl, by rw [hsz]; exact Nat.le_refl _, by omega, hWr, hW.trans (hb1.mono hW.size)⟩
  · rintro u w1 hu (⟨hu', A, c, s⟩ | ⟨hu', _⟩)
    · exact s.bk.cell 7
    · omega
  · rintro u w1 hu (⟨hu', A, c, s⟩ | ⟨hu', _⟩)
    · have htl : (l.take u).length = u := by rw [List.length_take]; omega
      by_cases hlt : u < l.length
      · have hc1 := cdCs_at (callCs l n) u (by omega)
        rw [callCs_num l n u hlt] at hc1
        refine (step_num (l.getD u 0) u s (nxt_of hhS (by omega) hhr rfl (by omega) (by omega) rfl (hcur _ _ hc1.1) (hcur _ _ hc1.2)) (by omega)).mono ?_
        rintro e w' ⟨he, A', c', s'⟩
        refine ⟨he, .inl ⟨by omega, A', c', ?_⟩⟩
        rw [htl] at s'
        rw [take_sn l u hlt]
        exact s'
      · obtain rfl : u = l.length := by omega
        have hc1 := cdCs_at (callCs l n) l.length (by omega)
        rw [callCs_call l n] at hc1
        have htk : l.take l.length = l := List.take_length
        rw [htk] at s
        refine (step_call n k op l.length s (nxt_of hhS (by omega) hhr rfl (by omega) (by omega) rfl (hcur _ _ hc1.1) (hcur _ _ hc1.2)) h0 h8 hn hk0 hk1 ho0 ho2 hM).mono ?_
        rintro e w' ⟨he, hp⟩
        refine ⟨he, .inr ⟨rfl, A, c, ?_⟩⟩
        rw [hC] at hp
        exact hp
    · omega
  · rintro w1 (⟨hu', _⟩ | ⟨_, A, c, ra, rc, s, hq⟩)
    · omega
    · exact s.bk.cell 7
  · rintro w1 (⟨hu', _⟩ | ⟨_, A, c, ra, rc, s, hq⟩)
    · omega
    · exact out_call C ra rc (wn.heap.size + 1) (s.bk.cell 7) (fun j hj => by
        rw [s.bk.cell (21 + j)]
        match j, hj with
        | 0, _ | 1, _ | 2, _ | 3, _ | 4, _ | 5, _ | 6, _ | 7, _ | 8, _ | 9, _ | 10, _ => rfl
        | j + 11, h => omega) hq hrq
  · rintro u w1 w' (⟨hu', A, c, s⟩ | ⟨hu', A, c, ra, rc, s, hq⟩) hb
    · exact .inl ⟨hu', A, c, s.below hb⟩
    · exact .inr ⟨hu', A, c, ra, rc, s.below hb, hq.below hb⟩
  · rintro e w' ⟨rb, rd, w1, w9, he, hq, (⟨hu', _⟩ | ⟨_, A, c, ra, rc, s, hqq⟩), hb, hs, hk, hbb⟩
    · omega
    · have s9 := s.below hb
      have q9 := hqq.below hb
      refine ⟨⟨rb, rd, he, hq.mono (Nat.zero_le _)⟩, ⟨_, ra, rc, (hk r (by omega)).trans s9.bk, rfl, rfl, fun j hj => ?_, (q9.same fun j hj => hk j (by omega)).mono (Nat.zero_le _)⟩, hbb _ _ s9.bl (by omega)⟩
      match j, hj with
      | 0, _ | 1, _ | 2, _ | 3, _ | 4, _ | 5, _ | 6, _ | 7, _ | 8, _ | 9, _ | 10, _ => rfl
      | j + 11, h => omega
end
end Vm
end Go.Proofs.YtoiibphbogpojaaDoor
