/- A receive put behind its rank's row, as it lies. -/
import Derived.Test.YtonmojinijpneaaRows
import Derived.Test.YtonmojinijpneaaPoD
namespace Go.Proofs.Ytonmojinijpneaa
open Go Go.RowKit Go.Lib Go.Joins
set_option linter.unusedVariables false
set_option linter.unusedSimpArgs false
namespace Po
theorem step_append_runP {P : Program} {ops : Array Oper} {o : Oper} {a : Act} {w : World} {K : Act → World → Prop} {Q : Exit → Act → World → Prop} {E : Prop}
    (hg : o.guard = none) (s x : Operand) (t tn : TypeId) (hop : o.op = Op.call { callee := Callee.builtin Builtin.append, args := #[s, x], argTypes := #[t, tn] }) (vs vx : Value) (hs : a.eval s = vs) (hx : a.eval x = vx)
    (v' : Value) (w' : World) (hr : (Builtin.append_ #[t, tn] o.type #[vs, vx]).run P w = .ok v' w') (hK : K (a.put o.dst v') w') :
    if Region.wanted o (yielded ops a.tmps) = true then Oper.wp P o a w K Q else E := by
  rw [if_pos (show Region.wanted o (yielded ops a.tmps) = true by simp [Region.wanted, hg])]
  exact wp_append_run w s x t tn hop vs vx hs hx v' w' hr hK
theorem rc_info : (Try.prog.info? 35).map (fun i => (i.zero, i.size, i.bytes)) = some (some (.agg #[.string ⟨#[]⟩, .int .i64 0, .int .i64 0, .int .i64 0, .int .i64 0, .int .i64 0, .bool false, .int .i64 0, .int .i64 0]), 9, 80) := by kernel_rfl
set_option maxRecDepth 100000 in
/-- A receive put behind a row of one's own. -/
theorem push_r (w : World) (B : Nat) (A : Option Addr) (cap n : Nat) (xs : List Value) (m : Rc) (h : w.ownsRow B 35 9 (.slice A n cap) n xs) (hB : B ≤ w.heap.size) (hl : n ≤ 100000) :
    ∃ A1 c1 w1, (Builtin.append_ #[42, 42] 42 #[.slice A n cap, .slice (some ⟨w.heap.size, 0, none⟩) 1 1]).run Try.prog (w.alloc (.cells #[.string m.key, .int .i64 m.rk, .int .i64 m.ca, .int .i64 m.pe, .int .i64 m.tg, .int .i64 m.rq, .bool m.dn, .int .i64 m.fr, .int .i64 m.sq] 35)) = .ok (.slice A1 (n + 1) c1) w1 ∧
      w1.ownsRow B 35 9 (.slice A1 (n + 1) c1) (n + 1) (xs ++ rcC m) ∧ w.grownBy w1 (Value.slice A n cap).ownBlock ∧ ((Value.slice A1 (n + 1) c1).ownBlock = (Value.slice A n cap).ownBlock ∨ ∃ g, (Value.slice A1 (n + 1) c1).ownBlock = some g ∧ w.heap.size ≤ g) := by
  have ba := (Below.refl w.heap.size w).alloc (Nat.le_refl _) (.cells #[.string m.key, .int .i64 m.rk, .int .i64 m.ca, .int .i64 m.pe, .int .i64 m.tg, .int .i64 m.rq, .bool m.dn, .int .i64 m.fr, .int .i64 m.sq] 35)
  have kb := Blk.new w 35 #[.string m.key, .int .i64 m.rk, .int .i64 m.ca, .int .i64 m.pe, .int .i64 m.tg, .int .i64 m.rq, .bool m.dn, .int .i64 m.fr, .int .i64 m.sq]
  have ow := own_belowR h ba
  have hs1 : (w.alloc (.cells #[.string m.key, .int .i64 m.rk, .int .i64 m.ca, .int .i64 m.pe, .int .i64 m.tg, .int .i64 m.rq, .bool m.dn, .int .i64 m.fr, .int .i64 m.sq] 35)).heap.size = w.heap.size + 1 := by simp
  obtain ⟨Wz, hWz⟩ : ∃ x', w.alloc (.cells #[.string m.key, .int .i64 m.rk, .int .i64 m.ca, .int .i64 m.pe, .int .i64 m.tg, .int .i64 m.rq, .bool m.dn, .int .i64 m.fr, .int .i64 m.sq] 35) = x' := ⟨_, rfl⟩
  rw [hWz] at ba kb ow hs1 ⊢
  have hrd : Reads Wz Wz.heap.size 9 (some ⟨w.heap.size, 0, none⟩) 1 (rcC m) := ⟨rfl, fun _ => ⟨_, rfl, kb.lt, fun j u hu => by rw [add_lit, kb.cell]; simpa [rcC] using hu⟩⟩
  obtain ⟨i0, hi0, hz0', hz1, hz2⟩ := info_parts rc_info
  obtain ⟨v11, w11, hrun, hown, hk11, hob⟩ := run_append_any (P := Try.prog) Wz B 42 42 35 i0 _ 9 80 Try.underlying42 hi0 hz0' hz1 hz2 (by rfl) (by omega) _ _ _ ow Wz.heap.size (some ⟨w.heap.size, 0, none⟩) 1 1 _ hrd (by intro u hu; unfold rcC at hu; simp only [List.mem_cons, List.not_mem_nil, or_false] at hu; rcases hu with rfl | rfl | rfl | rfl | rfl | rfl | rfl | rfl | rfl <;> rfl) (by unfold maxLen; omega) (by omega) (by omega)
  obtain ⟨A11, c11, rfl⟩ := own_form hown
  refine ⟨A11, c11, w11, hrun, hown, gtrans (grown_of_below ba) hk11, ?_⟩
  rcases hob with e | e
  · exact .inl e
  · exact .inr ⟨_, e, by omega⟩
def updF {α : Type} (f : Nat → α) (k : Nat) (v : α) : Nat → α := fun j => if j = k then v else f j
theorem updF_at {α : Type} (f : Nat → α) (k : Nat) (v : α) : updF f k v k = v := by simp [updF]
theorem updF_ne {α : Type} (f : Nat → α) (k : Nat) (v : α) {j : Nat} (h : j ≠ k) : updF f k v j = f j := by simp [updF, h]
def fresh (r : Rc) : Rc := { r with dn := false, fr := 0, sq := 0 }
/-- Where receives lie. -/
def pfoot (p : Nat) (L : Nat → Option Addr × Nat) : List Nat := p :: (List.range 64).filterMap fun k => (L k).1.map (·.block)
theorem own_sl {L : Nat → Option Addr × Nat} {ls : Nat → List Rc} {k g : Nat} : (slR L ls k).ownBlock = some g ↔ ∃ a, (L k).1 = some a ∧ a.block = g := by
  unfold slR
  cases h : (L k).1 with
  | none => simp [Value.ownBlock]
  | some a => simp [Value.ownBlock]
theorem mem_pfoot {p : Nat} {L : Nat → Option Addr × Nat} (ls : Nat → List Rc) {b : Nat} : b ∈ pfoot p L ↔ b = p ∨ ∃ k, k < 64 ∧ (slR L ls k).ownBlock = some b := by
  unfold pfoot
  rw [List.mem_cons, List.mem_filterMap]
  refine or_congr_right ⟨?_, ?_⟩
  · rintro ⟨k, hk, h⟩
    exact ⟨k, List.mem_range.1 hk, own_sl.2 (by simpa using h)⟩
  · rintro ⟨k, hk, h⟩
    exact ⟨k, List.mem_range.2 hk, by simpa using own_sl.1 h⟩
theorem pCs_get (L : Nat → Option Addr × Nat) (ls : Nat → List Rc) (i : Nat) : (pCs L ls)[i]? = if i = 0 then some (.bool true) else if i ≤ 64 then some (slR L ls (i - 1)) else none := by
  cases i with
  | zero => rw [pCs_zero]; rfl
  | succ j =>
    rw [if_neg (by omega)]
    by_cases hj : j < 64
    · rw [if_pos (by omega), Nat.add_comm, pCs_at L ls j hj]
      congr 2
      omega
    · rw [if_neg (by omega)]
      exact Array.getElem?_eq_none (by simp [pCs]; omega)
theorem pCs_size (L : Nat → Option Addr × Nat) (ls : Nat → List Rc) : (pCs L ls).size = 65 := by simp [pCs]
theorem pCs_upd (L : Nat → Option Addr × Nat) (ls : Nat → List Rc) (k : Nat) (hk : k < 64) (A : Option Addr) (c n : Nat) (l : List Rc) (hn : l.length = n) : (pCs L ls).setIfInBounds (1 + k) (.slice A n c) = pCs (updF L k (A, c)) (updF ls k l) := by
  refine Array.ext_getElem? fun i => ?_
  rw [Array.getElem?_setIfInBounds, pCs_get, pCs_get, pCs_size]
  by_cases h0 : i = 0
  · subst h0
    rw [if_neg (by omega)]
    rfl
  · rw [if_neg h0, if_neg h0]
    by_cases h1 : 1 + k = i
    · subst h1
      rw [if_pos rfl, if_pos (by omega), if_pos (by omega), show 1 + k - 1 = k by omega]
      unfold slR
      rw [updF_at, updF_at, hn]
    · rw [if_neg h1]
      by_cases h2 : i ≤ 64
      · rw [if_pos h2, if_pos h2]
        unfold slR
        rw [updF_ne L k _ (show i - 1 ≠ k by omega), updF_ne ls k _ (show i - 1 ≠ k by omega)]
      · rw [if_neg h2, if_neg h2]
theorem own_keepV {w w' : World} {B size n : Nat} {v : Value} {e : TypeId} {xs : List Value} (h : w.ownsRow B e size v n xs) (hk : ∀ g, v.ownBlock = some g → w'.heap[g]? = w.heap[g]?) : w'.ownsRow B e size v n xs := by
  refine ⟨h.1, h.2.imp id ?_⟩
  rintro ⟨g', cap, cur, hv, hge, hh, r⟩
  exact ⟨g', cap, cur, hv, hge, (hk g' (by rw [hv]; rfl)).trans hh, r⟩
/-- What may be posted, behind what was. -/
def postOk (ls : Nat → List Rc) (r : Rc) : Prop := mayR r ∧ ∀ x ∈ ls r.rk.toNat, x.ca < r.ca
instance (ls : Nat → List Rc) (r : Rc) : Decidable (postOk ls r) := by unfold postOk; exact inferInstance
def postE (ls : Nat → List Rc) (r : Rc) : Int := if postOk ls r then 0 else 2
def postL (ls : Nat → List Rc) (r : Rc) : Nat → List Rc := if postOk ls r then updF ls r.rk.toNat (ls r.rk.toNat ++ [fresh r]) else ls
def GoesP (w : World) (p : Nat) (L : Nat → Option Addr × Nat) (ls' : Nat → List Rc) (w' : World) : Prop := ∃ L', PSt w' p L' ls' ∧ Qu.Ch (pfoot p L) w w' ∧ ∀ b ∈ pfoot p L', b ∈ pfoot p L ∨ w.heap.size ≤ b
theorem GoesP.same {w w' : World} {p : Nat} {L : Nat → Option Addr × Nat} {ls : Nat → List Rc} (h : PSt w p L ls) (hb : Below w.heap.size w w') : GoesP w p L ls w' := ⟨L, h.below hb, Qu.Ch.of_below hb, fun b hb => .inl hb⟩
theorem PSt.lt {w : World} {p : Nat} {L : Nat → Option Addr × Nat} {ls : Nat → List Rc} (h : PSt w p L ls) : ∀ b ∈ pfoot p L, b < w.heap.size := fun b hb => by
  rcases (mem_pfoot ls).1 hb with rfl | ⟨k, hk, e⟩
  · exact h.blk.lt
  · exact (own_block (h.row k hk) e).2.1
/-- The row of a rank grown by a receive that may be posted. -/
theorem goes_post {w w1 w7 : World} {p : Nat} {L : Nat → Option Addr × Nat} {ls : Nat → List Rc} {r : Rc} {A2 : Option Addr} {c2 n : Nat} {k : Nat} (hk : k < 64) (h : PSt w1 p L ls) (hn : (ls k).length = n) (hbel : Below w.heap.size w w1) (hl : ∀ b ∈ pfoot p L, b < w.heap.size) (hr : r.rk = k) (hok : postOk ls r)
    (hgr : w1.grownBy w7 (slR L ls k).ownBlock) (ho : w7.ownsRow 0 35 9 (.slice A2 (n + 1) c2) (n + 1) (rcCs (ls k) ++ rcC (fresh r)))
    (hob : (Value.slice A2 (n + 1) c2).ownBlock = (slR L ls k).ownBlock ∨ ∃ g, (Value.slice A2 (n + 1) c2).ownBlock = some g ∧ w1.heap.size ≤ g) :
    Blk w7 p 60 (pCs L ls) ∧ GoesP w p L (postL ls r) (w7.setCell ⟨p, 1 + k, none⟩ (.slice A2 (n + 1) c2)) := by
  have hrk : r.rk.toNat = k := by omega
  have hp7 : Blk w7 p 60 (pCs L ls) := (hgr.block p h.blk.lt fun e => h.pp k hk e.symm).trans h.blk
  refine ⟨hp7, updF L k (A2, c2), ?_, ?_, ?_⟩
  · have eL : postL ls r = updF ls k (ls k ++ [fresh r]) := by unfold postL; rw [if_pos hok, hrk]
    rw [eL]
    have hlen : (ls k ++ [fresh r]).length = n + 1 := by rw [List.length_append, hn]; rfl
    have hslk : slR (updF L k (A2, c2)) (updF ls k (ls k ++ [fresh r])) k = .slice A2 (n + 1) c2 := by
      unfold slR
      rw [updF_at, updF_at, hlen]
    have hslj : ∀ j, j ≠ k → slR (updF L k (A2, c2)) (updF ls k (ls k ++ [fresh r])) j = slR L ls j := fun j hj => by
      unfold slR
      rw [updF_ne L k _ hj, updF_ne ls k _ hj]
    have hpk : (Value.slice A2 (n + 1) c2).ownBlock ≠ some p := fun e => by
      rcases hob with e2 | ⟨g, e2, hg⟩
      · exact h.pp k hk (e2.symm.trans e)
      · have e3 := e2.symm.trans e
        injection e3 with e3
        have := h.blk.lt
        omega
    have hjk : ∀ j, j < 64 → j ≠ k → ∀ g, (slR L ls j).ownBlock = some g → (Value.slice A2 (n + 1) c2).ownBlock ≠ some g := fun j hj hjk g hg e => by
      rcases hob with e2 | ⟨g2, e2, hg2⟩
      · exact h.ap j k hj hk hjk g hg (e2.symm.trans e)
      · have e3 := e2.symm.trans e
        injection e3 with e3
        have := (own_block (h.row j hj) hg).2.1
        omega
    refine ⟨?_, fun j hj => ?_, fun i j hi hj hij g hg => ?_, fun i hi => ?_, fun j hj => ?_, fun j hj x hx => ?_⟩
    · have := hp7.set_ (1 + k) (.slice A2 (n + 1) c2)
      rwa [pCs_upd L ls k hk A2 c2 (n + 1) _ hlen] at this
    · by_cases hjk' : j = k
      · subst hjk'
        rw [hslk, updF_at, hlen, rcCs_app]
        exact ownsRow_setCell_other (by simpa [rcCs] using ho) hpk _
      · rw [hslj j hjk', updF_ne ls k _ hjk']
        refine ownsRow_setCell_other (own_keepV (h.row j hj) fun g hg => hgr.block g (own_block (h.row j hj) hg).2.1 fun e => ?_) (h.pp j hj) _
        exact h.ap j k hj hk hjk' g hg e.symm
    · by_cases hik : i = k
      · subst hik
        rw [hslk] at hg
        rw [hslj j (fun e => hij e.symm)]
        exact fun e => hjk j hj (fun e => hij e.symm) g e hg
      · rw [hslj i hik] at hg
        by_cases hjk' : j = k
        · subst hjk'
          rw [hslk]
          exact hjk i hi hik g hg
        · rw [hslj j hjk']
          exact h.ap i j hi hj hij g hg
    · by_cases hik : i = k
      · subst hik
        rw [hslk]
        exact hpk
      · rw [hslj i hik]
        exact h.pp i hi
    · by_cases hjk' : j = k
      · subst hjk'
        rw [updF_at]
        refine List.pairwise_append.2 ⟨h.up j hj, List.pairwise_singleton _ _, fun a ha b hb => ?_⟩
        rw [List.mem_singleton] at hb
        subst hb
        exact hok.2 a (by rw [hrk]; exact ha)
      · rw [updF_ne ls k _ hjk']
        exact h.up j hj
    · by_cases hjk' : j = k
      · subst hjk'
        rw [updF_at] at hx
        rcases List.mem_append.1 hx with hx | hx
        · exact h.ok j hj x hx
        · rw [List.mem_singleton] at hx
          subst hx
          exact ⟨hok.1, hr⟩
      · rw [updF_ne ls k _ hjk'] at hx
        exact h.ok j hj x hx
  · have hch : Qu.Ch (pfoot p L) w1 w7 := ⟨hgr.os, hgr.tape, hgr.output, hgr.size, fun j hj hn => hgr.block j hj fun e => hn ((mem_pfoot ls).2 (.inr ⟨k, hk, e.symm⟩))⟩
    exact ((Qu.Ch.of_below hbel).trans hch).trans (Qu.Ch.set_ _ _ ((mem_pfoot ls).2 (.inl rfl)))
  · intro b hb
    rcases (mem_pfoot (updF ls k (ls k ++ [fresh r]))).1 hb with rfl | ⟨j, hj, e⟩
    · exact .inl ((mem_pfoot ls).2 (.inl rfl))
    · by_cases hjk' : j = k
      · subst hjk'
        have e1 : (Value.slice A2 (n + 1) c2).ownBlock = some b := by
          obtain ⟨a, h1, h2⟩ := own_sl.1 e
          rw [updF_at] at h1
          have h1' : A2 = some a := h1
          rw [h1']
          exact congrArg some h2
        rcases hob with e2 | ⟨g, e2, hg⟩
        · exact .inl ((mem_pfoot ls).2 (.inr ⟨j, hj, e2.symm.trans e1⟩))
        · have e3 := e2.symm.trans e1
          injection e3 with e3
          have := hbel.size
          exact .inr (by omega)
      · obtain ⟨a, h1, h2⟩ := own_sl.1 e
        rw [updF_ne L k _ hjk'] at h1
        exact .inl ((mem_pfoot ls).2 (.inr ⟨j, hj, own_sl.2 ⟨a, h1, h2⟩⟩))
end Po
end Go.Proofs.Ytonmojinijpneaa
