/- The document's queue: Send. -/
import Derived.Test.YtonmojinijpneaaRows
import Derived.Test.YtonmojinijpneaaQuO
import Derived.Deep.RegionLaw
import Derived.Lib.AppendZeros
namespace Go.Proofs.Ytonmojinijpneaa
open Go Go.RowKit Go.Lib
set_option linter.unusedVariables false
set_option linter.unusedSimpArgs false
namespace Qu
theorem step_append_runE {P : Program} {ops : Array Oper} {o : Oper} {a : Act} {w : World} {K : Act → World → Prop} {Q : Exit → Act → World → Prop} {E : Prop}
    (hg : o.guard = none) (s x : Operand) (t tn : TypeId) (hop : o.op = Op.call { callee := Callee.builtin Builtin.append, args := #[s, x], argTypes := #[t, tn] }) (vs vx : Value) (hs : a.eval s = vs) (hx : a.eval x = vx)
    (v' : Value) (w' : World) (hr : (Builtin.append_ #[t, tn] o.type #[vs, vx]).run P w = .ok v' w') (hK : K (a.put o.dst v') w') :
    if Region.wanted o (yielded ops a.tmps) = true then Oper.wp P o a w K Q else E := by
  rw [if_pos (show Region.wanted o (yielded ops a.tmps) = true by simp [Region.wanted, hg])]
  exact wp_append_run w s x t tn hop vs vx hs hx v' w' hr hK
/-- Where the document's queue lies. -/
def rf (p : Nat) (A : Option Addr) : List Nat := p :: (A.map (·.block)).toList
def RAt (w : World) (p : Nat) (A : Option Addr) (l : List Msg) : Prop := ∃ cap : Nat, Blk w p 77 #[.slice A l.length cap] ∧ w.ownsRow 0 33 8 (.slice A l.length cap) l.length (msgCs l)
theorem RAt.st {w : World} {p : Nat} {A : Option Addr} {l : List Msg} (h : RAt w p A l) : RSt w p l := ⟨A, h.choose, h.choose_spec.1, h.choose_spec.2⟩
theorem own_keepA {w w' : World} {B size n c m : Nat} {A : Option Addr} {e : TypeId} {xs : List Value} (h : w.ownsRow B e size (.slice A m c) n xs) (hk : ∀ a, A = some a → w'.heap[a.block]? = w.heap[a.block]?) : w'.ownsRow B e size (.slice A m c) n xs := by
  refine ⟨h.1, h.2.imp id ?_⟩
  rintro ⟨g', cap, cur, hv, hge, hh, r⟩
  injection hv with h1 h2 h3
  exact ⟨g', cap, cur, by rw [h1, h2, h3], hge, (hk _ h1).trans hh, r⟩
theorem own_inA {w : World} {B size n c m : Nat} {A : Option Addr} {e : TypeId} {xs : List Value} (h : w.ownsRow B e size (.slice A m c) n xs) : ∀ a, A = some a → a.block < w.heap.size ∧ ∃ cs, Blk w a.block e cs := fun a ha => by
  subst ha
  rcases h.2 with ⟨hv, _⟩ | ⟨g', _, cur, hv, _, hh, _⟩
  · cases hv
  · cases hv; exact ⟨(Array.getElem?_eq_some_iff.1 hh).1, _, hh⟩
theorem RAt.lt {w : World} {p : Nat} {A : Option Addr} {l : List Msg} (h : RAt w p A l) : ∀ b ∈ rf p A, b < w.heap.size := fun b hb => by
  obtain ⟨cap, h1, h2⟩ := h
  unfold rf at hb
  rcases List.mem_cons.1 hb with rfl | hb
  · exact h1.lt
  · cases A with
    | none => simp at hb
    | some a =>
      have : b = a.block := by simpa using hb
      rw [this]
      exact (own_inA h2 a rfl).1
theorem RAt.keep {w w' : World} {p : Nat} {A : Option Addr} {l : List Msg} (h : RAt w p A l) (hk : ∀ b ∈ rf p A, w'.heap[b]? = w.heap[b]?) : RAt w' p A l := by
  obtain ⟨cap, h1, h2⟩ := h
  exact ⟨cap, (hk _ List.mem_cons_self).trans h1, own_keepA h2 fun a ha => hk _ (by unfold rf; rw [ha]; simp)⟩
theorem RAt.below {w w' : World} {p : Nat} {A : Option Addr} {l : List Msg} (h : RAt w p A l) (hb : Below w.heap.size w w') : RAt w' p A l := h.keep fun b hm => hb.block b (h.lt b hm)
theorem RAt.ch {S : List Nat} {w w' : World} {p : Nat} {A : Option Addr} {l : List Msg} (h : RAt w p A l) (hb : Ch S w w') (hS : ∀ b ∈ S, ¬ b ∈ rf p A) : RAt w' p A l := h.keep fun b hm => hb.block b (h.lt b hm) fun hs => hS b hs hm
/-- How the document's queue goes on. -/
def GoesR (w : World) (p : Nat) (A : Option Addr) (l' : List Msg) (w' : World) : Prop := ∃ A', RAt w' p A' l' ∧ Ch (rf p A) w w' ∧ ∀ b ∈ rf p A', b ∈ rf p A ∨ w.heap.size ≤ b
theorem GoesR.same {w w' : World} {p : Nat} {A : Option Addr} {l : List Msg} (h : RAt w p A l) (hb : Below w.heap.size w w') : GoesR w p A l w' := ⟨A, h.below hb, Ch.of_below hb, fun b hb => .inl hb⟩
theorem ch_push {w w1 : World} {A : Option Addr} {n cap : Nat} {S : List Nat} (hgr : w.grownBy w1 (Value.slice A n cap).ownBlock) (hS : ∀ a, A = some a → a.block ∈ S) : Ch S w w1 := by
  cases A with
  | none => exact ⟨hgr.os, hgr.tape, hgr.output, hgr.size, fun j hj _ => hgr.block j hj (by simp [Value.ownBlock])⟩
  | some a => exact Ch.of_grown hgr (hS a rfl)
theorem own_setA {w : World} {B size n c m : Nat} {A : Option Addr} {e : TypeId} {xs : List Value} (h : w.ownsRow B e size (.slice A m c) n xs) {x : Addr} (v : Value) (hx : ∀ a, A = some a → a.block ≠ x.block) : (w.setCell x v).ownsRow B e size (.slice A m c) n xs :=
  own_keepA h fun a ha => Below.heap_setCell w x v _ (hx a ha)
/-- A message more: the worlds. -/
theorem goes_sent {w w1 w7 : World} {p : Nat} {A A2 : Option Addr} {cap c2 : Nat} {l : List Msg} {m : Msg} (hb : Blk w1 p 77 #[.slice A l.length cap]) (hown : w1.ownsRow 0 33 8 (.slice A l.length cap) l.length (msgCs l))
    (hbel : Below w.heap.size w w1) (hgr : w1.grownBy w7 (Value.slice A l.length cap).ownBlock) (ho : w7.ownsRow 0 33 8 (.slice A2 (l.length + 1) c2) (l.length + 1) (msgCs l ++ msgC m))
    (hob : (Value.slice A2 (l.length + 1) c2).ownBlock = (Value.slice A l.length cap).ownBlock ∨ ∃ g, (Value.slice A2 (l.length + 1) c2).ownBlock = some g ∧ w1.heap.size ≤ g) :
    (Blk w7 p 77 #[.slice A l.length cap]) ∧ GoesR w p A (l ++ [m]) (w7.setCell ⟨p, 0, none⟩ (.slice A2 (l.length + 1) c2)) := by
  have hpA : ∀ a, A = some a → a.block ≠ p := fun a ha e => by
    obtain ⟨_, cs, hc⟩ := own_inA hown a ha
    rw [e] at hc
    have := hc.symm.trans hb
    injection this with e1
    injection e1 with _ e2
    exact absurd e2 (by decide)
  have hch := ch_push (S := rf p A) hgr fun a ha => by unfold rf; rw [ha]; simp
  have hp7 : Blk w7 p 77 #[.slice A l.length cap] := (hgr.block p hb.lt fun e => by
    cases A with
    | none => simp [Value.ownBlock] at e
    | some a =>
      have : a.block = p := by simpa [Value.ownBlock] using e.symm
      exact hpA a rfl this).trans hb
  have hp2 : ∀ a, A2 = some a → a.block ≠ p := fun a ha e => by
    obtain ⟨_, cs, hc⟩ := own_inA ho a ha
    rw [e] at hc
    have := hc.symm.trans hp7
    injection this with e1
    injection e1 with _ e2
    exact absurd e2 (by decide)
  refine ⟨hp7, A2, ⟨c2, ?_, ?_⟩, (Ch.of_below hbel).trans (hch.trans (Ch.set_ w7 _ (by unfold rf; simp))), fun b hb2 => ?_⟩
  · rw [List.length_append, List.length_singleton]
    have h1 := hp7.set_ 0 (.slice A2 (l.length + 1) c2)
    simpa only [List.setIfInBounds_toArray, List.set_cons_zero] using h1
  · rw [List.length_append, List.length_singleton, msgCs_app]
    exact own_setA (by simpa [msgCs] using ho) _ hp2
  · unfold rf at hb2 ⊢
    rcases List.mem_cons.1 hb2 with rfl | hb2
    · exact .inl List.mem_cons_self
    · cases A2 with
      | none => simp at hb2
      | some a2 =>
        have e2 : b = a2.block := by simpa using hb2
        rcases hob with e | ⟨g, e, hg⟩
        · cases A with
          | none => simp [Value.ownBlock] at e
          | some a =>
            have e3 : a2.block = a.block := by simpa [Value.ownBlock] using e
            exact .inl (by rw [e2, e3]; simp)
        · have e3 : a2.block = g := by simpa [Value.ownBlock] using e
          exact .inr (by have := hbel.size; omega)
set_option maxRecDepth 100000 in
set_option maxHeartbeats 16000000 in
theorem Send_b {w : World} {p : Nat} {A : Option Addr} {l : List Msg} (h : RAt w p A l) (m : Msg) (hl : l.length ≤ 1000) :
    Calls Try.prog 39 #[.pointer (some ⟨p, 0, none⟩), .agg #[.string m.key, .int .i64 m.fr, .int .i64 m.to, .int .i64 m.ca, .int .i64 m.tg, .int .i64 m.va, .int .i64 m.sz, .bool m.tk]] w fun e w' => e = .returned (.int .i64 (sendE l m)) ∧ GoesR w p A (sendL l m) w' := by
  obtain ⟨key, fr, tt, ca, tg, va, sz, tk⟩ := m
  have b1 := (Below.refl w.heap.size w).alloc (Nat.le_refl _) (.cells #[.string key, .int .i64 fr, .int .i64 tt, .int .i64 ca, .int .i64 tg, .int .i64 va, .int .i64 sz, .bool tk] 33)
  have kx := Blk.new w 33 #[.string key, .int .i64 fr, .int .i64 tt, .int .i64 ca, .int .i64 tg, .int .i64 va, .int .i64 sz, .bool tk]
  have GO1 := hide (GoesR.same h b1)
  have q1 := h.below b1
  have noE : Hid (¬ mayM ⟨key, fr, tt, ca, tg, va, sz, tk⟩ → sendE l ⟨key, fr, tt, ca, tg, va, sz, tk⟩ = 2 ∧ sendL l ⟨key, fr, tt, ca, tg, va, sz, tk⟩ = l) := hide (fun hn => ⟨by unfold sendE; rw [if_neg fun h => hn h.1], by unfold sendL; rw [if_neg fun h => hn h.1]⟩)
  go_enter Try.func39, Try.ntmps39
  go_upto_region 1 with (fail)
  obtain ⟨w1, hw1⟩ : ∃ z, w.alloc (.cells #[.string key, .int .i64 fr, .int .i64 tt, .int .i64 ca, .int .i64 tg, .int .i64 va, .int .i64 sz, .bool tk] 33) = z := ⟨_, rfl⟩
  rw [hw1] at b1 kx q1 GO1 ⊢
  obtain ⟨X, hX⟩ : ∃ X, w.heap.size = X := ⟨_, rfl⟩
  have HB1 := hide b1
  rw [hX] at kx ⊢
  have HQ1 := hide q1
  have PC := hide (place_b q1.st ⟨fr, ca⟩ hl)
  have KX := hide kx
  have y0 : w1.cell? ⟨X, 0, none⟩ = some (.string key) := KX.out.cell 0
  have y1 : w1.cell? ⟨X, 1, none⟩ = some (.int .i64 fr) := KX.out.cell 1
  have y2 : w1.cell? ⟨X, 2, none⟩ = some (.int .i64 tt) := KX.out.cell 2
  have y3 : w1.cell? ⟨X, 3, none⟩ = some (.int .i64 ca) := KX.out.cell 3
  have y4 : w1.cell? ⟨X, 4, none⟩ = some (.int .i64 tg) := KX.out.cell 4
  have y5 : w1.cell? ⟨X, 5, none⟩ = some (.int .i64 va) := KX.out.cell 5
  have y6 : w1.cell? ⟨X, 6, none⟩ = some (.int .i64 sz) := KX.out.cell 6
  have y7 : w1.cell? ⟨X, 7, none⟩ = some (.bool tk) := KX.out.cell 7
  clear b1 kx q1 hw1 hX h
  by_cases h0 : fr < 0
  · have hno : Hid (¬ mayM ⟨key, fr, tt, ca, tg, va, sz, tk⟩) := hide (fun h => by unfold mayM at h; simp only at h; omega)
    go_wp2_with fail
    go_ret
    exact ⟨by rw [(noE.out hno.out).1]; rfl, by rw [(noE.out hno.out).2]; exact GO1.out⟩
  by_cases h1 : 63 < fr
  · have hno : Hid (¬ mayM ⟨key, fr, tt, ca, tg, va, sz, tk⟩) := hide (fun h => by unfold mayM at h; simp only at h; omega)
    go_wp2_with fail
    go_ret
    exact ⟨by rw [(noE.out hno.out).1]; rfl, by rw [(noE.out hno.out).2]; exact GO1.out⟩
  by_cases h2 : tt < 0
  · have hno : Hid (¬ mayM ⟨key, fr, tt, ca, tg, va, sz, tk⟩) := hide (fun h => by unfold mayM at h; simp only at h; omega)
    go_wp2_with fail
    go_ret
    exact ⟨by rw [(noE.out hno.out).1]; rfl, by rw [(noE.out hno.out).2]; exact GO1.out⟩
  by_cases h3 : 63 < tt
  · have hno : Hid (¬ mayM ⟨key, fr, tt, ca, tg, va, sz, tk⟩) := hide (fun h => by unfold mayM at h; simp only at h; omega)
    go_wp2_with fail
    go_ret
    exact ⟨by rw [(noE.out hno.out).1]; rfl, by rw [(noE.out hno.out).2]; exact GO1.out⟩
  by_cases h4 : ca < 0
  · have hno : Hid (¬ mayM ⟨key, fr, tt, ca, tg, va, sz, tk⟩) := hide (fun h => by unfold mayM at h; simp only at h; omega)
    go_wp2_with fail
    go_ret
    exact ⟨by rw [(noE.out hno.out).1]; rfl, by rw [(noE.out hno.out).2]; exact GO1.out⟩
  by_cases h5 : tg < 0
  · have hno : Hid (¬ mayM ⟨key, fr, tt, ca, tg, va, sz, tk⟩) := hide (fun h => by unfold mayM at h; simp only at h; omega)
    go_wp2_with fail
    go_ret
    exact ⟨by rw [(noE.out hno.out).1]; rfl, by rw [(noE.out hno.out).2]; exact GO1.out⟩
  by_cases h6 : 32767 < tg
  · have hno : Hid (¬ mayM ⟨key, fr, tt, ca, tg, va, sz, tk⟩) := hide (fun h => by unfold mayM at h; simp only at h; omega)
    go_wp2_with fail
    go_ret
    exact ⟨by rw [(noE.out hno.out).1]; rfl, by rw [(noE.out hno.out).2]; exact GO1.out⟩
  by_cases h7 : sz < 1
  · have hno : Hid (¬ mayM ⟨key, fr, tt, ca, tg, va, sz, tk⟩) := hide (fun h => by unfold mayM at h; simp only at h; omega)
    go_wp2_with fail
    go_ret
    exact ⟨by rw [(noE.out hno.out).1]; rfl, by rw [(noE.out hno.out).2]; exact GO1.out⟩
  by_cases h8 : 64 < sz
  · have hno : Hid (¬ mayM ⟨key, fr, tt, ca, tg, va, sz, tk⟩) := hide (fun h => by unfold mayM at h; simp only at h; omega)
    go_wp2_with fail
    go_ret
    exact ⟨by rw [(noE.out hno.out).1]; rfl, by rw [(noE.out hno.out).2]; exact GO1.out⟩
  cases tk with
  | true =>
    have hno : Hid (¬ mayM ⟨key, fr, tt, ca, tg, va, sz, true⟩) := hide (fun h => by have := h.2.2.2.2.2.2.2.2.2; cases this)
    go_wp2_with fail
    go_ret
    exact ⟨by rw [(noE.out hno.out).1]; rfl, by rw [(noE.out hno.out).2]; exact GO1.out⟩
  | false =>
    have hyes : Hid (mayM ⟨key, fr, tt, ca, tg, va, sz, false⟩) := hide (show mayM _ from ⟨by show _ ≤ _ ; simp only ; omega, by show _ < _ ; simp only ; omega, by show _ ≤ _ ; simp only ; omega, by show _ < _ ; simp only ; omega, by show _ ≤ _ ; simp only ; omega, by show _ ≤ _ ; simp only ; omega, by show _ ≤ _ ; simp only ; omega, by show _ ≤ _ ; simp only ; omega, by show _ ≤ _ ; simp only ; omega, rfl⟩)
    go_wp2_with fail
    refine PC.out.mono ?_
    rintro e w1b ⟨rfl, hw1b⟩
    obtain rfl : w1 = w1b := hw1b
    cases hp : plc l ⟨fr, ca⟩ with
    | some i =>
      have e1 : plcI l ⟨fr, ca⟩ = (i : Int) := by unfold plcI; rw [hp]
      rw [e1]
      have hge : (0 : Int) ≤ (i : Int) := by omega
      have FE : Hid (sendE l ⟨key, fr, tt, ca, tg, va, sz, false⟩ = 2 ∧ sendL l ⟨key, fr, tt, ca, tg, va, sz, false⟩ = l) := hide (by
        have hn : ¬ (mayM ⟨key, fr, tt, ca, tg, va, sz, false⟩ ∧ plc l (Msg.who ⟨key, fr, tt, ca, tg, va, sz, false⟩) = none) := fun h => by
          have h2 : plc l ⟨fr, ca⟩ = none := h.2
          rw [hp] at h2
          cases h2
        exact ⟨by unfold sendE; rw [if_neg hn], by unfold sendL; rw [if_neg hn]⟩)
      clear e1 hp PC
      go_wp2_with fail
      go_ret
      exact ⟨by rw [FE.out.1]; rfl, by rw [FE.out.2]; exact GO1.out⟩
    | none =>
      have e1 : plcI l ⟨fr, ca⟩ = -1 := by unfold plcI; rw [hp]
      rw [e1]
      have FE : Hid (sendE l ⟨key, fr, tt, ca, tg, va, sz, false⟩ = 0 ∧ sendL l ⟨key, fr, tt, ca, tg, va, sz, false⟩ = l ++ [⟨key, fr, tt, ca, tg, va, sz, false⟩]) := hide (by
        have hn : mayM ⟨key, fr, tt, ca, tg, va, sz, false⟩ ∧ plc l (Msg.who ⟨key, fr, tt, ca, tg, va, sz, false⟩) = none := ⟨hyes.out, hp⟩
        exact ⟨by unfold sendE; rw [if_pos hn], by unfold sendL; rw [if_pos hn]⟩)
      obtain ⟨cap, hb, hown⟩ := HQ1.out
      have c0 : w1.cell? ⟨p, 0, none⟩ = some (.slice A l.length cap) := hb.cell 0
      have bz := (Below.refl w1.heap.size w1).alloc (Nat.le_refl _) (.cells #[.string key, .int .i64 fr, .int .i64 tt, .int .i64 ca, .int .i64 tg, .int .i64 va, .int .i64 sz, .bool false] 33)
      have c0' : (w1.alloc (.cells #[.string key, .int .i64 fr, .int .i64 tt, .int .i64 ca, .int .i64 tg, .int .i64 va, .int .i64 sz, .bool false] 33)).cell? ⟨p, 0, none⟩ = some (.slice A l.length cap) := (hb.below bz hb.lt).cell 0
      have kx' := KX.out.below bz KX.out.lt
      have yy0 : (w1.alloc (.cells #[.string key, .int .i64 fr, .int .i64 tt, .int .i64 ca, .int .i64 tg, .int .i64 va, .int .i64 sz, .bool false] 33)).cell? ⟨X, 0, none⟩ = some (.string key) := kx'.cell 0
      have yy1 : (w1.alloc (.cells #[.string key, .int .i64 fr, .int .i64 tt, .int .i64 ca, .int .i64 tg, .int .i64 va, .int .i64 sz, .bool false] 33)).cell? ⟨X, 1, none⟩ = some (.int .i64 fr) := kx'.cell 1
      have yy2 : (w1.alloc (.cells #[.string key, .int .i64 fr, .int .i64 tt, .int .i64 ca, .int .i64 tg, .int .i64 va, .int .i64 sz, .bool false] 33)).cell? ⟨X, 2, none⟩ = some (.int .i64 tt) := kx'.cell 2
      have yy3 : (w1.alloc (.cells #[.string key, .int .i64 fr, .int .i64 tt, .int .i64 ca, .int .i64 tg, .int .i64 va, .int .i64 sz, .bool false] 33)).cell? ⟨X, 3, none⟩ = some (.int .i64 ca) := kx'.cell 3
      have yy4 : (w1.alloc (.cells #[.string key, .int .i64 fr, .int .i64 tt, .int .i64 ca, .int .i64 tg, .int .i64 va, .int .i64 sz, .bool false] 33)).cell? ⟨X, 4, none⟩ = some (.int .i64 tg) := kx'.cell 4
      have yy5 : (w1.alloc (.cells #[.string key, .int .i64 fr, .int .i64 tt, .int .i64 ca, .int .i64 tg, .int .i64 va, .int .i64 sz, .bool false] 33)).cell? ⟨X, 5, none⟩ = some (.int .i64 va) := kx'.cell 5
      have yy6 : (w1.alloc (.cells #[.string key, .int .i64 fr, .int .i64 tt, .int .i64 ca, .int .i64 tg, .int .i64 va, .int .i64 sz, .bool false] 33)).cell? ⟨X, 6, none⟩ = some (.int .i64 sz) := kx'.cell 6
      have yy7 : (w1.alloc (.cells #[.string key, .int .i64 fr, .int .i64 tt, .int .i64 ca, .int .i64 tg, .int .i64 va, .int .i64 sz, .bool false] 33)).cell? ⟨X, 7, none⟩ = some (.bool false) := kx'.cell 7
      obtain ⟨A2, c2, w7, hrun, ho7, hgr, hob⟩ := push_m w1.drew 0 A cap l.length _ ⟨key, fr, tt, ca, tg, va, sz, false⟩ (own_belowR hown (Below.refl _ _).drew) (Nat.zero_le _) (by omega)
      have RUN : Hid ((Builtin.append_ #[45, 45] 45 #[.slice A l.length cap, .slice (some ⟨w1.heap.size, 0, none⟩) 1 1]).run Try.prog (w1.alloc (.cells #[.string key, .int .i64 fr, .int .i64 tt, .int .i64 ca, .int .i64 tg, .int .i64 va, .int .i64 sz, .bool false] 33)).drew = .ok (.slice A2 (l.length + 1) c2) w7) := hide hrun
      obtain ⟨hp7, hgo⟩ := goes_sent (w := w) (w1 := w1.drew) (m := ⟨key, fr, tt, ca, tg, va, sz, false⟩) hb (own_belowR hown (Below.refl _ _).drew) HB1.out.drew hgr ho7 hob
      have GO9 := hide hgo
      have c7 : w7.cell? ⟨p, 0, none⟩ = some (.slice A l.length cap) := hp7.cell 0
      have f7 := hp7.frozen 0
      clear e1 hp PC hb hown bz kx' hrun ho7 hgr hob hp7 hgo
      go_upto_region 3 with (fail)
      go_region_law (refine step_append_runE rfl (.tmp 65) (.tmp 67) _ _ rfl _ _ (by simp [Act.eval, Act.put]) (by simp [Act.eval, Act.put]) _ _ RUN.out ?_)
      all_goals (go_wp2_with fail)
      all_goals go_ret
      all_goals exact ⟨by rw [FE.out.1]; rfl, by rw [FE.out.2]; exact GO9.out⟩
end Qu
end Go.Proofs.Ytonmojinijpneaa
