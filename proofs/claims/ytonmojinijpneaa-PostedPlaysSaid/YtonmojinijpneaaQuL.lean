/- A message is sent: how the queue lies then. -/
import Derived.Test.YtonmojinijpneaaRows
import Derived.Test.YtonmojinijpneaaQuK
namespace Go.Proofs.Ytonmojinijpneaa
open Go Go.RowKit Go.Lib
set_option linter.unusedVariables false
set_option linter.unusedSimpArgs false
namespace Qu
section
variable {κ σ : Type} [DecidableEq κ]
/-- What lies at a key is another one; or it is laid behind all others. -/
def updA : List (κ × σ) → κ → σ → List (κ × σ)
  | [], c, x => [(c, x)]
  | p :: l, c, x => if c = p.1 then (c, x) :: l else p :: updA l c x
theorem updA_keys : ∀ (l : List (κ × σ)) (c : κ) (x : σ) (d : κ), d ∈ (updA l c x).map (·.1) ↔ d = c ∨ d ∈ l.map (·.1)
  | [], c, x, d => by simp [updA]
  | p :: l, c, x, d => by
    rw [updA]
    split
    · rename_i h
      rw [List.map_cons, List.map_cons, List.mem_cons, List.mem_cons, h]
      exact ⟨fun h => h.imp id .inr, fun h => h.elim .inl id⟩
    · rw [List.map_cons, List.map_cons, List.mem_cons, List.mem_cons, updA_keys l c x d]
      constructor
      · rintro (h | h | h)
        · exact .inr (.inl h)
        · exact .inl h
        · exact .inr (.inr h)
      · rintro (h | h | h)
        · exact .inr (.inl h)
        · exact .inl h
        · exact .inr (.inr h)
theorem updA_nodup : ∀ (l : List (κ × σ)) (c : κ) (x : σ), (l.map (·.1)).Nodup → ((updA l c x).map (·.1)).Nodup
  | [], c, x, _ => by simp [updA]
  | p :: l, c, x, h => by
    have h' := List.nodup_cons.1 h
    rw [updA]
    split
    · rename_i hc
      rw [List.map_cons, List.nodup_cons]
      exact ⟨by show c ∉ _; rw [hc]; exact h'.1, h'.2⟩
    · rename_i hc
      rw [List.map_cons, List.nodup_cons]
      refine ⟨fun hm => ?_, updA_nodup l c x h'.2⟩
      rcases (updA_keys l c x p.1).1 hm with e | e
      · exact hc e.symm
      · exact h'.1 e
theorem updA_mem : ∀ {l : List (κ × σ)} {c : κ} {x : σ} {p : κ × σ}, (l.map (·.1)).Nodup → p ∈ updA l c x → p = (c, x) ∨ (p ∈ l ∧ ¬ p.1 = c)
  | [], c, x, p, _, h => by rw [updA] at h; exact .inl (List.mem_singleton.1 h)
  | y :: l, c, x, p, hn, h => by
    have h' := List.nodup_cons.1 hn
    rw [updA] at h
    split at h
    · rename_i hc
      rcases List.mem_cons.1 h with e | e
      · exact .inl e
      · refine .inr ⟨List.mem_cons_of_mem _ e, fun e2 => h'.1 ?_⟩
        show y.1 ∈ _
        rw [← hc, ← e2]
        exact List.mem_map_of_mem (f := (·.1)) e
    · rename_i hc
      rcases List.mem_cons.1 h with e | e
      · exact .inr ⟨by rw [e]; exact List.mem_cons_self, fun e2 => hc (by rw [← e2, e])⟩
      · rcases updA_mem h'.2 e with e | ⟨e1, e2⟩
        · exact .inl e
        · exact .inr ⟨List.mem_cons_of_mem _ e1, e2⟩
theorem put_updA (F F' : κ → σ → Value) {c : κ} {x : σ} (ho : ∀ d y, ¬ d = c → F' d y = F d y) : ∀ (l : List (κ × σ)), (l.map (·.1)).Nodup →
    SMap.put (l.map fun p => (p.1, F p.1 p.2)) c (F' c x) = (updA l c x).map fun p => (p.1, F' p.1 p.2)
  | [], _ => rfl
  | p :: l, hn => by
    have h' := List.nodup_cons.1 hn
    rw [List.map_cons, SMap.put, updA]
    by_cases hc : c = p.1
    · rw [if_pos hc, if_pos hc, List.map_cons]
      congr 1
      apply List.map_congr_left
      intro y hy
      have hne : ¬ y.1 = c := fun e => h'.1 (by show p.1 ∈ _; rw [← hc, ← e]; exact List.mem_map_of_mem (f := (·.1)) hy)
      rw [ho _ _ hne]
    · rw [if_neg hc, if_neg hc, put_updA F F' ho l h'.2, List.map_cons, ho _ _ (fun e => hc e.symm)]
theorem nodup_mid {α : Type} {X Y : List α} {a : α} : (X ++ a :: Y).Nodup ↔ ¬ a ∈ X ++ Y ∧ (X ++ Y).Nodup := by
  rw [(List.perm_middle (a := a) (l₁ := X) (l₂ := Y)).nodup_iff, List.nodup_cons]
theorem updA_foot (g : σ → Nat) {c : κ} {x : σ} : ∀ (l : List (κ × σ)) (X Y : List Nat), (X ++ (l.map (fun p => g p.2) ++ Y)).Nodup → (l.map (·.1)).Nodup → ((∃ y, (c, y) ∈ l ∧ g y = g x) ∨ ¬ g x ∈ X ++ (l.map (fun p => g p.2) ++ Y)) →
    (X ++ ((updA l c x).map (fun p => g p.2) ++ Y)).Nodup
  | [], X, Y, h, _, hx => by
    rcases hx with ⟨y, hy, _⟩ | hx
    · cases hy
    · show (X ++ g x :: Y).Nodup
      exact nodup_mid.2 ⟨hx, h⟩
  | p :: l, X, Y, h, hn, hx => by
    have h' := List.nodup_cons.1 hn
    rw [updA]
    split
    · rename_i hc
      show (X ++ g x :: (l.map (fun p => g p.2) ++ Y)).Nodup
      have h1 : (X ++ g p.2 :: (l.map (fun p => g p.2) ++ Y)).Nodup := h
      rcases hx with ⟨y, hy, e⟩ | hx
      · rcases List.mem_cons.1 hy with e2 | e2
        · rw [← e, show y = p.2 by rw [← e2]]; exact h1
        · exact absurd (List.mem_map_of_mem (f := (·.1)) e2) (by show ¬ c ∈ _; rw [hc]; exact h'.1)
      · exact nodup_mid.2 ⟨fun hm => hx (by
          show g x ∈ X ++ g p.2 :: (l.map (fun p => g p.2) ++ Y)
          rcases List.mem_append.1 hm with hm | hm
          · exact List.mem_append_left _ hm
          · exact List.mem_append_right _ (List.mem_cons_of_mem _ hm)), (nodup_mid.1 h1).2⟩
    · rename_i hc
      have e : X ++ ((p :: updA l c x).map (fun p => g p.2) ++ Y) = (X ++ [g p.2]) ++ ((updA l c x).map (fun p => g p.2) ++ Y) := by simp
      have e2 : X ++ ((p :: l).map (fun p => g p.2) ++ Y) = (X ++ [g p.2]) ++ (l.map (fun p => g p.2) ++ Y) := by simp
      rw [e]
      rw [e2] at h hx
      refine updA_foot g l _ _ h h'.2 (hx.imp ?_ id)
      rintro ⟨y, hy, e3⟩
      rcases List.mem_cons.1 hy with e4 | e4
      · exact absurd (by rw [← e4]) hc
      · exact ⟨y, e4, e3⟩
end
theorem plcR_app (l : List Msg) (m : Msg) (v : Who) (hp : plc l m.who = none) : plcR (l ++ [m]) v = if v = m.who then some ⟨m.ch, (rowsOf l m.ch).length⟩ else plcR l v := by
  unfold plcR
  rw [plc_app]
  cases hv : plc l v with
  | some i =>
    have hne : ¬ v = m.who := fun e => by rw [e, hp] at hv; cases hv
    have hi := plc_lt hv
    rw [if_neg hne]
    have e1 : (l ++ [m]).getD i m0 = l.getD i m0 := by rw [List.getD_eq_getElem?_getD, List.getElem?_append_left hi, ← List.getD_eq_getElem?_getD]
    have e2 : (l ++ [m]).take i = l.take i := List.take_append_of_le_length (by omega)
    simp only [Option.map_some, e1, e2]
  | none =>
    by_cases e : v = m.who
    · subst e
      rw [if_pos rfl]
      simp only [if_true, Option.map_some]
      have e1 : (l ++ [m]).getD l.length m0 = m := by rw [List.getD_eq_getElem?_getD, List.getElem?_append_right (Nat.le_refl _)]; simp
      have e2 : (l ++ [m]).take l.length = l := List.take_left
      rw [e1, e2]
    · rw [if_neg e]
      simp only [if_neg (fun h => e (Eq.symm h)), Option.map_none]
theorem QSt.sent {w w' : World} {q : Nat} {L : QL} {l : List Msg} (h : QSt w q L l) {m : Msg} (hm : mayM m) (hp : plc l m.who = none) {x : CRow} {sl' : List (Inb × SRow)}
    (hfi : (rowsOf l m.ch = [] ∧ x.fi = 0) ∨ ∃ y, (m.ch, y) ∈ L.cl ∧ x.fi = y.fi)
    (hrow : w'.ownsRow 0 33 8 (.slice (some ⟨x.g, 0, none⟩) ((rowsOf l m.ch).length + 1) x.cap) ((rowsOf l m.ch).length + 1) (msgCs (rowsOf l m.ch ++ [m])))
    (hmc : SMap.MB chV w' L.cm (SMap.put (L.cl.map fun p => (p.1, rowV (rowsOf l p.1) p.2)) m.ch (rowV (rowsOf l m.ch ++ [m]) x)))
    (hmp : SMap.MB whV w' L.pm (SMap.put (L.pl.map fun p => (p.1, plV p.2)) m.who (plV ⟨m.ch, (rowsOf l m.ch).length⟩)))
    (hs : (rowsOf l m.ch ≠ [] ∧ sl' = L.sl ∧ SMap.MB inV w' L.sm (L.sl.map fun p => (p.1, slV (fromsOf l p.1) p.2)) ∧ ∀ p ∈ L.sl, w'.heap[p.2.g]? = w.heap[p.2.g]?) ∨
      (rowsOf l m.ch = [] ∧ ∃ y, sl' = updA L.sl m.inb y ∧ SMap.MB inV w' L.sm (SMap.put (L.sl.map fun p => (p.1, slV (fromsOf l p.1) p.2)) m.inb (slV (fromsOf (l ++ [m]) m.inb) y)) ∧ w'.ownsRow 0 3 1 (.slice (some ⟨y.g, 0, none⟩) (fromsOf (l ++ [m]) m.inb).length y.cap) (fromsOf (l ++ [m]) m.inb).length (ints (fromsOf (l ++ [m]) m.inb)) ∧ ∀ p ∈ L.sl, ¬ p.1 = m.inb → w'.heap[p.2.g]? = w.heap[p.2.g]?))
    (hfd : ((⟨L.cm, L.pm, L.sm, updA L.cl m.ch x, updA L.pl m.who ⟨m.ch, (rowsOf l m.ch).length⟩, sl'⟩ : QL).foot q).Nodup)
    (hkq : w'.heap[q]? = w.heap[q]?) (hkr : ∀ p ∈ L.cl, ¬ p.1 = m.ch → w'.heap[p.2.g]? = w.heap[p.2.g]?) :
    QSt w' q ⟨L.cm, L.pm, L.sm, updA L.cl m.ch x, updA L.pl m.who ⟨m.ch, (rowsOf l m.ch).length⟩, sl'⟩ (l ++ [m]) := by
  have hro : ∀ d, ¬ d = m.ch → rowsOf (l ++ [m]) d = rowsOf l d := fun d hd => by rw [rowsOf_app, rowsOf_one, if_neg (fun e => hd e.symm), List.append_nil]
  have hrn : rowsOf (l ++ [m]) m.ch = rowsOf l m.ch ++ [m] := by rw [rowsOf_app, rowsOf_one, if_pos rfl]
  have hfo : ∀ b, ¬ m.inb = b ∨ rowsOf l m.ch ≠ [] → fromsOf (l ++ [m]) b = fromsOf l b := fun b hb => fromsOf_old b hb
  have hpl : SMap.look (L.pl.map fun p => (p.1, plV p.2)) m.who = none := by rw [h.pin]; unfold plcR; rw [hp]; rfl
  have hpe := put_updA (fun _ p => plV p) (fun _ p => plV p) (c := m.who) (x := ⟨m.ch, (rowsOf l m.ch).length⟩) (fun _ _ _ => rfl) L.pl h.kp
  have hce := put_updA (fun c x => rowV (rowsOf l c) x) (fun c x => rowV (rowsOf (l ++ [m]) c) x) (c := m.ch) (x := x) (fun d y hd => by show rowV _ _ = rowV _ _; rw [hro d hd]) L.cl h.kc
  have hlen : (rowsOf l m.ch ++ [m]).length = (rowsOf l m.ch).length + 1 := by simp
  refine ⟨hkq.trans h.blk, ?_, ?_, ?_, updA_nodup _ _ _ h.kc, updA_nodup _ _ _ h.kp, ?_, hfd, ?_, ?_, ?_, ?_, ?_, ?_, ?_, uniq_app h.uq hp⟩
  · rw [← hrn] at hmc
    rw [hce] at hmc
    exact hmc
  · rw [hpe] at hmp
    exact hmp
  · rcases hs with ⟨hne, rfl, hms, _⟩ | ⟨hem, y, rfl, hms, _⟩
    · have e : (L.sl.map fun p => (p.1, slV (fromsOf (l ++ [m]) p.1) p.2)) = L.sl.map fun p => (p.1, slV (fromsOf l p.1) p.2) := List.map_congr_left fun p _ => by rw [hfo _ (.inr hne)]
      show SMap.MB inV w' L.sm (L.sl.map fun p => (p.1, slV (fromsOf (l ++ [m]) p.1) p.2))
      rw [e]
      exact hms
    · rw [put_updA (fun b y => slV (fromsOf l b) y) (fun b y => slV (fromsOf (l ++ [m]) b) y) (fun d y hd => by show slV _ _ = slV _ _; rw [hfo d (.inl (fun e => hd e.symm))]) L.sl h.ks] at hms
      exact hms
  · rcases hs with ⟨_, rfl, _⟩ | ⟨_, y, rfl, _⟩
    · exact h.ks
    · exact updA_nodup _ _ _ h.ks
  · intro c
    show c ∈ (updA L.cl m.ch x).map (·.1) ↔ _
    rw [updA_keys, h.cin, rowsOf_app, rowsOf_one]
    by_cases e : c = m.ch
    · subst e; simp
    · rw [if_neg (fun e2 => e e2.symm), List.append_nil]
      simp [e]
  · intro p hpm
    rcases updA_mem h.kc hpm with e | ⟨e1, e2⟩
    · subst e
      show w'.ownsRow 0 _ 8 (.slice (some ⟨x.g, 0, none⟩) (rowsOf (l ++ [m]) m.ch).length x.cap) (rowsOf (l ++ [m]) m.ch).length (msgCs (rowsOf (l ++ [m]) m.ch))
      rw [hrn, hlen]
      exact hrow
    · rw [hro _ e2]
      exact own_heap (h.crow p e1) (hkr p e1 e2)
  · intro p hpm
    rcases updA_mem h.kc hpm with e | ⟨e1, e2⟩
    · subst e
      show x.fi ≤ (rowsOf (l ++ [m]) m.ch).length ∧ ∀ z ∈ (rowsOf (l ++ [m]) m.ch).take x.fi, z.tk = true
      rw [hrn, hlen]
      rcases hfi with ⟨_, e⟩ | ⟨y, hy, e⟩
      · rw [e]; exact ⟨Nat.zero_le _, fun z hz => absurd hz (by simp)⟩
      · have h1 := h.cfi _ hy
        simp only at h1
        rw [e]
        exact ⟨by omega, fun z hz => h1.2 z (by rw [List.take_append_of_le_length h1.1] at hz; exact hz)⟩
    · rw [hro _ e2]
      exact h.cfi p e1
  · intro v
    show SMap.look ((updA L.pl m.who ⟨m.ch, (rowsOf l m.ch).length⟩).map fun p => (p.1, plV p.2)) v = _
    rw [← hpe, SMap.look_put, plcR_app l m v hp, h.pin]
    by_cases e : v = m.who
    · rw [if_pos e, if_pos e]; rfl
    · rw [if_neg e, if_neg e]
  · intro b
    rcases hs with ⟨hne, rfl, _⟩ | ⟨hem, y, rfl, _⟩
    · show b ∈ L.sl.map (·.1) ↔ _
      rw [hfo _ (.inr hne)]; exact h.sin b
    · show b ∈ (updA L.sl m.inb y).map (·.1) ↔ _
      rw [updA_keys]
      by_cases e : b = m.inb
      · subst e
        have : m.fr ∈ fromsOf (l ++ [m]) m.inb := fromsOf_mem.2 ⟨⟨hm.1, hm.2.1⟩, m, by simp, rfl⟩
        exact ⟨fun _ e2 => (by rw [e2] at this; cases this), fun _ => .inl rfl⟩
      · rw [hfo _ (.inl (fun e2 => e e2.symm)), h.sin]
        simp [e]
  · intro p hpm
    rcases hs with ⟨hne, rfl, _, hk⟩ | ⟨hem, y, rfl, _, hown, hk⟩
    · rw [hfo _ (.inr hne)]
      exact own_heap (h.srow p hpm) (hk p hpm)
    · rcases updA_mem h.ks hpm with e | ⟨e1, e2⟩
      · subst e; exact hown
      · rw [hfo _ (.inl (fun e => e2 e.symm))]
        exact own_heap (h.srow p e1) (hk p e1 e2)
  · intro z hz
    rcases List.mem_append.1 hz with hz | hz
    · exact h.ok z hz
    · rw [List.mem_singleton.1 hz]
      exact ⟨hm.1, hm.2.1, hm.2.2.1, hm.2.2.2.1, hm.2.2.2.2.1, hm.2.2.2.2.2.1, hm.2.2.2.2.2.2.1, hm.2.2.2.2.2.2.2.1, hm.2.2.2.2.2.2.2.2.1, rfl⟩
end Qu
end Go.Proofs.Ytonmojinijpneaa
