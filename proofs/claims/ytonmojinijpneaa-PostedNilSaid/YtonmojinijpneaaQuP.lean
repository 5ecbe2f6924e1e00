/- Messages, and what a queue of them answers. No program's text. -/
import Derived.Test.YtonmojinijpneaaRows
namespace Go.Proofs.Ytonmojinijpneaa
open Go
set_option linter.unusedVariables false
set_option linter.unusedSimpArgs false
namespace Qu
structure Msg where
  key : ByteArray
  fr : Int
  to : Int
  ca : Int
  tg : Int
  va : Int
  sz : Int
  tk : Bool
deriving DecidableEq
structure Chan where
  key : ByteArray
  fr : Int
  to : Int
deriving DecidableEq
structure Who where
  fr : Int
  ca : Int
deriving DecidableEq
structure Inb where
  key : ByteArray
  to : Int
deriving DecidableEq
def Msg.ch (m : Msg) : Chan := ⟨m.key, m.fr, m.to⟩
def Msg.who (m : Msg) : Who := ⟨m.fr, m.ca⟩
def Msg.inb (m : Msg) : Inb := ⟨m.key, m.to⟩
def Msg.took (m : Msg) : Msg := { m with tk := true }
def mayM (m : Msg) : Prop := 0 ≤ m.fr ∧ m.fr < 64 ∧ 0 ≤ m.to ∧ m.to < 64 ∧ 0 ≤ m.ca ∧ 0 ≤ m.tg ∧ m.tg ≤ 32767 ∧ 1 ≤ m.sz ∧ m.sz ≤ 64 ∧ m.tk = false
instance (m : Msg) : Decidable (mayM m) := by unfold mayM; infer_instance
/-- Where the message of a call stands. -/
def plc : List Msg → Who → Option Nat
  | [], _ => none
  | m :: l, w => if m.who = w then some 0 else (plc l w).map (· + 1)
theorem plc_some : ∀ {l : List Msg} {w : Who} {i : Nat}, plc l w = some i → ∃ m, l[i]? = some m ∧ m.who = w
  | m :: l, w, i, h => by
    rw [plc] at h
    split at h
    · rename_i hw
      cases h
      exact ⟨m, rfl, hw⟩
    · cases hp : plc l w with
      | none => rw [hp] at h; cases h
      | some j =>
        rw [hp] at h
        cases h
        obtain ⟨m', h1, h2⟩ := plc_some hp
        exact ⟨m', by simpa using h1, h2⟩
theorem plc_lt {l : List Msg} {w : Who} {i : Nat} (h : plc l w = some i) : i < l.length := by
  obtain ⟨m, hm, _⟩ := plc_some h
  exact (List.getElem?_eq_some_iff.1 hm).1
theorem plc_none : ∀ {l : List Msg} {w : Who}, plc l w = none ↔ ∀ m ∈ l, ¬ m.who = w
  | [], w => by simp [plc]
  | m :: l, w => by
    rw [plc]
    by_cases h : m.who = w
    · rw [if_pos h]
      simp [h]
    · rw [if_neg h, Option.map_eq_none_iff, plc_none]
      simp [h]
theorem plc_app : ∀ (l : List Msg) (m : Msg) (w : Who), plc (l ++ [m]) w = match plc l w with | some i => some i | none => if m.who = w then some l.length else none
  | [], m, w => by simp [plc]
  | x :: l, m, w => by
    rw [List.cons_append, plc, plc]
    by_cases h : x.who = w
    · simp [h]
    · rw [if_neg h, if_neg h, plc_app l m w]
      cases plc l w with
      | some i => rfl
      | none =>
        simp only [Option.map]
        by_cases h2 : m.who = w
        · simp [h2]
        · simp [h2]
/-- All who sent are unlike. -/
def Uniq (l : List Msg) : Prop := (l.map (·.who)).Nodup
theorem plc_uniq : ∀ {l : List Msg} (_ : Uniq l) {i : Nat} {m : Msg}, l[i]? = some m → plc l m.who = some i
  | x :: l, hu, 0, m, h => by
    have : x = m := by simpa using h
    rw [plc, if_pos (by rw [this])]
  | x :: l, hu, i + 1, m, h => by
    have hu' := List.nodup_cons.1 hu
    have hm : m ∈ l := List.mem_of_getElem? (by simpa using h)
    have hne : ¬ x.who = m.who := fun e => hu'.1 (by show x.who ∈ _; rw [e]; exact List.mem_map_of_mem (f := (·.who)) hm)
    rw [plc, if_neg hne, plc_uniq hu'.2 (by simpa using h)]
    rfl
/-- A channel's messages. -/
def rowsOf (l : List Msg) (c : Chan) : List Msg := l.filter fun m => decide (m.ch = c)
theorem rowsOf_app (l k : List Msg) (c : Chan) : rowsOf (l ++ k) c = rowsOf l c ++ rowsOf k c := by simp [rowsOf]
theorem rowsOf_one (m : Msg) (c : Chan) : rowsOf [m] c = if m.ch = c then [m] else [] := by
  by_cases h : m.ch = c <;> simp [rowsOf, h]
theorem rowsOf_len (l : List Msg) (c : Chan) : (rowsOf l c).length ≤ l.length := List.length_filter_le _ _
theorem cut_at {α : Type} {l : List α} {i : Nat} {m : α} (h : l[i]? = some m) : l = l.take i ++ m :: l.drop (i + 1) := by
  obtain ⟨hi, rfl⟩ := List.getElem?_eq_some_iff.1 h
  rw [← List.drop_eq_getElem_cons hi, List.take_append_drop]
theorem row_at {l : List Msg} {i : Nat} {m : Msg} (h : l[i]? = some m) : (rowsOf l m.ch)[(rowsOf (l.take i) m.ch).length]? = some m ∧ (rowsOf l m.ch).take (rowsOf (l.take i) m.ch).length = rowsOf (l.take i) m.ch := by
  have e : rowsOf l m.ch = rowsOf (l.take i) m.ch ++ m :: rowsOf (l.drop (i + 1)) m.ch := by
    conv => lhs; rw [cut_at h]
    rw [rowsOf_app]
    simp [rowsOf]
  rw [e]
  exact ⟨by simp, by simp⟩
theorem rowsOf_ne {l : List Msg} {c : Chan} : rowsOf l c ≠ [] ↔ ∃ m ∈ l, m.ch = c := by
  unfold rowsOf
  rw [Ne, List.filter_eq_nil_iff]
  simp
/-- Is a message one of a channel, that wasn't taken? -/
def isM (m : Msg) (c : Chan) : Bool := !m.tk && decide (m.ch = c)
def tagged (tag : Int) (m : Msg) : Bool := decide (tag = -1) || decide (tag = m.tg)
def firstL (l : List Msg) (c : Chan) (tag : Int) : Option Msg := l.find? fun m => isM m c && tagged tag m
/-- What a row of a channel tells. -/
def firstR (r : List Msg) (tag : Int) : Option Msg := r.find? fun m => !m.tk && tagged tag m
theorem first_row (l : List Msg) (c : Chan) (tag : Int) : firstR (rowsOf l c) tag = firstL l c tag := by
  unfold firstR rowsOf firstL
  rw [List.find?_filter]
  congr 1
  funext m
  unfold isM
  cases m.tk <;> cases decide (m.ch = c) <;> simp
theorem firstR_drop {r : List Msg} {n : Nat} (tag : Int) (h : ∀ m ∈ r.take n, m.tk = true) : firstR (r.drop n) tag = firstR r tag := by
  unfold firstR
  have e : (r.take n).find? (fun m => !m.tk && tagged tag m) = none := List.find?_eq_none.2 fun m hm => by rw [h m hm]; simp
  have : r.find? (fun m => !m.tk && tagged tag m) = (r.take n ++ r.drop n).find? (fun m => !m.tk && tagged tag m) := by rw [List.take_append_drop]
  rw [this, List.find?_append, e]
  rfl
/-- Those of a row that weren't taken. -/
def untaken (r : List Msg) : List Msg := r.filter fun m => !m.tk
theorem untaken_row (l : List Msg) (c : Chan) : untaken (rowsOf l c) = l.filter fun m => isM m c := by
  unfold untaken rowsOf isM
  rw [List.filter_filter]
def m0 : Msg := ⟨⟨#[]⟩, 0, 0, 0, 0, 0, 0, false⟩
def findL (l : List Msg) (w : Who) : Option Msg := (plc l w).map fun i => l.getD i m0
def aheadL (l : List Msg) (w : Who) : List Msg := match plc l w with | none => [] | some i => (l.take i).filter fun m => isM m (l.getD i m0).ch
def sendE (l : List Msg) (m : Msg) : Int := if mayM m ∧ plc l m.who = none then 0 else 2
def sendL (l : List Msg) (m : Msg) : List Msg := if mayM m ∧ plc l m.who = none then l ++ [m] else l
def takeE (l : List Msg) (w : Who) : Int := match findL l w with | none => 2 | some m => if m.tk then 2 else 0
def takeL (l : List Msg) (w : Who) : List Msg := match plc l w with | none => l | some i => l.modify i Msg.took
def upto (n : Nat) : List Int := (List.range n).map Int.ofNat
/-- Who sent to a receiver, rising. -/
def fromsOf (l : List Msg) (b : Inb) : List Int := (upto 64).filter fun f => decide (∃ m ∈ l, m.ch = ⟨b.key, f, b.to⟩)
def sendersL (l : List Msg) (b : Inb) : List Int := (upto 64).filter fun f => (firstL l ⟨b.key, f, b.to⟩ (-1)).isSome
theorem senders_of (l : List Msg) (b : Inb) : ((fromsOf l b).filter fun f => (firstL l ⟨b.key, f, b.to⟩ (-1)).isSome) = sendersL l b := by
  unfold fromsOf sendersL
  rw [List.filter_filter]
  apply List.filter_congr
  intro f _
  cases h : firstL l ⟨b.key, f, b.to⟩ (-1) with
  | none => simp
  | some m =>
    have hm := List.mem_of_find?_eq_some h
    have hp := List.find?_some h
    have hc : m.ch = ⟨b.key, f, b.to⟩ := by
      unfold isM at hp
      simp at hp
      exact hp.1.2
    simp
    exact ⟨m, hm, hc⟩
/-- Taking changes nobody's place, nobody's channel. -/
theorem took_who (m : Msg) : m.took.who = m.who := rfl
theorem took_ch (m : Msg) : m.took.ch = m.ch := rfl
theorem modify_map {α β : Type} (f : α → α) (g : α → β) (h : ∀ x, g (f x) = g x) (l : List α) (i : Nat) : (l.modify i f).map g = l.map g := by
  apply List.ext_getElem?
  intro k
  rw [List.getElem?_map, List.getElem?_map, List.getElem?_modify]
  cases l[k]? with
  | none => simp
  | some x => by_cases e : i = k <;> simp [e, h]
theorem plc_map : ∀ (l k : List Msg) (w : Who), l.map (·.who) = k.map (·.who) → plc l w = plc k w
  | [], [], w, _ => rfl
  | [], y :: k, w, h => by simp at h
  | x :: l, [], w, h => by simp at h
  | x :: l, y :: k, w, h => by
    rw [List.map_cons, List.map_cons, List.cons.injEq] at h
    rw [plc, plc, h.1, plc_map l k w h.2]
theorem plc_take (l : List Msg) (i : Nat) (w : Who) : plc (l.modify i Msg.took) w = plc l w := plc_map _ _ w (modify_map Msg.took (·.who) took_who l i)
theorem modify_cut {α : Type} {l : List α} {i : Nat} {m : α} (f : α → α) (h : l[i]? = some m) : l.modify i f = l.take i ++ f m :: l.drop (i + 1) := by
  obtain ⟨hi, rfl⟩ := List.getElem?_eq_some_iff.1 h
  rw [List.modify_eq_take_cons_drop hi]
theorem rowsOf_take_on {l : List Msg} {i : Nat} {m : Msg} (h : l[i]? = some m) : rowsOf (l.modify i Msg.took) m.ch = (rowsOf l m.ch).modify (rowsOf (l.take i) m.ch).length Msg.took := by
  have e : rowsOf l m.ch = rowsOf (l.take i) m.ch ++ m :: rowsOf (l.drop (i + 1)) m.ch := by
    conv => lhs; rw [cut_at h]
    rw [rowsOf_app]
    simp [rowsOf]
  rw [modify_cut _ h, rowsOf_app, e]
  have e2 : rowsOf (m.took :: l.drop (i + 1)) m.ch = m.took :: rowsOf (l.drop (i + 1)) m.ch := by
    unfold rowsOf
    rw [List.filter_cons, if_pos (by simp [took_ch])]
  rw [e2, modify_cut (m := m) _ (by simp)]
  simp
theorem rowsOf_take_off {l : List Msg} {i : Nat} {m : Msg} (h : l[i]? = some m) {c : Chan} (hc : ¬ m.ch = c) : rowsOf (l.modify i Msg.took) c = rowsOf l c := by
  conv => rhs; rw [cut_at h]
  rw [modify_cut _ h, rowsOf_app, rowsOf_app]
  congr 1
  unfold rowsOf
  rw [List.filter_cons, List.filter_cons, if_neg (by rw [took_ch, decide_eq_false hc]; decide), if_neg (by rw [decide_eq_false hc]; decide)]
theorem fromsOf_take {l : List Msg} {i : Nat} (b : Inb) : fromsOf (l.modify i Msg.took) b = fromsOf l b := by
  unfold fromsOf
  apply List.filter_congr
  intro f _
  have hm := modify_map Msg.took (·.ch) took_ch l i
  have : (∃ m ∈ l.modify i Msg.took, m.ch = (⟨b.key, f, b.to⟩ : Chan)) ↔ ∃ m ∈ l, m.ch = (⟨b.key, f, b.to⟩ : Chan) := by
    have e : ∀ k : List Msg, (∃ m ∈ k, m.ch = (⟨b.key, f, b.to⟩ : Chan)) ↔ (⟨b.key, f, b.to⟩ : Chan) ∈ k.map (·.ch) := fun k => by simp
    rw [e, e, hm]
  exact decide_eq_decide.2 this
theorem uniq_take {l : List Msg} {i : Nat} (h : Uniq l) : Uniq (l.modify i Msg.took) := by
  unfold Uniq
  rw [modify_map Msg.took (·.who) took_who l i]
  exact h
theorem uniq_app {l : List Msg} {m : Msg} (h : Uniq l) (hn : plc l m.who = none) : Uniq (l ++ [m]) := by
  unfold Uniq
  rw [List.map_append, List.map_singleton, List.nodup_append]
  refine ⟨h, by simp, fun a ha b hb e => ?_⟩
  obtain ⟨x, hx, rfl⟩ := List.mem_map.1 ha
  have := plc_none.1 hn x hx
  rw [List.mem_singleton.1 hb] at e
  exact this e
/-- A number more among those that are picked of a rising row. -/
theorem filter_more {l : List Int} (hl : l.Pairwise (· < ·)) {x : Int} (hx : x ∈ l) (p : Int → Bool) (hp : p x = false) :
    l.filter (fun f => p f || decide (f = x)) = (l.filter p).filter (fun f => decide (f < x)) ++ x :: (l.filter p).filter (fun f => decide (x < f)) := by
  induction l with
  | nil => cases hx
  | cons y l ih =>
    obtain ⟨h1, h2⟩ := List.pairwise_cons.1 hl
    rcases List.mem_cons.1 hx with rfl | hm
    · have e1 : ∀ z ∈ l, (p z || decide (z = x)) = p z := fun z hz => by
        have := h1 z hz
        have hn : ¬ z = x := by omega
        simp [hn]
      have e2 : (l.filter p).filter (fun f => decide (f < x)) = [] := List.filter_eq_nil_iff.2 fun z hz => by
        have := h1 z (List.mem_filter.1 hz).1
        simp
        omega
      have e3 : (l.filter p).filter (fun f => decide (x < f)) = l.filter p := List.filter_eq_self.2 fun z hz => by
        have := h1 z (List.mem_filter.1 hz).1
        simpa using this
      rw [List.filter_cons, if_pos (by simp), List.filter_cons, if_neg (by rw [hp]; decide), e2, e3, List.filter_congr e1]
      rfl
    · have hy := h1 x hm
      have hn : ¬ y = x := by omega
      rw [List.filter_cons, List.filter_cons (p := p)]
      cases hpy : p y with
      | false =>
        simp only [hpy, hn, decide_false, Bool.or_self, Bool.false_eq_true, if_false]
        exact ih h2 hm
      | true =>
        have hxy : ¬ x < y := by omega
        simp only [hpy, Bool.true_or, if_true, List.filter_cons, hy, hxy, decide_true, decide_false, Bool.false_eq_true, if_false, List.cons_append]
        rw [ih h2 hm]
theorem upto_rise (n : Nat) : (upto n).Pairwise (· < ·) := by
  unfold upto
  rw [List.pairwise_map]
  exact (List.pairwise_lt_range).imp fun h => by show ((_ : Nat) : Int) < _; exact Int.ofNat_lt.2 h
theorem upto_mem {n : Nat} {x : Int} : x ∈ upto n ↔ 0 ≤ x ∧ x < n := by
  unfold upto
  rw [List.mem_map]
  constructor
  · rintro ⟨k, hk, rfl⟩
    have := List.mem_range.1 hk
    exact ⟨Int.natCast_nonneg k, by show ((k : Nat) : Int) < n; omega⟩
  · rintro ⟨h1, h2⟩
    exact ⟨x.toNat, List.mem_range.2 (by omega), by show ((x.toNat : Nat) : Int) = x; omega⟩
theorem fromsOf_rise (l : List Msg) (b : Inb) : (fromsOf l b).Pairwise (· < ·) := (upto_rise 64).filter _
theorem fromsOf_mem {l : List Msg} {b : Inb} {f : Int} : f ∈ fromsOf l b ↔ (0 ≤ f ∧ f < 64) ∧ ∃ m ∈ l, m.ch = ⟨b.key, f, b.to⟩ := by
  unfold fromsOf
  rw [List.mem_filter, upto_mem]
  simp
/-- The first message of a channel: its sender goes in among those of its receiver. -/
theorem fromsOf_new {l : List Msg} {m : Msg} (hm : 0 ≤ m.fr ∧ m.fr < 64) (hr : rowsOf l m.ch = []) :
    fromsOf (l ++ [m]) m.inb = (fromsOf l m.inb).filter (fun f => decide (f < m.fr)) ++ m.fr :: (fromsOf l m.inb).filter (fun f => decide (m.fr < f)) := by
  have hno : decide (∃ x ∈ l, x.ch = (⟨m.inb.key, m.fr, m.inb.to⟩ : Chan)) = false := decide_eq_false fun ⟨x, hx, e⟩ => by
    exact (rowsOf_ne.2 ⟨x, hx, e⟩) hr
  have e := filter_more (upto_rise 64) (x := m.fr) (upto_mem.2 ⟨hm.1, by exact_mod_cast hm.2⟩) (fun f => decide (∃ x ∈ l, x.ch = (⟨m.inb.key, f, m.inb.to⟩ : Chan))) hno
  unfold fromsOf
  rw [← e]
  apply List.filter_congr
  intro f _
  rw [← Bool.decide_or]
  refine decide_eq_decide.2 ⟨fun ⟨x, hx, e⟩ => ?_, fun h => ?_⟩
  · rcases List.mem_append.1 hx with hx | hx
    · exact .inl ⟨x, hx, e⟩
    · rw [List.mem_singleton.1 hx] at e
      have : m.fr = f := congrArg Chan.fr e
      exact .inr this.symm
  · rcases h with ⟨x, hx, e⟩ | h
    · exact ⟨x, List.mem_append_left _ hx, e⟩
    · exact ⟨m, by simp, by rw [h]; rfl⟩
theorem fromsOf_old {l : List Msg} {m : Msg} (b : Inb) (h : ¬ m.inb = b ∨ rowsOf l m.ch ≠ []) : fromsOf (l ++ [m]) b = fromsOf l b := by
  unfold fromsOf
  apply List.filter_congr
  intro f _
  refine decide_eq_decide.2 ⟨fun ⟨x, hx, e⟩ => ?_, fun ⟨x, hx, e⟩ => ⟨x, List.mem_append_left _ hx, e⟩⟩
  rcases List.mem_append.1 hx with hx | hx
  · exact ⟨x, hx, e⟩
  · rw [List.mem_singleton.1 hx] at e
    rcases h with h | h
    · exact absurd (by have h1 := congrArg Chan.key e; have h2 := congrArg Chan.to e; show (⟨m.key, m.to⟩ : Inb) = b; rw [show m.key = b.key from h1, show m.to = b.to from h2]) h
    · obtain ⟨y, hy, e2⟩ := rowsOf_ne.1 h
      exact ⟨y, hy, e2.trans e⟩
end Qu
end Go.Proofs.Ytonmojinijpneaa
