/- A queue as it lies. -/
import Derived.Test.YtonmojinijpneaaRows
import Derived.Test.YtonmojinijpneaaGround
namespace Go.Proofs.Ytonmojinijpneaa
open Go Go.RowKit Go.Lib
set_option linter.unusedVariables false
set_option linter.unusedSimpArgs false
namespace Qu
def msgC (m : Msg) : List Value := [.string m.key, .int .i64 m.fr, .int .i64 m.to, .int .i64 m.ca, .int .i64 m.tg, .int .i64 m.va, .int .i64 m.sz, .bool m.tk]
def msgCs : List Msg → List Value
  | [] => []
  | m :: l => msgC m ++ msgCs l
theorem msgC_len (m : Msg) : (msgC m).length = 8 := rfl
theorem msgCs_len : ∀ l : List Msg, (msgCs l).length = l.length * 8
  | [] => rfl
  | m :: l => by rw [msgCs, List.length_append, msgCs_len l, msgC_len, List.length_cons]; omega
theorem msgCs_app : ∀ (a b : List Msg), msgCs (a ++ b) = msgCs a ++ msgCs b
  | [], b => rfl
  | m :: a, b => by rw [List.cons_append, msgCs, msgCs, msgCs_app a b, List.append_assoc]
theorem msgCs_at : ∀ (l : List Msg) (i : Nat) (m : Msg), l[i]? = some m → ∀ j, j < 8 → (msgCs l)[i * 8 + j]? = (msgC m)[j]?
  | x :: l, 0, m, h, j, hj => by
    have e : x = m := by simpa using h
    subst e
    rw [msgCs, List.getElem?_append_left (by rw [msgC_len]; omega)]
    simp
  | x :: l, i + 1, m, h, j, hj => by
    have e : (i + 1) * 8 + j = (msgC x).length + (i * 8 + j) := by rw [msgC_len]; omega
    rw [msgCs, e, List.getElem?_append_right (by omega), Nat.add_sub_cancel_left]
    exact msgCs_at l i m (by simpa using h) j hj
def ints (l : List Int) : List Value := l.map (Value.int .i64)
theorem ints_len (l : List Int) : (ints l).length = l.length := by simp [ints]
theorem ints_app (a b : List Int) : ints (a ++ b) = ints a ++ ints b := by simp [ints]
structure CRow where
  g : Nat
  cap : Nat
  fi : Nat
structure PRow where
  ch : Chan
  at_ : Nat
structure SRow where
  g : Nat
  cap : Nat
/-- Where a queue lies: its three maps; the rows. -/
structure QL where
  cm : Nat
  pm : Nat
  sm : Nat
  cl : List (Chan × CRow)
  pl : List (Who × PRow)
  sl : List (Inb × SRow)
def QL.foot (L : QL) (q : Nat) : List Nat := q :: L.cm :: L.pm :: L.sm :: (L.cl.map (·.2.g) ++ L.sl.map (·.2.g))
def rowV (r : List Msg) (x : CRow) : Value := .agg #[.slice (some ⟨x.g, 0, none⟩) r.length x.cap, .int .i64 x.fi]
def plV (x : PRow) : Value := .agg #[.string x.ch.key, .int .i64 x.ch.fr, .int .i64 x.ch.to, .int .i64 x.at_]
def slV (r : List Int) (x : SRow) : Value := .slice (some ⟨x.g, 0, none⟩) r.length x.cap
/-- Where the message of a call stands, as the program has it. -/
def plcR (l : List Msg) (x : Who) : Option PRow := (plc l x).map fun i => ⟨(l.getD i m0).ch, (rowsOf (l.take i) (l.getD i m0).ch).length⟩
def mayM' (m : Msg) : Prop := mayM { m with tk := false }
/-- The queue q, of the messages l, lies as L says. -/
structure QSt (w : World) (q : Nat) (L : QL) (l : List Msg) : Prop where
  blk : Blk w q 93 #[.map (some L.cm), .map (some L.pm), .map (some L.sm)]
  mc : SMap.MB chV w L.cm (L.cl.map fun p => (p.1, rowV (rowsOf l p.1) p.2))
  mp : SMap.MB whV w L.pm (L.pl.map fun p => (p.1, plV p.2))
  ms : SMap.MB inV w L.sm (L.sl.map fun p => (p.1, slV (fromsOf l p.1) p.2))
  kc : (L.cl.map (·.1)).Nodup
  kp : (L.pl.map (·.1)).Nodup
  ks : (L.sl.map (·.1)).Nodup
  fd : (L.foot q).Nodup
  cin : ∀ c, c ∈ L.cl.map (·.1) ↔ rowsOf l c ≠ []
  crow : ∀ p ∈ L.cl, w.ownsRow 0 33 8 (.slice (some ⟨p.2.g, 0, none⟩) (rowsOf l p.1).length p.2.cap) (rowsOf l p.1).length (msgCs (rowsOf l p.1))
  cfi : ∀ p ∈ L.cl, p.2.fi ≤ (rowsOf l p.1).length ∧ ∀ m ∈ (rowsOf l p.1).take p.2.fi, m.tk = true
  pin : ∀ x, SMap.look (L.pl.map fun p => (p.1, plV p.2)) x = (plcR l x).map plV
  sin : ∀ b, b ∈ L.sl.map (·.1) ↔ fromsOf l b ≠ []
  srow : ∀ p ∈ L.sl, w.ownsRow 0 3 1 (.slice (some ⟨p.2.g, 0, none⟩) (fromsOf l p.1).length p.2.cap) (fromsOf l p.1).length (ints (fromsOf l p.1))
  ok : ∀ m ∈ l, mayM' m
  uq : Uniq l
theorem own_heap {w w' : World} {B g size n c m : Nat} {e : TypeId} {xs : List Value} (h : w.ownsRow B e size (.slice (some ⟨g, 0, none⟩) m c) n xs) (hg : w'.heap[g]? = w.heap[g]?) : w'.ownsRow B e size (.slice (some ⟨g, 0, none⟩) m c) n xs := by
  refine ⟨h.1, h.2.imp id ?_⟩
  rintro ⟨g', cap, cur, hv, hge, hh, r⟩
  injection hv with h1 h2 h3
  cases h1
  exact ⟨g, cap, cur, by rw [h2, h3], hge, hg.trans hh, r⟩
theorem own_in {w : World} {B g size n c m : Nat} {e : TypeId} {xs : List Value} (h : w.ownsRow B e size (.slice (some ⟨g, 0, none⟩) m c) n xs) : g < w.heap.size := by
  rcases h.2 with ⟨hv, _⟩ | ⟨g', _, _, hv, _, hh, _⟩
  · cases hv
  · cases hv; exact (Array.getElem?_eq_some_iff.1 hh).1
variable {w w' : World} {q : Nat} {L : QL} {l : List Msg}
theorem foot_q : q ∈ L.foot q := List.mem_cons_self
theorem foot_c : L.cm ∈ L.foot q := List.mem_cons_of_mem _ List.mem_cons_self
theorem foot_p : L.pm ∈ L.foot q := List.mem_cons_of_mem _ (List.mem_cons_of_mem _ List.mem_cons_self)
theorem foot_s : L.sm ∈ L.foot q := List.mem_cons_of_mem _ (List.mem_cons_of_mem _ (List.mem_cons_of_mem _ List.mem_cons_self))
theorem foot_row {p : Chan × CRow} (h : p ∈ L.cl) : p.2.g ∈ L.foot q := List.mem_cons_of_mem _ (List.mem_cons_of_mem _ (List.mem_cons_of_mem _ (List.mem_cons_of_mem _ (List.mem_append_left _ (List.mem_map_of_mem (f := fun p : Chan × CRow => p.2.g) h)))))
theorem foot_srow {p : Inb × SRow} (h : p ∈ L.sl) : p.2.g ∈ L.foot q := List.mem_cons_of_mem _ (List.mem_cons_of_mem _ (List.mem_cons_of_mem _ (List.mem_cons_of_mem _ (List.mem_append_right _ (List.mem_map_of_mem (f := fun p : Inb × SRow => p.2.g) h)))))
theorem QSt.lt (h : QSt w q L l) : ∀ b ∈ L.foot q, b < w.heap.size := fun b hb => by
  unfold QL.foot at hb
  rcases List.mem_cons.1 hb with rfl | hb
  · exact h.blk.lt
  rcases List.mem_cons.1 hb with rfl | hb
  · exact h.mc.lt
  rcases List.mem_cons.1 hb with rfl | hb
  · exact h.mp.lt
  rcases List.mem_cons.1 hb with rfl | hb
  · exact h.ms.lt
  rcases List.mem_append.1 hb with hb | hb
  · obtain ⟨p, hp, rfl⟩ := List.mem_map.1 hb
    exact own_in (h.crow p hp)
  · obtain ⟨p, hp, rfl⟩ := List.mem_map.1 hb
    exact own_in (h.srow p hp)
theorem QSt.keep (h : QSt w q L l) (hk : ∀ b ∈ L.foot q, w'.heap[b]? = w.heap[b]?) : QSt w' q L l :=
  ⟨(hk _ foot_q).trans h.blk, (hk _ foot_c).trans h.mc, (hk _ foot_p).trans h.mp, (hk _ foot_s).trans h.ms, h.kc, h.kp, h.ks, h.fd, h.cin,
    fun p hp => own_heap (h.crow p hp) (hk _ (foot_row hp)), h.cfi, h.pin, h.sin, fun p hp => own_heap (h.srow p hp) (hk _ (foot_srow hp)), h.ok, h.uq⟩
theorem QSt.below (h : QSt w q L l) (hb : Below w.heap.size w w') : QSt w' q L l := h.keep fun b hm => hb.block b (h.lt b hm)
theorem QSt.only {S : List Nat} (h : QSt w q L l) (hb : Only S w w') (hS : ∀ b ∈ S, ¬ b ∈ L.foot q) : QSt w' q L l := h.keep fun b hm => hb.2 b (h.lt b hm) fun hs => hS b hs hm
/-- What is looked up. -/
theorem look_fn {κ σ : Type} [DecidableEq κ] (F : κ → σ → Value) : ∀ {l : List (κ × σ)}, (l.map (·.1)).Nodup → ∀ p ∈ l, SMap.look (l.map fun p => (p.1, F p.1 p.2)) p.1 = some (F p.1 p.2) := fun {l} h p hp =>
  SMap.mem_look (l.map fun p => (p.1, F p.1 p.2)) (by rw [List.map_map]; exact h) (p.1, F p.1 p.2) (List.mem_map_of_mem (f := fun p => (p.1, F p.1 p.2)) hp)
theorem look_off {κ σ : Type} [DecidableEq κ] (F : κ → σ → Value) {l : List (κ × σ)} {c : κ} (h : ¬ c ∈ l.map (·.1)) : SMap.look (l.map fun p => (p.1, F p.1 p.2)) c = none := by
  cases hl : SMap.look (l.map fun p => (p.1, F p.1 p.2)) c with
  | none => rfl
  | some v =>
    have := (SMap.look_keys (l.map fun p => (p.1, F p.1 p.2)) c).2 (by rw [hl]; simp)
    rw [List.map_map] at this
    exact absurd this h
theorem QSt.row (h : QSt w q L l) {c : Chan} (hc : rowsOf l c ≠ []) : ∃ x, (c, x) ∈ L.cl ∧ SMap.look (L.cl.map fun p => (p.1, rowV (rowsOf l p.1) p.2)) c = some (rowV (rowsOf l c) x) := by
  obtain ⟨p, hp, rfl⟩ := List.mem_map.1 ((h.cin c).2 hc)
  exact ⟨p.2, hp, look_fn (fun c x => rowV (rowsOf l c) x) h.kc p hp⟩
theorem QSt.norow (h : QSt w q L l) {c : Chan} (hc : rowsOf l c = []) : SMap.look (L.cl.map fun p => (p.1, rowV (rowsOf l p.1) p.2)) c = none :=
  look_off (fun c x => rowV (rowsOf l c) x) fun hm => (h.cin c).1 hm hc
theorem QSt.fr (h : QSt w q L l) {b : Inb} (hb : fromsOf l b ≠ []) : ∃ x, (b, x) ∈ L.sl ∧ SMap.look (L.sl.map fun p => (p.1, slV (fromsOf l p.1) p.2)) b = some (slV (fromsOf l b) x) := by
  obtain ⟨p, hp, rfl⟩ := List.mem_map.1 ((h.sin b).2 hb)
  exact ⟨p.2, hp, look_fn (fun b x => slV (fromsOf l b) x) h.ks p hp⟩
theorem QSt.nofr (h : QSt w q L l) {b : Inb} (hb : fromsOf l b = []) : SMap.look (L.sl.map fun p => (p.1, slV (fromsOf l p.1) p.2)) b = none :=
  look_off (fun b x => slV (fromsOf l b) x) fun hm => (h.sin b).1 hm hb
end Qu
end Go.Proofs.Ytonmojinijpneaa
