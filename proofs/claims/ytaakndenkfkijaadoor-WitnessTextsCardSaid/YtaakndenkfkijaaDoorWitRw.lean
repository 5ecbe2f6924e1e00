/- A row of picks that the call owns: its cells, and that it is read as a row; what is read, word by word. -/
import Derived.Test.YtaakndenkfkijaaDoorRows
import Derived.Test.YtaakndenkfkijaaDoorWitR
import Derived.Test.YtaakndenkfkijaaDoorWitPk
namespace Go.Proofs.YtaakndenkfkijaaDoor
open Go.RowKit
set_option linter.unusedVariables false
set_option linter.unusedSimpArgs false
namespace Wit
def pkL (t : Pk) : List Value := [.int .u8 t.k, .int .i64 t.r, .int .i64 t.c, .int .i64 t.f, .int .i64 t.s, .int .i64 t.v]
def pks (l : List Pk) : List Value := l.flatMap pkL
theorem pkL_len (t : Pk) : (pkL t).length = 6 := rfl
theorem pks_cons (t : Pk) (l : List Pk) : pks (t :: l) = pkL t ++ pks l := rfl
theorem pks_app (a b : List Pk) : pks (a ++ b) = pks a ++ pks b := by simp [pks]
theorem pks_one (t : Pk) : pks [t] = pkL t := by simp [pks]
theorem pks_at : ∀ (l : List Pk) (i : Nat) (hi : i < l.length) (j : Nat), j < 6 → (pks l)[i * 6 + j]? = (pkL l[i])[j]?
  | t :: l, 0, _, j, hj => by
    rw [pks_cons, List.getElem?_append_left (by rw [pkL_len]; omega)]
    simp
  | t :: l, i + 1, hi, j, hj => by
    have e : (i + 1) * 6 + j = (pkL t).length + (i * 6 + j) := by rw [pkL_len]; omega
    rw [pks_cons, e, List.getElem?_append_right (by omega), Nat.add_sub_cancel_left]
    exact pks_at l i (by simpa using hi) j hj
def pkZ : Value := .agg #[.int .u8 0, .int .i64 0, .int .i64 0, .int .i64 0, .int .i64 0, .int .i64 0]
theorem pk_info : (Tryd.prog.info? 39).map (fun i => (i.zero, i.size, i.bytes)) = some (some pkZ, 6, 48) := by kernel_rfl
theorem add_lit (g n : Nat) : (⟨g, 0, none⟩ : Addr).add n = ⟨g, n, none⟩ := by unfold Addr.add; split <;> simp_all
theorem own_prow {w : World} {B : Nat} {v : Value} {l : List Pk} (h : w.ownsRow B 39 6 v l.length (pks l)) (hok : ∀ i (hi : i < l.length), (l[i]).ok) (hl : l.length ≤ maxLen) :
    ∃ A c, v = .slice A l.length c ∧ PRow w A l := by
  rcases h.2 with ⟨rfl, h0⟩ | ⟨g, cap, cur, rfl, hge, hh, hnc, _, hcs, htk⟩
  · exact ⟨none, 0, by rw [h0], hl, fun h => by omega⟩
  · refine ⟨_, cap, rfl, hl, fun h0 => ⟨⟨g, 0, none⟩, rfl, (Array.getElem?_eq_some_iff.1 hh).1, fun i hi => ⟨hok i hi, ?_⟩⟩⟩
    have hc : ∀ j u, j < 6 → (pkL l[i])[j]? = some u → w.cell? ⟨g, i * 6 + j, none⟩ = some u := fun j u hj hu => by
      have e := pks_at l i hi j hj
      rw [hu, ← htk, List.getElem?_take] at e
      split at e
      · rw [Blk.cell (show Blk w g _ cur from hh)]
        simpa using e
      · cases e
    unfold PkAt
    rw [add_lit]
    exact ⟨hc 0 _ (by omega) rfl, hc 1 _ (by omega) rfl, hc 2 _ (by omega) rfl, hc 3 _ (by omega) rfl, hc 4 _ (by omega) rfl, hc 5 _ (by omega) rfl⟩
theorem reads_snoc (g : List UInt8 → Option Pk) : ∀ (l : List (List UInt8)) (w : List UInt8) (p : Pk), g w = some p → reads g (l ++ [w]) = match reads g l with | some r => some (r ++ [p]) | none => none
  | [], w, p, h => by simp only [List.nil_append, reads, h]
  | q :: l, w, p, h => by
    have ih := reads_snoc g l w p h
    rw [List.cons_append, reads, reads, ih]
    cases g q with
    | none => rfl
    | some x => simp only; cases reads g l <;> rfl
theorem reads_no (g : List UInt8 → Option Pk) : ∀ (l : List (List UInt8)) (i : Nat) (h : i < l.length), g l[i] = none → reads g l = none
  | q :: l, 0, _, hn => by
    simp only [List.getElem_cons_zero] at hn
    rw [reads, hn]
  | q :: l, i + 1, h, hn => by
    have ih := reads_no g l i (by simpa using h) hn
    rw [reads, ih]
    cases g q <;> rfl
theorem reads_take (g : List UInt8 → Option Pk) {l : List (List UInt8)} {i : Nat} (h : i < l.length) {L : List Pk} {p : Pk} (hL : reads g (l.take i) = some L) (hp : g l[i] = some p) : reads g (l.take (i + 1)) = some (L ++ [p]) := by
  rw [List.take_succ_eq_append_getElem h, reads_snoc g _ _ p hp, hL]
theorem bytes_list (s : ByteArray) (l : List UInt8) : bytes l = s ↔ l = s.data.toList := by
  constructor
  · rintro rfl; simp [bytes]
  · rintro rfl; rfl
/-- What is told of a text. -/
def PaR (x : Option (List Pk)) (e : Ending) (w' : World) : Prop := match x with
  | some l => ∃ A c, e = .returned (.tuple #[.slice A l.length c, .int .i64 0]) ∧ PRow w' A l
  | none => e = .returned (.tuple #[.slice none 0 0, .int .i64 240])
theorem PaR.no {x : Option (List Pk)} (h : x = none) (w' : World) : PaR x (.returned (.tuple #[.slice none 0 0, .int .i64 240])) w' := by
  rw [h]; rfl
theorem PaR.yes {x : Option (List Pk)} {l : List Pk} (h : x = some l) {A : Option Addr} {c : Nat} {w' : World} (hr : PRow w' A l) : PaR x (.returned (.tuple #[.slice A l.length c, .int .i64 0])) w' := by
  rw [h]; exact ⟨A, c, rfl, hr⟩
theorem pkB_ok {w : List UInt8} {p : Pk} (h : pkB w = some p) : p.ok := pkA_ok (pk_ok_B h).2
end Wit
end Go.Proofs.YtaakndenkfkijaaDoor
