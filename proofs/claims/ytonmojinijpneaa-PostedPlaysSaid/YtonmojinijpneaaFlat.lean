/- Arguments of structs, nested as they may be, whose parts are numbers, bools and texts: their cells, one behind the other; and slices of them. -/
import Derived.Test.YtonmojinijpneaaRows
import Derived.Test.YtonmojinijpneaaStructs
namespace Go.Proofs.Ytonmojinijpneaa
open Go.Joins Go.ChangeShapes Go.WideShapes Go.RowKit Go.Deep
set_option linter.unusedVariables false
set_option linter.unusedSimpArgs false
inductive Kd
  | b
  | i (k : IntKind)
  | s
def Kd.fits : Kd → Value → Prop
  | .b, v => ∃ b, v = .bool b
  | .i k, v => ∃ n, v = .int k n ∧ (Lit.int k n).wf = true
  | .s, v => ∃ s : ByteArray, v = .string s ∧ s.size ≤ maxLen
mutual
def flatT (P : Program) : Nat → TypeId → Option (List Kd)
  | 0, _ => none
  | f + 1, t => match P.underlying t with
    | some .bool => some [.b]
    | some (.int k) => some [.i k]
    | some .string => some [.s]
    | some (.struct fs) => match flatF P f fs.toList 0 with
      | some ks => if P.cellsOf t = ks.length then some ks else none
      | none => none
    | _ => none
def flatF (P : Program) : Nat → List Field → Nat → Option (List Kd)
  | 0, _, _ => none
  | _ + 1, [], _ => some []
  | f + 1, x :: r, off => match flatT P f x.type, flatF P f r (off + P.cellsOf x.type) with
    | some a, some b => if x.offset = off ∧ P.cellsOf x.type = a.length then some (a ++ b) else none
    | _, _ => none
end
section
variable {H : Type} {enc : TypeId × Value → H} {P : Program} {w : World} {base : Nat} {spare : Nat → Bool} {held : Bool}
/-- What holds of the cells: as many as there are kinds, each of its kind. -/
def Fits (ks : List Kd) (cs : List Value) : Prop := cs.length = ks.length ∧ ∀ (j : Nat) (k : Kd), ks[j]? = some k → ∃ v, cs[j]? = some v ∧ k.fits v
theorem Fits.one {k : Kd} {v : Value} (h : k.fits v) : Fits [k] [v] := ⟨rfl, fun j k' hj => by
  cases j with
  | zero => cases hj; exact ⟨v, rfl, h⟩
  | succ j => cases hj⟩
theorem Fits.app {a b : List Kd} {x y : List Value} (h1 : Fits a x) (h2 : Fits b y) : Fits (a ++ b) (x ++ y) := by
  refine ⟨by rw [List.length_append, List.length_append, h1.1, h2.1], fun j k hj => ?_⟩
  rcases Nat.lt_or_ge j a.length with h | h
  · rw [List.getElem?_append_left h] at hj
    rw [List.getElem?_append_left (by rw [h1.1]; exact h)]
    exact h1.2 j k hj
  · rw [List.getElem?_append_right h] at hj
    rw [List.getElem?_append_right (by rw [h1.1]; exact h), h1.1]
    exact h2.2 _ k hj
theorem flat_both (f : Nat) : (∀ (t : TypeId) (ks : List Kd), flatT P f t = some ks → ∀ (fuel : Nat) (cs : List Value) (x : DataW H × List MemPlace), DataW.trod enc P w base spare held fuel t cs = some x → Fits ks cs) ∧
    (∀ (fs : List Field) (off : Nat) (ks : List Kd), flatF P f fs off = some ks → ∀ (n : Nat) (cs : List Value), (∀ g ∈ fs, ∃ x, DataW.trod enc P w base spare held n g.type ((cs.drop g.offset).take (P.cellsOf g.type)) = some x) →
      Fits ks ((cs.drop off).take ks.length)) := by
  induction f with
  | zero => exact ⟨fun t ks h => by simp [flatT] at h, fun fs off ks h => by simp [flatF] at h⟩
  | succ f ih =>
    constructor
    · intro t ks h fuel cs x hx
      rw [flatT] at h
      split at h
      · rename_i ht
        cases h
        obtain ⟨b, rfl, _⟩ := DataW.trod_bool ht hx
        exact Fits.one ⟨b, rfl⟩
      · rename_i k ht
        cases h
        obtain ⟨n, rfl, _, hw⟩ := DataW.trod_int ht hx
        exact Fits.one ⟨n, rfl, hw⟩
      · rename_i ht
        cases h
        obtain ⟨s, rfl, _, hs⟩ := DataW.trod_string ht hx
        exact Fits.one ⟨s, rfl, hs⟩
      · rename_i fs ht
        split at h
        · rename_i ks' hks
          split at h
          · rename_i hc
            have e : ks' = ks := by simpa using h
            rw [e] at hks hc
            obtain ⟨xs, n, _, _, hl, hlen, hf⟩ := DataW.trod_struct ht hx
            have h1 := ih.2 fs.toList 0 ks hks n cs (fun g hg => by
              obtain ⟨i, hi⟩ := List.getElem?_of_mem hg
              have hi' : fs[i]? = some g := by rw [← Array.getElem?_toList]; exact hi
              have hil : i < fs.size := (Array.getElem?_eq_some_iff.1 hi').1
              exact ⟨xs[i]'(by omega), by rw [hf i g hi']; exact List.getElem?_eq_getElem (by omega)⟩)
            rw [List.drop_zero, List.take_of_length_le (by omega)] at h1
            exact h1
          · cases h
        · cases h
      · cases h
    · intro fs off ks h n cs hg
      cases fs with
      | nil =>
        rw [flatF] at h
        cases h
        exact ⟨by simp, fun j k hj => by cases hj⟩
      | cons x r =>
        rw [flatF] at h
        split at h
        · rename_i a b ha hb
          split at h
          · rename_i hc
            cases h
            obtain ⟨y, hy⟩ := hg x List.mem_cons_self
            have h1 := ih.1 _ _ ha n _ _ hy
            have h2 := ih.2 r _ _ hb n cs fun g hgm => hg g (List.mem_cons_of_mem _ hgm)
            rw [hc.1, hc.2] at h1
            rw [hc.2] at h2
            have e : (cs.drop off).take (a ++ b).length = (cs.drop off).take a.length ++ ((cs.drop (off + a.length)).take b.length) := by
              rw [List.length_append, List.take_add, List.drop_drop]
            rw [e]
            exact h1.app h2
          · cases h
        · cases h
/-- A slice of such structs. -/
theorem flat_slice {t e : TypeId} {ks : List Kd} {f fuel : Nat} {cs : List Value} {x : DataW H × List MemPlace} (ht : P.underlying t = some (.slice e)) (hk : flatT P f e = some ks) (hC : P.cellsOf e = ks.length)
    (h : DataW.trod enc P w base spare held fuel t cs = some x) :
    cs = [.slice none 0 0] ∨
    ∃ (a : Addr) (len cap : Nat), cs = [.slice (some a) len cap] ∧ len ≤ cap ∧ cap ≤ maxLen ∧ ∀ i, i < len → ∀ (j : Nat) (k : Kd), ks[j]? = some k → ∃ v, w.cell? (a.add (i * ks.length + j)) = some v ∧ k.fits v := by
  rcases DataW.trod_slice ht h with h0 | ⟨a, len, cap, elems, rest, n, hn, rfl, rfl, hb, hl, hm, hlen, hel, hsp, hns⟩
  · exact .inl h0.1
  · refine .inr ⟨a, len, cap, rfl, hl, hm, fun i hi j k hj => ?_⟩
    have h1 := hel i hi
    rw [List.getElem?_eq_getElem (by omega)] at h1
    simp only [Option.bind_eq_some_iff] at h1
    obtain ⟨cs', hc, ht'⟩ := h1
    rw [hC] at hc
    obtain ⟨hl2, h2⟩ := (flat_both f).1 _ _ hk _ _ _ ht'
    obtain ⟨v, hv, hf⟩ := h2 j k hj
    obtain ⟨_, hcl, hat⟩ := World.cells?_some hc
    have hjl : j < ks.length := (List.getElem?_eq_some_iff.1 hj).1
    refine ⟨v, ?_, hf⟩
    rw [← Go.Deep.add_add, hat j hjl, hv]
end
end Go.Proofs.Ytonmojinijpneaa
