/- Words for arguments that are trees (slices of structs that hold slices of structs): how such data lies in memory, by depth. For the seat's other texts. -/
import Derived.Test.YtnmddeplchideaaRows
import Derived.Test.YtnmddeplchideaaStructs
namespace Go.Proofs.Ytnmddeplchideaa
open Go.Joins Go.ChangeShapes Go.WideShapes Go.RowKit Go.Deep
set_option linter.unusedVariables false
set_option linter.unusedSimpArgs false
section
variable {H : Type} {enc : TypeId × Value → H} {P : Program} {w : World} {base : Nat} {spare : Nat → Bool} {held : Bool}
/-- A slice of structs whose fields are one cell each, with a number that falls. -/
theorem open_slice_fuel {t e : TypeId} {fs : Array Field} {fuel : Nat} {cs : List Value} {x : DataW H × List MemPlace} (ht : P.underlying t = some (.slice e)) (he : P.underlying e = some (.struct fs))
    (hone : oneCellFields P fs = true) (hC : P.cellsOf e = fs.size) (h : DataW.trod enc P w base spare held fuel t cs = some x) :
    cs = [.slice none 0 0] ∨
    ∃ (a : Addr) (len cap : Nat), cs = [.slice (some a) len cap] ∧ len ≤ cap ∧ cap ≤ maxLen ∧
      ∀ i, i < len → ∀ (j : Nat) (f : Field), fs[j]? = some f → ∃ (v : Value) (y : DataW H × List MemPlace) (n : Nat), n < fuel ∧ w.cell? (a.add (i * fs.size + j)) = some v ∧ DataW.trod enc P w base spare held n f.type [v] = some y := by
  rcases DataW.trod_slice ht h with h0 | ⟨a, len, cap, elems, rest, n, hn, rfl, rfl, hb, hl, hm, hlen, hel, hsp, hns⟩
  · exact .inl h0.1
  · refine .inr ⟨a, len, cap, rfl, hl, hm, fun i hi j f hj => ?_⟩
    have h1 := hel i hi
    rw [List.getElem?_eq_getElem (by omega)] at h1
    simp only [Option.bind_eq_some_iff] at h1
    obtain ⟨cs', hc, ht'⟩ := h1
    rw [hC] at hc
    obtain ⟨ys, n', hn', hy, hlen', hyl, hf⟩ := DataW.trod_struct he ht'
    obtain ⟨_, hcl, hat⟩ := World.cells?_some hc
    obtain ⟨ho, hk⟩ := hone_of hone j f hj
    have hjl : j < fs.size := (Array.getElem?_eq_some_iff.1 hj).1
    have hcell := hat j hjl
    have hv : cs'[j]? = some (cs'[j]'(by omega)) := List.getElem?_eq_getElem (by omega)
    have h2 := hf j f hj
    rw [ho, hk] at h2
    have hone' : (cs'.drop j).take 1 = [cs'[j]'(by omega)] := by
      rw [List.drop_eq_getElem_cons (by omega)]
      rfl
    rw [hone'] at h2
    have hys : ys[j]? = some (ys[j]'(by omega)) := List.getElem?_eq_getElem (by omega)
    refine ⟨_, _, n', by omega, ?_, h2.trans hys⟩
    rw [← Go.Deep.add_add, hcell, hv]
end
section
variable {H : Type} {enc : TypeId × Value → H} {P : Program} {w : World} {base : Nat} {spare : Nat → Bool} {held : Bool}
theorem open_agg10 {r : Reach} {b0 : Nat} {t : TypeId} {f0 f1 f2 f3 f4 f5 f6 f7 f8 f9 : Field} {v : Value} {d : DataW H} {p : List MemPlace} (hs : P.underlying t = some (.struct #[f0, f1, f2, f3, f4, f5, f6, f7, f8, f9])) (hone : oneCellFields P #[f0, f1, f2, f3, f4, f5, f6, f7, f8, f9] = true) (hC : P.cellsOf t = 10)
    (hv : Value.okWide P w r b0 t v) (h : DataW.Trod enc P w base spare held t v d p) :
    ∃ (v0 v1 v2 v3 v4 v5 v6 v7 v8 v9 : Value) (y0 y1 y2 y3 y4 y5 y6 y7 y8 y9 : DataW H × List MemPlace) (n : Nat), v = .agg #[v0, v1, v2, v3, v4, v5, v6, v7, v8, v9] ∧ d = .agg [y0.1, y1.1, y2.1, y3.1, y4.1, y5.1, y6.1, y7.1, y8.1, y9.1] ∧
      DataW.trod enc P w base spare held n f0.type [v0] = some y0 ∧ DataW.trod enc P w base spare held n f1.type [v1] = some y1 ∧ DataW.trod enc P w base spare held n f2.type [v2] = some y2 ∧ DataW.trod enc P w base spare held n f3.type [v3] = some y3 ∧ DataW.trod enc P w base spare held n f4.type [v4] = some y4 ∧ DataW.trod enc P w base spare held n f5.type [v5] = some y5 ∧ DataW.trod enc P w base spare held n f6.type [v6] = some y6 ∧ DataW.trod enc P w base spare held n f7.type [v7] = some y7 ∧ DataW.trod enc P w base spare held n f8.type [v8] = some y8 ∧ DataW.trod enc P w base spare held n f9.type [v9] = some y9 := by
  obtain ⟨cs, rfl, hsz⟩ := okWide_struct hs hv
  obtain ⟨l⟩ := cs
  match l, hsz.trans hC with
  | [c0, c1, c2, c3, c4, c5, c6, c7, c8, c9], _ =>
    obtain ⟨fuel, hf⟩ := h
    obtain ⟨xs, n, _, hx, _, hlen, hg⟩ := DataW.trod_struct hs hf
    obtain ⟨o0, k0⟩ := hone_of hone 0 f0 rfl
    obtain ⟨o1, k1⟩ := hone_of hone 1 f1 rfl
    obtain ⟨o2, k2⟩ := hone_of hone 2 f2 rfl
    obtain ⟨o3, k3⟩ := hone_of hone 3 f3 rfl
    obtain ⟨o4, k4⟩ := hone_of hone 4 f4 rfl
    obtain ⟨o5, k5⟩ := hone_of hone 5 f5 rfl
    obtain ⟨o6, k6⟩ := hone_of hone 6 f6 rfl
    obtain ⟨o7, k7⟩ := hone_of hone 7 f7 rfl
    obtain ⟨o8, k8⟩ := hone_of hone 8 f8 rfl
    obtain ⟨o9, k9⟩ := hone_of hone 9 f9 rfl
    match xs, hlen with
    | [y0, y1, y2, y3, y4, y5, y6, y7, y8, y9], _ =>
      simp only [Prod.mk.injEq] at hx
      exact ⟨c0, c1, c2, c3, c4, c5, c6, c7, c8, c9, y0, y1, y2, y3, y4, y5, y6, y7, y8, y9, n, rfl, by simpa using hx.1, by simpa [Value.cells, o0, k0] using hg 0 f0 rfl, by simpa [Value.cells, o1, k1] using hg 1 f1 rfl, by simpa [Value.cells, o2, k2] using hg 2 f2 rfl, by simpa [Value.cells, o3, k3] using hg 3 f3 rfl, by simpa [Value.cells, o4, k4] using hg 4 f4 rfl, by simpa [Value.cells, o5, k5] using hg 5 f5 rfl, by simpa [Value.cells, o6, k6] using hg 6 f6 rfl, by simpa [Value.cells, o7, k7] using hg 7 f7 rfl, by simpa [Value.cells, o8, k8] using hg 8 f8 rfl, by simpa [Value.cells, o9, k9] using hg 9 f9 rfl⟩
end
/-- Expressions lie behind a slice, to some depth. -/
def EL (w : World) : Nat → Option Addr → Nat → Prop
  | 0, _, n => n = 0
  | k + 1, A, n => n = 0 ∨ ∃ a, A = some a ∧ n ≤ maxLen ∧ ∀ i, i < n → (∃ op, w.cell? (a.add (i * 6)) = some (.int .u8 op)) ∧ ∃ (s : ByteArray) (A' : Option Addr) (n' c' : Nat), s.size ≤ maxLen ∧
      w.cell? ⟨(a.add (i * 6)).block, (a.add (i * 6)).off + 2, none⟩ = some (.string s) ∧ w.cell? ⟨(a.add (i * 6)).block, (a.add (i * 6)).off + 3, none⟩ = some (.slice A' n' c') ∧ n' ≤ maxLen ∧ EL w k A' n'
/-- Statements lie behind a slice, to some depth. -/
def SL (w : World) : Nat → Option Addr → Nat → Prop
  | 0, _, n => n = 0
  | k + 1, A, n => n = 0 ∨ ∃ a, A = some a ∧ n ≤ maxLen ∧ ∀ i, i < n → ∃ (s : ByteArray) (A1 A2 A3 : Option Addr) (n1 c1 n2 c2 n3 c3 : Nat), s.size ≤ maxLen ∧
      w.cell? ⟨(a.add (i * 10)).block, (a.add (i * 10)).off + 3, none⟩ = some (.string s) ∧ w.cell? ⟨(a.add (i * 10)).block, (a.add (i * 10)).off + 5, none⟩ = some (.slice A1 n1 c1) ∧ w.cell? ⟨(a.add (i * 10)).block, (a.add (i * 10)).off + 6, none⟩ = some (.slice A2 n2 c2) ∧ w.cell? ⟨(a.add (i * 10)).block, (a.add (i * 10)).off + 7, none⟩ = some (.slice A3 n3 c3) ∧
      n1 ≤ maxLen ∧ n2 ≤ maxLen ∧ n3 ≤ maxLen ∧ EL w k A1 n1 ∧ SL w k A2 n2 ∧ SL w k A3 n3
theorem EL.keep {w w' : World} (hk : ∀ p : Addr, p.block < w.heap.size → w'.cell? p = w.cell? p) : ∀ {k : Nat} {A : Option Addr} {n : Nat}, EL w k A n → EL w' k A n
  | 0, _, _, h => h
  | k + 1, A, n, .inl h => .inl h
  | k + 1, A, n, .inr ⟨a, e, hn, h⟩ => .inr ⟨a, e, hn, fun i hi => by
      obtain ⟨⟨op, h0⟩, s, A', n', c', hs, h1, h2, hm, h3⟩ := h i hi
      have hlt : ∀ p : Addr, ∀ v, w.cell? p = some v → w'.cell? p = some v := fun p v hv => by
        refine (hk _ ?_).trans hv
        rcases Nat.lt_or_ge p.block w.heap.size with h | h
        · exact h
        · simp [World.cell?, Array.getElem?_eq_none h] at hv
      exact ⟨⟨op, hlt _ _ h0⟩, s, A', n', c', hs, hlt _ _ h1, hlt _ _ h2, hm, EL.keep hk h3⟩⟩
theorem SL.keep {w w' : World} (hk : ∀ p : Addr, p.block < w.heap.size → w'.cell? p = w.cell? p) : ∀ {k : Nat} {A : Option Addr} {n : Nat}, SL w k A n → SL w' k A n
  | 0, _, _, h => h
  | k + 1, A, n, .inl h => .inl h
  | k + 1, A, n, .inr ⟨a, e, hn, h⟩ => .inr ⟨a, e, hn, fun i hi => by
      obtain ⟨s, A1, A2, A3, n1, c1, n2, c2, n3, c3, hs, h1, h2, h3, h4, m1, m2, m3, h5, h6, h7⟩ := h i hi
      have hlt : ∀ p : Addr, ∀ v, w.cell? p = some v → w'.cell? p = some v := fun p v hv => by
        refine (hk _ ?_).trans hv
        rcases Nat.lt_or_ge p.block w.heap.size with h | h
        · exact h
        · simp [World.cell?, Array.getElem?_eq_none h] at hv
      exact ⟨s, A1, A2, A3, n1, c1, n2, c2, n3, c3, hs, hlt _ _ h1, hlt _ _ h2, hlt _ _ h3, hlt _ _ h4, m1, m2, m3, EL.keep hk h5, SL.keep hk h6, SL.keep hk h7⟩⟩
theorem EL.more {w : World} : ∀ {k k' : Nat} {A : Option Addr} {n : Nat}, k ≤ k' → EL w k A n → EL w k' A n
  | 0, 0, _, _, _, h => h
  | 0, k' + 1, _, _, _, h => .inl h
  | k + 1, 0, _, _, hk, _ => absurd hk (by omega)
  | k + 1, k' + 1, _, _, hk, .inl h => .inl h
  | k + 1, k' + 1, A, n, hk, .inr ⟨a, e, hn, h⟩ => .inr ⟨a, e, hn, fun i hi => by
      obtain ⟨h0, s, A', n', c', hs, h1, h2, hm, h3⟩ := h i hi
      exact ⟨h0, s, A', n', c', hs, h1, h2, hm, EL.more (by omega) h3⟩⟩
theorem SL.more {w : World} : ∀ {k k' : Nat} {A : Option Addr} {n : Nat}, k ≤ k' → SL w k A n → SL w k' A n
  | 0, 0, _, _, _, h => h
  | 0, k' + 1, _, _, _, h => .inl h
  | k + 1, 0, _, _, hk, _ => absurd hk (by omega)
  | k + 1, k' + 1, _, _, hk, .inl h => .inl h
  | k + 1, k' + 1, A, n, hk, .inr ⟨a, e, hn, h⟩ => .inr ⟨a, e, hn, fun i hi => by
      obtain ⟨s, A1, A2, A3, n1, c1, n2, c2, n3, c3, hs, h1, h2, h3, h4, m1, m2, m3, h5, h6, h7⟩ := h i hi
      exact ⟨s, A1, A2, A3, n1, c1, n2, c2, n3, c3, hs, h1, h2, h3, h4, m1, m2, m3, EL.more (by omega) h5, SL.more (by omega) h6, SL.more (by omega) h7⟩⟩
section
variable {H : Type} {enc : TypeId × Value → H} {w : World} {base : Nat} {spare : Nat → Bool} {held : Bool}
theorem EL.of (fuel : Nat) : ∀ {v : Value} {x : DataW H × List MemPlace}, DataW.trod enc Try.prog w base spare held fuel 26 [v] = some x →
    ∃ A n c, v = .slice A n c ∧ n ≤ maxLen ∧ EL w fuel A n := by
  induction fuel using Nat.strongRecOn with
  | _ fuel ih =>
    intro v x h
    rcases open_slice_fuel Try.underlying26 Try.underlying68 (by kernel_rfl) (by kernel_rfl) h with h0 | ⟨a, len, cap, h0, hl, hm, hi⟩
    · obtain rfl : v = .slice none 0 0 := by simpa using h0
      exact ⟨none, 0, 0, rfl, by unfold maxLen; omega, by cases fuel <;> simp [EL]⟩
    · obtain rfl : v = .slice (some a) len cap := by simpa using h0
      refine ⟨some a, len, cap, rfl, by omega, ?_⟩
      cases fuel with
      | zero => simp [DataW.trod] at h
      | succ k =>
        refine .inr ⟨a, rfl, by omega, fun i hik => ?_⟩
        obtain ⟨v0, y0, n0, _, g0, t0⟩ := hi i hik 0 _ rfl
        obtain ⟨v2, y2, n2, _, g2, t2⟩ := hi i hik 2 _ rfl
        obtain ⟨v3, y3, n3, l3, g3, t3⟩ := hi i hik 3 _ rfl
        obtain ⟨z, e0, _, _⟩ := DataW.trod_int Try.underlying5 t0
        obtain ⟨s, e2, _, hs⟩ := DataW.trod_string Try.underlying9 t2
        obtain ⟨A', n', c', rfl, hn', hE⟩ := ih n3 l3 t3
        obtain rfl : v0 = .int .u8 z := by simpa using e0
        obtain rfl : v2 = .string s := by simpa using e2
        exact ⟨⟨z, g0⟩, s, A', n', c', hs, by rw [← Go.Deep.add_add] at g2; exact g2, by rw [← Go.Deep.add_add] at g3; exact g3, hn', hE.more (by omega)⟩
theorem SL.of (fuel : Nat) : ∀ {v : Value} {x : DataW H × List MemPlace}, DataW.trod enc Try.prog w base spare held fuel 27 [v] = some x →
    ∃ A n c, v = .slice A n c ∧ n ≤ maxLen ∧ SL w fuel A n := by
  induction fuel using Nat.strongRecOn with
  | _ fuel ih =>
    intro v x h
    rcases open_slice_fuel Try.underlying27 Try.underlying29 (by kernel_rfl) (by kernel_rfl) h with h0 | ⟨a, len, cap, h0, hl, hm, hi⟩
    · obtain rfl : v = .slice none 0 0 := by simpa using h0
      exact ⟨none, 0, 0, rfl, by unfold maxLen; omega, by cases fuel <;> simp [SL]⟩
    · obtain rfl : v = .slice (some a) len cap := by simpa using h0
      refine ⟨some a, len, cap, rfl, by omega, ?_⟩
      cases fuel with
      | zero => simp [DataW.trod] at h
      | succ k =>
        refine .inr ⟨a, rfl, by omega, fun i hik => ?_⟩
        obtain ⟨v3, y3, n3, _, g3, t3⟩ := hi i hik 3 _ rfl
        obtain ⟨v5, y5, n5, l5, g5, t5⟩ := hi i hik 5 _ rfl
        obtain ⟨v6, y6, n6, l6, g6, t6⟩ := hi i hik 6 _ rfl
        obtain ⟨v7, y7, n7, l7, g7, t7⟩ := hi i hik 7 _ rfl
        obtain ⟨s, e3, _, hs⟩ := DataW.trod_string Try.underlying9 t3
        obtain rfl : v3 = .string s := by simpa using e3
        obtain ⟨A1, n1, c1, rfl, h1, hE⟩ := EL.of n5 t5
        obtain ⟨A2, n2, c2, rfl, h2, hB⟩ := ih n6 l6 t6
        obtain ⟨A3, n3', c3, rfl, h3, hC⟩ := ih n7 l7 t7
        rw [← Go.Deep.add_add] at g3 g5 g6 g7
        exact ⟨s, A1, A2, A3, n1, c1, n2, c2, n3', c3, hs, g3, g5, g6, g7, h1, h2, h3, hE.more (by omega), hB.more (by omega), hC.more (by omega)⟩
end
end Go.Proofs.Ytnmddeplchideaa
