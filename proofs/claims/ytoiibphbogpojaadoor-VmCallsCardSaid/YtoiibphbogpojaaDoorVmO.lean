/- The table of operations, of what the row lists. -/
import Derived.Test.YtoiibphbogpojaaDoorRows
import Derived.Test.YtoiibphbogpojaaDoorCodA
import Derived.Lib.LaidTab
import Derived.OpenShut
namespace Go.Proofs.YtoiibphbogpojaaDoor
open Go Go.RowKit
set_option linter.unusedVariables false
set_option linter.unusedSimpArgs false
namespace Cod
theorem chunk_at {cs : List Value} {a o : Nat} {v : Value} (ho : o < 4) (h : ((((cs.drop a).take 4).drop o).take 1) = [v]) : cs[a + o]? = some v := by
  have h1 := congrArg (·[0]?) h
  simp only [List.getElem?_take, List.getElem?_drop, Nat.lt_one_iff, if_pos, List.getElem?_cons_zero] at h1
  rw [if_pos (by omega)] at h1
  exact h1
def opD {H : Type} (x : Op4) : DataW H := .agg [.lit (.string x.nm.data.toList), .lit (.int .u8 x.k), .lit (.int .i64 x.t), .lit (.int .i64 x.a)]
theorem cells_of_ops {H : Type} {enc : TypeId × Value → H} {P : Program} {w : World} {base : Nat} {sp : Nat → Bool} {held : Bool} {fuel : Nat} {t e : TypeId} {n : Nat} {cs : List Value} {l : List Op4} {p : List MemPlace} {f0 f1 f2 f3 : Field}
    (ht : P.underlying t = some (.array n e)) (he : P.underlying e = some (.struct #[f0, f1, f2, f3])) (hce : P.cellsOf e = 4)
    (h0 : P.underlying f0.type = some .string ∧ f0.offset = 0 ∧ P.cellsOf f0.type = 1) (h1 : P.underlying f1.type = some (.int .u8) ∧ f1.offset = 1 ∧ P.cellsOf f1.type = 1) (h2 : P.underlying f2.type = some (.int .i64) ∧ f2.offset = 2 ∧ P.cellsOf f2.type = 1) (h3 : P.underlying f3.type = some (.int .i64) ∧ f3.offset = 3 ∧ P.cellsOf f3.type = 1)
    (h : DataW.trod enc P w base sp held fuel t cs = some (.agg (l.map opD), p)) : ∀ (j : Nat) (v : Value), (l.flatMap opC)[j]? = some v → cs[j]? = some v := by
  obtain ⟨xs, m, rfl, hx, hl, hxl, hf⟩ := DataW.trod_array ht h
  have hm : l.map opD = xs.map (·.1) := by
    have := congrArg Prod.fst hx
    simpa using this
  have hll : l.length = n := by
    have := congrArg List.length hm
    simp at this
    omega
  have key : ∀ (i : Nat) (hi : i < l.length), cs[i * 4]? = some (.string l[i].nm) ∧ cs[i * 4 + 1]? = some (.int .u8 l[i].k) ∧ cs[i * 4 + 2]? = some (.int .i64 l[i].t) ∧ cs[i * 4 + 3]? = some (.int .i64 l[i].a) := by
    intro i hi
    have hg := hf i (by omega)
    rw [hce, List.getElem?_eq_getElem (by omega)] at hg
    have hmi : opD l[i] = (xs[i]'(by omega)).1 := by
      have := congrArg (·[i]?) hm
      simp only [List.getElem?_map, List.getElem?_eq_getElem hi, List.getElem?_eq_getElem (show i < xs.length by omega), Option.map_some] at this
      exact Option.some.inj this
    generalize xs[i]'(by omega) = b at hg hmi
    obtain ⟨ys, m2, _, rfl, _, hyl, hfy⟩ := DataW.trod_struct he hg
    match ys, hyl with
    | [y0, y1, y2, y3], _ =>
      have g0 := hfy 0 f0 rfl
      have g1 := hfy 1 f1 rfl
      have g2 := hfy 2 f2 rfl
      have g3 := hfy 3 f3 rfl
      simp only [List.getElem?_cons_zero, List.getElem?_cons_succ] at g0 g1 g2 g3
      rw [h0.2.1, h0.2.2] at g0
      rw [h1.2.1, h1.2.2] at g1
      rw [h2.2.1, h2.2.2] at g2
      rw [h3.2.1, h3.2.2] at g3
      obtain ⟨s, c0, rfl, _⟩ := DataW.trod_string h0.1 g0
      obtain ⟨k, c1, rfl, _⟩ := DataW.trod_int h1.1 g1
      obtain ⟨t, c2, rfl, _⟩ := DataW.trod_int h2.1 g2
      obtain ⟨a, c3, rfl, _⟩ := DataW.trod_int h3.1 g3
      unfold opD at hmi
      simp only [List.map_cons, List.map_nil, DataW.agg.injEq, List.cons.injEq, DataW.lit.injEq, Lit.string.injEq, Lit.int.injEq, true_and, and_true] at hmi
      obtain ⟨e0, e1, e2, e3⟩ := hmi
      have es : l[i].nm = s := ByteArray.ext (Array.toList_inj.1 e0)
      rw [es, e1, e2, e3]
      exact ⟨chunk_at (a := i * 4) (o := 0) (by omega) c0, chunk_at (by omega) c1, chunk_at (by omega) c2, chunk_at (by omega) c3⟩
  intro j v hj
  have hjl : j < (l.flatMap opC).length := by
    rcases Nat.lt_or_ge j (l.flatMap opC).length with h | h
    · exact h
    · rw [List.getElem?_eq_none h] at hj; cases hj
  have hfl : (l.flatMap opC).length = l.length * 4 := by
    clear hx hl hxl hf hm hll key hj hjl h
    induction l with
    | nil => rfl
    | cons x l ih => rw [List.flatMap_cons, List.length_append, ih, List.length_cons]; show 4 + _ = _; omega
  have hi : j / 4 < l.length := by omega
  have e : j = j / 4 * 4 + j % 4 := by omega
  have hc := opCs_at l (j / 4) hi (j % 4) (by omega)
  rw [← e, hj] at hc
  obtain ⟨k0, k1, k2, k3⟩ := key (j / 4) hi
  have h4 : j % 4 = 0 ∨ j % 4 = 1 ∨ j % 4 = 2 ∨ j % 4 = 3 := by omega
  rw [e]
  rcases h4 with h4 | h4 | h4 | h4 <;> rw [h4] at hc ⊢ <;> unfold opC at hc <;> simp only [List.getElem?_cons_zero, List.getElem?_cons_succ] at hc <;> rw [hc]
  · exact k0
  · exact k1
  · exact k2
  · exact k3
theorem Ops.of_var {w : World} {cs : Array Value} {fuel : Nat} {p : List MemPlace} (hvar : w.var? Tryd.prog "dispatcher/code.operations" = some cs) (hd : DataW.trod (fun _ => ()) Tryd.prog w 0 (fun _ => true) false fuel 89 cs.toList = some (Rows.laid_dispatcher_code_operations, p)) : Ops w := by
  have hg : Tryd.prog.globalNamed "dispatcher/code.operations" = some 0 := by kernel_rfl
  have hc : ∀ i, w.cell? ⟨0, i, none⟩ = cs[i]? := fun i => World.var?_cell hg hvar i
  have hd' : DataW.trod (fun _ => ()) Tryd.prog w 0 (fun _ => true) false fuel 89 cs.toList = some (.agg (opsT.map opD), p) := hd
  have hv := cells_of_ops Tryd.underlying89 Tryd.underlying88 (by kernel_rfl) ⟨Tryd.underlying9, rfl, by kernel_rfl⟩ ⟨Tryd.underlying5, rfl, by kernel_rfl⟩ ⟨Tryd.underlying3, rfl, by kernel_rfl⟩ ⟨Tryd.underlying3, rfl, by kernel_rfl⟩ hd'
  have h2 : ∀ (j : Nat) (v : Value), (opsT.flatMap opC)[j]? = some v → w.cell? ⟨0, j, none⟩ = some v := fun j v hj => by
    rw [hc j, ← Array.getElem?_toList]; exact hv j v hj
  have h0 := h2 0 (.string ⟨#[]⟩) rfl
  exact ⟨block_lt_of_cell h0, h2⟩
theorem Ops.of_laid {W : World} (h : laidMetH Tryd.prog [("dispatcher/code.operations", Rows.laid_dispatcher_code_operations)] W) : Ops W := by
  have h' : laidMet Tryd.prog [("dispatcher/code.operations", Rows.laid_dispatcher_code_operations)] W := h
  clear h
  obtain ⟨ps, ⟨g', t', cs, fuel, p, q, hg', ht', hvar, hd, _, _⟩, _⟩ := h'
  have hg : Tryd.prog.globalNamed "dispatcher/code.operations" = some 0 := by kernel_rfl
  have hty : (Tryd.prog.globals[0]?).map (·.type) = some 89 := by kernel_rfl
  obtain rfl := Option.some.inj (hg.symm.trans hg')
  obtain rfl := Option.some.inj (hty.symm.trans ht')
  exact Ops.of_var hvar hd
end Cod
end Go.Proofs.YtoiibphbogpojaaDoor
