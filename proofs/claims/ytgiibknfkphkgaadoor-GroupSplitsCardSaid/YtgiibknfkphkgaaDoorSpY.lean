/- Numbers written over some rows of groups: what stays. -/
import Derived.Test.YtgiibknfkphkgaaDoorRows
import Derived.Test.YtgiibknfkphkgaaDoorSpV
namespace Go.Proofs.YtgiibknfkphkgaaDoor
open Go Go.RowKit Go.Lib Go.Proofs.YtgiibknfkphkgaaDoor.Grp
set_option linter.unusedVariables false
set_option linter.unusedSimpArgs false
namespace Sp
set_option maxRecDepth 100000 in
theorem neqAsk (a b : Int) (w : World) : (binOp .neq 40 (.agg #[.int .i64 a, .int .i64 b]) (.agg #[.int .i64 a, .int .i64 b])).run Tryd.prog w = .ok (.bool false) w := by
  have u_int := Tryd.underlying3; have a_int := Tryd.isAgg3; have z_int := Tryd.sizeOf3
  have hS : Tryd.prog.underlying 40 = some (.struct (Tryd.prog.fieldsOf 40)) := by kernel_rfl
  have hp : Tryd.prog.stoodInHeld 40 = false := by kernel_rfl
  rw [run_neq_struct, show (10000 : Nat) = 9999 + 1 from rfl, run_equalIn_agg w 9999 40 _ _ hS hp]
  simp only [Program.fieldsOf, Tryd.underlying40]
  clear hS hp
  go_simp
theorem own_only {S : List Nat} {w w' : World} {B size n : Nat} {e : TypeId} {v : Value} {xs : List Value} (h : w.ownsRow B e size v n xs) (ho : Only S w w') (hs : ∀ g, v.ownBlock = some g → ¬ g ∈ S) : w'.ownsRow B e size v n xs := by
  refine ⟨h.1, h.2.imp id ?_⟩
  rintro ⟨g, cap, cur, rfl, hge, hh, r⟩
  exact ⟨g, cap, cur, rfl, hge, (ho.2 g (Array.getElem?_eq_some_iff.1 hh).1 (hs g rfl)).trans hh, r⟩
theorem Only.wide {S T : List Nat} {w w' : World} (h : Only S w w') (hs : ∀ g ∈ S, g ∈ T) : Only T w w' := ⟨h.1, fun j hj hn => h.2 j hj fun hm => hn (hs j hm)⟩
/-- The blocks of the first rows. -/
def blks (gs : List Gw) (n : Nat) : List Nat := (gs.take n).filterMap fun x => x.v.ownBlock
theorem blks_mem {gs : List Gw} {n g : Nat} (h : g ∈ blks gs n) : ∃ j, ∃ hj : j < gs.length, j < n ∧ gs[j].v.ownBlock = some g := by
  obtain ⟨x, hx, e⟩ := List.mem_filterMap.1 h
  obtain ⟨j, hj, rfl⟩ := List.getElem_of_mem hx
  rw [List.length_take] at hj
  rw [List.getElem_take] at e
  exact ⟨j, by omega, by omega, e⟩
theorem mem_blks {gs : List Gw} {n j g : Nat} (hj : j < gs.length) (hn : j < n) (e : gs[j].v.ownBlock = some g) : g ∈ blks gs n := by
  refine List.mem_filterMap.2 ⟨gs[j], ?_, e⟩
  have : (gs.take n)[j]? = some gs[j] := by rw [List.getElem?_take, if_pos hn, List.getElem?_eq_getElem hj]
  exact List.mem_of_getElem? this
theorem blks_mono {gs : List Gw} {n m : Nat} (h : n ≤ m) : ∀ g ∈ blks gs n, g ∈ blks gs m := fun g hg => by
  obtain ⟨j, hj, hn, e⟩ := blks_mem hg
  exact mem_blks hj (by omega) e
/-- What of the groups is still read once the first n rows are written over. -/
theorem OutA.after {K : Int → ByteArray} {w w' : World} {B oc n : Nat} {O : Option Addr} {gs : List Gw} (h : OutA K w B O oc gs) (ho : Only (blks gs n) w w') : w'.ownsRow B 24 2 (.slice O gs.length oc) gs.length (gwCs K gs) ∧ ∀ i (hi : i < gs.length), n ≤ i → w'.ownsRow B 3 1 gs[i].v gs[i].rs.length (ints gs[i].rs) := by
  refine ⟨own_only h.row ho fun g hg hm => ?_, fun i hi hn => own_only (h.rs i hi) ho fun g hg hm => ?_⟩
  · obtain ⟨j, hj, _, e⟩ := blks_mem hm
    obtain ⟨_, _, cs, hb⟩ := own_block (h.rs j hj) e
    obtain ⟨_, _, cs2, hb2⟩ := own_block h.row hg
    exact Blk.ne_ hb hb2 (by decide) rfl
  · obtain ⟨j, hj, hjn, e⟩ := blks_mem hm
    exact h.apart j i hj hi (by omega) g e hg
/-- Rows that lie behind all of them stay. -/
theorem OutA.behind {K K2 : Int → ByteArray} {w w' : World} {B B2 oc oc2 n : Nat} {O O2 : Option Addr} {gs gs2 : List Gw} (h : OutA K w B O oc gs) (h2 : OutA K2 w B2 O2 oc2 gs2) (hlt : ∀ i (hi : i < gs.length) g, gs[i].v.ownBlock = some g → g < B2) (ho : Only (blks gs n) w w') : OutA K2 w' B2 O2 oc2 gs2 := by
  have no : ∀ g, B2 ≤ g → ¬ g ∈ blks gs n := fun g hg hm => by
    obtain ⟨j, hj, _, e⟩ := blks_mem hm
    have := hlt j hj g e
    omega
  exact ⟨own_only h2.row ho fun g hg => no g (own_block h2.row hg).1, fun i hi => own_only (h2.rs i hi) ho fun g hg => no g (own_block (h2.rs i hi) hg).1, h2.apart⟩
/-- What lies below all of them stays. -/
theorem below_blks {K : Int → ByteArray} {w0 w w' : World} {B oc n C : Nat} {O : Option Addr} {gs : List Gw} (h : OutA K w B O oc gs) (hC : C ≤ B) (hb : Below C w0 w) (ho : Only (blks gs n) w w') (hw : w'.os = w.os ∧ w'.tape = w.tape ∧ w'.output = w.output) (hCs : C ≤ w.heap.size) : Below C w0 w' :=
  hb.trans ⟨hw.1, hw.2.1, hw.2.2, ho.1, fun i hi => ho.2 i (by omega) fun hm => by
    obtain ⟨j, hj, _, e⟩ := blks_mem hm
    have := (own_block (h.rs j hj) e).1
    omega⟩
end Sp
end Go.Proofs.YtgiibknfkphkgaaDoor
