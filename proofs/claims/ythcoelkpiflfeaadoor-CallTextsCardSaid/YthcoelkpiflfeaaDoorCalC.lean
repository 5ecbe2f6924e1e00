/- A field of a call, told and set by its number. -/
import Derived.Test.YthcoelkpiflfeaaDoorRows
import Derived.Test.YthcoelkpiflfeaaDoorCalA
namespace Go.Proofs.YthcoelkpiflfeaaDoor
open Go Go.RowKit Go.Lib
set_option linter.unusedVariables false
set_option linter.unusedSimpArgs false
namespace Cal
/-- The cells of a call. -/
def clA (k co pe tg va sz ro op : Int) (ra : Option Addr) (rn rc : Nat) (cl ky : Int) : Array Value := #[.int .u8 k, .int .i64 co, .int .i64 pe, .int .i64 tg, .int .i64 va, .int .i64 sz, .int .i64 ro, .int .u8 op, .slice ra rn rc, .int .i64 cl, .int .i64 ky]
def Cl.A (c : Cl) (ra : Option Addr) (rc : Nat) : Array Value := clA c.k c.co c.pe c.tg c.va c.sz c.ro c.op ra c.rq.length rc c.cl c.ky
def numF (c : Cl) (f : Int) : Int := if f = 0 then c.co else if f = 1 then c.pe else if f = 2 then c.tg else if f = 3 then c.va else if f = 4 then c.sz else if f = 5 then c.ro else if f = 6 then c.op else if f = 8 then c.cl else c.ky
def plainF (f : Int) : Prop := f = 0 ∨ f = 1 ∨ f = 2 ∨ f = 3 ∨ f = 4 ∨ f = 5 ∨ f = 6 ∨ f = 8 ∨ f = 9
def posF (f : Int) : Nat := if f = 0 then 1 else if f = 1 then 2 else if f = 2 then 3 else if f = 3 then 4 else if f = 4 then 5 else if f = 5 then 6 else if f = 6 then 7 else if f = 8 then 9 else 10
def valF (f n : Int) : Value := if f = 6 then .int .u8 n else .int .i64 n
set_option maxRecDepth 100000 in
set_option maxHeartbeats 8000000 in
theorem number_0 (k co pe tg va sz ro op cl ky : Int) (ra : Option Addr) (rn rc : Nat) (f : Int) (hf : plainF f) (ho : 0 ≤ op ∧ op ≤ 255) (w : World) :
    Calls Tryd.prog 23 #[.agg #[.int .u8 k, .int .i64 co, .int .i64 pe, .int .i64 tg, .int .i64 va, .int .i64 sz, .int .i64 ro, .int .u8 op, .slice ra rn rc, .int .i64 cl, .int .i64 ky], .int .i64 f] w fun e w' => e = .returned (.int .i64 (if f = 0 then co else if f = 1 then pe else if f = 2 then tg else if f = 3 then va else if f = 4 then sz else if f = 5 then ro else if f = 6 then op else if f = 8 then cl else ky)) ∧ Below w.heap.size w w' := by
  have s1 : IntKind.i64.wrap op = op := by rw [IntKind.wrap_i64]; omega
  have HB := hide ((Below.refl w.heap.size w).alloc (Nat.le_refl _) (.cells #[.int .u8 k, .int .i64 co, .int .i64 pe, .int .i64 tg, .int .i64 va, .int .i64 sz, .int .i64 ro, .int .u8 op, .slice ra rn rc, .int .i64 cl, .int .i64 ky] 24))
  clear ho
  rcases hf with rfl | rfl | rfl | rfl | rfl | rfl | rfl | rfl | rfl
  all_goals
    go_enter Tryd.func23, Tryd.ntmps23
    go_wp2_with fail
    go_ret
    exact ⟨rfl, HB.out⟩
theorem number_c (c : Cl) (ra : Option Addr) (rc : Nat) (f : Int) (hf : plainF f) (ho : 0 ≤ c.op ∧ c.op ≤ 255) (w : World) :
    Calls Tryd.prog 23 #[.agg (c.A ra rc), .int .i64 f] w fun e w' => e = .returned (.int .i64 (numF c f)) ∧ Below w.heap.size w w' :=
  number_0 c.k c.co c.pe c.tg c.va c.sz c.ro c.op c.cl c.ky ra c.rq.length rc f hf ho w
set_option maxRecDepth 100000 in
set_option maxHeartbeats 8000000 in
theorem set_c (b : Nat) (f n : Int) (hf : plainF f) (hn : f = 6 → 0 ≤ n ∧ n ≤ 255) (w : World) (cur : Array Value) (hb : Blk w b 24 cur) (hs : cur.size = 11) :
    Calls Tryd.prog 44 #[.pointer (some ⟨b, 0, none⟩), .int .i64 f, .int .i64 n] w fun e w' => e = .returned (.tuple #[]) ∧ w' = w.setCell ⟨b, posF f, none⟩ (valF f n) := by
  have hc : ∀ j (h : j < 11), w.cell? ⟨b, j, none⟩ = some (cur[j]'(by omega)) := fun j h => by rw [hb.cell j, Array.getElem?_eq_getElem]
  have hz := fun j => hb.frozen j
  have c1 := hc 1 (by omega)
  have f1 := hz 1
  have c2 := hc 2 (by omega)
  have f2 := hz 2
  have c3 := hc 3 (by omega)
  have f3 := hz 3
  have c4 := hc 4 (by omega)
  have f4 := hz 4
  have c5 := hc 5 (by omega)
  have f5 := hz 5
  have c6 := hc 6 (by omega)
  have f6 := hz 6
  have c7 := hc 7 (by omega)
  have f7 := hz 7
  have c9 := hc 9 (by omega)
  have f9 := hz 9
  have c10 := hc 10 (by omega)
  have f10 := hz 10
  have s6 : f = 6 → IntKind.u8.wrap n = n := fun h => by have := hn h; rw [IntKind.wrap_u8]; omega
  clear hc hz hb hn
  rcases hf with rfl | rfl | rfl | rfl | rfl | rfl | rfl | rfl | rfl
  all_goals
    first | have s6' := s6 rfl | skip
    clear s6
    go_enter Tryd.func44, Tryd.ntmps44
    go_wp2_with fail
    go_end0
    exact ⟨rfl, rfl⟩
end Cal
end Go.Proofs.YthcoelkpiflfeaaDoor
