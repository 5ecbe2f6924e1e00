import Derived.WalkKit
import Derived.ProofKit
import Derived.Below
import Derived.Laws.OwnMore
import Derived.Deep.AppendLies
import Derived.Deep.Draws
import Derived.Laws.Rows
import Derived.Maps.AppendAt
import Derived.RegionTactic
import Derived.OwnWalk
import Derived.Deep.OwnRows
import Derived.Deep.QuietTactic
import Derived.BigQuiet
import Derived.Laws.MakeOwn
import Derived.Laws.Entries
import Derived.WalkSpells
import Derived.WalkLawsBesides
import Derived.Lib.Hide
import Derived.IntWalk
import Derived.Outline
import Derived.OpenShut
import Derived.Orders
import Derived.StillTail
import Derived.Lib.AppendZeros
import Derived.Test.YtonmojinijpneaaRows
import Derived.Laws.StructEq
import Derived.MapKept
import Derived.Laws.IdiomRangeMap
section
/- Words for slices that read as lists, blocks that are known whole, appends: for the seat's other texts. -/
namespace Go.Proofs.Ytonmojinijpneaa
open Go.RowKit
set_option linter.unusedVariables false
set_option linter.unusedSimpArgs false

/-- What the walk is told of a slice of integers that came in. -/
def IsRow (k : IntKind) (w : World) (a : Option Addr) (len cap : Nat) (zs : List Int) : Prop :=
  (a = none ∧ len = 0 ∧ cap = 0 ∧ zs = []) ∨
  ∃ x, a = some x ∧ len ≤ cap ∧ cap ≤ maxLen ∧ zs.length = cap ∧ (∀ i, i < zs.length → w.cell? (x.add i) = some (.int k (zs.getD i 0))) ∧ ∀ n ∈ zs, (Lit.int k n).wf = true

theorem block_of_add (a : Addr) (n : Nat) : (a.add n).block = a.block := by unfold Addr.add; split <;> rfl
theorem add_of_add (a : Addr) (i j : Nat) : (a.add i).add j = a.add (i + j) := by
  unfold Addr.add
  by_cases hi : i = 0 <;> by_cases hj : j = 0 <;> simp [hi, hj, Nat.add_assoc]

def Reads (w : World) (B size : Nat) (A : Option Addr) (n : Nat) (xs : List Value) : Prop :=
  xs.length = n * size ∧ (0 < n → ∃ ad, A = some ad ∧ ad.block < B ∧ ∀ j u, xs[j]? = some u → w.cell? (ad.add j) = some u)

section
variable {w w' : World} {B B' size n : Nat} {A : Option Addr} {xs : List Value}
theorem Reads.none_ : Reads w B size A 0 [] := ⟨by simp, fun h => absurd h (by omega)⟩
theorem Reads.at_ {k : Nat} (h : Reads w B 1 A n xs) (hk : k < n) : ∃ ad u, A = some ad ∧ ad.block < B ∧ xs[k]? = some u ∧ w.cell? (ad.add k) = some u := by
  obtain ⟨ad, e, hb, hc⟩ := h.2 (by omega)
  have hl : k < xs.length := by have := h.1; omega
  exact ⟨ad, xs[k], e, hb, List.getElem?_eq_getElem hl, hc k _ (List.getElem?_eq_getElem hl)⟩
theorem Reads.keep (h : Reads w B size A n xs) (hk : ∀ p : Addr, p.block < B → w'.cell? p = w.cell? p) : Reads w' B size A n xs :=
  ⟨h.1, fun hn => by
    obtain ⟨ad, e, hb, hc⟩ := h.2 hn
    exact ⟨ad, e, hb, fun j u hu => (hk _ (by rw [block_of_add]; exact hb)).trans (hc j u hu)⟩⟩
theorem Reads.more (h : Reads w B size A n xs) (hB : B ≤ B') : Reads w B' size A n xs :=
  ⟨h.1, fun hn => by
    obtain ⟨ad, e, hb, hc⟩ := h.2 hn
    exact ⟨ad, e, by omega, hc⟩⟩
theorem Reads.below (h : Reads w B size A n xs) (hb : Below B w w') : Reads w' B size A n xs := h.keep fun _ hp => hb.cell hp
theorem Reads.drew (h : Reads w B size A n xs) : Reads w.drew B size A n xs := h
theorem Reads.drewN (h : Reads w B size A n xs) (k : Nat) : Reads (w.drewN k) B size A n xs := h
theorem Reads.alloc (h : Reads w B size A n xs) (hB : B ≤ w.heap.size) (o : Obj) : Reads (w.alloc o) B size A n xs := h.keep fun p hp => World.cell?_alloc_lt w o p (by omega)
theorem Reads.setCell (h : Reads w B size A n xs) {p : Addr} (hB : B ≤ p.block) (u : Value) : Reads (w.setCell p u) B size A n xs :=
  h.keep fun q hq => World.cell?_setCell_other w p q u (fun e => by subst e; omega)
theorem Reads.grown (h : Reads w B size A n xs) {row : Option Nat} (hg : w.grownBy w' row) (hB : B ≤ w.heap.size) (hr : ∀ g, row = some g → B ≤ g) : Reads w' B size A n xs :=
  h.keep fun p hp => World.cell?_of_block (hg.block p.block (by omega) (fun e => by have := hr _ e.symm; omega))
theorem Reads.cut (h : Reads w B size A n xs) {k cap : Nat} (hk : k ≤ n) (hc : n ≤ cap) :
    Reads w B size (if cap = k then A else A.map (·.add (k * size))) (n - k) (xs.drop (k * size)) := by
  refine ⟨by rw [List.length_drop, h.1, Nat.sub_mul], fun hn => ?_⟩
  obtain ⟨ad, rfl, hb, hcell⟩ := h.2 (by omega)
  rw [if_neg (by omega)]
  refine ⟨ad.add (k * size), rfl, by rw [block_of_add]; exact hb, fun j u hu => ?_⟩
  rw [add_of_add]
  exact hcell _ u (by rw [← hu, List.getElem?_drop])
theorem Reads.of_own {base : Nat} {e : TypeId} {c : Nat} (h : w.ownsRow base e size (.slice A n c) n xs) : Reads w w.heap.size size A n xs := by
  refine ⟨h.1, fun hn => ?_⟩
  obtain ⟨g, cap, hv, _, hlt⟩ := h.form hn
  have hA : A = some ⟨g, 0, none⟩ := by injection hv
  subst hA
  exact ⟨_, rfl, hlt, h.cells (g := g) rfl⟩
end

def Blk (w : World) (g : Nat) (t : TypeId) (cs : Array Value) : Prop := w.heap[g]? = some (.cells cs t (0, 0))

section
variable {w w' : World} {g : Nat} {t : TypeId} {cs : Array Value}
theorem Blk.lt (h : Blk w g t cs) : g < w.heap.size := by
  rcases Nat.lt_or_ge g w.heap.size with hlt | hge
  · exact hlt
  · unfold Blk at h; rw [Array.getElem?_eq_none hge] at h; cases h
theorem Blk.cell (h : Blk w g t cs) (i : Nat) : w.cell? ⟨g, i, none⟩ = cs[i]? := cell_of_row w g i cs t (0, 0) h
theorem Blk.frozen (h : Blk w g t cs) (i : Nat) : w.frozen? ⟨g, i, none⟩ = false := by
  unfold Blk at h
  simp [World.frozen?, h]
theorem Blk.new (w : World) (t : TypeId) (cs : Array Value) : Blk (w.alloc (.cells cs t)) w.heap.size t cs := heap_alloc_new w _
theorem Blk.drew (h : Blk w g t cs) : Blk w.drew g t cs := h
theorem Blk.drewN (h : Blk w g t cs) (n : Nat) : Blk (w.drewN n) g t cs := h
theorem Blk.alloc (h : Blk w g t cs) (o : Obj) : Blk (w.alloc o) g t cs := (Below.heap_alloc w o g h.lt).trans h
theorem Blk.set_ (h : Blk w g t cs) (i : Nat) (u : Value) : Blk (w.setCell ⟨g, i, none⟩ u) g t (cs.setIfInBounds i u) := by
  unfold Blk at h ⊢
  simp [World.setCell, Array.getElem?_modify, h]
theorem Blk.far (h : Blk w g t cs) {p : Addr} (hp : g ≠ p.block) (u : Value) : Blk (w.setCell p u) g t cs := (Below.heap_setCell w p u g hp).trans h
theorem Blk.below {B : Nat} (h : Blk w g t cs) (hb : Below B w w') (hg : g < B) : Blk w' g t cs := (hb.block g hg).trans h
theorem Blk.grown {row : Option Nat} (h : Blk w g t cs) (hb : w.grownBy w' row) (hg : some g ≠ row) : Blk w' g t cs := (hb.block g h.lt hg).trans h
theorem Blk.ne_ {g' : Nat} {t' : TypeId} {cs' : Array Value} (h : Blk w g t cs) (h' : Blk w g' t' cs') (hne : t ≠ t') : g ≠ g' := by
  rintro rfl
  unfold Blk at h h'
  rw [h] at h'
  injection h' with h'
  injection h' with _ ht
  exact hne ht
theorem own_blk_ne {base : Nat} {e : TypeId} {size n : Nat} {v : Value} {xs : List Value} (h : w.ownsRow base e size v n xs) (hg : Blk w g t cs) (hne : e ≠ t) : v.ownBlock ≠ some g := by
  rcases h.2 with ⟨rfl, _⟩ | ⟨g', cap, cur, rfl, _, hh, _⟩
  · simp [Value.ownBlock]
  · intro he
    have : g' = g := by simpa [Value.ownBlock] using he
    subst this
    exact Blk.ne_ (t := e) hh hg hne rfl
end

section
variable {P : Program} (w : World)

theorem run_append_of_nil (base : Nat) (t ty e : TypeId) (i : TypeInfo) (size : Nat) (ht : P.underlying t = some (.slice e)) (hi : P.info? e = some i)
    (v : Value) (n : Nat) (xs : List Value) (hown : w.ownsRow base e size v n xs) (c : Nat) : (Builtin.append_ #[t, t] ty #[v, .slice none 0 c]).run P w = .ok v w := by
  rcases hown.2 with ⟨rfl, rfl⟩ | ⟨g, cap, cur, rfl, _, _, hnc, _⟩
  · simp [Builtin.append_, run_underlying ht, sizeOf, typeInfo, hi, Builtin.lenOf, Builtin.firstCells]
  · simp [Builtin.append_, run_underlying ht, sizeOf, typeInfo, hi, Builtin.lenOf, Builtin.firstCells, hnc, storeCells]

theorem run_append_any (base : Nat) (t ty e : TypeId) (i : TypeInfo) (z : Value) (size bytes : Nat) (ht : P.underlying t = some (.slice e)) (hi : P.info? e = some i) (hz : i.zero = some z)
    (hsize : i.size = size) (hby : i.bytes = bytes) (hzs : z.cells.size = size) (hsz : 0 < size)
    (v : Value) (n : Nat) (xs : List Value) (hown : w.ownsRow base e size v n xs)
    (B : Nat) (A : Option Addr) (m c : Nat) (news : List Value) (hr : Reads w B size A m news) (h1 : ∀ u ∈ news, u.oneCell' = true)
    (h63 : n + m ≤ maxLen) (hbytes : (n + m) * bytes ≤ 140737488355328) (hbase : base ≤ w.heap.size) :
    ∃ v' w', (Builtin.append_ #[t, t] ty #[v, .slice A m c]).run P w = .ok v' w' ∧ w'.ownsRow base e size v' (n + m) (xs ++ news) ∧ w.grownBy w' v.ownBlock ∧
      (v'.ownBlock = v.ownBlock ∨ v'.ownBlock = some w.heap.size) := by
  rcases A with _ | ad
  · have hm : m = 0 := by
      rcases Nat.eq_zero_or_pos m with h0 | h0
      · exact h0
      · obtain ⟨ad, h, _⟩ := hr.2 h0
        cases h
    subst hm
    have hn : news = [] := List.eq_nil_of_length_eq_zero (by simpa using hr.1)
    subst hn
    exact ⟨v, w, run_append_of_nil w base t ty e i size ht hi v n xs hown c, by simpa using hown, World.grownBy.refl w _, .inl rfl⟩
  · have hcells : ∀ j u, news[j]? = some u → w.cell? (ad.add j) = some u := by
      intro j u hu
      rcases Nat.eq_zero_or_pos m with h0 | h0
      · subst h0
        have hn : news = [] := List.eq_nil_of_length_eq_zero (by simpa using hr.1)
        subst hn
        simp at hu
      · obtain ⟨ad', h, _, hc⟩ := hr.2 h0
        injection h with h
        subst h
        exact hc j u hu
    obtain ⟨v', w', hrun, h2, h3, _, h5⟩ := run_append_own_at (P := P) w base t ty e i z size bytes ht hi hz hsize hby hzs hsz v n xs hown ad m c news hr.1 hcells h1 h63 hbytes hbase
    exact ⟨v', w', hrun, h2, h3, h5⟩

theorem wp_append_any {o : Oper} {a : Act} {K : Act → World → Prop} {Q : Exit → Act → World → Prop} (s x : Operand) (t : TypeId)
    (ho : o.op = .call { callee := .builtin .append, args := #[s, x], argTypes := #[t, t] })
    (base : Nat) (e : TypeId) (i : TypeInfo) (z : Value) (size bytes : Nat) (ht : P.underlying t = some (.slice e)) (hi : P.info? e = some i) (hz : i.zero = some z)
    (hsize : i.size = size) (hby : i.bytes = bytes) (hzs : z.cells.size = size) (hsz : 0 < size)
    (v : Value) (n : Nat) (xs : List Value) (hs : a.eval s = v) (hown : w.ownsRow base e size v n xs)
    (B : Nat) (A : Option Addr) (m c : Nat) (news : List Value) (hx : a.eval x = .slice A m c) (hr : Reads w B size A m news) (h1 : ∀ u ∈ news, u.oneCell' = true)
    (h63 : n + m ≤ maxLen) (hbytes : (n + m) * bytes ≤ 140737488355328) (hbase : base ≤ w.heap.size)
    (h : ∀ v' w', w'.ownsRow base e size v' (n + m) (xs ++ news) → w.grownBy w' v.ownBlock → (v'.ownBlock = v.ownBlock ∨ v'.ownBlock = some w.heap.size) → K (a.put o.dst v') w') : o.wp P a w K Q := by
  obtain ⟨v', w', hrun, h2, h3, h4⟩ := run_append_any (P := P) w base t o.type e i z size bytes ht hi hz hsize hby hzs hsz v n xs hown B A m c news hr h1 h63 hbytes hbase
  unfold Oper.wp execOp
  simp only [ho, resolve, invoke, builtin, Sem.run_bind, Sem.run_pure, Result.andThen_ok, List.map_toArray, List.map_cons, List.map_nil, hs, hx, hrun]
  exact h v' w' h2 h3 h4

theorem wpList_append_any {ops : Array Oper} {rest : List Oper} {o : Oper} {a : Act} {Q : Exit → Act → World → Prop} (hgd : o.guard = none) (s x : Operand) (t : TypeId)
    (ho : o.op = .call { callee := .builtin .append, args := #[s, x], argTypes := #[t, t] })
    (base : Nat) (e : TypeId) (i : TypeInfo) (z : Value) (size bytes : Nat) (ht : P.underlying t = some (.slice e)) (hi : P.info? e = some i) (hz : i.zero = some z)
    (hsize : i.size = size) (hby : i.bytes = bytes) (hzs : z.cells.size = size) (hsz : 0 < size)
    (v : Value) (n : Nat) (xs : List Value) (hs : a.eval s = v) (hown : w.ownsRow base e size v n xs)
    (B : Nat) (A : Option Addr) (m c : Nat) (news : List Value) (hx : a.eval x = .slice A m c) (hr : Reads w B size A m news) (h1 : ∀ u ∈ news, u.oneCell' = true)
    (h63 : n + m ≤ maxLen) (hbytes : (n + m) * bytes ≤ 140737488355328) (hbase : base ≤ w.heap.size)
    (h : ∀ v' w', w'.ownsRow base e size v' (n + m) (xs ++ news) → w.grownBy w' v.ownBlock → (v'.ownBlock = v.ownBlock ∨ v'.ownBlock = some w.heap.size) → wpList P ops Q rest (a.put o.dst v') w') : wpList P ops Q (o :: rest) a w :=
  wpList_plain hgd fun _ hK => wp_append_any w s x t ho base e i z size bytes ht hi hz hsize hby hzs hsz v n xs hs hown B A m c news hx hr h1 h63 hbytes hbase fun v' w' h2 h3 h4 => hK _ _ (h v' w' h2 h3 h4)

theorem step_append_any {ops : Array Oper} {o : Oper} {a : Act} {K : Act → World → Prop} {Q : Exit → Act → World → Prop} {E : Prop} (hgd : o.guard = none) (s x : Operand) (t : TypeId)
    (ho : o.op = .call { callee := .builtin .append, args := #[s, x], argTypes := #[t, t] })
    (base : Nat) (e : TypeId) (i : TypeInfo) (z : Value) (size bytes : Nat) (ht : P.underlying t = some (.slice e)) (hi : P.info? e = some i) (hz : i.zero = some z)
    (hsize : i.size = size) (hby : i.bytes = bytes) (hzs : z.cells.size = size) (hsz : 0 < size)
    (v : Value) (n : Nat) (xs : List Value) (hs : a.eval s = v) (hown : w.ownsRow base e size v n xs)
    (B : Nat) (A : Option Addr) (m c : Nat) (news : List Value) (hx : a.eval x = .slice A m c) (hr : Reads w B size A m news) (h1 : ∀ u ∈ news, u.oneCell' = true)
    (h63 : n + m ≤ maxLen) (hbytes : (n + m) * bytes ≤ 140737488355328) (hbase : base ≤ w.heap.size)
    (h : ∀ v' w', w'.ownsRow base e size v' (n + m) (xs ++ news) → w.grownBy w' v.ownBlock → (v'.ownBlock = v.ownBlock ∨ v'.ownBlock = some w.heap.size) → K (a.put o.dst v') w') :
    if Region.wanted o (yielded ops a.tmps) = true then Oper.wp P o a w K Q else E := by
  have hw : Region.wanted o (yielded ops a.tmps) = true := by simp [Region.wanted, hgd]
  rw [if_pos hw]
  exact wp_append_any w s x t ho base e i z size bytes ht hi hz hsize hby hzs hsz v n xs hs hown B A m c news hx hr h1 h63 hbytes hbase h
end

theorem hide {p : Prop} (h : p) : Hid p := h
theorem unhide {p : Prop} (h : Hid p) : p := h
theorem quiet_add {P : Program} {f : FuncId} {args : Array Value} {w : World} {a n : Nat} {v : Value}
    (h : Calls P f args (w.drewN (a + n)) fun e w' => e = .returned v ∧ ∃ m, w' = (w.drewN (a + n)).drewN m) :
    Calls P f args (w.drewN (a + n)) fun e w'' => e = .returned v ∧ ∃ m, w'' = w.drewN (a + m) :=
  h.mono fun _ _ ⟨he, m, hm⟩ => ⟨he, n + m, by rw [hm, World.drewN_drewN, Nat.add_assoc]⟩
theorem quiet_add_same {P : Program} {f : FuncId} {args : Array Value} {w : World} {a n : Nat} {v : Value}
    (h : Calls P f args (w.drewN (a + n)) fun e w' => e = .returned v ∧ w' = w.drewN (a + n)) :
    Calls P f args (w.drewN (a + n)) fun e w'' => e = .returned v ∧ ∃ m, w'' = w.drewN (a + m) :=
  h.mono fun _ _ ⟨he, hm⟩ => ⟨he, n, hm⟩
theorem quiet_add_left {P : Program} {f : FuncId} {args : Array Value} {w : World} {a n : Nat} {v : Value}
    (h : Calls P f args (w.drewN (a + n)) fun e w' => e = .returned v ∧ w.drewN (a + n) = w') :
    Calls P f args (w.drewN (a + n)) fun e w'' => e = .returned v ∧ ∃ m, w'' = w.drewN (a + m) :=
  h.mono fun _ _ ⟨he, hm⟩ => ⟨he, n, hm.symm⟩
theorem quiet_left {P : Program} {f : FuncId} {args : Array Value} {w : World} {n : Nat} {v : Value}
    (h : Calls P f args (w.drewN n) fun e w' => e = .returned v ∧ w.drewN n = w') : Calls P f args (w.drewN n) fun e w'' => e = .returned v ∧ ∃ m, w'' = w.drewN m :=
  h.mono fun _ _ ⟨he, hm⟩ => ⟨he, n, hm.symm⟩

theorem below_drewN {B : Nat} {a w : World} (h : Below B a w) (n : Nat) : Below B a (w.drewN n) := ⟨h.os, h.tape, h.output, h.size, h.block⟩
theorem rowIs_drewN {w : World} {b : Nat} {t : TypeId} {n : Nat} {f : Nat → Value} (h : w.rowIs b t n f) (k : Nat) : (w.drewN k).rowIs b t n f := h
theorem grown_trans {a b c : World} (h : Grown a b) (k : Grown b c) : Grown a c :=
  ⟨World.keptBut_trans h.1 k.1, fun x => (k.2.1 x).trans (h.2.1 x), Nat.le_trans h.2.2 k.2.2⟩

theorem only_drewN {a w : World} {row : Option Nat} (h : a.grownBy w row) (n : Nat) : a.grownBy (w.drewN n) row := ⟨h.os, h.tape, h.output, h.size, h.block⟩
theorem only_drew {a w : World} {row : Option Nat} (h : a.grownBy w row) : a.grownBy w.drew row := ⟨h.os, h.tape, h.output, h.size, h.block⟩
theorem only_alloc {a w : World} {row : Option Nat} (h : a.grownBy w row) (o : Obj) : a.grownBy (w.alloc o) row :=
  ⟨h.os, h.tape, h.output, Nat.le_trans h.size (by simp), fun i hi hne => (Below.heap_alloc w o i (Nat.lt_of_lt_of_le hi h.size)).trans (h.block i hi hne)⟩
theorem only_setCell {a w : World} {g : Nat} (h : a.grownBy w (some g)) {p : Addr} (hp : p.block = g ∨ a.heap.size ≤ p.block) (u : Value) : a.grownBy (w.setCell p u) (some g) :=
  ⟨h.os, h.tape, h.output, by simpa [World.setCell] using h.size, fun i hi hne => (Below.heap_setCell w p u i (by
    rintro rfl
    rcases hp with hp | hp
    · exact hne (by rw [hp])
    · omega)).trans (h.block i hi hne)⟩
theorem only_of_below {a w : World} (h : Below a.heap.size a w) (row : Option Nat) : a.grownBy w row := ⟨h.os, h.tape, h.output, h.size, fun i hi _ => h.block i hi⟩

theorem run_make_rowN {P : Program} (t e : TypeId) (i : TypeInfo) (z : Value) (ht : P.underlying t = some (.slice e)) (hi : P.info? e = some i) (hz : i.zero = some z)
    (kl kc : IntKind) (n c : Nat) (hnc : n ≤ c) (hbytes : i.bytes * c ≤ 281474976710656) (h63 : c ≤ 9223372036854775807) (w : World) :
    (Instr.makeSlice t (.int kl (n : Int)) (.int kc (c : Int))).run P w = .ok (.slice (some ⟨w.heap.size, 0, none⟩) n c) (w.alloc (.cells (madeCells z.cells (c * i.size)) e)) := by
  have hb : (i.bytes : Int) * (c : Int) ≤ 281474976710656 := by
    have h : ((i.bytes * c : Nat) : Int) ≤ 281474976710656 := by omega
    rwa [Int.natCast_mul] at h
  have hr := run_make (P := P) w t e i z ht hi hz kl kc n c (by omega) (by omega) hb (by omega)
  simp only [Int.toNat_natCast] at hr
  exact hr
theorem run_makeMap_hint {P : Program} (t k e : TypeId) (kd : IntKind) (n : Int) (ht : P.underlying t = some (.map k e)) (w : World) :
    (Instr.makeMap t (some (.int kd n))).run P w = .ok (.map (some w.heap.size)) (w.alloc (.map #[] 0)) := by
  simp [Instr.makeMap, run_underlying ht]; rfl

end Go.Proofs.Ytonmojinijpneaa
end
section
/- A region that draws its order, whose operations may make memory and call what lays blocks: one fact an operation, on what it leaves in its slot, that stands in every later world; each operation is looked at once. -/
namespace Go.Proofs.Ytonmojinijpneaa
open Go Go.RowKit
set_option linter.unusedVariables false
set_option linter.unusedSimpArgs false
section
variable {P : Program} {Q : Exit → Act → World → Prop}
def slotsOf (l : List Oper) : List Nat := l.filterMap (·.dst)
/-- Closed facts of a region: every operation has a slot of its own and no guard; what it waits for stands ahead of it in the text; the slots that it reads are those of what it waits for, or are no operation's. -/
def relB (l : List Oper) : Bool :=
  (slotsOf l).Nodup && (l.all fun o => o.dst.isSome && o.guard.isNone) &&
  ((List.range l.length).all fun i => (l[i]?.map fun o => (o.after.toList.all fun e => !Region.binds .any e || decide (e.on < i)) &&
    (o.op.operands.toList.all fun x => match x with
      | .tmp t => !(slotsOf l).contains t || o.after.toList.any fun e => Region.binds .any e && ((l[e.on]?).bind (·.dst) == some t)
      | _ => true)).getD true)
/-- What is owed of one operation. -/
def StepR (P : Program) (Q : Exit → Act → World → Prop) (R : Nat → Value → World → Prop) (l : List Oper) (a0 : Act) (w0 : World) (o : Oper) : Prop :=
  ∀ (a : Act) (w : World), Below w0.heap.size w0 w → (∀ t, t ∉ slotsOf l → a.eval (.tmp t) = a0.eval (.tmp t)) → (∀ t, t ∈ slotsOf l → Operand.tmp t ∈ o.op.operands → R t (a.eval (.tmp t)) w) →
    o.wp P a w (fun a' w' => ∃ v, a' = a.put o.dst v ∧ (∀ t, o.dst = some t → R t v w') ∧ Below w.heap.size w w') Q
/-- The state behind some of the operations. -/
structure InvR (R : Nat → Value → World → Prop) (l : List Oper) (a0 : Act) (w0 : World) (listed : Array Bool) (a : Act) (w : World) : Prop where
  size : listed.size = l.length
  below : Below w0.heap.size w0 w
  tsize : a.tmps.size = a0.tmps.size
  defers : a.defers = a0.defers
  same : ∀ t, (∀ i o, l[i]? = some o → listed.getD i false = true → o.dst ≠ some t) → a.eval (.tmp t) = a0.eval (.tmp t)
  rel : ∀ i o t, l[i]? = some o → listed.getD i false = true → o.dst = some t → R t (a.eval (.tmp t)) w
theorem put_same {a : Act} {t : Nat} {v : Value} (h : t < a.tmps.size) : (a.put (some t) v).eval (.tmp t) = v := by
  simp [Act.put, Act.eval, h]
theorem put_other {a : Act} {t s : Nat} {v : Value} (h : s ≠ t) : (a.put (some t) v).eval (.tmp s) = a.eval (.tmp s) := by
  simp [Act.put, Act.eval, Array.getElem?_setIfInBounds, h.symm]
theorem put_size {a : Act} {t : Option Nat} {v : Value} : (a.put t v).tmps.size = a.tmps.size := by
  cases t <;> simp [Act.put]
theorem mem_slots {l : List Oper} {i : Nat} {o : Oper} {t : Nat} (h : l[i]? = some o) (ht : o.dst = some t) : t ∈ slotsOf l :=
  List.mem_filterMap.2 ⟨o, List.mem_of_getElem? h, ht⟩
theorem slots_inj : ∀ {l : List Oper}, (slotsOf l).Nodup → ∀ {i j : Nat} {o o' : Oper} {t : Nat}, l[i]? = some o → l[j]? = some o' → o.dst = some t → o'.dst = some t → i = j
  | [], _, i, j, o, o', t, h, _, _, _ => by simp at h
  | x :: l, hn, i, j, o, o', t, h, h', ht, ht' => by
    have hn' : (slotsOf l).Nodup := by
      unfold slotsOf at hn ⊢
      rw [List.filterMap_cons] at hn
      split at hn
      · exact hn
      · exact (List.nodup_cons.1 hn).2
    cases i with
    | zero =>
      cases j with
      | zero => rfl
      | succ j =>
        exfalso
        simp only [List.getElem?_cons_zero, Option.some.injEq, List.getElem?_cons_succ] at h h'
        subst h
        unfold slotsOf at hn
        rw [List.filterMap_cons, ht] at hn
        exact (List.nodup_cons.1 hn).1 (mem_slots h' ht')
    | succ i =>
      cases j with
      | zero =>
        exfalso
        simp only [List.getElem?_cons_zero, Option.some.injEq, List.getElem?_cons_succ] at h h'
        subst h'
        unfold slotsOf at hn
        rw [List.filterMap_cons, ht'] at hn
        exact (List.nodup_cons.1 hn).1 (mem_slots h ht)
      | succ j =>
        simp only [List.getElem?_cons_succ] at h h'
        rw [slots_inj hn' h h' ht ht']
/-- The frame behind all operations. -/
def putAll (a0 : Act) (f : Nat → Value) (l : List Nat) : Act := l.foldl (fun a t => a.put (some t) (f t)) a0
theorem putAll_size (f : Nat → Value) : ∀ (l : List Nat) (a : Act), (putAll a f l).tmps.size = a.tmps.size
  | [], a => rfl
  | t :: l, a => by rw [putAll, List.foldl_cons]; exact (putAll_size f l _).trans put_size
theorem putAll_defers (f : Nat → Value) : ∀ (l : List Nat) (a : Act), (putAll a f l).defers = a.defers
  | [], a => rfl
  | t :: l, a => by rw [putAll, List.foldl_cons]; exact (putAll_defers f l _).trans rfl
theorem putAll_other (f : Nat → Value) : ∀ (l : List Nat) (a : Act) (s : Nat), s ∉ l → (putAll a f l).eval (.tmp s) = a.eval (.tmp s)
  | [], a, s, _ => rfl
  | t :: l, a, s, h => by
    rw [putAll, List.foldl_cons]
    exact (putAll_other f l _ s fun h' => h (List.mem_cons_of_mem _ h')).trans (put_other fun e => h (by rw [e]; exact List.mem_cons_self))
theorem putAll_same (f : Nat → Value) : ∀ (l : List Nat) (a : Act) (s : Nat), s ∈ l → s < a.tmps.size → (putAll a f l).eval (.tmp s) = f s
  | t :: l, a, s, h, hs => by
    rw [putAll, List.foldl_cons]
    by_cases hm : s ∈ l
    · exact putAll_same f l _ s hm (by rw [put_size]; exact hs)
    · obtain rfl : s = t := by exact (List.mem_cons.1 h).resolve_right hm
      exact (putAll_other f l _ s hm).trans (put_same hs)
theorem act_ext {a b : Act} (hs : a.tmps.size = b.tmps.size) (hd : a.defers = b.defers) (h : ∀ t, a.eval (.tmp t) = b.eval (.tmp t)) : a = b := by
  obtain ⟨x, dx⟩ := a
  obtain ⟨y, dy⟩ := b
  simp only at hs hd
  subst hd
  congr 1
  apply Array.ext hs
  intro i h1 h2
  have := h i
  simp only [Act.eval, Array.getD_eq_getD_getElem?] at this
  rw [Array.getElem?_eq_getElem h1, Array.getElem?_eq_getElem h2] at this
  simpa using this
theorem set_getD (x : Array Bool) (i j : Nat) (hi : i < x.size) : (x.setIfInBounds i true).getD j false = if i = j then true else x.getD j false := by
  simp only [Array.getD_eq_getD_getElem?, Array.getElem?_setIfInBounds]
  by_cases h : i = j
  · subst h; simp [hi]
  · simp [h]
def unl (x : Array Bool) (n : Nat) : Nat := (List.range n).countP fun i => !x.getD i false
theorem unl_set (x : Array Bool) (i : Nat) (hi : i < x.size) (h : x.getD i false = false) : ∀ n, i < n → unl (x.setIfInBounds i true) n + 1 = unl x n
  | 0, hn => absurd hn (Nat.not_lt_zero _)
  | n + 1, hn => by
    unfold unl
    rw [List.range_succ, List.countP_append, List.countP_append]
    by_cases e : i = n
    · subst e
      have h1 : (List.range i).countP (fun k => !(x.setIfInBounds i true).getD k false) = (List.range i).countP (fun k => !x.getD k false) := by
        apply List.countP_congr
        intro k hk
        have hk' := List.mem_range.1 hk
        rw [set_getD x i k hi, if_neg (by omega)]
      have e1 : [i].countP (fun k => !(x.setIfInBounds i true).getD k false) = 0 := by
        rw [List.countP_eq_zero]
        intro k hk
        obtain rfl : k = i := by simpa using hk
        rw [set_getD x k k hi, if_pos rfl]
        decide
      have e2 : [i].countP (fun k => !x.getD k false) = 1 := by
        rw [List.countP_cons, List.countP_nil, h]
        rfl
      rw [h1, e1, e2]
    · have ih := unl_set x i hi h n (by omega)
      unfold unl at ih
      have h2 : [n].countP (fun k => !(x.setIfInBounds i true).getD k false) = [n].countP (fun k => !x.getD k false) := by
        apply List.countP_congr
        intro k hk
        obtain rfl : k = n := by simpa using hk
        rw [set_getD x i k hi, if_neg e]
      rw [h2]
      omega
theorem unl_zero {x : Array Bool} {n : Nat} (h : unl x n = 0) (i : Nat) (hi : i < n) : x.getD i false = true := by
  unfold unl at h
  rw [List.countP_eq_zero] at h
  have := h i (List.mem_range.2 hi)
  simpa using this
theorem ready_mem {l : List Oper} {listed : Array Bool} {i : Nat} : i ∈ Region.ready .any l.toArray listed ↔ ∃ o, l[i]? = some o ∧ listed.getD i true = false ∧ ∀ e ∈ o.after, Region.binds .any e = true → listed.getD e.on false = true := by
  unfold Region.ready
  rw [List.mem_filter, List.mem_range]
  constructor
  · rintro ⟨h1, h2⟩
    have hl : i < l.length := by simpa using h1
    have ho : l[i]? = some l[i] := List.getElem?_eq_getElem hl
    have ho' : l.toArray[i]? = some l[i] := by simp [ho]
    rw [ho'] at h2
    simp only [Bool.and_eq_true, Bool.not_eq_true', Option.map_some, Option.getD_some, Array.all_eq_true_iff_forall_mem] at h2
    refine ⟨_, ho, h2.1, fun e he hb => ?_⟩
    have := h2.2 e he
    rw [hb] at this
    simpa using this
  · rintro ⟨o, ho, h1, h2⟩
    have hl : i < l.length := (List.getElem?_eq_some_iff.1 ho).1
    have ho' : l.toArray[i]? = some o := by simp [ho]
    refine ⟨by simp; exact hl, ?_⟩
    rw [ho']
    simp only [Bool.and_eq_true, Bool.not_eq_true', Option.map_some, Option.getD_some, Array.all_eq_true_iff_forall_mem]
    refine ⟨h1, fun e he => ?_⟩
    cases hb : Region.binds .any e with
    | false => rfl
    | true => simp [h2 e he hb]
theorem getD_tf {x : Array Bool} {i : Nat} (h : i < x.size) : x.getD i true = x.getD i false := by
  simp [Array.getD_eq_getD_getElem?, Array.getElem?_eq_getElem h]
structure RelF (l : List Oper) : Prop where
  nodup : (slotsOf l).Nodup
  each : ∀ o ∈ l, (∃ t, o.dst = some t) ∧ o.guard = none
  back : ∀ (i : Nat) (o : Oper), l[i]? = some o → ∀ e ∈ o.after, Region.binds .any e = true → e.on < i
  reads : ∀ (i : Nat) (o : Oper), l[i]? = some o → ∀ t, Operand.tmp t ∈ o.op.operands → t ∈ slotsOf l → ∃ e ∈ o.after, Region.binds .any e = true ∧ ∃ o', l[e.on]? = some o' ∧ o'.dst = some t
theorem relF {l : List Oper} (h : relB l = true) : RelF l := by
  unfold relB at h
  simp only [Bool.and_eq_true, decide_eq_true_eq, List.all_eq_true, Option.isSome_iff_exists, Option.isNone_iff_eq_none] at h
  obtain ⟨⟨h1, h2⟩, h3⟩ := h
  have get : ∀ (i : Nat) (o : Oper), l[i]? = some o → (∀ e ∈ o.after, Region.binds .any e = true → e.on < i) ∧ ∀ t, Operand.tmp t ∈ o.op.operands → t ∈ slotsOf l → ∃ e ∈ o.after, Region.binds .any e = true ∧ ∃ o', l[e.on]? = some o' ∧ o'.dst = some t := by
    intro i o ho
    have hl : i < l.length := (List.getElem?_eq_some_iff.1 ho).1
    have h4 := h3 i (List.mem_range.2 hl)
    rw [ho] at h4
    rw [Option.map_some, Option.getD_some, Bool.and_eq_true, List.all_eq_true, List.all_eq_true] at h4
    refine ⟨fun e he hb => ?_, fun t ht hs => ?_⟩
    · have h5 := h4.1 e (Array.mem_toList_iff.2 he)
      rw [hb] at h5
      simpa using h5
    · have h5 := h4.2 _ (Array.mem_toList_iff.2 ht)
      simp only [Bool.or_eq_true, Bool.not_eq_true', List.any_eq_true, Bool.and_eq_true, beq_iff_eq] at h5
      rcases h5 with h5 | ⟨e, he, hb, h6⟩
      · rw [List.contains_iff_mem.2 hs] at h5; cases h5
      · obtain ⟨o', h7, h8⟩ := Option.bind_eq_some_iff.1 h6
        exact ⟨e, Array.mem_toList_iff.1 he, hb, o', h7, h8⟩
  exact ⟨h1, h2, fun i o ho => (get i o ho).1, fun i o ho => (get i o ho).2⟩
theorem all_listed {l : List Oper} (hF : RelF l) {listed : Array Bool} (hs : listed.size = l.length) (h : Region.ready .any l.toArray listed = []) : ∀ i, i < l.length → listed.getD i false = true := by
  intro i
  induction i using Nat.strongRecOn with
  | _ i ih =>
    intro hi
    cases hc : listed.getD i false with
    | true => rfl
    | false =>
      exfalso
      have : i ∈ Region.ready .any l.toArray listed := ready_mem.2 ⟨l[i], List.getElem?_eq_getElem hi, by rw [getD_tf (by omega)]; exact hc, fun e he hb => by
        have := hF.back i _ (List.getElem?_eq_getElem hi) e he hb
        exact ih e.on this (by omega)⟩
      rw [h] at this
      cases this
theorem wpAny_rel {R : Nat → Value → World → Prop} (hR : ∀ t v w w', R t v w → Below w.heap.size w w' → R t v w') {l : List Oper} {a0 : Act} {w0 : World} (hF : RelF l) (hs : ∀ t ∈ slotsOf l, t < a0.tmps.size)
    (step : ∀ o ∈ l, StepR P Q R l a0 w0 o) (fin : ∀ (f : Nat → Value) (w : World), Below w0.heap.size w0 w → (∀ t ∈ slotsOf l, R t (f t) w) → Q .normal (putAll a0 f (slotsOf l)) w) :
    ∀ (fuel : Nat) (listed : Array Bool) (a : Act) (w : World), InvR R l a0 w0 listed a w → unl listed l.length ≤ fuel → wpAny P .any l.toArray Q fuel listed a w := by
  have finish : ∀ (listed : Array Bool) (a : Act) (w : World), InvR R l a0 w0 listed a w → (∀ i, i < l.length → listed.getD i false = true) → Q .normal a w := by
    intro listed a w I hall
    have h1 : ∀ t ∈ slotsOf l, R t (a.eval (.tmp t)) w := by
      intro t ht
      obtain ⟨o, ho, hd⟩ := List.mem_filterMap.1 ht
      obtain ⟨i, hi⟩ := List.getElem?_of_mem ho
      exact I.rel i o t hi (hall i (List.getElem?_eq_some_iff.1 hi).1) hd
    have h2 := fin (fun t => a.eval (.tmp t)) w I.below h1
    have e : putAll a0 (fun t => a.eval (.tmp t)) (slotsOf l) = a := by
      refine act_ext (by rw [putAll_size, I.tsize]) (by rw [putAll_defers, I.defers]) fun t => ?_
      by_cases ht : t ∈ slotsOf l
      · exact putAll_same _ _ _ _ ht (hs t ht)
      · rw [putAll_other _ _ _ _ ht]
        exact (I.same t fun i o ho _ hd => ht (mem_slots ho hd)).symm
    rwa [e] at h2
  intro fuel
  induction fuel with
  | zero =>
    intro listed a w I hu
    have hall := fun i hi => unl_zero (by omega : unl listed l.length = 0) i hi
    refine ⟨?_, finish listed a w I hall⟩
    rw [List.eq_nil_iff_forall_not_mem]
    intro i hi
    obtain ⟨o, ho, h1, _⟩ := ready_mem.1 hi
    have hl : i < l.length := (List.getElem?_eq_some_iff.1 ho).1
    rw [getD_tf (by rw [I.size]; exact hl), hall i hl] at h1
    cases h1
  | succ fuel ih =>
    intro listed a w I hu
    refine ⟨fun h => finish listed a w I (all_listed hF I.size h), fun i hi => ?_⟩
    obtain ⟨o, ho, h1, h2⟩ := ready_mem.1 hi
    have hl : i < l.length := (List.getElem?_eq_some_iff.1 ho).1
    have hil : i < listed.size := by rw [I.size]; exact hl
    rw [getD_tf hil] at h1
    have hm : o ∈ l := List.mem_of_getElem? ho
    obtain ⟨⟨t0, hd0⟩, hg⟩ := hF.each o hm
    have ho' : l.toArray[i]? = some o := by simp [ho]
    have hw : Region.wanted o (yielded l.toArray a.tmps) = true := by simp [Region.wanted, hg]
    unfold wpOp
    rw [ho']
    simp only [hw, if_true]
    refine .inl ?_
    have hst := step o hm a w I.below (fun t ht => I.same t fun j o' hj _ hd => ht (mem_slots hj hd)) (fun t ht hop => by
      obtain ⟨e, he, hb, o', h3, h4⟩ := hF.reads i o ho t hop ht
      exact I.rel e.on o' t h3 (h2 e he hb) h4)
    refine Oper.wp_mono (fun a' w' h => ?_) hst
    obtain ⟨v, rfl, hv, hbw⟩ := h
    have ht0 : t0 < a.tmps.size := by rw [I.tsize]; exact hs t0 (mem_slots ho hd0)
    refine ih _ _ _ ⟨by simp [I.size], I.below.trans (hbw.mono I.below.size), by rw [put_size, I.tsize], by rw [hd0]; exact I.defers, fun t hn => ?_, fun j o' t hj hlj hd => ?_⟩ ?_
    · have hne : t ≠ t0 := by
        rintro rfl
        exact hn i o ho (by rw [set_getD _ _ _ hil, if_pos rfl]) hd0
      rw [hd0, put_other hne]
      exact I.same t fun j o' hj hlj => hn j o' hj (by rw [set_getD _ _ _ hil, hlj]; split <;> rfl)
    · by_cases hij : i = j
      · subst hij
        obtain rfl : o = o' := Option.some.inj (ho.symm.trans hj)
        obtain rfl : t0 = t := Option.some.inj (hd0.symm.trans hd)
        rw [hd0, put_same ht0]
        exact hv _ hd0
      · rw [set_getD _ _ _ hil, if_neg hij] at hlj
        have hne : t ≠ t0 := by
          rintro rfl
          exact hij (slots_inj hF.nodup ho hj hd0 hd)
        rw [hd0, put_other hne]
        exact hR _ _ _ _ (I.rel j o' t hj hlj hd) hbw
    · have := unl_set listed i hil h1 l.length hl
      omega
/-- The region. -/
theorem wp_region_rel {id : Nat} (R : Nat → Value → World → Prop) {l : List Oper} {a0 : Act} {w0 : World} (hm : P.follows .mixedOrders = true) (hB : relB l = true) (hs : ((slotsOf l).all fun t => decide (t < a0.tmps.size)) = true)
    (hR : ∀ t v w w', R t v w → Below w.heap.size w w' → R t v w')
    (step : ∀ o ∈ l, StepR P Q R l a0 w0 o) (fin : ∀ (f : Nat → Value) (w : World), Below w0.heap.size w0 w → (∀ t ∈ slotsOf l, R t (f t) w) → Q .normal (putAll a0 f (slotsOf l)) w) :
    (Code.region id l.toArray true).wp P Q a0 w0 := by
  refine wp_region_any hm ?_
  have hs' : ∀ t ∈ slotsOf l, t < a0.tmps.size := fun t ht => by
    have := List.all_eq_true.1 hs t ht
    simpa using this
  refine wpAny_rel hR (relF hB) hs' step fin _ _ _ _ ⟨by simp, (Below.refl _ _).drew, rfl, rfl, fun _ _ => rfl, fun i o t ho hl => ?_⟩ ?_
  · exfalso
    rw [Array.getD_eq_getD_getElem?, Array.getElem?_replicate] at hl
    split at hl <;> simp at hl
  · exact Nat.le_trans List.countP_le_length (by simp)
end
end Go.Proofs.Ytonmojinijpneaa
end
section
/- A region that draws its order, whose last operations are forced (an append or a store behind all others): all but these by one fact an operation (wp_region_rel), these as they stand in the text. -/
namespace Go.Proofs.Ytonmojinijpneaa
open Go Go.RowKit
set_option linter.unusedVariables false
set_option linter.unusedSimpArgs false
section
variable {P : Program} {Q : Exit → Act → World → Prop}
def headDone (n m : Nat) : Array Bool := ((List.range (n + m)).map fun i => decide (i < n)).toArray
def tailB (l : List Oper) (n : Nat) : Bool :=
  Region.sinkB .any l.toArray n && Region.chainB .any l.toArray n && decide (n < l.length) && Region.seqB .any l.toArray (l.length - n) n (headDone n (l.length - n))
structure InvT (R : Nat → Value → World → Prop) (l head : List Oper) (a0 : Act) (w0 : World) (listed : Array Bool) (a : Act) (w : World) : Prop where
  inv : HeadInv .any l.toArray head.length listed
  below : Below w0.heap.size w0 w
  tsize : a.tmps.size = a0.tmps.size
  defers : a.defers = a0.defers
  same : ∀ t, (∀ i o, head[i]? = some o → listed.getD i false = true → o.dst ≠ some t) → a.eval (.tmp t) = a0.eval (.tmp t)
  rel : ∀ i o t, head[i]? = some o → listed.getD i false = true → o.dst = some t → R t (a.eval (.tmp t)) w
theorem head_at {l head tail : List Oper} (hl : l = head ++ tail) {i : Nat} (hi : i < head.length) : l[i]? = head[i]? := by
  subst hl; exact List.getElem?_append_left hi
theorem head_listed {l head tail : List Oper} (hl : l = head ++ tail) (hF : RelF head) {listed : Array Bool} (hs : listed.size = l.length) (h : ∀ i, i < head.length → i ∉ Region.ready .any l.toArray listed) : ∀ i, i < head.length → listed.getD i false = true := by
  intro i
  induction i using Nat.strongRecOn with
  | _ i ih =>
    intro hi
    have hil : i < l.length := by subst hl; simp; omega
    cases hc : listed.getD i false with
    | true => rfl
    | false =>
      exfalso
      refine h i hi (ready_mem.2 ⟨head[i], by rw [head_at hl hi]; exact List.getElem?_eq_getElem hi, by rw [getD_tf (by omega)]; exact hc, fun e he hb => ?_⟩)
      have := hF.back i _ (List.getElem?_eq_getElem hi) e he hb
      exact ih e.on this (by omega)
theorem wpAny_relT {R : Nat → Value → World → Prop} (hR : ∀ t v w w', R t v w → Below w.heap.size w w' → R t v w') {l head tail : List Oper} (hl : l = head ++ tail) {a0 : Act} {w0 : World} (hF : RelF head) (hT : tailB l head.length = true)
    (hs : ∀ t ∈ slotsOf head, t < a0.tmps.size)
    (step : ∀ o ∈ head, StepR P Q R head a0 w0 o) (fin : ∀ (f : Nat → Value) (w : World), Below w0.heap.size w0 w → (∀ t ∈ slotsOf head, R t (f t) w) → wpList P l.toArray Q tail (putAll a0 f (slotsOf head)) w) :
    ∀ (k : Nat) (listed : Array Bool) (a : Act) (w : World), InvT R l head a0 w0 listed a w → unl listed head.length = k → wpAny P .any l.toArray Q (k + tail.length) listed a w := by
  unfold tailB at hT
  simp only [Bool.and_eq_true, decide_eq_true_eq] at hT
  obtain ⟨⟨⟨hsink, hchain⟩, hn⟩, hseq⟩ := hT
  have hlen : l.length = head.length + tail.length := by subst hl; simp
  intro k
  induction k with
  | zero =>
    intro listed a w I hu
    have hall := fun i hi => unl_zero hu i hi
    have h1 : ∀ t ∈ slotsOf head, R t (a.eval (.tmp t)) w := by
      intro t ht
      obtain ⟨o, ho, hd⟩ := List.mem_filterMap.1 ht
      obtain ⟨i, hi⟩ := List.getElem?_of_mem ho
      exact I.rel i o t hi (hall i (List.getElem?_eq_some_iff.1 hi).1) hd
    have h2 := fin (fun t => a.eval (.tmp t)) w I.below h1
    have e : putAll a0 (fun t => a.eval (.tmp t)) (slotsOf head) = a := by
      refine act_ext (by rw [putAll_size, I.tsize]) (by rw [putAll_defers, I.defers]) fun t => ?_
      by_cases ht : t ∈ slotsOf head
      · exact putAll_same _ _ _ _ ht (hs t ht)
      · rw [putAll_other _ _ _ _ ht]
        exact (I.same t fun i o ho _ hd => ht (mem_slots ho hd)).symm
    rw [e] at h2
    have hlist : listed = headDone head.length (l.length - head.length) := by
      apply Array.ext
      · rw [I.inv.size]; simp [headDone]; omega
      · intro i h3 h4
        rw [I.inv.size] at h3
        have h3' : i < l.length := by simpa using h3
        have hil : i < listed.size := by rw [I.inv.size]; exact h3
        have e1 : listed[i] = listed.getD i false := by simp [Array.getD_eq_getD_getElem?, Array.getElem?_eq_getElem hil]
        have e2 : (headDone head.length (l.length - head.length))[i] = decide (i < head.length) := by simp [headDone]
        rw [e1, e2]
        by_cases hi : i < head.length
        · rw [hall i hi]; simp [hi]
        · have := I.inv.tail i (by omega) (by simpa using h3')
          rw [getD_tf (by rw [I.inv.size]; simpa using h3')] at this
          rw [this]; simp [hi]
    rw [Nat.zero_add]
    refine wpAny_of_seq tail head.length listed a w (fun j => ?_) ?_ h2
    · have e3 : l[head.length + j]? = tail[j]? := by
        subst hl
        rw [List.getElem?_append_right (by omega), Nat.add_sub_cancel_left]
      simp [e3]
    · rw [hlist]
      have : tail.length = l.length - head.length := by omega
      rw [this]
      exact hseq
  | succ k ih =>
    intro listed a w I hu
    have hex : ∃ i, i < head.length ∧ listed.getD i false = false := by
      apply Classical.byContradiction
      intro hno
      have : unl listed head.length = 0 := by
        unfold unl
        rw [List.countP_eq_zero]
        intro i hi
        cases hc : listed.getD i false with
        | true => simp
        | false => exact absurd ⟨i, List.mem_range.1 hi, hc⟩ hno
      omega
    have htail : ∀ t, head.length ≤ t → t ∉ Region.ready .any l.toArray listed := by
      obtain ⟨i, hi, hc⟩ := hex
      exact tail_waits hsink hchain (by simpa using hn) I.inv _ i rfl hi (by rw [getD_tf (by rw [I.inv.size]; simp; omega)]; exact hc)
    rw [show k + 1 + tail.length = (k + tail.length) + 1 by omega]
    refine ⟨fun h => ?_, fun i hi => ?_⟩
    · exfalso
      obtain ⟨i, hi, hc⟩ := hex
      have := head_listed hl hF (by rw [I.inv.size]; simp) (fun i _ => by rw [h]; simp) i hi
      rw [hc] at this
      cases this
    · have hih : i < head.length := by
        rcases Nat.lt_or_ge i head.length with h | h
        · exact h
        · exact absurd hi (htail i h)
      obtain ⟨o, hol, h1, h2⟩ := ready_mem.1 hi
      have ho : head[i]? = some o := by rw [← head_at hl hih]; exact hol
      have hil : i < listed.size := by rw [I.inv.size]; simp; omega
      rw [getD_tf hil] at h1
      have hm : o ∈ head := List.mem_of_getElem? ho
      obtain ⟨⟨t0, hd0⟩, hg⟩ := hF.each o hm
      have ho' : l.toArray[i]? = some o := by simp [hol]
      have hw : Region.wanted o (yielded l.toArray a.tmps) = true := by simp [Region.wanted, hg]
      unfold wpOp
      rw [ho']
      simp only [hw, if_true]
      refine .inl ?_
      have hst := step o hm a w I.below (fun t ht => I.same t fun j o' hj _ hd => ht (mem_slots hj hd)) (fun t ht hop => by
        obtain ⟨e, he, hb, o', h3, h4⟩ := hF.reads i o ho t hop ht
        exact I.rel e.on o' t h3 (h2 e he hb) h4)
      refine Oper.wp_mono (fun a' w' h => ?_) hst
      obtain ⟨v, rfl, hv, hbw⟩ := h
      have ht0 : t0 < a.tmps.size := by rw [I.tsize]; exact hs t0 (mem_slots ho hd0)
      refine ih _ _ _ ⟨I.inv.set hi hih, I.below.trans (hbw.mono I.below.size), by rw [put_size, I.tsize], by rw [hd0]; exact I.defers, fun t hn => ?_, fun j o' t hj hlj hd => ?_⟩ ?_
      · have hne : t ≠ t0 := by
          rintro rfl
          exact hn i o ho (by rw [set_getD _ _ _ hil, if_pos rfl]) hd0
        rw [hd0, put_other hne]
        exact I.same t fun j o' hj hlj => hn j o' hj (by rw [set_getD _ _ _ hil, hlj]; split <;> rfl)
      · by_cases hij : i = j
        · subst hij
          obtain rfl : o = o' := Option.some.inj (ho.symm.trans hj)
          obtain rfl : t0 = t := Option.some.inj (hd0.symm.trans hd)
          rw [hd0, put_same ht0]
          exact hv _ hd0
        · rw [set_getD _ _ _ hil, if_neg hij] at hlj
          have hne : t ≠ t0 := by
            rintro rfl
            exact hij (slots_inj hF.nodup ho hj hd0 hd)
          rw [hd0, put_other hne]
          exact hR _ _ _ _ (I.rel j o' t hj hlj hd) hbw
      · have := unl_set listed i hil h1 head.length hih
        omega
/-- The region: R as in wp_region_rel; n: how many operations stand ahead of the tail. -/
theorem wp_region_relT {id : Nat} (n : Nat) (R : Nat → Value → World → Prop) {l : List Oper} {a0 : Act} {w0 : World} (hm : P.follows .mixedOrders = true) (hB : relB (l.take n) = true) (hT : tailB l (l.take n).length = true) (hs : ((slotsOf (l.take n)).all fun t => decide (t < a0.tmps.size)) = true)
    (hR : ∀ t v w w', R t v w → Below w.heap.size w w' → R t v w')
    (step : ∀ o ∈ l.take n, StepR P Q R (l.take n) a0 w0 o) (fin : ∀ (f : Nat → Value) (w : World), Below w0.heap.size w0 w → (∀ t ∈ slotsOf (l.take n), R t (f t) w) → wpList P l.toArray Q (l.drop n) (putAll a0 f (slotsOf (l.take n))) w) :
    (Code.region id l.toArray true).wp P Q a0 w0 := by
  refine wp_region_any hm ?_
  have hs' : ∀ t ∈ slotsOf (l.take n), t < a0.tmps.size := fun t ht => by
    have := List.all_eq_true.1 hs t ht
    simpa using this
  have hl : l = l.take n ++ l.drop n := (List.take_append_drop n l).symm
  have hsz : l.toArray.size = (l.take n).length + (l.drop n).length := by
    simp
    omega
  have hz : ∀ i, (Array.replicate l.toArray.size false).getD i false = false := fun i => getD_replicate_false _ _
  have hu : unl (Array.replicate l.toArray.size false) (l.take n).length = (l.take n).length := by
    unfold unl
    rw [List.countP_eq_length.2 fun i _ => by rw [hz]; rfl]
    simp
  have key := wpAny_relT (P := P) (Q := Q) hR hl (relF hB) hT hs' step fin _ (Array.replicate l.toArray.size false) a0 w0.drew ⟨⟨by simp, fun j oj _ h => by rw [hz] at h; (cases h), fun t ht ht' => by rw [getD_tf (by simpa using ht')]; exact hz t⟩, (Below.refl _ _).drew, rfl, rfl, fun _ _ => rfl, fun i o t ho h => by rw [hz] at h; (cases h)⟩ hu
  rw [← hsz] at key
  exact key
end
end Go.Proofs.Ytonmojinijpneaa
end
section
/- As wp_region_relT, but one operation of the head (by its slot: an append onto a row that is there) may write: a state of the world ahead of it and one behind it (J false, J true), and a relation of one's own in place of Below. -/
namespace Go.Proofs.Ytonmojinijpneaa
open Go Go.RowKit
set_option linter.unusedVariables false
set_option linter.unusedSimpArgs false
section
variable {P : Program} {Q : Exit → Act → World → Prop}
def Don (head : List Oper) (tk : Nat) (listed : Array Bool) : Prop := ∃ i o, head[i]? = some o ∧ listed.getD i false = true ∧ o.dst = some tk
def StepJ (P : Program) (Q : Exit → Act → World → Prop) (R : Nat → Value → World → Prop) (K : World → World → Prop) (J : Option Value → World → Prop) (l : List Oper) (a0 : Act) (w0 : World) (o : Oper) (b : Option Value) (b' : Value → Option Value) : Prop :=
  ∀ (a : Act) (w : World), K w0 w → J b w → (∀ t, t ∉ slotsOf l → a.eval (.tmp t) = a0.eval (.tmp t)) → (∀ t, t ∈ slotsOf l → Operand.tmp t ∈ o.op.operands → R t (a.eval (.tmp t)) w) →
    o.wp P a w (fun a' w' => ∃ v, a' = a.put o.dst v ∧ (∀ t, o.dst = some t → R t v w') ∧ K w w' ∧ J (b' v) w') Q
structure InvJ (R : Nat → Value → World → Prop) (K : World → World → Prop) (J : Option Value → World → Prop) (tk : Nat) (l head : List Oper) (a0 : Act) (w0 : World) (listed : Array Bool) (a : Act) (w : World) : Prop where
  inv : HeadInv .any l.toArray head.length listed
  below : K w0 w
  jf : ¬ Don head tk listed → J none w
  jt : Don head tk listed → J (some (a.eval (.tmp tk))) w
  tsize : a.tmps.size = a0.tmps.size
  defers : a.defers = a0.defers
  same : ∀ t, (∀ i o, head[i]? = some o → listed.getD i false = true → o.dst ≠ some t) → a.eval (.tmp t) = a0.eval (.tmp t)
  rel : ∀ i o t, head[i]? = some o → listed.getD i false = true → o.dst = some t → R t (a.eval (.tmp t)) w
theorem wpAny_relJ {R : Nat → Value → World → Prop} {K : World → World → Prop} {J : Option Value → World → Prop} {tk : Nat} (hK : ∀ a b c, K a b → K b c → K a c) (hR : ∀ t v w w', R t v w → K w w' → R t v w') {l head tail : List Oper} (hl : l = head ++ tail) {a0 : Act} {w0 : World} (hF : RelF head) (hT : tailB l head.length = true)
    (hs : ∀ t ∈ slotsOf head, t < a0.tmps.size) (htk : tk ∈ slotsOf head)
    (step : ∀ o ∈ head, (o.dst = some tk → StepJ P Q R K J head a0 w0 o none some) ∧ (o.dst ≠ some tk → ∀ b, StepJ P Q R K J head a0 w0 o b fun _ => b)) (fin : ∀ (f : Nat → Value) (w : World), K w0 w → J (some (f tk)) w → (∀ t ∈ slotsOf head, R t (f t) w) → wpList P l.toArray Q tail (putAll a0 f (slotsOf head)) w) :
    ∀ (k : Nat) (listed : Array Bool) (a : Act) (w : World), InvJ R K J tk l head a0 w0 listed a w → unl listed head.length = k → wpAny P .any l.toArray Q (k + tail.length) listed a w := by
  unfold tailB at hT
  simp only [Bool.and_eq_true, decide_eq_true_eq] at hT
  obtain ⟨⟨⟨hsink, hchain⟩, hn⟩, hseq⟩ := hT
  have hlen : l.length = head.length + tail.length := by subst hl; simp
  intro k
  induction k with
  | zero =>
    intro listed a w I hu
    have hall := fun i hi => unl_zero hu i hi
    have h1 : ∀ t ∈ slotsOf head, R t (a.eval (.tmp t)) w := by
      intro t ht
      obtain ⟨o, ho, hd⟩ := List.mem_filterMap.1 ht
      obtain ⟨i, hi⟩ := List.getElem?_of_mem ho
      exact I.rel i o t hi (hall i (List.getElem?_eq_some_iff.1 hi).1) hd
    have hdon : Don head tk listed := by
      obtain ⟨o, ho, hd⟩ := List.mem_filterMap.1 htk
      obtain ⟨i, hi⟩ := List.getElem?_of_mem ho
      exact ⟨i, o, hi, hall i (List.getElem?_eq_some_iff.1 hi).1, hd⟩
    have h2 := fin (fun t => a.eval (.tmp t)) w I.below (I.jt hdon) h1
    have e : putAll a0 (fun t => a.eval (.tmp t)) (slotsOf head) = a := by
      refine act_ext (by rw [putAll_size, I.tsize]) (by rw [putAll_defers, I.defers]) fun t => ?_
      by_cases ht : t ∈ slotsOf head
      · exact putAll_same _ _ _ _ ht (hs t ht)
      · rw [putAll_other _ _ _ _ ht]
        exact (I.same t fun i o ho _ hd => ht (mem_slots ho hd)).symm
    rw [e] at h2
    have hlist : listed = headDone head.length (l.length - head.length) := by
      apply Array.ext
      · rw [I.inv.size]; simp [headDone]; omega
      · intro i h3 h4
        rw [I.inv.size] at h3
        have h3' : i < l.length := by simpa using h3
        have hil : i < listed.size := by rw [I.inv.size]; exact h3
        have e1 : listed[i] = listed.getD i false := by simp [Array.getD_eq_getD_getElem?, Array.getElem?_eq_getElem hil]
        have e2 : (headDone head.length (l.length - head.length))[i] = decide (i < head.length) := by simp [headDone]
        rw [e1, e2]
        by_cases hi : i < head.length
        · rw [hall i hi]; simp [hi]
        · have := I.inv.tail i (by omega) (by simpa using h3')
          rw [getD_tf (by rw [I.inv.size]; simpa using h3')] at this
          rw [this]; simp [hi]
    rw [Nat.zero_add]
    refine wpAny_of_seq tail head.length listed a w (fun j => ?_) ?_ h2
    · have e3 : l[head.length + j]? = tail[j]? := by
        subst hl
        rw [List.getElem?_append_right (by omega), Nat.add_sub_cancel_left]
      simp [e3]
    · rw [hlist]
      have : tail.length = l.length - head.length := by omega
      rw [this]
      exact hseq
  | succ k ih =>
    intro listed a w I hu
    have hex : ∃ i, i < head.length ∧ listed.getD i false = false := by
      apply Classical.byContradiction
      intro hno
      have : unl listed head.length = 0 := by
        unfold unl
        rw [List.countP_eq_zero]
        intro i hi
        cases hc : listed.getD i false with
        | true => simp
        | false => exact absurd ⟨i, List.mem_range.1 hi, hc⟩ hno
      omega
    have htail : ∀ t, head.length ≤ t → t ∉ Region.ready .any l.toArray listed := by
      obtain ⟨i, hi, hc⟩ := hex
      exact tail_waits hsink hchain (by simpa using hn) I.inv _ i rfl hi (by rw [getD_tf (by rw [I.inv.size]; simp; omega)]; exact hc)
    rw [show k + 1 + tail.length = (k + tail.length) + 1 by omega]
    refine ⟨fun h => ?_, fun i hi => ?_⟩
    · exfalso
      obtain ⟨i, hi, hc⟩ := hex
      have := head_listed hl hF (by rw [I.inv.size]; simp) (fun i _ => by rw [h]; simp) i hi
      rw [hc] at this
      cases this
    · have hih : i < head.length := by
        rcases Nat.lt_or_ge i head.length with h | h
        · exact h
        · exact absurd hi (htail i h)
      obtain ⟨o, hol, h1, h2⟩ := ready_mem.1 hi
      have ho : head[i]? = some o := by rw [← head_at hl hih]; exact hol
      have hil : i < listed.size := by rw [I.inv.size]; simp; omega
      rw [getD_tf hil] at h1
      have hm : o ∈ head := List.mem_of_getElem? ho
      obtain ⟨⟨t0, hd0⟩, hg⟩ := hF.each o hm
      have ho' : l.toArray[i]? = some o := by simp [hol]
      have hw : Region.wanted o (yielded l.toArray a.tmps) = true := by simp [Region.wanted, hg]
      unfold wpOp
      rw [ho']
      simp only [hw, if_true]
      refine .inl ?_
      have hst : o.wp P a w (fun a' w' => ∃ v, a' = a.put o.dst v ∧ (∀ t, o.dst = some t → R t v w') ∧ K w w' ∧ (¬ Don head tk (listed.setIfInBounds i true) → J none w') ∧ (Don head tk (listed.setIfInBounds i true) → J (some ((a.put o.dst v).eval (.tmp tk))) w')) Q := by
        have hs1 : ∀ t, t ∉ slotsOf head → a.eval (.tmp t) = a0.eval (.tmp t) := fun t ht => I.same t fun j o' hj _ hd => ht (mem_slots hj hd)
        have hs2 : ∀ t, t ∈ slotsOf head → Operand.tmp t ∈ o.op.operands → R t (a.eval (.tmp t)) w := fun t ht hop => by
          obtain ⟨e, he, hb, o', h3, h4⟩ := hF.reads i o ho t hop ht
          exact I.rel e.on o' t h3 (h2 e he hb) h4
        by_cases hd : o.dst = some tk
        · have hn : ¬ Don head tk listed := by
            rintro ⟨j, o', hj, hlj, hdj⟩
            have := slots_inj hF.nodup hj ho hdj hd
            subst this
            rw [h1] at hlj
            cases hlj
          refine Oper.wp_mono (fun a' w' h => ?_) ((step o hm).1 hd a w I.below (I.jf hn) hs1 hs2)
          obtain ⟨v, e1, e2, e3, e4⟩ := h
          refine ⟨v, e1, e2, e3, fun hn' => absurd ⟨i, o, ho, by rw [set_getD _ _ _ hil, if_pos rfl], hd⟩ hn', fun _ => ?_⟩
          rw [hd, put_same (by rw [I.tsize]; exact hs tk (mem_slots ho hd))]
          exact e4
        · have hiff : Don head tk (listed.setIfInBounds i true) ↔ Don head tk listed := by
            constructor
            · rintro ⟨j, o', hj, hlj, hdj⟩
              by_cases e : i = j
              · subst e
                rw [ho] at hj
                cases hj
                exact absurd hdj hd
              · rw [set_getD _ _ _ hil, if_neg e] at hlj
                exact ⟨j, o', hj, hlj, hdj⟩
            · rintro ⟨j, o', hj, hlj, hdj⟩
              exact ⟨j, o', hj, by rw [set_getD _ _ _ hil, hlj]; split <;> rfl, hdj⟩
          by_cases hdn : Don head tk listed
          · refine Oper.wp_mono (fun a' w' h => ?_) ((step o hm).2 hd _ a w I.below (I.jt hdn) hs1 hs2)
            obtain ⟨v, e1, e2, e3, e4⟩ := h
            refine ⟨v, e1, e2, e3, fun hn' => absurd (hiff.2 hdn) hn', fun _ => ?_⟩
            rw [hd0, put_other (fun e => hd (by rw [hd0, e]))]
            exact e4
          · refine Oper.wp_mono (fun a' w' h => ?_) ((step o hm).2 hd _ a w I.below (I.jf hdn) hs1 hs2)
            obtain ⟨v, e1, e2, e3, e4⟩ := h
            exact ⟨v, e1, e2, e3, fun _ => e4, fun hn' => absurd (hiff.1 hn') hdn⟩
      refine Oper.wp_mono (fun a' w' h => ?_) hst
      obtain ⟨v, rfl, hv, hbw, hjf, hjt⟩ := h
      have ht0 : t0 < a.tmps.size := by rw [I.tsize]; exact hs t0 (mem_slots ho hd0)
      refine ih _ _ _ ⟨I.inv.set hi hih, hK _ _ _ I.below hbw, hjf, hjt, by rw [put_size, I.tsize], by rw [hd0]; exact I.defers, fun t hn => ?_, fun j o' t hj hlj hd => ?_⟩ ?_
      · have hne : t ≠ t0 := by
          rintro rfl
          exact hn i o ho (by rw [set_getD _ _ _ hil, if_pos rfl]) hd0
        rw [hd0, put_other hne]
        exact I.same t fun j o' hj hlj => hn j o' hj (by rw [set_getD _ _ _ hil, hlj]; split <;> rfl)
      · by_cases hij : i = j
        · subst hij
          obtain rfl : o = o' := Option.some.inj (ho.symm.trans hj)
          obtain rfl : t0 = t := Option.some.inj (hd0.symm.trans hd)
          rw [hd0, put_same ht0]
          exact hv _ hd0
        · rw [set_getD _ _ _ hil, if_neg hij] at hlj
          have hne : t ≠ t0 := by
            rintro rfl
            exact hij (slots_inj hF.nodup ho hj hd0 hd)
          rw [hd0, put_other hne]
          exact hR _ _ _ _ (I.rel j o' t hj hlj hd) hbw
      · have := unl_set listed i hil h1 head.length hih
        omega
/-- The region: R as in wp_region_rel; n: how many operations stand ahead of the tail; tk: the slot of the operation that writes. -/
theorem wp_region_relJ {id : Nat} (n tk : Nat) (R : Nat → Value → World → Prop) (K : World → World → Prop) (J : Option Value → World → Prop) {l : List Oper} {a0 : Act} {w0 : World} (hm : P.follows .mixedOrders = true) (hB : relB (l.take n) = true) (hT : tailB l (l.take n).length = true) (hs : ((slotsOf (l.take n)).all fun t => decide (t < a0.tmps.size)) = true)
    (htk : (slotsOf (l.take n)).contains tk = true) (hK : ∀ a b c, K a b → K b c → K a c) (hK0 : K w0 w0.drew) (hJ0 : J none w0.drew) (hR : ∀ t v w w', R t v w → K w w' → R t v w')
    (step : ∀ o ∈ l.take n, (o.dst = some tk → StepJ P Q R K J (l.take n) a0 w0 o none some) ∧ (o.dst ≠ some tk → ∀ b, StepJ P Q R K J (l.take n) a0 w0 o b fun _ => b)) (fin : ∀ (f : Nat → Value) (w : World), K w0 w → J (some (f tk)) w → (∀ t ∈ slotsOf (l.take n), R t (f t) w) → wpList P l.toArray Q (l.drop n) (putAll a0 f (slotsOf (l.take n))) w) :
    (Code.region id l.toArray true).wp P Q a0 w0 := by
  refine wp_region_any hm ?_
  have hs' : ∀ t ∈ slotsOf (l.take n), t < a0.tmps.size := fun t ht => by
    have := List.all_eq_true.1 hs t ht
    simpa using this
  have hl : l = l.take n ++ l.drop n := (List.take_append_drop n l).symm
  have hsz : l.toArray.size = (l.take n).length + (l.drop n).length := by
    simp
    omega
  have hz : ∀ i, (Array.replicate l.toArray.size false).getD i false = false := fun i => getD_replicate_false _ _
  have hu : unl (Array.replicate l.toArray.size false) (l.take n).length = (l.take n).length := by
    unfold unl
    rw [List.countP_eq_length.2 fun i _ => by rw [hz]; rfl]
    simp
  have hnd : ¬ Don (l.take n) tk (Array.replicate l.toArray.size false) := by
    rintro ⟨i, o, _, h, _⟩
    rw [hz] at h
    cases h
  have key := wpAny_relJ (P := P) (Q := Q) (tk := tk) hK hR hl (relF hB) hT hs' (List.contains_iff_mem.1 htk) step fin _ (Array.replicate l.toArray.size false) a0 w0.drew ⟨⟨by simp, fun j oj _ h => by rw [hz] at h; (cases h), fun t ht ht' => by rw [getD_tf (by simpa using ht')]; exact hz t⟩, hK0, fun _ => hJ0, fun h => absurd h hnd, rfl, rfl, fun _ _ => rfl, fun i o t ho h => by rw [hz] at h; (cases h)⟩ hu
  rw [← hsz] at key
  exact key
end
end Go.Proofs.Ytonmojinijpneaa
end
section
/- Words beside wp_region_relJ: an operation that does not write, rows that are owned, what stays as it was. No program's text. (Of the texts of the group layer.) -/
namespace Go.Proofs.Ytonmojinijpneaa
open Go Go.RowKit
set_option linter.unusedVariables false
set_option linter.unusedSimpArgs false
theorem own_form {w : World} {B size n : Nat} {e : TypeId} {v : Value} {xs : List Value} (h : w.ownsRow B e size v n xs) : ∃ a c, v = .slice a n c := by
  rcases h.2 with ⟨rfl, h0⟩ | ⟨g, cap, cur, rfl, _⟩
  · exact ⟨none, 0, by rw [h0]⟩
  · exact ⟨_, _, rfl⟩
theorem own_belowR {w w' : World} {B size n : Nat} {e : TypeId} {v : Value} {xs : List Value} (h : w.ownsRow B e size v n xs) (hb : Below w.heap.size w w') : w'.ownsRow B e size v n xs := by
  refine ⟨h.1, h.2.imp id ?_⟩
  rintro ⟨g, cap, cur, rfl, hge, hh, r⟩
  exact ⟨g, cap, cur, rfl, hge, (hb.block g (Array.getElem?_eq_some_iff.1 hh).1).trans hh, r⟩
theorem own_setCell {w : World} {B size n : Nat} {e : TypeId} {v : Value} {xs : List Value} (h : w.ownsRow B e size v n xs) {p : Addr} (hp : v.ownBlock ≠ some p.block) (u : Value) : (w.setCell p u).ownsRow B e size v n xs := by
  refine ⟨h.1, h.2.imp id ?_⟩
  rintro ⟨g, cap, cur, rfl, hge, hh, r⟩
  have hne : g ≠ p.block := fun e => hp (by rw [← e]; rfl)
  exact ⟨g, cap, cur, rfl, hge, (Below.heap_setCell w p u g hne).trans hh, r⟩
/-- All blocks but those of some types are as they were. -/
def KeepsBut (tys : List TypeId) (w w' : World) : Prop := w.heap.size ≤ w'.heap.size ∧ ∀ (j : Nat) (c : Array Value) (ty : TypeId) (fz : Nat × Nat), w.heap[j]? = some (.cells c ty fz) → ¬ ty ∈ tys → w'.heap[j]? = w.heap[j]?
/-- All blocks that were there, but those of some numbers, are as they were. -/
def Only (S : List Nat) (w w' : World) : Prop := w.heap.size ≤ w'.heap.size ∧ ∀ j, j < w.heap.size → ¬ j ∈ S → w'.heap[j]? = w.heap[j]?
theorem KeepsBut.of_below {tys : List TypeId} {w w' : World} (h : Below w.heap.size w w') : KeepsBut tys w w' := ⟨h.size, fun j c ty fz hj _ => h.block j (Array.getElem?_eq_some_iff.1 hj).1⟩
theorem KeepsBut.trans {tys : List TypeId} {a b c : World} (h : KeepsBut tys a b) (k : KeepsBut tys b c) : KeepsBut tys a c :=
  ⟨Nat.le_trans h.1 k.1, fun j cs ty fz hj hty => (k.2 j cs ty fz ((h.2 j cs ty fz hj hty).trans hj) hty).trans (h.2 j cs ty fz hj hty)⟩
theorem KeepsBut.own {tys : List TypeId} {w w' : World} {B size n : Nat} {e : TypeId} {v : Value} {xs : List Value} (k : KeepsBut tys w w') (h : w.ownsRow B e size v n xs) (he : ¬ e ∈ tys) : w'.ownsRow B e size v n xs := by
  refine ⟨h.1, h.2.imp id ?_⟩
  rintro ⟨g, cap, cur, rfl, hge, hh, r⟩
  exact ⟨g, cap, cur, rfl, hge, (k.2 g _ _ _ hh he).trans hh, r⟩
section
variable {P : Program} {Q : Exit → Act → World → Prop} {R : Nat → Value → World → Prop} {K : World → World → Prop} {J : Option Value → World → Prop}
/-- What is owed of an operation that does not write. -/
theorem stepJ_of {l : List Oper} {a0 : Act} {w0 : World} {o : Oper} {b : Option Value} (hKB : ∀ w w', Below w.heap.size w w' → K w w') (hJB : ∀ b w w', J b w → Below w.heap.size w w' → J b w')
    (h : ∀ (a : Act) (w : World), K w0 w → J b w → (∀ t, t ∉ slotsOf l → a.eval (.tmp t) = a0.eval (.tmp t)) → (∀ t, t ∈ slotsOf l → Operand.tmp t ∈ o.op.operands → R t (a.eval (.tmp t)) w) →
      o.wp P a w (fun a' w' => ∃ v, a' = a.put o.dst v ∧ (∀ t, o.dst = some t → R t v w') ∧ Below w.heap.size w w') Q) : StepJ P Q R K J l a0 w0 o b fun _ => b :=
  fun a w hk hj hsm hr => Oper.wp_mono (fun _ _ ⟨v, e1, e2, e3⟩ => ⟨v, e1, e2, hKB _ _ e3, hJB _ _ _ hj e3⟩) (h a w hk hj hsm hr)
end
theorem grown_of_below {w w' : World} {r : Option Nat} (h : Below w.heap.size w w') : w.grownBy w' r := ⟨h.os, h.tape, h.output, h.size, fun k hk _ => h.block k hk⟩
theorem gtrans {a b c : World} {r : Option Nat} (h : a.grownBy b r) (k : b.grownBy c r) : a.grownBy c r :=
  ⟨k.os.trans h.os, k.tape.trans h.tape, k.output.trans h.output, Nat.le_trans h.size k.size, fun i hi hr => (k.block i (Nat.lt_of_lt_of_le hi h.size) hr).trans (h.block i hi hr)⟩
theorem Only.of_below {S : List Nat} {w w' : World} (h : Below w.heap.size w w') : Only S w w' := ⟨h.size, fun j hj _ => h.block j hj⟩
theorem Only.of_grown {S : List Nat} {w w' : World} {g : Nat} (h : w.grownBy w' (some g)) (hg : g ∈ S) : Only S w w' := ⟨h.size, fun j hj hn => h.block j hj fun e => hn (by injection e with e; rw [e]; exact hg)⟩
theorem Only.set_ {S : List Nat} (w : World) {p : Addr} (u : Value) (hp : p.block ∈ S) : Only S w (w.setCell p u) := ⟨by simp [World.setCell], fun j _ hn => Below.heap_setCell w p u j fun e => hn (e ▸ hp)⟩
theorem Only.trans {S : List Nat} {a b c : World} (h : Only S a b) (k : Only S b c) : Only S a c := ⟨Nat.le_trans h.1 k.1, fun j hj hn => (k.2 j (Nat.lt_of_lt_of_le hj h.1) hn).trans (h.2 j hj hn)⟩
/-- Where the blocks that were written are of some types. -/
theorem Only.keeps {S : List Nat} {tys : List TypeId} {w w' : World} (h : Only S w w') (ht : ∀ j c ty fz, j ∈ S → w.heap[j]? = some (.cells c ty fz) → ty ∈ tys) : KeepsBut tys w w' :=
  ⟨h.1, fun j c ty fz hj hn => h.2 j (Array.getElem?_eq_some_iff.1 hj).1 fun hm => hn (ht j c ty fz hm hj)⟩
theorem own_type {w : World} {B size n c g : Nat} {e : TypeId} {xs : List Value} (h : w.ownsRow B e size (.slice (some ⟨g, 0, none⟩) n c) n xs) : ∃ cs, Blk w g e cs := by
  rcases h.2 with ⟨h1, _⟩ | ⟨g', cap, cur, hv, _, hh, _⟩
  · cases h1
  · injection hv with h1
    injection h1 with h1
    injection h1 with h1
    subst h1
    exact ⟨_, hh⟩
theorem blk_type {w : World} {g : Nat} {e ty : TypeId} {cs c : Array Value} {fz : Nat × Nat} (h : Blk w g e cs) (hc : w.heap[g]? = some (.cells c ty fz)) : ty = e := by
  unfold Blk at h
  rw [h] at hc
  injection hc with hc
  injection hc with _ hc
  exact hc.symm
end Go.Proofs.Ytonmojinijpneaa
end
section
/- Rows that are owned, blocks that are kept, boxes, in plain words (of the texts of the path and group layers). No program's text. -/
namespace Go.Proofs.Ytonmojinijpneaa
open Go Go.RowKit
set_option linter.unusedVariables false
set_option linter.unusedSimpArgs false
theorem own_block {w : World} {B size n : Nat} {e : TypeId} {v : Value} {xs : List Value} (h : w.ownsRow B e size v n xs) {g : Nat} (hg : v.ownBlock = some g) : B ≤ g ∧ g < w.heap.size ∧ ∃ cs, Blk w g e cs := by
  rcases h.2 with ⟨rfl, _⟩ | ⟨g', cap, cur, rfl, hge, hh, _⟩
  · simp [Value.ownBlock] at hg
  · obtain rfl : g' = g := by simpa [Value.ownBlock] using hg
    exact ⟨hge, (Array.getElem?_eq_some_iff.1 hh).1, cur, hh⟩
theorem own_set {w : World} {B g c size n k : Nat} {e : TypeId} {xs : List Value} (h : w.ownsRow B e size (.slice (some ⟨g, 0, none⟩) n c) n xs) (u : Value) : (w.setCell ⟨g, k, none⟩ u).ownsRow B e size (.slice (some ⟨g, 0, none⟩) n c) n (xs.set k u) := by
  refine ⟨by rw [List.length_set]; exact h.1, ?_⟩
  rcases h.2 with ⟨h1, _⟩ | ⟨g', cap, cur, hv, hge, hh, hnc, hm, hcs, htk⟩
  · cases h1
  · injection hv with h1 h2 h3
    injection h1 with h1
    injection h1 with h1
    subst h1
    subst h3
    have hb := (show Blk w g _ cur from hh).set_ k u
    exact .inr ⟨g, c, cur.setIfInBounds k u, rfl, hge, hb, hnc, hm, by rw [Array.size_setIfInBounds]; exact hcs, by rw [Array.toList_setIfInBounds, List.take_set, htk]⟩
/-- A row that is cut at its end. -/
theorem own_shrink {w : World} {B g c size n m : Nat} {e : TypeId} {xs : List Value} (h : w.ownsRow B e size (.slice (some ⟨g, 0, none⟩) n c) n xs) (hm : m ≤ n) : w.ownsRow B e size (.slice (some ⟨g, 0, none⟩) m c) m (xs.take (m * size)) := by
  have hms : m * size ≤ n * size := Nat.mul_le_mul_right _ hm
  refine ⟨by rw [List.length_take, h.1]; omega, ?_⟩
  rcases h.2 with ⟨h1, _⟩ | ⟨g', cap, cur, hv, hge, hh, hnc, hmx, hcs, htk⟩
  · cases h1
  · injection hv with h1 h2 h3
    injection h1 with h1
    injection h1 with h1
    subst h1
    subst h3
    exact .inr ⟨g, c, cur, rfl, hge, hh, by omega, hmx, hcs, by rw [← htk, List.take_take, Nat.min_eq_left hms]⟩
/-- A row's cells, where it has an element. -/
theorem own_cell {w : World} {B size n : Nat} {e : TypeId} {A : Option Addr} {c m : Nat} {xs : List Value} (h : w.ownsRow B e size (.slice A m c) n xs) (hn : 0 < n) : ∃ g, A = some ⟨g, 0, none⟩ ∧ B ≤ g ∧ m = n ∧ (∃ cs, Blk w g e cs) ∧ (∀ k, w.frozen? ⟨g, k, none⟩ = false) ∧ n ≤ c ∧ ∀ k u, xs[k]? = some u → w.cell? ⟨g, k, none⟩ = some u := by
  rcases h.2 with ⟨_, h0⟩ | ⟨g, cap, cur, hv, hge, hh, hnc, _, hcs, htk⟩
  · omega
  · injection hv with h1 h2 h3
    subst h1
    subst h2
    subst h3
    have hB : Blk w g e cur := hh
    refine ⟨g, rfl, hge, rfl, ⟨cur, hB⟩, hB.frozen, hnc, fun k u hu => ?_⟩
    rw [← htk, List.getElem?_take] at hu
    split at hu
    · rw [hB.cell]
      simpa using hu
    · cases hu
theorem grown_keeps {w w' : World} {B size n : Nat} {e : TypeId} {v : Value} {xs : List Value} (h : w.ownsRow B e size v n xs) (hg : w.grownBy w' v.ownBlock) : KeepsBut [e] w w' := by
  refine ⟨hg.size, fun j cs ty fz hj hty => hg.block j (Array.getElem?_eq_some_iff.1 hj).1 fun e' => hty ?_⟩
  obtain ⟨_, _, cs', hcs'⟩ := own_block h e'.symm
  rw [blk_type hcs' hj]
  exact List.mem_cons_self
theorem keeps_set {w : World} {p : Addr} {ty : TypeId} {cs : Array Value} (h : Blk w p.block ty cs) (v : Value) : KeepsBut [ty] w (w.setCell p v) := by
  refine ⟨by simp [World.setCell], fun j cs' ty' fz hj hty => Below.heap_setCell w p v j fun e' => hty ?_⟩
  have e' : j = p.block := e'
  subst e'
  rw [blk_type h hj]
  exact List.mem_cons_self
section
variable {w w' : World} {B C : Nat}
theorem own_more {size n : Nat} {e : TypeId} {v : Value} {xs : List Value} (h : w.ownsRow B e size v n xs) (hC : C ≤ B) : w.ownsRow C e size v n xs := by
  refine ⟨h.1, h.2.imp id ?_⟩
  rintro ⟨g, cap, cur, rfl, hge, r⟩
  exact ⟨g, cap, cur, rfl, Nat.le_trans hC hge, r⟩
theorem KeepsBut.blk {tys : List TypeId} {g : Nat} {t : TypeId} {cs : Array Value} (k : KeepsBut tys w w') (h : Blk w g t cs) (ht : ¬ t ∈ tys) : Blk w' g t cs := (k.2 g _ _ (0, 0) h ht).trans h
end
theorem own_cap {w : World} {B c size n m : Nat} {A : Option Addr} {e : TypeId} {xs : List Value} (h : w.ownsRow B e size (.slice A m c) n xs) : n ≤ c := by
  rcases h.2 with ⟨h1, h2⟩ | ⟨g', cap, cur, hv, _, _, hnc, _⟩
  · omega
  · injection hv with _ _ h3
    omega
theorem own_cut {w : World} {B c size n m : Nat} {A : Option Addr} {e : TypeId} {xs : List Value} (h : w.ownsRow B e size (.slice A n c) n xs) (hm : m ≤ n) : w.ownsRow B e size (.slice A m c) m (xs.take (m * size)) := by
  rcases h.2 with ⟨h1, h2⟩ | ⟨g', cap, cur, hv, _⟩
  · injection h1 with h3 _ h4
    subst h3
    subst h4
    subst h2
    have : m = 0 := by omega
    subst this
    exact ⟨by simp, .inl ⟨rfl, rfl⟩⟩
  · injection hv with h1
    subst h1
    exact own_shrink h hm
theorem add_lit (g n : Nat) : (⟨g, 0, none⟩ : Addr).add n = ⟨g, n, none⟩ := by unfold Addr.add; split <;> simp_all
theorem info_parts {P : Program} {t : TypeId} {z : Value} {size bytes : Nat} (h : (P.info? t).map (fun i => (i.zero, i.size, i.bytes)) = some (some z, size, bytes)) : ∃ i, P.info? t = some i ∧ i.zero = some z ∧ i.size = size ∧ i.bytes = bytes := by
  cases hi : P.info? t with
  | none => rw [hi] at h; cases h
  | some i =>
    rw [hi] at h
    simp only [Option.map_some, Option.some.injEq, Prod.mk.injEq] at h
    exact ⟨i, rfl, h.1, h.2.1, h.2.2⟩
theorem box4 (w : World) (t : TypeId) (d0 d1 d2 d3 c0 c1 c2 c3 : Value) :
    Blk (((((w.alloc (.cells #[d0, d1, d2, d3] t)).setCell ⟨w.heap.size, 0, none⟩ c0).setCell ⟨w.heap.size, 1, none⟩ c1).setCell ⟨w.heap.size, 2, none⟩ c2).setCell ⟨w.heap.size, 3, none⟩ c3) w.heap.size t #[c0, c1, c2, c3] ∧
    Below w.heap.size w (((((w.alloc (.cells #[d0, d1, d2, d3] t)).setCell ⟨w.heap.size, 0, none⟩ c0).setCell ⟨w.heap.size, 1, none⟩ c1).setCell ⟨w.heap.size, 2, none⟩ c2).setCell ⟨w.heap.size, 3, none⟩ c3) :=
  ⟨((((Blk.new w t #[d0, d1, d2, d3]).set_ 0 c0).set_ 1 c1).set_ 2 c2).set_ 3 c3,
   (((((Below.refl _ w).alloc (Nat.le_refl _) _).setCell (p := ⟨w.heap.size, 0, none⟩) (Nat.le_refl _) _).setCell (p := ⟨w.heap.size, 1, none⟩) (Nat.le_refl _) _).setCell (p := ⟨w.heap.size, 2, none⟩) (Nat.le_refl _) _).setCell (p := ⟨w.heap.size, 3, none⟩) (Nat.le_refl _) _⟩
theorem box2 (w : World) (t : TypeId) (d0 d1 c0 c1 : Value) :
    Blk (((w.alloc (.cells #[d0, d1] t)).setCell ⟨w.heap.size, 0, none⟩ c0).setCell ⟨w.heap.size, 1, none⟩ c1) w.heap.size t #[c0, c1] ∧
    Below w.heap.size w (((w.alloc (.cells #[d0, d1] t)).setCell ⟨w.heap.size, 0, none⟩ c0).setCell ⟨w.heap.size, 1, none⟩ c1) :=
  ⟨((Blk.new w t #[d0, d1]).set_ 0 c0).set_ 1 c1,
   (((Below.refl _ w).alloc (Nat.le_refl _) _).setCell (p := ⟨w.heap.size, 0, none⟩) (Nat.le_refl _) _).setCell (p := ⟨w.heap.size, 1, none⟩) (Nat.le_refl _) _⟩
theorem KeepsBut.wide {t1 t2 : List TypeId} {w w' : World} (h : KeepsBut t1 w w') (hs : ∀ t ∈ t1, t ∈ t2) : KeepsBut t2 w w' := ⟨h.1, fun j c ty fz hj hn => h.2 j c ty fz hj fun hm => hn (hs ty hm)⟩
end Go.Proofs.Ytonmojinijpneaa
end
section
/- As wp_region_relS, but an operation may have no slot (a store): what is done is told by the operations' places in the region; and a step is told that what it waits for is done. -/
namespace Go.Proofs.Ytonmojinijpneaa
open Go Go.RowKit
set_option linter.unusedVariables false
set_option linter.unusedSimpArgs false
section
variable {P : Program} {Q : Exit → Act → World → Prop}
/-- Closed facts of a region: no guard; no two operations have one slot; what an operation waits for stands ahead of it in the text; the slots that it reads are those of what it waits for, or are no operation's. -/
def relXB (l : List Oper) : Bool :=
  (slotsOf l).Nodup && (l.all fun o => o.guard.isNone) &&
  ((List.range l.length).all fun i => (l[i]?.map fun o => (o.after.toList.all fun e => !Region.binds .any e || decide (e.on < i)) &&
    (o.op.operands.toList.all fun x => match x with
      | .tmp t => !(slotsOf l).contains t || o.after.toList.any fun e => Region.binds .any e && ((l[e.on]?).bind (·.dst) == some t)
      | _ => true)).getD true)
structure RelXF (l : List Oper) : Prop where
  nodup : (slotsOf l).Nodup
  each : ∀ o ∈ l, o.guard = none
  back : ∀ (i : Nat) (o : Oper), l[i]? = some o → ∀ e ∈ o.after, Region.binds .any e = true → e.on < i
  reads : ∀ (i : Nat) (o : Oper), l[i]? = some o → ∀ t, Operand.tmp t ∈ o.op.operands → t ∈ slotsOf l → ∃ e ∈ o.after, Region.binds .any e = true ∧ ∃ o', l[e.on]? = some o' ∧ o'.dst = some t
theorem relXF {l : List Oper} (h : relXB l = true) : RelXF l := by
  unfold relXB at h
  simp only [Bool.and_eq_true, decide_eq_true_eq, List.all_eq_true, Option.isNone_iff_eq_none] at h
  obtain ⟨⟨h1, h2⟩, h3⟩ := h
  have get : ∀ (i : Nat) (o : Oper), l[i]? = some o → (∀ e ∈ o.after, Region.binds .any e = true → e.on < i) ∧ ∀ t, Operand.tmp t ∈ o.op.operands → t ∈ slotsOf l → ∃ e ∈ o.after, Region.binds .any e = true ∧ ∃ o', l[e.on]? = some o' ∧ o'.dst = some t := by
    intro i o ho
    have hl : i < l.length := (List.getElem?_eq_some_iff.1 ho).1
    have h4 := h3 i (List.mem_range.2 hl)
    rw [ho] at h4
    rw [Option.map_some, Option.getD_some, Bool.and_eq_true, List.all_eq_true, List.all_eq_true] at h4
    refine ⟨fun e he hb => ?_, fun t ht hs => ?_⟩
    · have h5 := h4.1 e (Array.mem_toList_iff.2 he)
      rw [hb] at h5
      simpa using h5
    · have h5 := h4.2 _ (Array.mem_toList_iff.2 ht)
      simp only [Bool.or_eq_true, Bool.not_eq_true', List.any_eq_true, Bool.and_eq_true, beq_iff_eq] at h5
      rcases h5 with h5 | ⟨e, he, hb, h6⟩
      · rw [List.contains_iff_mem.2 hs] at h5; cases h5
      · obtain ⟨o', h7, h8⟩ := Option.bind_eq_some_iff.1 h6
        exact ⟨e, Array.mem_toList_iff.1 he, hb, o', h7, h8⟩
  exact ⟨h1, h2, fun i o ho => (get i o ho).1, fun i o ho => (get i o ho).2⟩
theorem all_listedX {l : List Oper} (hF : RelXF l) {listed : Array Bool} (hs : listed.size = l.length) (h : Region.ready .any l.toArray listed = []) : ∀ i, i < l.length → listed.getD i false = true := by
  intro i
  induction i using Nat.strongRecOn with
  | _ i ih =>
    intro hi
    cases hc : listed.getD i false with
    | true => rfl
    | false =>
      exfalso
      have : i ∈ Region.ready .any l.toArray listed := ready_mem.2 ⟨l[i], List.getElem?_eq_getElem hi, by rw [getD_tf (by omega)]; exact hc, fun e he hb => by
        have := hF.back i _ (List.getElem?_eq_getElem hi) e he hb
        exact ih e.on this (by omega)⟩
      rw [h] at this
      cases this
/-- What is owed of the operation at a place. -/
def StepX (P : Program) (Q : Exit → Act → World → Prop) (R : Nat → Value → World → Prop) (K : World → World → Prop) (J : (Nat → Prop) → World → Prop) (l : List Oper) (a0 : Act) (i : Nat) (o : Oper) : Prop :=
  ∀ (D : Nat → Prop) (a : Act) (w : World), ¬ D i → (∀ e ∈ o.after, Region.binds .any e = true → D e.on) → J D w → (∀ t, t ∉ slotsOf l → a.eval (.tmp t) = a0.eval (.tmp t)) → (∀ t, t ∈ slotsOf l → Operand.tmp t ∈ o.op.operands → R t (a.eval (.tmp t)) w) →
    o.wp P a w (fun a' w' => ∃ v, a' = a.put o.dst v ∧ (∀ t, o.dst = some t → R t v w') ∧ K w w' ∧ J (fun j => D j ∨ j = i) w') Q
structure InvX (R : Nat → Value → World → Prop) (J : (Nat → Prop) → World → Prop) (l : List Oper) (a0 : Act) (listed : Array Bool) (a : Act) (w : World) : Prop where
  size : listed.size = l.length
  st : J (fun i => listed.getD i false = true) w
  tsize : a.tmps.size = a0.tmps.size
  defers : a.defers = a0.defers
  same : ∀ t, (∀ i o, l[i]? = some o → listed.getD i false = true → o.dst ≠ some t) → a.eval (.tmp t) = a0.eval (.tmp t)
  rel : ∀ i o t, l[i]? = some o → listed.getD i false = true → o.dst = some t → R t (a.eval (.tmp t)) w
theorem put_none {a : Act} {v : Value} : a.put none v = a := by simp [Act.put]
theorem wpAny_relX {R : Nat → Value → World → Prop} {K : World → World → Prop} {J : (Nat → Prop) → World → Prop} (hR : ∀ t v w w', R t v w → K w w' → R t v w') {l : List Oper} {a0 : Act} (hF : RelXF l) (hs : ∀ t ∈ slotsOf l, t < a0.tmps.size)
    (step : ∀ i o, l[i]? = some o → StepX P Q R K J l a0 i o) (fin : ∀ (f : Nat → Value) (w : World), J (fun i => i < l.length) w → (∀ t ∈ slotsOf l, R t (f t) w) → Q .normal (putAll a0 f (slotsOf l)) w) :
    ∀ (fuel : Nat) (listed : Array Bool) (a : Act) (w : World), InvX R J l a0 listed a w → unl listed l.length ≤ fuel → wpAny P .any l.toArray Q fuel listed a w := by
  have finish : ∀ (listed : Array Bool) (a : Act) (w : World), InvX R J l a0 listed a w → (∀ i, i < l.length → listed.getD i false = true) → Q .normal a w := by
    intro listed a w I hall
    have h1 : ∀ t ∈ slotsOf l, R t (a.eval (.tmp t)) w := by
      intro t ht
      obtain ⟨o, ho, hd⟩ := List.mem_filterMap.1 ht
      obtain ⟨i, hi⟩ := List.getElem?_of_mem ho
      exact I.rel i o t hi (hall i (List.getElem?_eq_some_iff.1 hi).1) hd
    have hD : (fun i => listed.getD i false = true) = fun i => i < l.length := by
      funext i
      refine propext ⟨fun h => ?_, hall i⟩
      rcases Nat.lt_or_ge i l.length with h2 | h2
      · exact h2
      · rw [Array.getD_eq_getD_getElem?, Array.getElem?_eq_none (by rw [I.size]; exact h2)] at h
        cases h
    have h2 := fin (fun t => a.eval (.tmp t)) w (hD ▸ I.st) h1
    have e : putAll a0 (fun t => a.eval (.tmp t)) (slotsOf l) = a := by
      refine act_ext (by rw [putAll_size, I.tsize]) (by rw [putAll_defers, I.defers]) fun t => ?_
      by_cases ht : t ∈ slotsOf l
      · exact putAll_same _ _ _ _ ht (hs t ht)
      · rw [putAll_other _ _ _ _ ht]
        exact (I.same t fun i o ho _ hd => ht (mem_slots ho hd)).symm
    rwa [e] at h2
  intro fuel
  induction fuel with
  | zero =>
    intro listed a w I hu
    have hall := fun i hi => unl_zero (by omega : unl listed l.length = 0) i hi
    refine ⟨?_, finish listed a w I hall⟩
    rw [List.eq_nil_iff_forall_not_mem]
    intro i hi
    obtain ⟨o, ho, h1, _⟩ := ready_mem.1 hi
    have hl : i < l.length := (List.getElem?_eq_some_iff.1 ho).1
    rw [getD_tf (by rw [I.size]; exact hl), hall i hl] at h1
    cases h1
  | succ fuel ih =>
    intro listed a w I hu
    refine ⟨fun h => finish listed a w I (all_listedX hF I.size h), fun i hi => ?_⟩
    obtain ⟨o, ho, h1, h2⟩ := ready_mem.1 hi
    have hl : i < l.length := (List.getElem?_eq_some_iff.1 ho).1
    have hil : i < listed.size := by rw [I.size]; exact hl
    rw [getD_tf hil] at h1
    have hm : o ∈ l := List.mem_of_getElem? ho
    have hg := hF.each o hm
    have ho' : l.toArray[i]? = some o := by simp [ho]
    have hw : Region.wanted o (yielded l.toArray a.tmps) = true := by simp [Region.wanted, hg]
    unfold wpOp
    rw [ho']
    simp only [hw, if_true]
    refine .inl ?_
    have hst := step i o ho (fun j => listed.getD j false = true) a w (by rw [h1]; decide) h2 I.st (fun t ht => I.same t fun j o' hj _ hd => ht (mem_slots hj hd)) (fun t ht hop => by
      obtain ⟨e, he, hb, o', h3, h4⟩ := hF.reads i o ho t hop ht
      exact I.rel e.on o' t h3 (h2 e he hb) h4)
    refine Oper.wp_mono (fun a' w' h => ?_) hst
    obtain ⟨v, rfl, hv, hbw, hjd⟩ := h
    have hD2 : (fun j => listed.getD j false = true ∨ j = i) = fun j => (listed.setIfInBounds i true).getD j false = true := by
      funext j
      rw [set_getD _ _ _ hil]
      refine propext ⟨fun h => ?_, fun h => ?_⟩
      · rcases h with h | rfl
        · rw [h]; split <;> rfl
        · rw [if_pos rfl]
      · by_cases e : i = j
        · exact .inr e.symm
        · rw [if_neg e] at h; exact .inl h
    rw [hD2] at hjd
    refine ih _ _ _ ⟨by simp [I.size], hjd, by rw [put_size, I.tsize], ?_, fun t hn => ?_, fun j o' t hj hlj hd => ?_⟩ ?_
    · cases o.dst with
      | none => rw [put_none]; exact I.defers
      | some t0 => exact I.defers
    · have hold := I.same t fun j o' hj hlj => hn j o' hj (by rw [set_getD _ _ _ hil, hlj]; split <;> rfl)
      cases hd0 : o.dst with
      | none => rw [put_none]; exact hold
      | some t0 =>
        have hne : t ≠ t0 := by
          rintro rfl
          exact hn i o ho (by rw [set_getD _ _ _ hil, if_pos rfl]) hd0
        rw [put_other hne]
        exact hold
    · by_cases hij : i = j
      · subst hij
        obtain rfl : o = o' := Option.some.inj (ho.symm.trans hj)
        have ht0 : t < a.tmps.size := by rw [I.tsize]; exact hs t (mem_slots ho hd)
        rw [hd, put_same ht0]
        exact hv _ hd
      · rw [set_getD _ _ _ hil, if_neg hij] at hlj
        have hold := hR _ _ _ _ (I.rel j o' t hj hlj hd) hbw
        cases hd0 : o.dst with
        | none => rw [put_none]; exact hold
        | some t0 =>
          have hne : t ≠ t0 := by
            rintro rfl
            exact hij (slots_inj hF.nodup ho hj hd0 hd)
          rw [put_other hne]
          exact hold
    · have := unl_set listed i hil h1 l.length hl
      omega
/-- The region: J knows which operations, by their places, are done. -/
theorem wp_region_relX {id : Nat} (R : Nat → Value → World → Prop) (K : World → World → Prop) (J : (Nat → Prop) → World → Prop) {l : List Oper} {a0 : Act} {w0 : World} (hm : P.follows .mixedOrders = true) (hB : relXB l = true) (hs : ((slotsOf l).all fun t => decide (t < a0.tmps.size)) = true)
    (hR : ∀ t v w w', R t v w → K w w' → R t v w') (hJ0 : J (fun _ => False) w0.drew)
    (step : ∀ i o, l[i]? = some o → StepX P Q R K J l a0 i o) (fin : ∀ (f : Nat → Value) (w : World), J (fun i => i < l.length) w → (∀ t ∈ slotsOf l, R t (f t) w) → Q .normal (putAll a0 f (slotsOf l)) w) :
    (Code.region id l.toArray true).wp P Q a0 w0 := by
  refine wp_region_any hm ?_
  have hs' : ∀ t ∈ slotsOf l, t < a0.tmps.size := fun t ht => by
    have := List.all_eq_true.1 hs t ht
    simpa using this
  have no : ∀ i, (Array.replicate l.toArray.size false).getD i false ≠ true := fun i hl => by
    rw [Array.getD_eq_getD_getElem?, Array.getElem?_replicate] at hl
    split at hl <;> simp at hl
  have hD0 : (fun i => (Array.replicate l.toArray.size false).getD i false = true) = fun _ => False := by
    funext i
    exact propext ⟨fun h => no i h, fun h => h.elim⟩
  refine wpAny_relX hR (relXF hB) hs' step fin _ _ _ _ ⟨by simp, by rw [hD0]; exact hJ0, rfl, rfl, fun _ _ => rfl, fun i o t ho hl => absurd hl (no i)⟩ ?_
  exact Nat.le_trans List.countP_le_length (by simp)
end
end Go.Proofs.Ytonmojinijpneaa
end
section
/- As wp_region_relX, but the state of the world knows the values, too, that the operations that are done left in their slots. -/
namespace Go.Proofs.Ytonmojinijpneaa
open Go Go.RowKit
set_option linter.unusedVariables false
set_option linter.unusedSimpArgs false
section
variable {P : Program} {Q : Exit → Act → World → Prop}
/-- The values of what is done, by places. -/
def valsOf (l : List Oper) (listed : Array Bool) (a : Act) (i : Nat) : Option Value := if listed.getD i false then some (match (l[i]?).bind (·.dst) with | some t => a.eval (.tmp t) | none => undef) else none
def setV (V : Nat → Option Value) (i : Nat) (v : Value) : Nat → Option Value := fun j => if j = i then some v else V j
/-- What is owed of the operation at a place. -/
def StepV (P : Program) (Q : Exit → Act → World → Prop) (R : Nat → Value → World → Prop) (K : World → World → Prop) (J : (Nat → Option Value) → World → Prop) (l : List Oper) (a0 : Act) (i : Nat) (o : Oper) : Prop :=
  ∀ (V : Nat → Option Value) (a : Act) (w : World), V i = none → (∀ e ∈ o.after, Region.binds .any e = true → (V e.on).isSome = true) → (∀ j o' t, l[j]? = some o' → o'.dst = some t → (V j).isSome = true → V j = some (a.eval (.tmp t))) → J V w → (∀ t, t ∉ slotsOf l → a.eval (.tmp t) = a0.eval (.tmp t)) → (∀ t, t ∈ slotsOf l → Operand.tmp t ∈ o.op.operands → R t (a.eval (.tmp t)) w) →
    o.wp P a w (fun a' w' => ∃ v, a' = a.put o.dst v ∧ (∀ t, o.dst = some t → R t v w') ∧ K w w' ∧ J (setV V i (if o.dst.isSome then v else undef)) w') Q
structure InvV (R : Nat → Value → World → Prop) (J : (Nat → Option Value) → World → Prop) (l : List Oper) (a0 : Act) (listed : Array Bool) (a : Act) (w : World) : Prop where
  size : listed.size = l.length
  st : J (valsOf l listed a) w
  tsize : a.tmps.size = a0.tmps.size
  defers : a.defers = a0.defers
  same : ∀ t, (∀ i o, l[i]? = some o → listed.getD i false = true → o.dst ≠ some t) → a.eval (.tmp t) = a0.eval (.tmp t)
  rel : ∀ i o t, l[i]? = some o → listed.getD i false = true → o.dst = some t → R t (a.eval (.tmp t)) w
theorem wpAny_relV {R : Nat → Value → World → Prop} {K : World → World → Prop} {J : (Nat → Option Value) → World → Prop} (hR : ∀ t v w w', R t v w → K w w' → R t v w') {l : List Oper} {a0 : Act} (hF : RelXF l) (hs : ∀ t ∈ slotsOf l, t < a0.tmps.size)
    (step : ∀ i o, l[i]? = some o → StepV P Q R K J l a0 i o) (fin : ∀ (f : Nat → Value) (V : Nat → Option Value) (w : World), (∀ i o, l[i]? = some o → V i = some (match o.dst with | some t => f t | none => undef)) → J V w → (∀ t ∈ slotsOf l, R t (f t) w) → Q .normal (putAll a0 f (slotsOf l)) w) :
    ∀ (fuel : Nat) (listed : Array Bool) (a : Act) (w : World), InvV R J l a0 listed a w → unl listed l.length ≤ fuel → wpAny P .any l.toArray Q fuel listed a w := by
  have finish : ∀ (listed : Array Bool) (a : Act) (w : World), InvV R J l a0 listed a w → (∀ i, i < l.length → listed.getD i false = true) → Q .normal a w := by
    intro listed a w I hall
    have h1 : ∀ t ∈ slotsOf l, R t (a.eval (.tmp t)) w := by
      intro t ht
      obtain ⟨o, ho, hd⟩ := List.mem_filterMap.1 ht
      obtain ⟨i, hi⟩ := List.getElem?_of_mem ho
      exact I.rel i o t hi (hall i (List.getElem?_eq_some_iff.1 hi).1) hd
    have h2 := fin (fun t => a.eval (.tmp t)) (valsOf l listed a) w (fun i o ho => by
      have hi := (List.getElem?_eq_some_iff.1 ho).1
      unfold valsOf
      rw [hall i hi, if_pos rfl, ho]
      rfl) I.st h1
    have e : putAll a0 (fun t => a.eval (.tmp t)) (slotsOf l) = a := by
      refine act_ext (by rw [putAll_size, I.tsize]) (by rw [putAll_defers, I.defers]) fun t => ?_
      by_cases ht : t ∈ slotsOf l
      · exact putAll_same _ _ _ _ ht (hs t ht)
      · rw [putAll_other _ _ _ _ ht]
        exact (I.same t fun i o ho _ hd => ht (mem_slots ho hd)).symm
    rwa [e] at h2
  intro fuel
  induction fuel with
  | zero =>
    intro listed a w I hu
    have hall := fun i hi => unl_zero (by omega : unl listed l.length = 0) i hi
    refine ⟨?_, finish listed a w I hall⟩
    rw [List.eq_nil_iff_forall_not_mem]
    intro i hi
    obtain ⟨o, ho, h1, _⟩ := ready_mem.1 hi
    have hl : i < l.length := (List.getElem?_eq_some_iff.1 ho).1
    rw [getD_tf (by rw [I.size]; exact hl), hall i hl] at h1
    cases h1
  | succ fuel ih =>
    intro listed a w I hu
    refine ⟨fun h => finish listed a w I (all_listedX hF I.size h), fun i hi => ?_⟩
    obtain ⟨o, ho, h1, h2⟩ := ready_mem.1 hi
    have hl : i < l.length := (List.getElem?_eq_some_iff.1 ho).1
    have hil : i < listed.size := by rw [I.size]; exact hl
    rw [getD_tf hil] at h1
    have hm : o ∈ l := List.mem_of_getElem? ho
    have hg := hF.each o hm
    have ho' : l.toArray[i]? = some o := by simp [ho]
    have hw : Region.wanted o (yielded l.toArray a.tmps) = true := by simp [Region.wanted, hg]
    unfold wpOp
    rw [ho']
    simp only [hw, if_true]
    refine .inl ?_
    have hst := step i o ho (valsOf l listed a) a w (by unfold valsOf; rw [h1]; rfl) (fun e he hb => by unfold valsOf; rw [h2 e he hb]; rfl) (fun j o' t hj hd hs => by
      unfold valsOf at hs ⊢
      cases hl : listed.getD j false with
      | false => rw [hl] at hs; cases hs
      | true => rw [if_pos rfl, hj]; simp only [Option.bind_some, hd]) I.st (fun t ht => I.same t fun j o' hj _ hd => ht (mem_slots hj hd)) (fun t ht hop => by
      obtain ⟨e, he, hb, o', h3, h4⟩ := hF.reads i o ho t hop ht
      exact I.rel e.on o' t h3 (h2 e he hb) h4)
    refine Oper.wp_mono (fun a' w' h => ?_) hst
    obtain ⟨v, rfl, hv, hbw, hjd⟩ := h
    have hD2 : setV (valsOf l listed a) i (if o.dst.isSome then v else undef) = valsOf l (listed.setIfInBounds i true) (a.put o.dst v) := by
      funext j
      unfold setV valsOf
      rw [set_getD _ _ _ hil]
      by_cases e : j = i
      · subst e
        rw [if_pos rfl, if_pos rfl, if_pos rfl, ho]
        simp only [Option.bind_some]
        cases hd0 : o.dst with
        | none => rfl
        | some t0 =>
          have ht0 : t0 < a.tmps.size := by rw [I.tsize]; exact hs t0 (mem_slots ho hd0)
          simp only [Option.isSome_some, if_true]
          rw [put_same ht0]
      · have e' : ¬ i = j := fun h => e h.symm
        rw [if_neg e, if_neg e']
        cases hl : listed.getD j false with
        | false => rfl
        | true =>
          rw [if_pos rfl, if_pos rfl]
          cases hj : l[j]? with
          | none => rfl
          | some o' =>
            simp only [Option.bind_some]
            cases hd : o'.dst with
            | none => rfl
            | some t =>
              cases hd0 : o.dst with
              | none => rw [put_none]
              | some t0 =>
                have hne : t ≠ t0 := by
                  rintro rfl
                  exact e (slots_inj hF.nodup hj ho hd hd0)
                simp only
                rw [put_other hne]
    rw [hD2] at hjd
    refine ih _ _ _ ⟨by simp [I.size], hjd, by rw [put_size, I.tsize], ?_, fun t hn => ?_, fun j o' t hj hlj hd => ?_⟩ ?_
    · cases o.dst with
      | none => rw [put_none]; exact I.defers
      | some t0 => exact I.defers
    · have hold := I.same t fun j o' hj hlj => hn j o' hj (by rw [set_getD _ _ _ hil, hlj]; split <;> rfl)
      cases hd0 : o.dst with
      | none => rw [put_none]; exact hold
      | some t0 =>
        have hne : t ≠ t0 := by
          rintro rfl
          exact hn i o ho (by rw [set_getD _ _ _ hil, if_pos rfl]) hd0
        rw [put_other hne]
        exact hold
    · by_cases hij : i = j
      · subst hij
        obtain rfl : o = o' := Option.some.inj (ho.symm.trans hj)
        have ht0 : t < a.tmps.size := by rw [I.tsize]; exact hs t (mem_slots ho hd)
        rw [hd, put_same ht0]
        exact hv _ hd
      · rw [set_getD _ _ _ hil, if_neg hij] at hlj
        have hold := hR _ _ _ _ (I.rel j o' t hj hlj hd) hbw
        cases hd0 : o.dst with
        | none => rw [put_none]; exact hold
        | some t0 =>
          have hne : t ≠ t0 := by
            rintro rfl
            exact hij (slots_inj hF.nodup ho hj hd0 hd)
          rw [put_other hne]
          exact hold
    · have := unl_set listed i hil h1 l.length hl
      omega
/-- The region: J knows which operations, by their places, are done, and with what values. -/
theorem wp_region_relV {id : Nat} (R : Nat → Value → World → Prop) (K : World → World → Prop) (J : (Nat → Option Value) → World → Prop) {l : List Oper} {a0 : Act} {w0 : World} (hm : P.follows .mixedOrders = true) (hB : relXB l = true) (hs : ((slotsOf l).all fun t => decide (t < a0.tmps.size)) = true)
    (hR : ∀ t v w w', R t v w → K w w' → R t v w') (hJ0 : J (fun _ => none) w0.drew)
    (step : ∀ i o, l[i]? = some o → StepV P Q R K J l a0 i o) (fin : ∀ (f : Nat → Value) (V : Nat → Option Value) (w : World), (∀ i o, l[i]? = some o → V i = some (match o.dst with | some t => f t | none => undef)) → J V w → (∀ t ∈ slotsOf l, R t (f t) w) → Q .normal (putAll a0 f (slotsOf l)) w) :
    (Code.region id l.toArray true).wp P Q a0 w0 := by
  refine wp_region_any hm ?_
  have hs' : ∀ t ∈ slotsOf l, t < a0.tmps.size := fun t ht => by
    have := List.all_eq_true.1 hs t ht
    simpa using this
  have no : ∀ i, (Array.replicate l.toArray.size false).getD i false ≠ true := fun i hl => by
    rw [Array.getD_eq_getD_getElem?, Array.getElem?_replicate] at hl
    split at hl <;> simp at hl
  have hD0 : valsOf l (Array.replicate l.toArray.size false) a0 = fun _ => none := by
    funext i
    unfold valsOf
    rw [if_neg (no i)]
  refine wpAny_relV hR (relXF hB) hs' step fin _ _ _ _ ⟨by simp, by rw [hD0]; exact hJ0, rfl, rfl, fun _ _ => rfl, fun i o t ho hl => absurd hl (no i)⟩ ?_
  exact Nat.le_trans List.countP_le_length (by simp)
end
end Go.Proofs.Ytonmojinijpneaa
end
section
/- As wp_region_relV, but operations may be guarded: which of them are wanted is told ahead, and a guard's value tells so. -/
namespace Go.Proofs.Ytonmojinijpneaa
open Go Go.RowKit
set_option linter.unusedVariables false
set_option linter.unusedSimpArgs false
section
variable {P : Program} {Q : Exit → Act → World → Prop}
/-- Closed facts of a region: no two operations have one slot; what an operation waits for stands ahead of it in the text; the slots that it reads, and its guard's, are those of what it waits for, or are no operation's. -/
def relGB (l : List Oper) : Bool :=
  (slotsOf l).Nodup &&
  ((List.range l.length).all fun i => (l[i]?.map fun o => (o.after.toList.all fun e => !Region.binds .any e || decide (e.on < i)) &&
    (o.op.operands.toList.all fun x => match x with
      | .tmp t => !(slotsOf l).contains t || o.after.toList.any fun e => Region.binds .any e && ((l[e.on]?).bind (·.dst) == some t)
      | _ => true) &&
    (match o.guard with
      | none => true
      | some (g, _) => ((l[g]?).bind (·.dst)).isSome && o.after.toList.any fun e => Region.binds .any e && e.on == g)).getD true)
structure RelGF (l : List Oper) : Prop where
  nodup : (slotsOf l).Nodup
  back : ∀ (i : Nat) (o : Oper), l[i]? = some o → ∀ e ∈ o.after, Region.binds .any e = true → e.on < i
  reads : ∀ (i : Nat) (o : Oper), l[i]? = some o → ∀ t, Operand.tmp t ∈ o.op.operands → t ∈ slotsOf l → ∃ e ∈ o.after, Region.binds .any e = true ∧ ∃ o', l[e.on]? = some o' ∧ o'.dst = some t
  guards : ∀ (i : Nat) (o : Oper), l[i]? = some o → ∀ g b, o.guard = some (g, b) → (∃ o' t, l[g]? = some o' ∧ o'.dst = some t) ∧ ∃ e ∈ o.after, Region.binds .any e = true ∧ e.on = g
theorem relGF {l : List Oper} (h : relGB l = true) : RelGF l := by
  unfold relGB at h
  simp only [Bool.and_eq_true, decide_eq_true_eq, List.all_eq_true] at h
  obtain ⟨h1, h3⟩ := h
  have get : ∀ (i : Nat) (o : Oper), l[i]? = some o → (∀ e ∈ o.after, Region.binds .any e = true → e.on < i) ∧ (∀ t, Operand.tmp t ∈ o.op.operands → t ∈ slotsOf l → ∃ e ∈ o.after, Region.binds .any e = true ∧ ∃ o', l[e.on]? = some o' ∧ o'.dst = some t) ∧ ∀ g b, o.guard = some (g, b) → (∃ o' t, l[g]? = some o' ∧ o'.dst = some t) ∧ ∃ e ∈ o.after, Region.binds .any e = true ∧ e.on = g := by
    intro i o ho
    have hl : i < l.length := (List.getElem?_eq_some_iff.1 ho).1
    have h4 := h3 i (List.mem_range.2 hl)
    rw [ho] at h4
    rw [Option.map_some, Option.getD_some, Bool.and_eq_true, Bool.and_eq_true, List.all_eq_true, List.all_eq_true] at h4
    refine ⟨fun e he hb => ?_, fun t ht hs => ?_, fun g b hg => ?_⟩
    · have h5 := h4.1.1 e (Array.mem_toList_iff.2 he)
      rw [hb] at h5
      simpa using h5
    · have h5 := h4.1.2 _ (Array.mem_toList_iff.2 ht)
      simp only [Bool.or_eq_true, Bool.not_eq_true', List.any_eq_true, Bool.and_eq_true, beq_iff_eq] at h5
      rcases h5 with h5 | ⟨e, he, hb, h6⟩
      · rw [List.contains_iff_mem.2 hs] at h5; cases h5
      · obtain ⟨o', h7, h8⟩ := Option.bind_eq_some_iff.1 h6
        exact ⟨e, Array.mem_toList_iff.1 he, hb, o', h7, h8⟩
    · have h5 := h4.2
      rw [hg] at h5
      simp only [Bool.and_eq_true, List.any_eq_true, beq_iff_eq] at h5
      obtain ⟨h6, e, he, hb, h7⟩ := h5
      obtain ⟨t, h8⟩ := Option.isSome_iff_exists.1 h6
      obtain ⟨o', h9, h10⟩ := Option.bind_eq_some_iff.1 h8
      exact ⟨⟨o', t, h9, h10⟩, e, Array.mem_toList_iff.1 he, hb, h7⟩
  exact ⟨h1, fun i o ho => (get i o ho).1, fun i o ho => (get i o ho).2.1, fun i o ho => (get i o ho).2.2⟩
theorem all_listedG {l : List Oper} (hF : RelGF l) {listed : Array Bool} (hs : listed.size = l.length) (h : Region.ready .any l.toArray listed = []) : ∀ i, i < l.length → listed.getD i false = true := by
  intro i
  induction i using Nat.strongRecOn with
  | _ i ih =>
    intro hi
    cases hc : listed.getD i false with
    | true => rfl
    | false =>
      exfalso
      have : i ∈ Region.ready .any l.toArray listed := ready_mem.2 ⟨l[i], List.getElem?_eq_getElem hi, by rw [getD_tf (by omega)]; exact hc, fun e he hb => by
        have := hF.back i _ (List.getElem?_eq_getElem hi) e he hb
        exact ih e.on this (by omega)⟩
      rw [h] at this
      cases this
theorem wpAny_relG (G : Nat → Bool) {R : Nat → Value → World → Prop} {K : World → World → Prop} {J : (Nat → Option Value) → World → Prop} (hR : ∀ t v w w', R t v w → K w w' → R t v w') (hK : ∀ w, K w w) {l : List Oper} {a0 : Act} (hF : RelGF l) (hs : ∀ t ∈ slotsOf l, t < a0.tmps.size)
    (hG0 : ∀ i o, l[i]? = some o → o.guard = none → G i = true)
    (hG : ∀ i o g b o' t u w, l[i]? = some o → o.guard = some (g, b) → l[g]? = some o' → o'.dst = some t → R t u w → (match u with | .bool c => decide (c = b) | _ => false) = G i)
    (step : ∀ i o, l[i]? = some o → G i = true → StepV P Q R K J l a0 i o)
    (skip : ∀ i o, l[i]? = some o → G i = false → ∀ V w, V i = none → J V w → (∀ t, o.dst = some t → R t undef w) ∧ J (setV V i undef) w)
    (fin : ∀ (f : Nat → Value) (V : Nat → Option Value) (w : World), (∀ i o, l[i]? = some o → V i = some (match o.dst with | some t => f t | none => undef)) → J V w → (∀ t ∈ slotsOf l, R t (f t) w) → Q .normal (putAll a0 f (slotsOf l)) w) :
    ∀ (fuel : Nat) (listed : Array Bool) (a : Act) (w : World), InvV R J l a0 listed a w → unl listed l.length ≤ fuel → wpAny P .any l.toArray Q fuel listed a w := by
  have finish : ∀ (listed : Array Bool) (a : Act) (w : World), InvV R J l a0 listed a w → (∀ i, i < l.length → listed.getD i false = true) → Q .normal a w := by
    intro listed a w I hall
    have h1 : ∀ t ∈ slotsOf l, R t (a.eval (.tmp t)) w := by
      intro t ht
      obtain ⟨o, ho, hd⟩ := List.mem_filterMap.1 ht
      obtain ⟨i, hi⟩ := List.getElem?_of_mem ho
      exact I.rel i o t hi (hall i (List.getElem?_eq_some_iff.1 hi).1) hd
    have h2 := fin (fun t => a.eval (.tmp t)) (valsOf l listed a) w (fun i o ho => by
      have hi := (List.getElem?_eq_some_iff.1 ho).1
      unfold valsOf
      rw [hall i hi, if_pos rfl, ho]
      rfl) I.st h1
    have e : putAll a0 (fun t => a.eval (.tmp t)) (slotsOf l) = a := by
      refine act_ext (by rw [putAll_size, I.tsize]) (by rw [putAll_defers, I.defers]) fun t => ?_
      by_cases ht : t ∈ slotsOf l
      · exact putAll_same _ _ _ _ ht (hs t ht)
      · rw [putAll_other _ _ _ _ ht]
        exact (I.same t fun i o ho _ hd => ht (mem_slots ho hd)).symm
    rwa [e] at h2
  intro fuel
  induction fuel with
  | zero =>
    intro listed a w I hu
    have hall := fun i hi => unl_zero (by omega : unl listed l.length = 0) i hi
    refine ⟨?_, finish listed a w I hall⟩
    rw [List.eq_nil_iff_forall_not_mem]
    intro i hi
    obtain ⟨o, ho, h1, _⟩ := ready_mem.1 hi
    have hl : i < l.length := (List.getElem?_eq_some_iff.1 ho).1
    rw [getD_tf (by rw [I.size]; exact hl), hall i hl] at h1
    cases h1
  | succ fuel ih =>
    intro listed a w I hu
    refine ⟨fun h => finish listed a w I (all_listedG hF I.size h), fun i hi => ?_⟩
    obtain ⟨o, ho, h1, h2⟩ := ready_mem.1 hi
    have hl : i < l.length := (List.getElem?_eq_some_iff.1 ho).1
    have hil : i < listed.size := by rw [I.size]; exact hl
    rw [getD_tf hil] at h1
    have hm : o ∈ l := List.mem_of_getElem? ho
    have ho' : l.toArray[i]? = some o := by simp [ho]
    have hw : Region.wanted o (yielded l.toArray a.tmps) = G i := by
      cases hgd : o.guard with
      | none =>
        rw [hG0 i o ho hgd]
        simp [Region.wanted, hgd]
      | some gb =>
        obtain ⟨g, b⟩ := gb
        obtain ⟨⟨o2, t, hg1, hg2⟩, e, he, hb, heg⟩ := hF.guards i o ho g b hgd
        have hlg := h2 e he hb
        rw [heg] at hlg
        have hr := I.rel g o2 t hg1 hlg hg2
        have h3 := hG i o g b o2 t _ w ho hgd hg1 hg2 hr
        have ht : t < a.tmps.size := by rw [I.tsize]; exact hs t (mem_slots hg1 hg2)
        rw [← h3]
        simp only [Region.wanted, hgd, yielded, List.getElem?_toArray, hg1, Option.bind_some, hg2, Act.eval, Array.getD_eq_getD_getElem?, Array.getElem?_eq_getElem ht, Option.getD_some]
        cases a.tmps[t] with
        | bool c => cases c <;> cases b <;> rfl
        | _ => rfl
    have after : ∀ (v : Value) (w' : World), (∀ t, o.dst = some t → R t v w') → K w w' → J (setV (valsOf l listed a) i (if o.dst.isSome then v else undef)) w' → wpAny P .any l.toArray Q fuel (listed.setIfInBounds i true) (a.put o.dst v) w' := by
      intro v w' hv hbw hjd
      have hD2 : setV (valsOf l listed a) i (if o.dst.isSome then v else undef) = valsOf l (listed.setIfInBounds i true) (a.put o.dst v) := by
        funext j
        unfold setV valsOf
        rw [set_getD _ _ _ hil]
        by_cases e : j = i
        · subst e
          rw [if_pos rfl, if_pos rfl, if_pos rfl, ho]
          simp only [Option.bind_some]
          cases hd0 : o.dst with
          | none => rfl
          | some t0 =>
            have ht0 : t0 < a.tmps.size := by rw [I.tsize]; exact hs t0 (mem_slots ho hd0)
            simp only [Option.isSome_some, if_true]
            rw [put_same ht0]
        · have e' : ¬ i = j := fun h => e h.symm
          rw [if_neg e, if_neg e']
          cases hl : listed.getD j false with
          | false => rfl
          | true =>
            rw [if_pos rfl, if_pos rfl]
            cases hj : l[j]? with
            | none => rfl
            | some o' =>
              simp only [Option.bind_some]
              cases hd : o'.dst with
              | none => rfl
              | some t =>
                cases hd0 : o.dst with
                | none => rw [put_none]
                | some t0 =>
                  have hne : t ≠ t0 := by
                    rintro rfl
                    exact e (slots_inj hF.nodup hj ho hd hd0)
                  simp only
                  rw [put_other hne]
      rw [hD2] at hjd
      refine ih _ _ _ ⟨by simp [I.size], hjd, by rw [put_size, I.tsize], ?_, fun t hn => ?_, fun j o' t hj hlj hd => ?_⟩ ?_
      · cases o.dst with
        | none => rw [put_none]; exact I.defers
        | some t0 => exact I.defers
      · have hold := I.same t fun j o' hj hlj => hn j o' hj (by rw [set_getD _ _ _ hil, hlj]; split <;> rfl)
        cases hd0 : o.dst with
        | none => rw [put_none]; exact hold
        | some t0 =>
          have hne : t ≠ t0 := by
            rintro rfl
            exact hn i o ho (by rw [set_getD _ _ _ hil, if_pos rfl]) hd0
          rw [put_other hne]
          exact hold
      · by_cases hij : i = j
        · subst hij
          obtain rfl : o = o' := Option.some.inj (ho.symm.trans hj)
          have ht0 : t < a.tmps.size := by rw [I.tsize]; exact hs t (mem_slots ho hd)
          rw [hd, put_same ht0]
          exact hv _ hd
        · rw [set_getD _ _ _ hil, if_neg hij] at hlj
          have hold := hR _ _ _ _ (I.rel j o' t hj hlj hd) hbw
          cases hd0 : o.dst with
          | none => rw [put_none]; exact hold
          | some t0 =>
            have hne : t ≠ t0 := by
              rintro rfl
              exact hij (slots_inj hF.nodup ho hj hd0 hd)
            rw [put_other hne]
            exact hold
      · have := unl_set listed i hil h1 l.length hl
        omega
    have hvi : valsOf l listed a i = none := by unfold valsOf; rw [h1]; rfl
    unfold wpOp
    rw [ho']
    simp only [hw]
    cases hgi : G i with
    | false =>
      obtain ⟨h3, h4⟩ := skip i o ho hgi (valsOf l listed a) w hvi I.st
      simp only [Bool.false_eq_true, if_false]
      exact after undef w h3 (hK w) (by cases o.dst <;> exact h4)
    | true =>
      simp only [if_true]
      refine .inl ?_
      have hst := step i o ho hgi (valsOf l listed a) a w hvi (fun e he hb => by unfold valsOf; rw [h2 e he hb]; rfl) (fun j o' t hj hd hs => by
        unfold valsOf at hs ⊢
        cases hl : listed.getD j false with
        | false => rw [hl] at hs; cases hs
        | true => rw [if_pos rfl, hj]; simp only [Option.bind_some, hd]) I.st (fun t ht => I.same t fun j o' hj _ hd => ht (mem_slots hj hd)) (fun t ht hop => by
        obtain ⟨e, he, hb, o', h3, h4⟩ := hF.reads i o ho t hop ht
        exact I.rel e.on o' t h3 (h2 e he hb) h4)
      refine Oper.wp_mono (fun a' w' h => ?_) hst
      obtain ⟨v, rfl, hv, hbw, hjd⟩ := h
      exact after v w' hv hbw hjd
/-- The region: G tells which operations are wanted; J knows which, by their places, are done, and with what values. -/
theorem wp_region_relG {id : Nat} (G : Nat → Bool) (R : Nat → Value → World → Prop) (K : World → World → Prop) (J : (Nat → Option Value) → World → Prop) {l : List Oper} {a0 : Act} {w0 : World} (hm : P.follows .mixedOrders = true) (hB : relGB l = true) (hs : ((slotsOf l).all fun t => decide (t < a0.tmps.size)) = true)
    (hR : ∀ t v w w', R t v w → K w w' → R t v w') (hK : ∀ w, K w w) (hJ0 : J (fun _ => none) w0.drew)
    (hG0 : ((List.range l.length).all fun i => (l[i]?.map fun o => o.guard.isSome || G i).getD true) = true)
    (hG : ∀ i o g b o' t u w, l[i]? = some o → o.guard = some (g, b) → l[g]? = some o' → o'.dst = some t → R t u w → (match u with | .bool c => decide (c = b) | _ => false) = G i)
    (step : ∀ i o, l[i]? = some o → G i = true → StepV P Q R K J l a0 i o)
    (skip : ∀ i o, l[i]? = some o → G i = false → ∀ V w, V i = none → J V w → (∀ t, o.dst = some t → R t undef w) ∧ J (setV V i undef) w)
    (fin : ∀ (f : Nat → Value) (V : Nat → Option Value) (w : World), (∀ i o, l[i]? = some o → V i = some (match o.dst with | some t => f t | none => undef)) → J V w → (∀ t ∈ slotsOf l, R t (f t) w) → Q .normal (putAll a0 f (slotsOf l)) w) :
    (Code.region id l.toArray true).wp P Q a0 w0 := by
  refine wp_region_any hm ?_
  have hs' : ∀ t ∈ slotsOf l, t < a0.tmps.size := fun t ht => by
    have := List.all_eq_true.1 hs t ht
    simpa using this
  have no : ∀ i, (Array.replicate l.toArray.size false).getD i false ≠ true := fun i hl => by
    rw [Array.getD_eq_getD_getElem?, Array.getElem?_replicate] at hl
    split at hl <;> simp at hl
  have hD0 : valsOf l (Array.replicate l.toArray.size false) a0 = fun _ => none := by
    funext i
    unfold valsOf
    rw [if_neg (no i)]
  have hG0' : ∀ i o, l[i]? = some o → o.guard = none → G i = true := fun i o ho hgd => by
    have hl : i < l.length := (List.getElem?_eq_some_iff.1 ho).1
    have h4 := List.all_eq_true.1 hG0 i (List.mem_range.2 hl)
    rw [ho, Option.map_some, Option.getD_some, hgd] at h4
    simpa using h4
  refine wpAny_relG G hR hK (relGF hB) hs' hG0' hG step skip fin _ _ _ _ ⟨by simp, by rw [hD0]; exact hJ0, rfl, rfl, fun _ _ => rfl, fun i o t ho hl => absurd hl (no i)⟩ ?_
  exact Nat.le_trans List.countP_le_length (by simp)
/-- All guards say yes: gs lists their slots and the values that are wanted. -/
def wantB (l : List Oper) (gs : List (Nat × Bool)) : Bool :=
  (List.range l.length).all fun i => (l[i]?.map fun o => match o.guard with
    | none => true
    | some (g, b) => gs.any fun p => (l[g]?).bind (·.dst) == some p.1 && p.2 == b).getD true
theorem wp_region_relGW {id : Nat} (gs : List (Nat × Bool)) (R : Nat → Value → World → Prop) (K : World → World → Prop) (J : (Nat → Option Value) → World → Prop) {l : List Oper} {a0 : Act} {w0 : World} (hm : P.follows .mixedOrders = true) (hB : relGB l = true) (hW : wantB l gs = true) (hs : ((slotsOf l).all fun t => decide (t < a0.tmps.size)) = true)
    (hR : ∀ t v w w', R t v w → K w w' → R t v w') (hK : ∀ w, K w w) (hJ0 : J (fun _ => none) w0.drew)
    (hG : ∀ p ∈ gs, ∀ u w, R p.1 u w → u = .bool p.2)
    (step : ∀ i o, l[i]? = some o → StepV P Q R K J l a0 i o)
    (fin : ∀ (f : Nat → Value) (V : Nat → Option Value) (w : World), (∀ i o, l[i]? = some o → V i = some (match o.dst with | some t => f t | none => undef)) → J V w → (∀ t ∈ slotsOf l, R t (f t) w) → Q .normal (putAll a0 f (slotsOf l)) w) :
    (Code.region id l.toArray true).wp P Q a0 w0 := by
  refine wp_region_relG (fun _ => true) R K J hm hB hs hR hK hJ0 (by
    rw [List.all_eq_true]
    intro i _
    cases l[i]? with
    | none => rfl
    | some o => simp) (fun i o g b o' t u w ho hg hg1 hd hr => ?_) (fun i o ho _ => step i o ho) (fun i o ho h => by cases h) fin
  have hl : i < l.length := (List.getElem?_eq_some_iff.1 ho).1
  have h4 := List.all_eq_true.1 hW i (List.mem_range.2 hl)
  rw [ho, Option.map_some, Option.getD_some, hg] at h4
  simp only [List.any_eq_true, Bool.and_eq_true, beq_iff_eq] at h4
  obtain ⟨p, hp, h5, h6⟩ := h4
  rw [hg1, Option.bind_some, hd] at h5
  have h7 : t = p.1 := Option.some.inj h5
  rw [h7] at hr
  rw [hG p hp u w hr, h6]
  simp
end
end Go.Proofs.Ytonmojinijpneaa
end
section
/- Messages, and what a queue of them answers. No program's text. -/
namespace Go.Proofs.Ytonmojinijpneaa
open Go
set_option linter.unusedVariables false
set_option linter.unusedSimpArgs false
namespace Qu
structure Msg where
  key : ByteArray
  fr : Int
  to : Int
  ca : Int
  tg : Int
  va : Int
  sz : Int
  tk : Bool
deriving DecidableEq
structure Chan where
  key : ByteArray
  fr : Int
  to : Int
deriving DecidableEq
structure Who where
  fr : Int
  ca : Int
deriving DecidableEq
structure Inb where
  key : ByteArray
  to : Int
deriving DecidableEq
def Msg.ch (m : Msg) : Chan := ⟨m.key, m.fr, m.to⟩
def Msg.who (m : Msg) : Who := ⟨m.fr, m.ca⟩
def Msg.inb (m : Msg) : Inb := ⟨m.key, m.to⟩
def Msg.took (m : Msg) : Msg := { m with tk := true }
def mayM (m : Msg) : Prop := 0 ≤ m.fr ∧ m.fr < 64 ∧ 0 ≤ m.to ∧ m.to < 64 ∧ 0 ≤ m.ca ∧ 0 ≤ m.tg ∧ m.tg ≤ 32767 ∧ 1 ≤ m.sz ∧ m.sz ≤ 64 ∧ m.tk = false
instance (m : Msg) : Decidable (mayM m) := by unfold mayM; infer_instance
/-- Where the message of a call stands. -/
def plc : List Msg → Who → Option Nat
  | [], _ => none
  | m :: l, w => if m.who = w then some 0 else (plc l w).map (· + 1)
theorem plc_some : ∀ {l : List Msg} {w : Who} {i : Nat}, plc l w = some i → ∃ m, l[i]? = some m ∧ m.who = w
  | m :: l, w, i, h => by
    rw [plc] at h
    split at h
    · rename_i hw
      cases h
      exact ⟨m, rfl, hw⟩
    · cases hp : plc l w with
      | none => rw [hp] at h; cases h
      | some j =>
        rw [hp] at h
        cases h
        obtain ⟨m', h1, h2⟩ := plc_some hp
        exact ⟨m', by simpa using h1, h2⟩
theorem plc_lt {l : List Msg} {w : Who} {i : Nat} (h : plc l w = some i) : i < l.length := by
  obtain ⟨m, hm, _⟩ := plc_some h
  exact (List.getElem?_eq_some_iff.1 hm).1
theorem plc_none : ∀ {l : List Msg} {w : Who}, plc l w = none ↔ ∀ m ∈ l, ¬ m.who = w
  | [], w => by simp [plc]
  | m :: l, w => by
    rw [plc]
    by_cases h : m.who = w
    · rw [if_pos h]
      simp [h]
    · rw [if_neg h, Option.map_eq_none_iff, plc_none]
      simp [h]
theorem plc_app : ∀ (l : List Msg) (m : Msg) (w : Who), plc (l ++ [m]) w = match plc l w with | some i => some i | none => if m.who = w then some l.length else none
  | [], m, w => by simp [plc]
  | x :: l, m, w => by
    rw [List.cons_append, plc, plc]
    by_cases h : x.who = w
    · simp [h]
    · rw [if_neg h, if_neg h, plc_app l m w]
      cases plc l w with
      | some i => rfl
      | none =>
        simp only [Option.map]
        by_cases h2 : m.who = w
        · simp [h2]
        · simp [h2]
/-- All who sent are unlike. -/
def Uniq (l : List Msg) : Prop := (l.map (·.who)).Nodup
theorem plc_uniq : ∀ {l : List Msg} (_ : Uniq l) {i : Nat} {m : Msg}, l[i]? = some m → plc l m.who = some i
  | x :: l, hu, 0, m, h => by
    have : x = m := by simpa using h
    rw [plc, if_pos (by rw [this])]
  | x :: l, hu, i + 1, m, h => by
    have hu' := List.nodup_cons.1 hu
    have hm : m ∈ l := List.mem_of_getElem? (by simpa using h)
    have hne : ¬ x.who = m.who := fun e => hu'.1 (by show x.who ∈ _; rw [e]; exact List.mem_map_of_mem (f := (·.who)) hm)
    rw [plc, if_neg hne, plc_uniq hu'.2 (by simpa using h)]
    rfl
/-- A channel's messages. -/
def rowsOf (l : List Msg) (c : Chan) : List Msg := l.filter fun m => decide (m.ch = c)
theorem rowsOf_app (l k : List Msg) (c : Chan) : rowsOf (l ++ k) c = rowsOf l c ++ rowsOf k c := by simp [rowsOf]
theorem rowsOf_one (m : Msg) (c : Chan) : rowsOf [m] c = if m.ch = c then [m] else [] := by
  by_cases h : m.ch = c <;> simp [rowsOf, h]
theorem rowsOf_len (l : List Msg) (c : Chan) : (rowsOf l c).length ≤ l.length := List.length_filter_le _ _
theorem cut_at {α : Type} {l : List α} {i : Nat} {m : α} (h : l[i]? = some m) : l = l.take i ++ m :: l.drop (i + 1) := by
  obtain ⟨hi, rfl⟩ := List.getElem?_eq_some_iff.1 h
  rw [← List.drop_eq_getElem_cons hi, List.take_append_drop]
theorem row_at {l : List Msg} {i : Nat} {m : Msg} (h : l[i]? = some m) : (rowsOf l m.ch)[(rowsOf (l.take i) m.ch).length]? = some m ∧ (rowsOf l m.ch).take (rowsOf (l.take i) m.ch).length = rowsOf (l.take i) m.ch := by
  have e : rowsOf l m.ch = rowsOf (l.take i) m.ch ++ m :: rowsOf (l.drop (i + 1)) m.ch := by
    conv => lhs; rw [cut_at h]
    rw [rowsOf_app]
    simp [rowsOf]
  rw [e]
  exact ⟨by simp, by simp⟩
theorem rowsOf_ne {l : List Msg} {c : Chan} : rowsOf l c ≠ [] ↔ ∃ m ∈ l, m.ch = c := by
  unfold rowsOf
  rw [Ne, List.filter_eq_nil_iff]
  simp
/-- Is a message one of a channel, that wasn't taken? -/
def isM (m : Msg) (c : Chan) : Bool := !m.tk && decide (m.ch = c)
def tagged (tag : Int) (m : Msg) : Bool := decide (tag = -1) || decide (tag = m.tg)
def firstL (l : List Msg) (c : Chan) (tag : Int) : Option Msg := l.find? fun m => isM m c && tagged tag m
/-- What a row of a channel tells. -/
def firstR (r : List Msg) (tag : Int) : Option Msg := r.find? fun m => !m.tk && tagged tag m
theorem first_row (l : List Msg) (c : Chan) (tag : Int) : firstR (rowsOf l c) tag = firstL l c tag := by
  unfold firstR rowsOf firstL
  rw [List.find?_filter]
  congr 1
  funext m
  unfold isM
  cases m.tk <;> cases decide (m.ch = c) <;> simp
theorem firstR_drop {r : List Msg} {n : Nat} (tag : Int) (h : ∀ m ∈ r.take n, m.tk = true) : firstR (r.drop n) tag = firstR r tag := by
  unfold firstR
  have e : (r.take n).find? (fun m => !m.tk && tagged tag m) = none := List.find?_eq_none.2 fun m hm => by rw [h m hm]; simp
  have : r.find? (fun m => !m.tk && tagged tag m) = (r.take n ++ r.drop n).find? (fun m => !m.tk && tagged tag m) := by rw [List.take_append_drop]
  rw [this, List.find?_append, e]
  rfl
/-- Those of a row that weren't taken. -/
def untaken (r : List Msg) : List Msg := r.filter fun m => !m.tk
theorem untaken_row (l : List Msg) (c : Chan) : untaken (rowsOf l c) = l.filter fun m => isM m c := by
  unfold untaken rowsOf isM
  rw [List.filter_filter]
def m0 : Msg := ⟨⟨#[]⟩, 0, 0, 0, 0, 0, 0, false⟩
def findL (l : List Msg) (w : Who) : Option Msg := (plc l w).map fun i => l.getD i m0
def aheadL (l : List Msg) (w : Who) : List Msg := match plc l w with | none => [] | some i => (l.take i).filter fun m => isM m (l.getD i m0).ch
def sendE (l : List Msg) (m : Msg) : Int := if mayM m ∧ plc l m.who = none then 0 else 2
def sendL (l : List Msg) (m : Msg) : List Msg := if mayM m ∧ plc l m.who = none then l ++ [m] else l
def takeE (l : List Msg) (w : Who) : Int := match findL l w with | none => 2 | some m => if m.tk then 2 else 0
def takeL (l : List Msg) (w : Who) : List Msg := match plc l w with | none => l | some i => l.modify i Msg.took
def upto (n : Nat) : List Int := (List.range n).map Int.ofNat
/-- Who sent to a receiver, rising. -/
def fromsOf (l : List Msg) (b : Inb) : List Int := (upto 64).filter fun f => decide (∃ m ∈ l, m.ch = ⟨b.key, f, b.to⟩)
def sendersL (l : List Msg) (b : Inb) : List Int := (upto 64).filter fun f => (firstL l ⟨b.key, f, b.to⟩ (-1)).isSome
theorem senders_of (l : List Msg) (b : Inb) : ((fromsOf l b).filter fun f => (firstL l ⟨b.key, f, b.to⟩ (-1)).isSome) = sendersL l b := by
  unfold fromsOf sendersL
  rw [List.filter_filter]
  apply List.filter_congr
  intro f _
  cases h : firstL l ⟨b.key, f, b.to⟩ (-1) with
  | none => simp
  | some m =>
    have hm := List.mem_of_find?_eq_some h
    have hp := List.find?_some h
    have hc : m.ch = ⟨b.key, f, b.to⟩ := by
      unfold isM at hp
      simp at hp
      exact hp.1.2
    simp
    exact ⟨m, hm, hc⟩
/-- Taking changes nobody's place, nobody's channel. -/
theorem took_who (m : Msg) : m.took.who = m.who := rfl
theorem took_ch (m : Msg) : m.took.ch = m.ch := rfl
theorem modify_map {α β : Type} (f : α → α) (g : α → β) (h : ∀ x, g (f x) = g x) (l : List α) (i : Nat) : (l.modify i f).map g = l.map g := by
  apply List.ext_getElem?
  intro k
  rw [List.getElem?_map, List.getElem?_map, List.getElem?_modify]
  cases l[k]? with
  | none => simp
  | some x => by_cases e : i = k <;> simp [e, h]
theorem plc_map : ∀ (l k : List Msg) (w : Who), l.map (·.who) = k.map (·.who) → plc l w = plc k w
  | [], [], w, _ => rfl
  | [], y :: k, w, h => by simp at h
  | x :: l, [], w, h => by simp at h
  | x :: l, y :: k, w, h => by
    rw [List.map_cons, List.map_cons, List.cons.injEq] at h
    rw [plc, plc, h.1, plc_map l k w h.2]
theorem plc_take (l : List Msg) (i : Nat) (w : Who) : plc (l.modify i Msg.took) w = plc l w := plc_map _ _ w (modify_map Msg.took (·.who) took_who l i)
theorem modify_cut {α : Type} {l : List α} {i : Nat} {m : α} (f : α → α) (h : l[i]? = some m) : l.modify i f = l.take i ++ f m :: l.drop (i + 1) := by
  obtain ⟨hi, rfl⟩ := List.getElem?_eq_some_iff.1 h
  rw [List.modify_eq_take_cons_drop hi]
theorem rowsOf_take_on {l : List Msg} {i : Nat} {m : Msg} (h : l[i]? = some m) : rowsOf (l.modify i Msg.took) m.ch = (rowsOf l m.ch).modify (rowsOf (l.take i) m.ch).length Msg.took := by
  have e : rowsOf l m.ch = rowsOf (l.take i) m.ch ++ m :: rowsOf (l.drop (i + 1)) m.ch := by
    conv => lhs; rw [cut_at h]
    rw [rowsOf_app]
    simp [rowsOf]
  rw [modify_cut _ h, rowsOf_app, e]
  have e2 : rowsOf (m.took :: l.drop (i + 1)) m.ch = m.took :: rowsOf (l.drop (i + 1)) m.ch := by
    unfold rowsOf
    rw [List.filter_cons, if_pos (by simp [took_ch])]
  rw [e2, modify_cut (m := m) _ (by simp)]
  simp
theorem rowsOf_take_off {l : List Msg} {i : Nat} {m : Msg} (h : l[i]? = some m) {c : Chan} (hc : ¬ m.ch = c) : rowsOf (l.modify i Msg.took) c = rowsOf l c := by
  conv => rhs; rw [cut_at h]
  rw [modify_cut _ h, rowsOf_app, rowsOf_app]
  congr 1
  unfold rowsOf
  rw [List.filter_cons, List.filter_cons, if_neg (by rw [took_ch, decide_eq_false hc]; decide), if_neg (by rw [decide_eq_false hc]; decide)]
theorem fromsOf_take {l : List Msg} {i : Nat} (b : Inb) : fromsOf (l.modify i Msg.took) b = fromsOf l b := by
  unfold fromsOf
  apply List.filter_congr
  intro f _
  have hm := modify_map Msg.took (·.ch) took_ch l i
  have : (∃ m ∈ l.modify i Msg.took, m.ch = (⟨b.key, f, b.to⟩ : Chan)) ↔ ∃ m ∈ l, m.ch = (⟨b.key, f, b.to⟩ : Chan) := by
    have e : ∀ k : List Msg, (∃ m ∈ k, m.ch = (⟨b.key, f, b.to⟩ : Chan)) ↔ (⟨b.key, f, b.to⟩ : Chan) ∈ k.map (·.ch) := fun k => by simp
    rw [e, e, hm]
  exact decide_eq_decide.2 this
theorem uniq_take {l : List Msg} {i : Nat} (h : Uniq l) : Uniq (l.modify i Msg.took) := by
  unfold Uniq
  rw [modify_map Msg.took (·.who) took_who l i]
  exact h
theorem uniq_app {l : List Msg} {m : Msg} (h : Uniq l) (hn : plc l m.who = none) : Uniq (l ++ [m]) := by
  unfold Uniq
  rw [List.map_append, List.map_singleton, List.nodup_append]
  refine ⟨h, by simp, fun a ha b hb e => ?_⟩
  obtain ⟨x, hx, rfl⟩ := List.mem_map.1 ha
  have := plc_none.1 hn x hx
  rw [List.mem_singleton.1 hb] at e
  exact this e
/-- A number more among those that are picked of a rising row. -/
theorem filter_more {l : List Int} (hl : l.Pairwise (· < ·)) {x : Int} (hx : x ∈ l) (p : Int → Bool) (hp : p x = false) :
    l.filter (fun f => p f || decide (f = x)) = (l.filter p).filter (fun f => decide (f < x)) ++ x :: (l.filter p).filter (fun f => decide (x < f)) := by
  induction l with
  | nil => cases hx
  | cons y l ih =>
    obtain ⟨h1, h2⟩ := List.pairwise_cons.1 hl
    rcases List.mem_cons.1 hx with rfl | hm
    · have e1 : ∀ z ∈ l, (p z || decide (z = x)) = p z := fun z hz => by
        have := h1 z hz
        have hn : ¬ z = x := by omega
        simp [hn]
      have e2 : (l.filter p).filter (fun f => decide (f < x)) = [] := List.filter_eq_nil_iff.2 fun z hz => by
        have := h1 z (List.mem_filter.1 hz).1
        simp
        omega
      have e3 : (l.filter p).filter (fun f => decide (x < f)) = l.filter p := List.filter_eq_self.2 fun z hz => by
        have := h1 z (List.mem_filter.1 hz).1
        simpa using this
      rw [List.filter_cons, if_pos (by simp), List.filter_cons, if_neg (by rw [hp]; decide), e2, e3, List.filter_congr e1]
      rfl
    · have hy := h1 x hm
      have hn : ¬ y = x := by omega
      rw [List.filter_cons, List.filter_cons (p := p)]
      cases hpy : p y with
      | false =>
        simp only [hpy, hn, decide_false, Bool.or_self, Bool.false_eq_true, if_false]
        exact ih h2 hm
      | true =>
        have hxy : ¬ x < y := by omega
        simp only [hpy, Bool.true_or, if_true, List.filter_cons, hy, hxy, decide_true, decide_false, Bool.false_eq_true, if_false, List.cons_append]
        rw [ih h2 hm]
theorem upto_rise (n : Nat) : (upto n).Pairwise (· < ·) := by
  unfold upto
  rw [List.pairwise_map]
  exact (List.pairwise_lt_range).imp fun h => by show ((_ : Nat) : Int) < _; exact Int.ofNat_lt.2 h
theorem upto_mem {n : Nat} {x : Int} : x ∈ upto n ↔ 0 ≤ x ∧ x < n := by
  unfold upto
  rw [List.mem_map]
  constructor
  · rintro ⟨k, hk, rfl⟩
    have := List.mem_range.1 hk
    exact ⟨Int.natCast_nonneg k, by show ((k : Nat) : Int) < n; omega⟩
  · rintro ⟨h1, h2⟩
    exact ⟨x.toNat, List.mem_range.2 (by omega), by show ((x.toNat : Nat) : Int) = x; omega⟩
theorem fromsOf_rise (l : List Msg) (b : Inb) : (fromsOf l b).Pairwise (· < ·) := (upto_rise 64).filter _
theorem fromsOf_mem {l : List Msg} {b : Inb} {f : Int} : f ∈ fromsOf l b ↔ (0 ≤ f ∧ f < 64) ∧ ∃ m ∈ l, m.ch = ⟨b.key, f, b.to⟩ := by
  unfold fromsOf
  rw [List.mem_filter, upto_mem]
  simp
/-- The first message of a channel: its sender goes in among those of its receiver. -/
theorem fromsOf_new {l : List Msg} {m : Msg} (hm : 0 ≤ m.fr ∧ m.fr < 64) (hr : rowsOf l m.ch = []) :
    fromsOf (l ++ [m]) m.inb = (fromsOf l m.inb).filter (fun f => decide (f < m.fr)) ++ m.fr :: (fromsOf l m.inb).filter (fun f => decide (m.fr < f)) := by
  have hno : decide (∃ x ∈ l, x.ch = (⟨m.inb.key, m.fr, m.inb.to⟩ : Chan)) = false := decide_eq_false fun ⟨x, hx, e⟩ => by
    exact (rowsOf_ne.2 ⟨x, hx, e⟩) hr
  have e := filter_more (upto_rise 64) (x := m.fr) (upto_mem.2 ⟨hm.1, by exact_mod_cast hm.2⟩) (fun f => decide (∃ x ∈ l, x.ch = (⟨m.inb.key, f, m.inb.to⟩ : Chan))) hno
  unfold fromsOf
  rw [← e]
  apply List.filter_congr
  intro f _
  rw [← Bool.decide_or]
  refine decide_eq_decide.2 ⟨fun ⟨x, hx, e⟩ => ?_, fun h => ?_⟩
  · rcases List.mem_append.1 hx with hx | hx
    · exact .inl ⟨x, hx, e⟩
    · rw [List.mem_singleton.1 hx] at e
      have : m.fr = f := congrArg Chan.fr e
      exact .inr this.symm
  · rcases h with ⟨x, hx, e⟩ | h
    · exact ⟨x, List.mem_append_left _ hx, e⟩
    · exact ⟨m, by simp, by rw [h]; rfl⟩
theorem fromsOf_old {l : List Msg} {m : Msg} (b : Inb) (h : ¬ m.inb = b ∨ rowsOf l m.ch ≠ []) : fromsOf (l ++ [m]) b = fromsOf l b := by
  unfold fromsOf
  apply List.filter_congr
  intro f _
  refine decide_eq_decide.2 ⟨fun ⟨x, hx, e⟩ => ?_, fun ⟨x, hx, e⟩ => ⟨x, List.mem_append_left _ hx, e⟩⟩
  rcases List.mem_append.1 hx with hx | hx
  · exact ⟨x, hx, e⟩
  · rw [List.mem_singleton.1 hx] at e
    rcases h with h | h
    · exact absurd (by have h1 := congrArg Chan.key e; have h2 := congrArg Chan.to e; show (⟨m.key, m.to⟩ : Inb) = b; rw [show m.key = b.key from h1, show m.to = b.to from h2]) h
    · obtain ⟨y, hy, e2⟩ := rowsOf_ne.1 h
      exact ⟨y, hy, e2.trans e⟩
end Qu
end Go.Proofs.Ytonmojinijpneaa
end
section
/- Maps whose keys are structs: look-up, store, range. Of any program; no program's text. -/
namespace Go.Proofs.Ytonmojinijpneaa
open Go Go.RowKit
set_option linter.unusedVariables false
set_option linter.unusedSimpArgs false
set_option linter.unusedSectionVars false
namespace SMap
variable {P : Program} {κ : Type} [DecidableEq κ]
/-- A type of keys: how its values are written; what the program asks of them. -/
structure KeyTy (P : Program) (kt : TypeId) (kv : κ → Value) : Prop where
  und : ∃ fs, P.underlying kt = some (.struct fs)
  eq : ∀ x y w, (Op.equal kt (kv x) (kv y)).run P w = .ok (decide (x = y)) w
  ok : ∀ x b w, (Instr.checkKey b 10000 kt (kv x)).run P w = .ok () w
  same : ∀ x, Instr.sameBits 10000 (kv x) (kv x) = true
def ent (kv : κ → Value) : Nat → List (κ × Value) → List MapEntry
  | _, [] => []
  | n, x :: l => { key := kv x.1, val := x.2, born := n } :: ent kv (n + 1) l
def ix : List (κ × Value) → κ → Option (Nat × Value)
  | [], _ => none
  | x :: l, c => if c = x.1 then some (0, x.2) else (ix l c).map fun p => (p.1 + 1, p.2)
/-- What lies at a key. -/
def look (l : List (κ × Value)) (c : κ) : Option Value := (ix l c).map (·.2)
/-- A value is put at a key. -/
def put : List (κ × Value) → κ → Value → List (κ × Value)
  | [], c, v => [(c, v)]
  | x :: l, c, v => if c = x.1 then (c, v) :: l else x :: put l c v
/-- The map's block. -/
def MB (kv : κ → Value) (w : World) (r : Nat) (l : List (κ × Value)) : Prop := w.heap[r]? = some (.map (ent kv 0 l).toArray l.length)
variable {kv : κ → Value}
theorem MB.lt {w : World} {r : Nat} {l : List (κ × Value)} (h : MB kv w r l) : r < w.heap.size := (Array.getElem?_eq_some_iff.1 h).1
theorem MB.below {w w' : World} {B r : Nat} {l : List (κ × Value)} (h : MB kv w r l) (hb : Below B w w') (hr : r < B) : MB kv w' r l := (hb.block r hr).trans h
theorem MB.far {w : World} {r : Nat} {l : List (κ × Value)} (h : MB kv w r l) {p : Addr} (hp : r ≠ p.block) (u : Value) : MB kv (w.setCell p u) r l := (Below.heap_setCell w p u r hp).trans h
theorem ent_app (kv : κ → Value) : ∀ (a b : List (κ × Value)) (n : Nat), ent kv n (a ++ b) = ent kv n a ++ ent kv (n + a.length) b
  | [], b, n => rfl
  | y :: l, b, n => by
    rw [List.cons_append, ent, ent, ent_app kv l b (n + 1), List.length_cons, List.cons_append, show n + 1 + l.length = n + (l.length + 1) by omega]
theorem ent_len (kv : κ → Value) : ∀ (l : List (κ × Value)) (n : Nat), (ent kv n l).length = l.length
  | [], _ => rfl
  | x :: l, n => by rw [ent, List.length_cons, ent_len kv l (n + 1), List.length_cons]
theorem look_nil (c : κ) : look ([] : List (κ × Value)) c = none := rfl
theorem look_cons (x : κ × Value) (l : List (κ × Value)) (c : κ) : look (x :: l) c = if c = x.1 then some x.2 else look l c := by
  unfold look
  rw [ix]
  split
  · rfl
  · rw [Option.map_map]; rfl
theorem look_put : ∀ (l : List (κ × Value)) (c d : κ) (v : Value), look (put l c v) d = if d = c then some v else look l d
  | [], c, d, v => by rw [put, look_cons]
  | x :: l, c, d, v => by
    rw [put]
    split
    · rename_i h
      rw [look_cons, look_cons, ← h]
      split
      · rfl
      · rfl
    · rename_i h
      rw [look_cons, look_cons, look_put l c d v]
      by_cases h1 : d = c
      · subst h1
        simp [h]
      · simp [h1]
theorem put_new : ∀ (l : List (κ × Value)) (c : κ) (v : Value), look l c = none → put l c v = l ++ [(c, v)]
  | [], c, v, _ => rfl
  | x :: l, c, v, h => by
    rw [look_cons] at h
    rw [put]
    split at h
    · cases h
    · rename_i h1
      rw [if_neg h1, put_new l c v h, List.cons_append]
theorem put_keys : ∀ (l : List (κ × Value)) (c : κ) (v : Value) (d : κ), d ∈ (put l c v).map (·.1) → d = c ∨ d ∈ l.map (·.1)
  | [], c, v, d, h => by simp [put] at h; exact .inl h
  | x :: l, c, v, d, h => by
    rw [put] at h
    split at h
    · rename_i h1
      rw [List.map_cons, List.mem_cons] at h
      rcases h with h | h
      · exact .inl h
      · exact .inr (List.mem_cons_of_mem _ h)
    · rw [List.map_cons, List.mem_cons] at h
      rcases h with h | h
      · exact .inr (by rw [h]; exact List.mem_cons_self)
      · rcases put_keys l c v d h with h | h
        · exact .inl h
        · exact .inr (List.mem_cons_of_mem _ h)
theorem put_nodup : ∀ (l : List (κ × Value)) (c : κ) (v : Value), (l.map (·.1)).Nodup → ((put l c v).map (·.1)).Nodup
  | [], c, v, _ => by simp [put]
  | x :: l, c, v, h => by
    have h' := List.nodup_cons.1 h
    rw [put]
    split
    · rename_i h1
      rw [List.map_cons, List.nodup_cons]
      exact ⟨by show c ∉ _; rw [h1]; exact h'.1, h'.2⟩
    · rename_i h1
      rw [List.map_cons, List.nodup_cons]
      refine ⟨fun hm => ?_, put_nodup l c v h'.2⟩
      rcases put_keys l c v _ hm with e | e
      · exact h1 e.symm
      · exact h'.1 e
theorem put_len_le (l : List (κ × Value)) (c : κ) (v : Value) : (put l c v).length ≤ l.length + 1 := by
  induction l with
  | nil => simp [put]
  | cons x l ih =>
    rw [put]
    split
    · simp
    · simp; omega
theorem mem_look : ∀ (l : List (κ × Value)), (l.map (·.1)).Nodup → ∀ p ∈ l, look l p.1 = some p.2
  | [], _, p, hp => absurd hp List.not_mem_nil
  | x :: l, h, p, hp => by
    have h' := List.nodup_cons.1 h
    rw [look_cons]
    rcases List.mem_cons.1 hp with rfl | hm
    · rw [if_pos rfl]
    · have : ¬ p.1 = x.1 := fun e => h'.1 (by show x.1 ∈ _; rw [← e]; exact List.mem_map_of_mem (f := (·.1)) hm)
      rw [if_neg this]
      exact mem_look l h'.2 p hm
theorem look_mem : ∀ (l : List (κ × Value)) (c : κ) (v : Value), look l c = some v → (c, v) ∈ l
  | x :: l, c, v, h => by
    rw [look_cons] at h
    split at h
    · rename_i h1
      cases h
      rw [h1]
      exact List.mem_cons_self
    · exact List.mem_cons_of_mem _ (look_mem l c v h)
theorem look_keys (l : List (κ × Value)) (c : κ) : c ∈ l.map (·.1) ↔ look l c ≠ none := by
  induction l with
  | nil => simp [look_nil]
  | cons x l ih =>
    rw [look_cons, List.map_cons, List.mem_cons, ih]
    by_cases h : c = x.1
    · simp [h]
    · simp [h]
theorem run_findAsking {kt : TypeId} (hk : KeyTy P kt kv) (c : κ) (w : World) : ∀ (l : List (κ × Value)) (n i : Nat), (Instr.findAsking kt (kv c) (ent kv n l) i).run P w = .ok ((ix l c).map fun p => (i + p.1, p.2)) w
  | [], n, i => by simp [ent, Instr.findAsking, ix]
  | x :: l, n, i => by
    have ih := run_findAsking hk c w l (n + 1) (i + 1)
    simp only [ent, Instr.findAsking, Sem.run_bind, hk.eq, Result.andThen_ok]
    rw [ix]
    by_cases h : c = x.1
    · simp [h]
    · simp only [h, decide_false, Bool.false_eq_true, if_false, ih]
      congr 1
      cases ix l c with
      | none => rfl
      | some p => simp [Option.map]; omega
theorem findNow_struct (fs : Array Field) (k : Value) : ∀ (es : List MapEntry), es ≠ [] → Instr.findNow (.struct fs) k es 0 = none
  | [], h => absurd rfl h
  | e :: es, _ => by
    have : Instr.sameNow (.struct fs) k e.key = none := by cases k <;> cases e.key <;> rfl
    simp [Instr.findNow, this]
theorem run_findKey {kt : TypeId} (hk : KeyTy P kt kv) (c : κ) (w : World) (l : List (κ × Value)) : (Instr.findKey kt (kv c) (ent kv 0 l)).run P w = .ok (ix l c) w := by
  obtain ⟨fs, hu⟩ := hk.und
  have hf := run_findAsking hk c w l 0 0
  have e0 : (ix l c).map (fun p => (0 + p.1, p.2)) = ix l c := by
    cases ix l c with
    | none => rfl
    | some p => simp
  cases l with
  | nil => simp [Instr.findKey, run_underlying hu, ent, Instr.findNow, ix]
  | cons x l =>
    simp only [Instr.findKey, Sem.run_bind, run_underlying hu, Result.andThen_ok, findNow_struct fs _ (ent kv 0 (x :: l)) (by simp [ent])]
    rw [hf, e0]
/-- A look-up, with and without 'ok'. -/
theorem run_lookup {mt kt vt : TypeId} {z : Value} (hk : KeyTy P kt kv) (hm : P.underlying mt = some (.map kt vt)) (hz : ∀ w, (zeroValue vt).run P w = .ok z w) (c : κ) (r : Nat) (l : List (κ × Value)) (w : World) (hb : MB kv w r l) :
    (Instr.lookup mt (.map (some r)) (kv c) false).run P w = .ok ((look l c).getD z) w := by
  have hg := MapKept.run_getObj_map (P := P) hb
  have hf := run_findKey hk c w l
  unfold look
  cases hx : ix l c with
  | none => rw [hx] at hf; simp [Instr.lookup, run_underlying hm, hg, hk.ok, hf, Result.andThen, hz]
  | some p => rw [hx] at hf; simp [Instr.lookup, run_underlying hm, hg, hk.ok, hf, Result.andThen]
theorem run_lookupOk {mt kt vt : TypeId} {z : Value} (hk : KeyTy P kt kv) (hm : P.underlying mt = some (.map kt vt)) (hz : ∀ w, (zeroValue vt).run P w = .ok z w) (c : κ) (r : Nat) (l : List (κ × Value)) (w : World) (hb : MB kv w r l) :
    (Instr.lookup mt (.map (some r)) (kv c) true).run P w = .ok (.tuple #[(look l c).getD z, .bool (look l c).isSome]) w := by
  have hg := MapKept.run_getObj_map (P := P) hb
  have hf := run_findKey hk c w l
  unfold look
  cases hx : ix l c with
  | none => rw [hx] at hf; simp [Instr.lookup, run_underlying hm, hg, hk.ok, hf, Result.andThen, hz]
  | some p => rw [hx] at hf; simp [Instr.lookup, run_underlying hm, hg, hk.ok, hf, Result.andThen]
theorem ix_none {l : List (κ × Value)} {c : κ} (h : ix l c = none) : look l c = none := by unfold look; rw [h]; rfl
theorem ix_get : ∀ (l : List (κ × Value)) (c : κ) (j : Nat) (v : Value), ix l c = some (j, v) → l[j]? = some (c, v)
  | x :: l, c, j, v, h => by
    rw [ix] at h
    split at h
    · rename_i h1
      cases h
      rw [h1]
      rfl
    · cases hx : ix l c with
      | none => rw [hx] at h; cases h
      | some p =>
        rw [hx] at h
        cases h
        exact ix_get l c p.1 p.2 hx
theorem ent_get (kv : κ → Value) : ∀ (l : List (κ × Value)) (n j : Nat), (ent kv n l)[j]? = (l[j]?).map fun p => { key := kv p.1, val := p.2, born := n + j }
  | [], n, j => by simp [ent]
  | x :: l, n, 0 => by simp [ent]
  | x :: l, n, j + 1 => by
    rw [ent, List.getElem?_cons_succ, List.getElem?_cons_succ, ent_get kv l (n + 1) j]
    congr 1
    funext p
    rw [show n + 1 + j = n + (j + 1) by omega]
theorem ent_modify (c : κ) (v : Value) : ∀ (l : List (κ × Value)) (n j : Nat) (u : Value), ix l c = some (j, u) → (ent kv n l).modify j (fun e => { e with key := kv c, val := v }) = ent kv n (put l c v) ∧ (put l c v).length = l.length
  | x :: l, n, j, u, h => by
    rw [ix] at h
    rw [put]
    split at h
    · rename_i h1
      cases h
      rw [if_pos h1]
      exact ⟨rfl, rfl⟩
    · rename_i h1
      rw [if_neg h1]
      cases hx : ix l c with
      | none => rw [hx] at h; cases h
      | some p =>
        rw [hx] at h
        cases h
        obtain ⟨e1, e2⟩ := ent_modify c v l (n + 1) p.1 p.2 hx
        refine ⟨?_, by rw [List.length_cons, e2, List.length_cons]⟩
        rw [ent, ent, ← e1]
        rfl
theorem heap_set_obj {w : World} {r : Nat} (o : Obj) (hr : r < w.heap.size) : ({ w with heap := w.heap.setIfInBounds r o } : World).heap[r]? = some o ∧ w.grownBy { w with heap := w.heap.setIfInBounds r o } (some r) := by
  refine ⟨by simp [hr], rfl, rfl, rfl, by simp, fun k hk hne => ?_⟩
  have : ¬ r = k := fun e => hne (by rw [e])
  simp [Array.getElem?_setIfInBounds, this]
/-- A store. -/
theorem run_mapUpdate {mt kt vt : TypeId} (hk : KeyTy P kt kv) (hm : P.underlying mt = some (.map kt vt)) (c : κ) (v : Value) (r : Nat) (l : List (κ × Value)) (w : World) (hb : MB kv w r l) :
    ∃ w', (Instr.mapUpdate mt (.map (some r)) (kv c) v).run P w = .ok () w' ∧ w' = { w with heap := w.heap.setIfInBounds r (.map (ent kv 0 (put l c v)).toArray (put l c v).length) } ∧ MB kv w' r (put l c v) ∧ w.grownBy w' (some r) := by
  have hg := MapKept.run_getObj_map (P := P) hb
  have hf := run_findKey hk c w l
  have hst := MapKept.run_setObj_map (P := P) (.map (ent kv 0 (put l c v)).toArray (put l c v).length) hb
  obtain ⟨h1, h2⟩ := heap_set_obj (.map (ent kv 0 (put l c v)).toArray (put l c v).length) hb.lt
  refine ⟨_, ?_, rfl, h1, h2⟩
  cases hx : ix l c with
  | none =>
    rw [hx] at hf
    have hp := put_new l c v (ix_none hx)
    have e : (ent kv 0 l).toArray.push { key := kv c, val := v, born := l.length } = (ent kv 0 (put l c v)).toArray := by
      rw [hp, ent_app, Nat.zero_add]
      simp [ent]
    have e2 : l.length + 1 = (put l c v).length := by rw [hp]; simp
    simp only [Instr.mapUpdate, Sem.run_bind, run_underlying hm, hg, hk.ok, hf, Result.andThen_ok]
    rw [e, e2]
    exact hst
  | some p =>
    rw [hx] at hf
    obtain ⟨e1, e2⟩ := ent_modify (kv := kv) c v l 0 p.1 p.2 hx
    have hget : (ent kv 0 l).toArray[p.1]? = some { key := kv c, val := p.2, born := 0 + p.1 } := by
      rw [List.getElem?_toArray, ent_get, ix_get l c p.1 p.2 hx]
      rfl
    have hky : (Instr.keyThatStays (kv c) (kv c)).run P w = .ok (kv c) w := by simp [Instr.keyThatStays, hk.same]
    have em : (ent kv 0 l).toArray.modify p.1 (fun e => { e with key := kv c, val := v }) = (ent kv 0 (put l c v)).toArray := by
      rw [← e1]
      apply Array.toList_inj.1
      simp
    simp only [Instr.mapUpdate, Sem.run_bind, run_underlying hm, hg, hk.ok, hf, Result.andThen_ok, hget, Option.map_some, Option.getD_some, hky]
    rw [em, ← e2]
    rw [e2] at hst ⊢
    exact hst
/-- A map is made. -/
theorem MB.new (kv : κ → Value) (w : World) : MB kv (w.alloc (.map #[] 0)) w.heap.size [] := by
  exact heap_alloc_new w _
end SMap
end Go.Proofs.Ytonmojinijpneaa
end
section
/- The keys of a queue's maps. -/
namespace Go.Proofs.Ytonmojinijpneaa
open Go Go.RowKit Go.Lib
set_option linter.unusedVariables false
set_option linter.unusedSimpArgs false
namespace Qu
theorem str_ne {a b : ByteArray} (h : ¬ a = b) : (a.toList == b.toList) = false := by
  rw [beq_eq_false_iff_ne]
  intro e
  apply h
  rw [ByteArray.toList_eq, ByteArray.toList_eq] at e
  exact ByteArray.ext (Array.toList_inj.1 e)
theorem str_eq (a : ByteArray) : (a.toList == a.toList) = true := by simp
def chV (x : Chan) : Value := .agg #[.string x.key, .int .i64 x.fr, .int .i64 x.to]
set_option maxRecDepth 100000 in
theorem run_eqChan (x y : Chan) (w : World) : (Op.equal 95 (chV x) (chV y)).run Try.prog w = .ok (decide (x = y)) w := by
  have u_int := Try.underlying3
  have a_int := Try.isAgg3
  have z_int := Try.sizeOf3
  have u_str := Try.underlying9
  have a_str := Try.isAgg9
  have z_str := Try.sizeOf9
  have hS : Try.prog.underlying 95 = some (.struct (Try.prog.fieldsOf 95)) := by kernel_rfl
  have hp : Try.prog.stoodInHeld 95 = false := by kernel_rfl
  obtain ⟨xkey, xfr, xto⟩ := x
  obtain ⟨ykey, yfr, yto⟩ := y
  unfold Op.equal Op.maxDepth chV
  rw [show (10000 : Nat) = 9999 + 1 from rfl, run_equalIn_agg w 9999 95 _ _ hS hp]
  simp only [Program.fieldsOf, Try.underlying95]
  clear hS hp
  by_cases hkey : xkey = ykey
  rotate_left
  · have e : decide ((⟨xkey, xfr, xto⟩ : Chan) = ⟨ykey, yfr, yto⟩) = false := decide_eq_false fun h => hkey (by injection h)
    rw [e]
    have hs := str_ne hkey
    go_simp
  by_cases hfr : xfr = yfr
  rotate_left
  · have e : decide ((⟨xkey, xfr, xto⟩ : Chan) = ⟨ykey, yfr, yto⟩) = false := decide_eq_false fun h => hfr (by injection h)
    rw [e]
    go_simp
  by_cases hto : xto = yto
  rotate_left
  · have e : decide ((⟨xkey, xfr, xto⟩ : Chan) = ⟨ykey, yfr, yto⟩) = false := decide_eq_false fun h => hto (by injection h)
    rw [e]
    go_simp
  subst hkey hfr hto
  rw [decide_eq_true rfl]
  have hs := str_eq xkey
  go_simp
set_option maxRecDepth 100000 in
theorem run_checkChan (x : Chan) (b : Bool) (w : World) : (Instr.checkKey b 10000 95 (chV x)).run Try.prog w = .ok () w := by
  have u_int := Try.underlying3
  have a_int := Try.isAgg3
  have z_int := Try.sizeOf3
  have u_str := Try.underlying9
  have a_str := Try.isAgg9
  have z_str := Try.sizeOf9
  rw [show (10000 : Nat) = 9998 + 1 + 1 from rfl]
  unfold Instr.checkKey chV
  simp only [Sem.run_bind, run_underlying Try.underlying95, Result.andThen_ok]
  unfold Instr.checkKey
  go_simp
theorem keyChan : SMap.KeyTy Try.prog 95 chV where
  und := ⟨_, Try.underlying95⟩
  eq := run_eqChan
  ok := run_checkChan
  same := fun x => by simp [chV, Instr.sameBits, MapKept.bytes_beq]
def whV (x : Who) : Value := .agg #[.int .i64 x.fr, .int .i64 x.ca]
set_option maxRecDepth 100000 in
theorem run_eqWho (x y : Who) (w : World) : (Op.equal 111 (whV x) (whV y)).run Try.prog w = .ok (decide (x = y)) w := by
  have u_int := Try.underlying3
  have a_int := Try.isAgg3
  have z_int := Try.sizeOf3
  have hS : Try.prog.underlying 111 = some (.struct (Try.prog.fieldsOf 111)) := by kernel_rfl
  have hp : Try.prog.stoodInHeld 111 = false := by kernel_rfl
  obtain ⟨xfr, xca⟩ := x
  obtain ⟨yfr, yca⟩ := y
  unfold Op.equal Op.maxDepth whV
  rw [show (10000 : Nat) = 9999 + 1 from rfl, run_equalIn_agg w 9999 111 _ _ hS hp]
  simp only [Program.fieldsOf, Try.underlying111]
  clear hS hp
  by_cases hfr : xfr = yfr
  rotate_left
  · have e : decide ((⟨xfr, xca⟩ : Who) = ⟨yfr, yca⟩) = false := decide_eq_false fun h => hfr (by injection h)
    rw [e]
    go_simp
  by_cases hca : xca = yca
  rotate_left
  · have e : decide ((⟨xfr, xca⟩ : Who) = ⟨yfr, yca⟩) = false := decide_eq_false fun h => hca (by injection h)
    rw [e]
    go_simp
  subst hfr hca
  rw [decide_eq_true rfl]
  go_simp
set_option maxRecDepth 100000 in
theorem run_checkWho (x : Who) (b : Bool) (w : World) : (Instr.checkKey b 10000 111 (whV x)).run Try.prog w = .ok () w := by
  have u_int := Try.underlying3
  have a_int := Try.isAgg3
  have z_int := Try.sizeOf3
  rw [show (10000 : Nat) = 9998 + 1 + 1 from rfl]
  unfold Instr.checkKey whV
  simp only [Sem.run_bind, run_underlying Try.underlying111, Result.andThen_ok]
  unfold Instr.checkKey
  go_simp
theorem keyWho : SMap.KeyTy Try.prog 111 whV where
  und := ⟨_, Try.underlying111⟩
  eq := run_eqWho
  ok := run_checkWho
  same := fun x => by simp [whV, Instr.sameBits, MapKept.bytes_beq]
def inV (x : Inb) : Value := .agg #[.string x.key, .int .i64 x.to]
set_option maxRecDepth 100000 in
theorem run_eqInb (x y : Inb) (w : World) : (Op.equal 114 (inV x) (inV y)).run Try.prog w = .ok (decide (x = y)) w := by
  have u_int := Try.underlying3
  have a_int := Try.isAgg3
  have z_int := Try.sizeOf3
  have u_str := Try.underlying9
  have a_str := Try.isAgg9
  have z_str := Try.sizeOf9
  have hS : Try.prog.underlying 114 = some (.struct (Try.prog.fieldsOf 114)) := by kernel_rfl
  have hp : Try.prog.stoodInHeld 114 = false := by kernel_rfl
  obtain ⟨xkey, xto⟩ := x
  obtain ⟨ykey, yto⟩ := y
  unfold Op.equal Op.maxDepth inV
  rw [show (10000 : Nat) = 9999 + 1 from rfl, run_equalIn_agg w 9999 114 _ _ hS hp]
  simp only [Program.fieldsOf, Try.underlying114]
  clear hS hp
  by_cases hkey : xkey = ykey
  rotate_left
  · have e : decide ((⟨xkey, xto⟩ : Inb) = ⟨ykey, yto⟩) = false := decide_eq_false fun h => hkey (by injection h)
    rw [e]
    have hs := str_ne hkey
    go_simp
  by_cases hto : xto = yto
  rotate_left
  · have e : decide ((⟨xkey, xto⟩ : Inb) = ⟨ykey, yto⟩) = false := decide_eq_false fun h => hto (by injection h)
    rw [e]
    go_simp
  subst hkey hto
  rw [decide_eq_true rfl]
  have hs := str_eq xkey
  go_simp
set_option maxRecDepth 100000 in
theorem run_checkInb (x : Inb) (b : Bool) (w : World) : (Instr.checkKey b 10000 114 (inV x)).run Try.prog w = .ok () w := by
  have u_int := Try.underlying3
  have a_int := Try.isAgg3
  have z_int := Try.sizeOf3
  have u_str := Try.underlying9
  have a_str := Try.isAgg9
  have z_str := Try.sizeOf9
  rw [show (10000 : Nat) = 9998 + 1 + 1 from rfl]
  unfold Instr.checkKey inV
  simp only [Sem.run_bind, run_underlying Try.underlying114, Result.andThen_ok]
  unfold Instr.checkKey
  go_simp
theorem keyInb : SMap.KeyTy Try.prog 114 inV where
  und := ⟨_, Try.underlying114⟩
  eq := run_eqInb
  ok := run_checkInb
  same := fun x => by simp [inV, Instr.sameBits, MapKept.bytes_beq]
end Qu
end Go.Proofs.Ytonmojinijpneaa
end
