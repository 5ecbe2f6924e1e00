/- A call into which the fields that a kind uses are put, one by one. -/
import Derived.Test.YthcoelkpiflfeaaDoorCtT
import Derived.Test.YthcoelkpiflfeaaDoorCalE
namespace Go.Proofs.YthcoelkpiflfeaaDoor
open Go Go.RowKit Go.Lib Go.Proofs.YthcoelkpiflfeaaDoor.Grp
set_option linter.unusedVariables false
set_option linter.unusedSimpArgs false
namespace Cal
/-- The first n fields, where the kind of c uses them, are those of c. -/
structure Mix (n : Nat) (m c : Cl) : Prop where
  k : m.k = c.k
  co : 0 < n → hasF c.k 0 = true → m.co = c.co
  pe : 1 < n → hasF c.k 1 = true → m.pe = c.pe
  tg : 2 < n → hasF c.k 2 = true → m.tg = c.tg
  va : 3 < n → hasF c.k 3 = true → m.va = c.va
  sz : 4 < n → hasF c.k 4 = true → m.sz = c.sz
  ro : 5 < n → hasF c.k 5 = true → m.ro = c.ro
  op : 6 < n → hasF c.k 6 = true → m.op = c.op
  rq : 7 < n → hasF c.k 7 = true → m.rq = c.rq
  cl : 8 < n → hasF c.k 8 = true → m.cl = c.cl
  ky : 8 < n → hasF c.k 8 = true → m.ky = c.ky
theorem Mix.agr {m c : Cl} (h : Mix 9 m c) : Agr m c :=
  ⟨h.k, fun e => h.co (by omega) (by rw [← h.k]; exact e), fun e => h.pe (by omega) (by rw [← h.k]; exact e), fun e => h.tg (by omega) (by rw [← h.k]; exact e), fun e => h.va (by omega) (by rw [← h.k]; exact e), fun e => h.sz (by omega) (by rw [← h.k]; exact e), fun e => h.ro (by omega) (by rw [← h.k]; exact e), fun e => h.op (by omega) (by rw [← h.k]; exact e), fun e => h.rq (by omega) (by rw [← h.k]; exact e), fun e => h.cl (by omega) (by rw [← h.k]; exact e), fun e => h.ky (by omega) (by rw [← h.k]; exact e)⟩
theorem Mix.skip {n : Nat} {m c : Cl} (h : Mix n m c) (hn : hasF c.k (n : Int) = false) : Mix (n + 1) m c := by
  have ne : ∀ i : Nat, i < n + 1 → hasF c.k (i : Int) = true → i < n := fun i hi he => by
    by_cases h : i = n
    · rw [h, hn] at he; cases he
    · omega
  exact ⟨h.k, fun hl e => h.co (ne 0 hl e) e, fun hl e => h.pe (ne 1 hl e) e, fun hl e => h.tg (ne 2 hl e) e, fun hl e => h.va (ne 3 hl e) e, fun hl e => h.sz (ne 4 hl e) e, fun hl e => h.ro (ne 5 hl e) e, fun hl e => h.op (ne 6 hl e) e, fun hl e => h.rq (ne 7 hl e) e, fun hl e => h.cl (ne 8 hl e) e, fun hl e => h.ky (ne 8 hl e) e⟩
theorem Mix.set0 {m c : Cl} (h : Mix 0 m c) : Mix 1 { m with co := c.co } c :=
  ⟨h.k, fun _ _ => rfl, fun hl => absurd hl (by omega), fun hl => absurd hl (by omega), fun hl => absurd hl (by omega), fun hl => absurd hl (by omega), fun hl => absurd hl (by omega), fun hl => absurd hl (by omega), fun hl => absurd hl (by omega), fun hl => absurd hl (by omega), fun hl => absurd hl (by omega)⟩
theorem Mix.set1 {m c : Cl} (h : Mix 1 m c) : Mix 2 { m with pe := c.pe } c :=
  ⟨h.k, fun _ e => h.co (by omega) e, fun _ _ => rfl, fun hl => absurd hl (by omega), fun hl => absurd hl (by omega), fun hl => absurd hl (by omega), fun hl => absurd hl (by omega), fun hl => absurd hl (by omega), fun hl => absurd hl (by omega), fun hl => absurd hl (by omega), fun hl => absurd hl (by omega)⟩
theorem Mix.set2 {m c : Cl} (h : Mix 2 m c) : Mix 3 { m with tg := c.tg } c :=
  ⟨h.k, fun _ e => h.co (by omega) e, fun _ e => h.pe (by omega) e, fun _ _ => rfl, fun hl => absurd hl (by omega), fun hl => absurd hl (by omega), fun hl => absurd hl (by omega), fun hl => absurd hl (by omega), fun hl => absurd hl (by omega), fun hl => absurd hl (by omega), fun hl => absurd hl (by omega)⟩
theorem Mix.set3 {m c : Cl} (h : Mix 3 m c) : Mix 4 { m with va := c.va } c :=
  ⟨h.k, fun _ e => h.co (by omega) e, fun _ e => h.pe (by omega) e, fun _ e => h.tg (by omega) e, fun _ _ => rfl, fun hl => absurd hl (by omega), fun hl => absurd hl (by omega), fun hl => absurd hl (by omega), fun hl => absurd hl (by omega), fun hl => absurd hl (by omega), fun hl => absurd hl (by omega)⟩
theorem Mix.set4 {m c : Cl} (h : Mix 4 m c) : Mix 5 { m with sz := c.sz } c :=
  ⟨h.k, fun _ e => h.co (by omega) e, fun _ e => h.pe (by omega) e, fun _ e => h.tg (by omega) e, fun _ e => h.va (by omega) e, fun _ _ => rfl, fun hl => absurd hl (by omega), fun hl => absurd hl (by omega), fun hl => absurd hl (by omega), fun hl => absurd hl (by omega), fun hl => absurd hl (by omega)⟩
theorem Mix.set5 {m c : Cl} (h : Mix 5 m c) : Mix 6 { m with ro := c.ro } c :=
  ⟨h.k, fun _ e => h.co (by omega) e, fun _ e => h.pe (by omega) e, fun _ e => h.tg (by omega) e, fun _ e => h.va (by omega) e, fun _ e => h.sz (by omega) e, fun _ _ => rfl, fun hl => absurd hl (by omega), fun hl => absurd hl (by omega), fun hl => absurd hl (by omega), fun hl => absurd hl (by omega)⟩
theorem Mix.set6 {m c : Cl} (h : Mix 6 m c) : Mix 7 { m with op := c.op } c :=
  ⟨h.k, fun _ e => h.co (by omega) e, fun _ e => h.pe (by omega) e, fun _ e => h.tg (by omega) e, fun _ e => h.va (by omega) e, fun _ e => h.sz (by omega) e, fun _ e => h.ro (by omega) e, fun _ _ => rfl, fun hl => absurd hl (by omega), fun hl => absurd hl (by omega), fun hl => absurd hl (by omega)⟩
theorem Mix.set7 {m c : Cl} (h : Mix 7 m c) : Mix 8 { m with rq := c.rq } c :=
  ⟨h.k, fun _ e => h.co (by omega) e, fun _ e => h.pe (by omega) e, fun _ e => h.tg (by omega) e, fun _ e => h.va (by omega) e, fun _ e => h.sz (by omega) e, fun _ e => h.ro (by omega) e, fun _ e => h.op (by omega) e, fun _ _ => rfl, fun hl => absurd hl (by omega), fun hl => absurd hl (by omega)⟩
theorem Mix.set8 {m c : Cl} (h : Mix 8 m c) : Mix 9 { m with cl := c.cl, ky := c.ky } c :=
  ⟨h.k, fun _ e => h.co (by omega) e, fun _ e => h.pe (by omega) e, fun _ e => h.tg (by omega) e, fun _ e => h.va (by omega) e, fun _ e => h.sz (by omega) e, fun _ e => h.ro (by omega) e, fun _ e => h.op (by omega) e, fun _ e => h.rq (by omega) e, fun _ _ => rfl, fun _ _ => rfl⟩
theorem Mix.half {m c : Cl} (h : Mix 8 m c) : Mix 8 { m with cl := c.cl } c :=
  ⟨h.k, fun _ e => h.co (by omega) e, fun _ e => h.pe (by omega) e, fun _ e => h.tg (by omega) e, fun _ e => h.va (by omega) e, fun _ e => h.sz (by omega) e, fun _ e => h.ro (by omega) e, fun _ e => h.op (by omega) e, fun _ e => h.rq (by omega) e, fun hl => absurd hl (by omega), fun hl => absurd hl (by omega)⟩
/-- The world in which the mixed call m lies at block M, the first n fields put in. -/
structure Mid (n : Nat) (w6 wx : World) (B8 M K U : Nat) (c kk uu : Cl) (rk ru : Option Addr) (ck du : Nat) (m : Cl) (rm : Option Addr) (cm : Nat) : Prop where
  mix : Mix n m c
  row : ∀ w', Below w6.heap.size w6 w' → NRow w' rm m.rq
  cap : m.rq.length ≤ cm
  len : m.rq.length ≤ 60
  op : 0 ≤ m.op ∧ m.op ≤ 255
  box : Blk wx M 24 #[.int .u8 m.k, .int .i64 m.co, .int .i64 m.pe, .int .i64 m.tg, .int .i64 m.va, .int .i64 m.sz, .int .i64 m.ro, .int .u8 m.op, .slice rm m.rq.length cm, .int .i64 m.cl, .int .i64 m.ky]
  low : Below w6.heap.size w6 wx
  kbox : Blk wx K 24 #[.int .u8 kk.k, .int .i64 kk.co, .int .i64 kk.pe, .int .i64 kk.tg, .int .i64 kk.va, .int .i64 kk.sz, .int .i64 kk.ro, .int .u8 kk.op, .slice rk kk.rq.length ck, .int .i64 kk.cl, .int .i64 kk.ky]
  krow : wx.ownsRow B8 3 1 (.slice rk kk.rq.length ck) kk.rq.length (i64s kk.rq)
  ubox : Blk wx U 24 #[.int .u8 uu.k, .int .i64 uu.co, .int .i64 uu.pe, .int .i64 uu.tg, .int .i64 uu.va, .int .i64 uu.sz, .int .i64 uu.ro, .int .u8 uu.op, .slice ru uu.rq.length du, .int .i64 uu.cl, .int .i64 uu.ky]
  m6 : w6.heap.size ≤ M
  m8 : M < B8
  km : K ≠ M
  um : U ≠ M
theorem Mid.drew {n : Nat} {w6 wx : World} {B8 M K U : Nat} {c kk uu : Cl} {rk ru : Option Addr} {ck du : Nat} {m : Cl} {rm : Option Addr} {cm : Nat} (h : Mid n w6 wx B8 M K U c kk uu rk ru ck du m rm cm) : Mid n w6 wx.drew B8 M K U c kk uu rk ru ck du m rm cm :=
  have hb : Below wx.heap.size wx wx.drew := (Below.refl _ _).drew
  ⟨h.mix, h.row, h.cap, h.len, h.op, h.box.below hb h.box.lt, h.low.trans (hb.mono h.low.size), h.kbox.below hb h.kbox.lt, own_belowR h.krow hb, h.ubox.below hb h.ubox.lt, h.m6, h.m8, h.km, h.um⟩
theorem Mid.skip {n : Nat} {w6 wx : World} {B8 M K U : Nat} {c kk uu : Cl} {rk ru : Option Addr} {ck du : Nat} {m : Cl} {rm : Option Addr} {cm : Nat} (h : Mid n w6 wx B8 M K U c kk uu rk ru ck du m rm cm) (hn : hasF c.k (n : Int) = false) : Mid (n + 1) w6 wx B8 M K U c kk uu rk ru ck du m rm cm :=
  ⟨h.mix.skip hn, h.row, h.cap, h.len, h.op, h.box, h.low, h.kbox, h.krow, h.ubox, h.m6, h.m8, h.km, h.um⟩
theorem Mid.put {n n' : Nat} {w6 wx : World} {B8 M K U : Nat} {c kk uu : Cl} {rk ru : Option Addr} {ck du : Nat} {m m' : Cl} {rm rm' : Option Addr} {cm cm' : Nat} (h : Mid n w6 wx B8 M K U c kk uu rk ru ck du m rm cm) (i : Nat) (v : Value) (hm : Mix n' m' c)
    (hv : (#[.int .u8 m.k, .int .i64 m.co, .int .i64 m.pe, .int .i64 m.tg, .int .i64 m.va, .int .i64 m.sz, .int .i64 m.ro, .int .u8 m.op, .slice rm m.rq.length cm, .int .i64 m.cl, .int .i64 m.ky] : Array Value).setIfInBounds i v = #[.int .u8 m'.k, .int .i64 m'.co, .int .i64 m'.pe, .int .i64 m'.tg, .int .i64 m'.va, .int .i64 m'.sz, .int .i64 m'.ro, .int .u8 m'.op, .slice rm' m'.rq.length cm', .int .i64 m'.cl, .int .i64 m'.ky])
    (hr : ∀ w', Below w6.heap.size w6 w' → NRow w' rm' m'.rq) (hc : m'.rq.length ≤ cm') (hl : m'.rq.length ≤ 60) (ho : 0 ≤ m'.op ∧ m'.op ≤ 255) :
    Mid n' w6 (wx.setCell ⟨M, i, none⟩ v) B8 M K U c kk uu rk ru ck du m' rm' cm' :=
  ⟨hm, hr, hc, hl, ho, hv ▸ h.box.set_ i v, h.low.setCell (p := ⟨M, i, none⟩) h.m6 v, h.kbox.far (p := ⟨M, i, none⟩) h.km v, own_set_farK (p := ⟨M, i, none⟩) h.krow h.m8 v, h.ubox.far (p := ⟨M, i, none⟩) h.um v, h.m6, h.m8, h.km, h.um⟩
theorem Mid.put0 {w6 wx : World} {B8 M K U : Nat} {c kk uu : Cl} {rk ru : Option Addr} {ck du : Nat} {m : Cl} {rm : Option Addr} {cm : Nat} (h : Mid 0 w6 wx B8 M K U c kk uu rk ru ck du m rm cm) : ∃ m' rm' cm', Mid 1 w6 (wx.setCell ⟨M, 1, none⟩ (.int .i64 c.co)) B8 M K U c kk uu rk ru ck du m' rm' cm' :=
  ⟨{ m with co := c.co }, rm, cm, h.put 1 _ h.mix.set0 rfl h.row h.cap h.len h.op⟩
theorem Mid.put1 {w6 wx : World} {B8 M K U : Nat} {c kk uu : Cl} {rk ru : Option Addr} {ck du : Nat} {m : Cl} {rm : Option Addr} {cm : Nat} (h : Mid 1 w6 wx B8 M K U c kk uu rk ru ck du m rm cm) : ∃ m' rm' cm', Mid 2 w6 (wx.setCell ⟨M, 2, none⟩ (.int .i64 c.pe)) B8 M K U c kk uu rk ru ck du m' rm' cm' :=
  ⟨{ m with pe := c.pe }, rm, cm, h.put 2 _ h.mix.set1 rfl h.row h.cap h.len h.op⟩
theorem Mid.put2 {w6 wx : World} {B8 M K U : Nat} {c kk uu : Cl} {rk ru : Option Addr} {ck du : Nat} {m : Cl} {rm : Option Addr} {cm : Nat} (h : Mid 2 w6 wx B8 M K U c kk uu rk ru ck du m rm cm) : ∃ m' rm' cm', Mid 3 w6 (wx.setCell ⟨M, 3, none⟩ (.int .i64 c.tg)) B8 M K U c kk uu rk ru ck du m' rm' cm' :=
  ⟨{ m with tg := c.tg }, rm, cm, h.put 3 _ h.mix.set2 rfl h.row h.cap h.len h.op⟩
theorem Mid.put3 {w6 wx : World} {B8 M K U : Nat} {c kk uu : Cl} {rk ru : Option Addr} {ck du : Nat} {m : Cl} {rm : Option Addr} {cm : Nat} (h : Mid 3 w6 wx B8 M K U c kk uu rk ru ck du m rm cm) : ∃ m' rm' cm', Mid 4 w6 (wx.setCell ⟨M, 4, none⟩ (.int .i64 c.va)) B8 M K U c kk uu rk ru ck du m' rm' cm' :=
  ⟨{ m with va := c.va }, rm, cm, h.put 4 _ h.mix.set3 rfl h.row h.cap h.len h.op⟩
theorem Mid.put4 {w6 wx : World} {B8 M K U : Nat} {c kk uu : Cl} {rk ru : Option Addr} {ck du : Nat} {m : Cl} {rm : Option Addr} {cm : Nat} (h : Mid 4 w6 wx B8 M K U c kk uu rk ru ck du m rm cm) : ∃ m' rm' cm', Mid 5 w6 (wx.setCell ⟨M, 5, none⟩ (.int .i64 c.sz)) B8 M K U c kk uu rk ru ck du m' rm' cm' :=
  ⟨{ m with sz := c.sz }, rm, cm, h.put 5 _ h.mix.set4 rfl h.row h.cap h.len h.op⟩
theorem Mid.put5 {w6 wx : World} {B8 M K U : Nat} {c kk uu : Cl} {rk ru : Option Addr} {ck du : Nat} {m : Cl} {rm : Option Addr} {cm : Nat} (h : Mid 5 w6 wx B8 M K U c kk uu rk ru ck du m rm cm) : ∃ m' rm' cm', Mid 6 w6 (wx.setCell ⟨M, 6, none⟩ (.int .i64 c.ro)) B8 M K U c kk uu rk ru ck du m' rm' cm' :=
  ⟨{ m with ro := c.ro }, rm, cm, h.put 6 _ h.mix.set5 rfl h.row h.cap h.len h.op⟩
theorem Mid.put6 {w6 wx : World} {B8 M K U : Nat} {c kk uu : Cl} {rk ru : Option Addr} {ck du : Nat} {m : Cl} {rm : Option Addr} {cm : Nat} (h : Mid 6 w6 wx B8 M K U c kk uu rk ru ck du m rm cm) (ho : 0 ≤ c.op ∧ c.op ≤ 255) : ∃ m' rm' cm', Mid 7 w6 (wx.setCell ⟨M, 7, none⟩ (.int .u8 c.op)) B8 M K U c kk uu rk ru ck du m' rm' cm' :=
  ⟨{ m with op := c.op }, rm, cm, h.put 7 _ h.mix.set6 rfl h.row h.cap h.len ho⟩
theorem Mid.put7 {w6 wx : World} {B8 M K U : Nat} {c kk uu : Cl} {rk ru : Option Addr} {ck du : Nat} {m : Cl} {rm : Option Addr} {cm : Nat} (h : Mid 7 w6 wx B8 M K U c kk uu rk ru ck du m rm cm) {ra : Option Addr} {rc : Nat} (hr : ∀ w', Below w6.heap.size w6 w' → NRow w' ra c.rq) (hc : c.rq.length ≤ rc) (hl : c.rq.length ≤ 60) : ∃ m' rm' cm', Mid 8 w6 (wx.setCell ⟨M, 8, none⟩ (.slice ra c.rq.length rc)) B8 M K U c kk uu rk ru ck du m' rm' cm' :=
  ⟨{ m with rq := c.rq }, ra, rc, h.put (m' := { m with rq := c.rq }) 8 _ h.mix.set7 rfl hr hc hl h.op⟩
theorem Mid.put8 {w6 wx : World} {B8 M K U : Nat} {c kk uu : Cl} {rk ru : Option Addr} {ck du : Nat} {m : Cl} {rm : Option Addr} {cm : Nat} (h : Mid 8 w6 wx B8 M K U c kk uu rk ru ck du m rm cm) : ∃ m' rm' cm', Mid 9 w6 ((wx.setCell ⟨M, 9, none⟩ (.int .i64 c.cl)).setCell ⟨M, 10, none⟩ (.int .i64 c.ky)) B8 M K U c kk uu rk ru ck du m' rm' cm' :=
  have h1 := h.put (m' := { m with cl := c.cl }) 9 (.int .i64 c.cl) h.mix.half rfl h.row h.cap h.len h.op
  have h2 : Mix 9 { m with cl := c.cl, ky := c.ky } c := h.mix.set8
  ⟨{ m with cl := c.cl, ky := c.ky }, rm, cm, h1.put 10 _ h2 rfl h.row h.cap h.len h.op⟩
end Cal
end Go.Proofs.YthcoelkpiflfeaaDoor
