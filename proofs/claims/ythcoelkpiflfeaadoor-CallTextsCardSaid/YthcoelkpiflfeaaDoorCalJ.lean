/- A call, trim, by the document. -/
import Derived.Test.YthcoelkpiflfeaaDoorRows
import Derived.Test.YthcoelkpiflfeaaDoorCalI
namespace Go.Proofs.YthcoelkpiflfeaaDoor
open Go Go.RowKit Go.Lib Go.Proofs.YthcoelkpiflfeaaDoor.Grp
set_option linter.unusedVariables false
set_option linter.unusedSimpArgs false
namespace Cal
set_option maxRecDepth 100000 in
set_option maxHeartbeats 8000000 in
theorem trimB_reqs (c : Cl) (ra : Option Addr) (rc : Nat) (w : World) (hS : usesS c.k = #[108]) (hr : NRow w ra c.rq) (hl : c.rq.length ≤ 100000) :
    Calls Tryd.prog 26 #[.agg #[.int .u8 c.k, .int .i64 c.co, .int .i64 c.pe, .int .i64 c.tg, .int .i64 c.va, .int .i64 c.sz, .int .i64 c.ro, .int .u8 c.op, .slice ra c.rq.length rc, .int .i64 c.cl, .int .i64 c.ky]] w fun e w' => ∃ rb rd, e = .returned (.agg (({ zeroC with k := c.k, rq := c.rq } : Cl).A rb rd)) ∧ w'.ownsRow w.heap.size 3 1 (.slice rb c.rq.length rd) c.rq.length (i64s c.rq) ∧ Below w.heap.size w w' := by
  have US := hide (fun (w1 : World) => uses_b c.k w1)
  rw [hS] at US
  have eS : ((⟨#[108]⟩ : ByteArray) == (⟨#[]⟩ : ByteArray)) = false := by rfl
  have H99 := hide (fun w1 => has_yes hS 99 99 rfl (b := false) (by decide) w1)
  have H112 := hide (fun w1 => has_yes hS 112 112 rfl (b := false) (by decide) w1)
  have H116 := hide (fun w1 => has_yes hS 116 116 rfl (b := false) (by decide) w1)
  have H118 := hide (fun w1 => has_yes hS 118 118 rfl (b := false) (by decide) w1)
  have H115 := hide (fun w1 => has_yes hS 115 115 rfl (b := false) (by decide) w1)
  have H114 := hide (fun w1 => has_yes hS 114 114 rfl (b := false) (by decide) w1)
  have H111 := hide (fun w1 => has_yes hS 111 111 rfl (b := false) (by decide) w1)
  have H108 := hide (fun w1 => has_yes hS 108 108 rfl (b := true) (by decide) w1)
  have H107 := hide (fun w1 => has_yes hS 107 107 rfl (b := false) (by decide) w1)
  have b3 := (((Below.refl w.heap.size w).alloc (Nat.le_refl _) (.cells #[.int .u8 c.k, .int .i64 c.co, .int .i64 c.pe, .int .i64 c.tg, .int .i64 c.va, .int .i64 c.sz, .int .i64 c.ro, .int .u8 c.op, .slice ra c.rq.length rc, .int .i64 c.cl, .int .i64 c.ky] 24)).alloc (by simp) (.cells #[.int .u8 0, .int .i64 0, .int .i64 0, .int .i64 0, .int .i64 0, .int .i64 0, .int .i64 0, .int .u8 0, .slice none 0 0, .int .i64 0, .int .i64 0] 24)).alloc (by simp; omega) (.cells #[.int .u8 c.k, .int .i64 0, .int .i64 0, .int .i64 0, .int .i64 0, .int .i64 0, .int .i64 0, .int .u8 0, .slice none 0 0, .int .i64 0, .int .i64 0] 24)
  have e1 : (w.alloc (.cells #[.int .u8 c.k, .int .i64 c.co, .int .i64 c.pe, .int .i64 c.tg, .int .i64 c.va, .int .i64 c.sz, .int .i64 c.ro, .int .u8 c.op, .slice ra c.rq.length rc, .int .i64 c.cl, .int .i64 c.ky] 24)).heap.size = w.heap.size + 1 := by simp
  have e2 : ((w.alloc (.cells #[.int .u8 c.k, .int .i64 c.co, .int .i64 c.pe, .int .i64 c.tg, .int .i64 c.va, .int .i64 c.sz, .int .i64 c.ro, .int .u8 c.op, .slice ra c.rq.length rc, .int .i64 c.cl, .int .i64 c.ky] 24)).alloc (.cells #[.int .u8 0, .int .i64 0, .int .i64 0, .int .i64 0, .int .i64 0, .int .i64 0, .int .i64 0, .int .u8 0, .slice none 0 0, .int .i64 0, .int .i64 0] 24)).heap.size = w.heap.size + 2 := by simp
  have e3 : (((w.alloc (.cells #[.int .u8 c.k, .int .i64 c.co, .int .i64 c.pe, .int .i64 c.tg, .int .i64 c.va, .int .i64 c.sz, .int .i64 c.ro, .int .u8 c.op, .slice ra c.rq.length rc, .int .i64 c.cl, .int .i64 c.ky] 24)).alloc (.cells #[.int .u8 0, .int .i64 0, .int .i64 0, .int .i64 0, .int .i64 0, .int .i64 0, .int .i64 0, .int .u8 0, .slice none 0 0, .int .i64 0, .int .i64 0] 24)).alloc (.cells #[.int .u8 c.k, .int .i64 0, .int .i64 0, .int .i64 0, .int .i64 0, .int .i64 0, .int .i64 0, .int .u8 0, .slice none 0 0, .int .i64 0, .int .i64 0] 24)).heap.size = w.heap.size + 3 := by simp
  have k1 := Blk.new w 24 #[.int .u8 c.k, .int .i64 c.co, .int .i64 c.pe, .int .i64 c.tg, .int .i64 c.va, .int .i64 c.sz, .int .i64 c.ro, .int .u8 c.op, .slice ra c.rq.length rc, .int .i64 c.cl, .int .i64 c.ky]
  have k1b := k1.below ((Below.refl _ _).alloc (Nat.le_refl _) (.cells #[.int .u8 0, .int .i64 0, .int .i64 0, .int .i64 0, .int .i64 0, .int .i64 0, .int .i64 0, .int .u8 0, .slice none 0 0, .int .i64 0, .int .i64 0] 24)) k1.lt
  have k1c := k1b.below ((Below.refl _ _).alloc (Nat.le_refl _) (.cells #[.int .u8 c.k, .int .i64 0, .int .i64 0, .int .i64 0, .int .i64 0, .int .i64 0, .int .i64 0, .int .u8 0, .slice none 0 0, .int .i64 0, .int .i64 0] 24)) k1b.lt
  have k2 := Blk.new (w.alloc (.cells #[.int .u8 c.k, .int .i64 c.co, .int .i64 c.pe, .int .i64 c.tg, .int .i64 c.va, .int .i64 c.sz, .int .i64 c.ro, .int .u8 c.op, .slice ra c.rq.length rc, .int .i64 c.cl, .int .i64 c.ky] 24)) 24 #[.int .u8 0, .int .i64 0, .int .i64 0, .int .i64 0, .int .i64 0, .int .i64 0, .int .i64 0, .int .u8 0, .slice none 0 0, .int .i64 0, .int .i64 0]
  have k2b := k2.below ((Below.refl _ _).alloc (Nat.le_refl _) (.cells #[.int .u8 c.k, .int .i64 0, .int .i64 0, .int .i64 0, .int .i64 0, .int .i64 0, .int .i64 0, .int .u8 0, .slice none 0 0, .int .i64 0, .int .i64 0] 24)) k2.lt
  have k3 := Blk.new ((w.alloc (.cells #[.int .u8 c.k, .int .i64 c.co, .int .i64 c.pe, .int .i64 c.tg, .int .i64 c.va, .int .i64 c.sz, .int .i64 c.ro, .int .u8 c.op, .slice ra c.rq.length rc, .int .i64 c.cl, .int .i64 c.ky] 24)).alloc (.cells #[.int .u8 0, .int .i64 0, .int .i64 0, .int .i64 0, .int .i64 0, .int .i64 0, .int .i64 0, .int .u8 0, .slice none 0 0, .int .i64 0, .int .i64 0] 24)) 24 #[.int .u8 c.k, .int .i64 0, .int .i64 0, .int .i64 0, .int .i64 0, .int .i64 0, .int .i64 0, .int .u8 0, .slice none 0 0, .int .i64 0, .int .i64 0]
  rw [e1] at k2b
  rw [e2] at k3
  obtain ⟨w3, hw3⟩ : ∃ y, (((w.alloc (.cells #[.int .u8 c.k, .int .i64 c.co, .int .i64 c.pe, .int .i64 c.tg, .int .i64 c.va, .int .i64 c.sz, .int .i64 c.ro, .int .u8 c.op, .slice ra c.rq.length rc, .int .i64 c.cl, .int .i64 c.ky] 24)).alloc (.cells #[.int .u8 0, .int .i64 0, .int .i64 0, .int .i64 0, .int .i64 0, .int .i64 0, .int .i64 0, .int .u8 0, .slice none 0 0, .int .i64 0, .int .i64 0] 24)).alloc (.cells #[.int .u8 c.k, .int .i64 0, .int .i64 0, .int .i64 0, .int .i64 0, .int .i64 0, .int .i64 0, .int .u8 0, .slice none 0 0, .int .i64 0, .int .i64 0] 24)) = y := ⟨_, rfl⟩
  rw [hw3] at b3 k1c k2b k3 e3
  have ST3 : TrSt w w3 w3.heap.size c { zeroC with k := c.k } ra rc none 0 := ⟨k1c, k2b, k3, ⟨rfl, .inl ⟨rfl, rfl⟩⟩, b3, by omega, Nat.le_refl _⟩
  obtain ⟨A1, c1, w11, hrun, hc8, hf8, hgr, hst⟩ := ST3.reqs (hr.below ST3.bl) hl
  have y8 : w3.cell? ⟨w.heap.size, 8, none⟩ = some (.slice ra c.rq.length rc) := ST3.cbx.cell 8
  have S4 := hst.out
  have y0 : (w11.setCell ⟨w.heap.size + 2, 8, none⟩ (.slice A1 c.rq.length c1)).cell? ⟨w.heap.size, 0, none⟩ = some (.int .u8 c.k) := S4.cbx.cell 0
  have x0 : (w11.setCell ⟨w.heap.size + 2, 8, none⟩ (.slice A1 c.rq.length c1)).cell? ⟨w.heap.size + 2, 0, none⟩ = some (.int .u8 c.k) := S4.box.cell 0
  have x1 : (w11.setCell ⟨w.heap.size + 2, 8, none⟩ (.slice A1 c.rq.length c1)).cell? ⟨w.heap.size + 2, 1, none⟩ = some (.int .i64 0) := S4.box.cell 1
  have x2 : (w11.setCell ⟨w.heap.size + 2, 8, none⟩ (.slice A1 c.rq.length c1)).cell? ⟨w.heap.size + 2, 2, none⟩ = some (.int .i64 0) := S4.box.cell 2
  have x3 : (w11.setCell ⟨w.heap.size + 2, 8, none⟩ (.slice A1 c.rq.length c1)).cell? ⟨w.heap.size + 2, 3, none⟩ = some (.int .i64 0) := S4.box.cell 3
  have x4 : (w11.setCell ⟨w.heap.size + 2, 8, none⟩ (.slice A1 c.rq.length c1)).cell? ⟨w.heap.size + 2, 4, none⟩ = some (.int .i64 0) := S4.box.cell 4
  have x5 : (w11.setCell ⟨w.heap.size + 2, 8, none⟩ (.slice A1 c.rq.length c1)).cell? ⟨w.heap.size + 2, 5, none⟩ = some (.int .i64 0) := S4.box.cell 5
  have x6 : (w11.setCell ⟨w.heap.size + 2, 8, none⟩ (.slice A1 c.rq.length c1)).cell? ⟨w.heap.size + 2, 6, none⟩ = some (.int .i64 0) := S4.box.cell 6
  have x7 : (w11.setCell ⟨w.heap.size + 2, 8, none⟩ (.slice A1 c.rq.length c1)).cell? ⟨w.heap.size + 2, 7, none⟩ = some (.int .u8 0) := S4.box.cell 7
  have x8 : (w11.setCell ⟨w.heap.size + 2, 8, none⟩ (.slice A1 c.rq.length c1)).cell? ⟨w.heap.size + 2, 8, none⟩ = some (.slice A1 c.rq.length c1) := S4.box.cell 8
  have x9 : (w11.setCell ⟨w.heap.size + 2, 8, none⟩ (.slice A1 c.rq.length c1)).cell? ⟨w.heap.size + 2, 9, none⟩ = some (.int .i64 0) := S4.box.cell 9
  have x10 : (w11.setCell ⟨w.heap.size + 2, 8, none⟩ (.slice A1 c.rq.length c1)).cell? ⟨w.heap.size + 2, 10, none⟩ = some (.int .i64 0) := S4.box.cell 10
  have K : Blk (w11.setCell ⟨w.heap.size + 2, 8, none⟩ (.slice A1 c.rq.length c1)) (w.heap.size + 1) 24 #[.int .u8 0, .int .i64 0, .int .i64 0, .int .i64 0, .int .i64 0, .int .i64 0, .int .i64 0, .int .u8 0, .slice none 0 0, .int .i64 0, .int .i64 0] := S4.res
  have OW0 := S4.own
  have hlo : w.heap.size + 1 < w3.heap.size := by omega
  have hb1 : w.heap.size ≤ w.heap.size + 1 := Nat.le_succ _
  have f0 := K.frozen 0
  have d0 := K.cell 0
  have K0 := K.set_ 0 (.int .u8 c.k)
  have OW1 := own_set_farK (p := ⟨w.heap.size + 1, 0, none⟩) OW0 hlo (.int .u8 c.k)
  have f1 := K0.frozen 1
  have d1 := K0.cell 1
  have K1 := K0.set_ 1 (.int .i64 0)
  have OW2 := own_set_farK (p := ⟨w.heap.size + 1, 1, none⟩) OW1 hlo (.int .i64 0)
  have f2 := K1.frozen 2
  have d2 := K1.cell 2
  have K2 := K1.set_ 2 (.int .i64 0)
  have OW3 := own_set_farK (p := ⟨w.heap.size + 1, 2, none⟩) OW2 hlo (.int .i64 0)
  have f3 := K2.frozen 3
  have d3 := K2.cell 3
  have K3 := K2.set_ 3 (.int .i64 0)
  have OW4 := own_set_farK (p := ⟨w.heap.size + 1, 3, none⟩) OW3 hlo (.int .i64 0)
  have f4 := K3.frozen 4
  have d4 := K3.cell 4
  have K4 := K3.set_ 4 (.int .i64 0)
  have OW5 := own_set_farK (p := ⟨w.heap.size + 1, 4, none⟩) OW4 hlo (.int .i64 0)
  have f5 := K4.frozen 5
  have d5 := K4.cell 5
  have K5 := K4.set_ 5 (.int .i64 0)
  have OW6 := own_set_farK (p := ⟨w.heap.size + 1, 5, none⟩) OW5 hlo (.int .i64 0)
  have f6 := K5.frozen 6
  have d6 := K5.cell 6
  have K6 := K5.set_ 6 (.int .i64 0)
  have OW7 := own_set_farK (p := ⟨w.heap.size + 1, 6, none⟩) OW6 hlo (.int .i64 0)
  have f7 := K6.frozen 7
  have d7 := K6.cell 7
  have K7 := K6.set_ 7 (.int .u8 0)
  have OW8 := own_set_farK (p := ⟨w.heap.size + 1, 7, none⟩) OW7 hlo (.int .u8 0)
  have f8 := K7.frozen 8
  have d8 := K7.cell 8
  have K8 := K7.set_ 8 (.slice A1 c.rq.length c1)
  have OW9 := own_set_farK (p := ⟨w.heap.size + 1, 8, none⟩) OW8 hlo (.slice A1 c.rq.length c1)
  have f9 := K8.frozen 9
  have d9 := K8.cell 9
  have K9 := K8.set_ 9 (.int .i64 0)
  have OW10 := own_set_farK (p := ⟨w.heap.size + 1, 9, none⟩) OW9 hlo (.int .i64 0)
  have f10 := K9.frozen 10
  have d10 := K9.cell 10
  have K10 := K9.set_ 10 (.int .i64 0)
  have OW11 := own_set_farK (p := ⟨w.heap.size + 1, 10, none⟩) OW10 hlo (.int .i64 0)
  have u0 := K10.cell 0
  have u1 := K10.cell 1
  have u2 := K10.cell 2
  have u3 := K10.cell 3
  have u4 := K10.cell 4
  have u5 := K10.cell 5
  have u6 := K10.cell 6
  have u7 := K10.cell 7
  have u8 := K10.cell 8
  have u9 := K10.cell 9
  have u10 := K10.cell 10
  have FIN := hide (show ∃ rb' rd', (Ending.returned (.agg #[.int .u8 c.k, .int .i64 0, .int .i64 0, .int .i64 0, .int .i64 0, .int .i64 0, .int .i64 0, .int .u8 0, .slice A1 c.rq.length c1, .int .i64 0, .int .i64 0])) = .returned (.agg (({ zeroC with k := c.k, rq := c.rq } : Cl).A rb' rd')) ∧ ((((((((((((w11.setCell ⟨w.heap.size + 2, 8, none⟩ (.slice A1 c.rq.length c1)).setCell ⟨w.heap.size + 1, 0, none⟩ (.int .u8 c.k)).setCell ⟨w.heap.size + 1, 1, none⟩ (.int .i64 0)).setCell ⟨w.heap.size + 1, 2, none⟩ (.int .i64 0)).setCell ⟨w.heap.size + 1, 3, none⟩ (.int .i64 0)).setCell ⟨w.heap.size + 1, 4, none⟩ (.int .i64 0)).setCell ⟨w.heap.size + 1, 5, none⟩ (.int .i64 0)).setCell ⟨w.heap.size + 1, 6, none⟩ (.int .i64 0)).setCell ⟨w.heap.size + 1, 7, none⟩ (.int .u8 0)).setCell ⟨w.heap.size + 1, 8, none⟩ (.slice A1 c.rq.length c1)).setCell ⟨w.heap.size + 1, 9, none⟩ (.int .i64 0)).setCell ⟨w.heap.size + 1, 10, none⟩ (.int .i64 0)).ownsRow w.heap.size 3 1 (.slice rb' c.rq.length rd') c.rq.length (i64s c.rq) ∧ Below w.heap.size w ((((((((((((w11.setCell ⟨w.heap.size + 2, 8, none⟩ (.slice A1 c.rq.length c1)).setCell ⟨w.heap.size + 1, 0, none⟩ (.int .u8 c.k)).setCell ⟨w.heap.size + 1, 1, none⟩ (.int .i64 0)).setCell ⟨w.heap.size + 1, 2, none⟩ (.int .i64 0)).setCell ⟨w.heap.size + 1, 3, none⟩ (.int .i64 0)).setCell ⟨w.heap.size + 1, 4, none⟩ (.int .i64 0)).setCell ⟨w.heap.size + 1, 5, none⟩ (.int .i64 0)).setCell ⟨w.heap.size + 1, 6, none⟩ (.int .i64 0)).setCell ⟨w.heap.size + 1, 7, none⟩ (.int .u8 0)).setCell ⟨w.heap.size + 1, 8, none⟩ (.slice A1 c.rq.length c1)).setCell ⟨w.heap.size + 1, 9, none⟩ (.int .i64 0)).setCell ⟨w.heap.size + 1, 10, none⟩ (.int .i64 0)) from by
    refine ⟨A1, c1, rfl, ⟨OW11.1, OW11.2.imp id ?_⟩, (((((((((((S4.bl.setCell (p := ⟨w.heap.size + 1, 0, none⟩) hb1 (.int .u8 c.k)).setCell (p := ⟨w.heap.size + 1, 1, none⟩) hb1 (.int .i64 0)).setCell (p := ⟨w.heap.size + 1, 2, none⟩) hb1 (.int .i64 0)).setCell (p := ⟨w.heap.size + 1, 3, none⟩) hb1 (.int .i64 0)).setCell (p := ⟨w.heap.size + 1, 4, none⟩) hb1 (.int .i64 0)).setCell (p := ⟨w.heap.size + 1, 5, none⟩) hb1 (.int .i64 0)).setCell (p := ⟨w.heap.size + 1, 6, none⟩) hb1 (.int .i64 0)).setCell (p := ⟨w.heap.size + 1, 7, none⟩) hb1 (.int .u8 0)).setCell (p := ⟨w.heap.size + 1, 8, none⟩) hb1 (.slice A1 c.rq.length c1)).setCell (p := ⟨w.heap.size + 1, 9, none⟩) hb1 (.int .i64 0)).setCell (p := ⟨w.heap.size + 1, 10, none⟩) hb1 (.int .i64 0))⟩
    rintro ⟨g, cap, cur, h0, hge, q⟩
    exact ⟨g, cap, cur, h0, by omega, q⟩)
  have RUN := hide hrun
  have HW3 := hide hw3
  clear K0 K1 K2 K3 K4 K5 K6 K7 K8 K9 K10 OW0 OW1 OW2 OW3 OW4 OW5 OW6 OW7 OW8 OW9 OW10 OW11 K S4 hst hgr ST3 hrun hw3 b3 e1 e2 k1 k1b k1c k2 k2b k3 e3 hlo hb1 hS hr hl
  go_enter Tryd.func26, Tryd.ntmps26
  go_wp2_with fail
  refine (US.out _).mono ?_
  rintro e w' ⟨rfl, rfl⟩
  go_wp2_with fail
  refine (H99.out _).mono ?_
  rintro e w' ⟨rfl, rfl⟩
  go_wp2_with fail
  refine (H112.out _).mono ?_
  rintro e w' ⟨rfl, rfl⟩
  go_wp2_with fail
  refine (H116.out _).mono ?_
  rintro e w' ⟨rfl, rfl⟩
  go_wp2_with fail
  refine (H118.out _).mono ?_
  rintro e w' ⟨rfl, rfl⟩
  go_wp2_with fail
  refine (H115.out _).mono ?_
  rintro e w' ⟨rfl, rfl⟩
  go_wp2_with fail
  refine (H114.out _).mono ?_
  rintro e w' ⟨rfl, rfl⟩
  go_wp2_with fail
  refine (H111.out _).mono ?_
  rintro e w' ⟨rfl, rfl⟩
  go_wp2_with fail
  refine (H108.out _).mono ?_
  rintro e w' ⟨rfl, rfl⟩
  rw [HW3.out]
  go_wp2_with (at_builtin; refine Lib.wpList_append_run _ rfl _ _ 22 22 rfl _ _ rfl rfl _ _ RUN.out ?_)
  refine (H107.out _).mono ?_
  rintro e w' ⟨rfl, rfl⟩
  go_wp2_with fail
  exact bodyPost_ret (v := .agg #[.int .u8 c.k, .int .i64 0, .int .i64 0, .int .i64 0, .int .i64 0, .int .i64 0, .int .i64 0, .int .u8 0, .slice A1 c.rq.length c1, .int .i64 0, .int .i64 0]) (by simp [results, Tryd.results26, go_sem, u0, u1, u2, u3, u4, u5, u6, u7, u8, u9, u10]) rfl FIN.out
theorem own_nil {w : World} {B : Nat} : w.ownsRow B 3 1 (.slice none 0 0) 0 (i64s []) := ⟨rfl, .inl ⟨rfl, rfl⟩⟩
/-- What is told of a call that is trim. -/
def TrimP (w : World) (c : Cl) (e : Ending) (w' : World) : Prop := ∃ rb rd, e = .returned (.agg ((trimC c).A rb rd)) ∧ w'.ownsRow w.heap.size 3 1 (.slice rb (trimC c).rq.length rd) (trimC c).rq.length (i64s (trimC c).rq) ∧ Below w.heap.size w w'
theorem Trim_b (c : Cl) (ra : Option Addr) (rc : Nat) (w : World) (hr : NRow w ra c.rq) (hl : c.rq.length ≤ 100000) :
    Calls Tryd.prog 26 #[.agg (c.A ra rc)] w fun e w' => TrimP w c e w' := by
  obtain ⟨k, co, pe, tg, va, sz, ro, op, rq, cl, ky⟩ := c
  by_cases hsend : k = 1 ∨ k = 2 ∨ k = 3 ∨ k = 4 ∨ k = 5
  · rcases hsend with rfl | rfl | rfl | rfl | rfl
    all_goals
      refine (trimB_send _ co pe tg va sz ro op cl ky ra rq.length rc w rfl).mono ?_
      rintro e w' ⟨he, hb⟩
      exact ⟨none, 0, he, own_nil, hb⟩
  by_cases hrecv : k = 6 ∨ k = 7 ∨ k = 13 ∨ k = 14
  · rcases hrecv with rfl | rfl | rfl | rfl
    all_goals
      refine (trimB_recv _ co pe tg va sz ro op cl ky ra rq.length rc w rfl).mono ?_
      rintro e w' ⟨he, hb⟩
      exact ⟨none, 0, he, own_nil, hb⟩
  by_cases hcomm : k = 15 ∨ k = 20 ∨ k = 22
  · rcases hcomm with rfl | rfl | rfl
    all_goals
      refine (trimB_comm _ co pe tg va sz ro op cl ky ra rq.length rc w rfl).mono ?_
      rintro e w' ⟨he, hb⟩
      exact ⟨none, 0, he, own_nil, hb⟩
  by_cases hroot : k = 16 ∨ k = 19
  · rcases hroot with rfl | rfl
    all_goals
      refine (trimB_root _ co pe tg va sz ro op cl ky ra rq.length rc w rfl).mono ?_
      rintro e w' ⟨he, hb⟩
      exact ⟨none, 0, he, own_nil, hb⟩
  by_cases hred : k = 17
  · subst hred
    refine (trimB_red _ co pe tg va sz ro op cl ky ra rq.length rc w rfl).mono ?_
    rintro e w' ⟨he, hb⟩
    exact ⟨none, 0, he, own_nil, hb⟩
  by_cases hall : k = 18
  · subst hall
    refine (trimB_all _ co pe tg va sz ro op cl ky ra rq.length rc w rfl).mono ?_
    rintro e w' ⟨he, hb⟩
    exact ⟨none, 0, he, own_nil, hb⟩
  by_cases hsplit : k = 21
  · subst hsplit
    refine (trimB_split _ co pe tg va sz ro op cl ky ra rq.length rc w rfl).mono ?_
    rintro e w' ⟨he, hb⟩
    exact ⟨none, 0, he, own_nil, hb⟩
  by_cases hreqs : k = 8 ∨ k = 9 ∨ k = 10 ∨ k = 11 ∨ k = 12
  · rcases hreqs with rfl | rfl | rfl | rfl | rfl
    all_goals
      refine (trimB_reqs ⟨_, co, pe, tg, va, sz, ro, op, rq, cl, ky⟩ ra rc w rfl hr hl).mono ?_
      rintro e w' ⟨rb, rd, he, ho, hb⟩
      exact ⟨rb, rd, he, ho, hb⟩
  have eu : usedL k = [] := by
    unfold usedL
    rw [if_neg hsend, if_neg hrecv, if_neg hreqs, if_neg hcomm, if_neg hroot, if_neg hred, if_neg hall, if_neg hsplit]
  have es : usesS k = #[] := by
    unfold usesS
    rw [if_neg hsend, if_neg hrecv, if_neg hreqs, if_neg hcomm, if_neg hroot, if_neg hred, if_neg hall, if_neg hsplit]
  refine (trimB_none k co pe tg va sz ro op cl ky ra rq.length rc w es).mono ?_
  rintro e w' ⟨he, hb⟩
  have et : trimC ⟨k, co, pe, tg, va, sz, ro, op, rq, cl, ky⟩ = zeroC := by
    unfold trimC hasF
    simp only [eu]
    rfl
  unfold TrimP
  rw [et]
  exact ⟨none, 0, he, own_nil, hb⟩
end Cal
end Go.Proofs.YthcoelkpiflfeaaDoor
