/- A call, trim, by the program: the walk. -/
import Derived.Test.YthcoelkpiflfeaaDoorRows
import Derived.Test.YthcoelkpiflfeaaDoorCalD
namespace Go.Proofs.YthcoelkpiflfeaaDoor
open Go Go.RowKit Go.Lib Go.Proofs.YthcoelkpiflfeaaDoor.Grp
set_option linter.unusedVariables false
set_option linter.unusedSimpArgs false
namespace Cal
set_option maxRecDepth 100000 in
set_option maxHeartbeats 8000000 in
theorem Trim_a (c : Cl) (ra : Option Addr) (rc : Nat) (w : World) (hr : NRow w ra c.rq) (hl : c.rq.length ≤ 100000) (ho : 0 ≤ c.op ∧ c.op ≤ 255) :
    Calls Tryd.prog 14 #[.agg #[.int .u8 c.k, .int .i64 c.co, .int .i64 c.pe, .int .i64 c.tg, .int .i64 c.va, .int .i64 c.sz, .int .i64 c.ro, .int .u8 c.op, .slice ra c.rq.length rc, .int .i64 c.cl, .int .i64 c.ky]] w fun e w' => ∃ rb rd, e = .returned (.agg ((trimC c).A rb rd)) ∧ w'.ownsRow w.heap.size 3 1 (.slice rb (trimC c).rq.length rd) (trimC c).rq.length (i64s (trimC c).rq) ∧ Below w.heap.size w w' := by
  have b3 := (((Below.refl w.heap.size w).alloc (Nat.le_refl _) (.cells #[.int .u8 c.k, .int .i64 c.co, .int .i64 c.pe, .int .i64 c.tg, .int .i64 c.va, .int .i64 c.sz, .int .i64 c.ro, .int .u8 c.op, .slice ra c.rq.length rc, .int .i64 c.cl, .int .i64 c.ky] 24)).alloc (by simp) (.cells #[.int .u8 0, .int .i64 0, .int .i64 0, .int .i64 0, .int .i64 0, .int .i64 0, .int .i64 0, .int .u8 0, .slice none 0 0, .int .i64 0, .int .i64 0] 24)).alloc (by simp; omega) (.cells #[.int .u8 0, .int .i64 0, .int .i64 0, .int .i64 0, .int .i64 0, .int .i64 0, .int .i64 0, .int .u8 0, .slice none 0 0, .int .i64 0, .int .i64 0] 24)
  have e1 : (w.alloc (.cells #[.int .u8 c.k, .int .i64 c.co, .int .i64 c.pe, .int .i64 c.tg, .int .i64 c.va, .int .i64 c.sz, .int .i64 c.ro, .int .u8 c.op, .slice ra c.rq.length rc, .int .i64 c.cl, .int .i64 c.ky] 24)).heap.size = w.heap.size + 1 := by simp
  have e2 : ((w.alloc (.cells #[.int .u8 c.k, .int .i64 c.co, .int .i64 c.pe, .int .i64 c.tg, .int .i64 c.va, .int .i64 c.sz, .int .i64 c.ro, .int .u8 c.op, .slice ra c.rq.length rc, .int .i64 c.cl, .int .i64 c.ky] 24)).alloc (.cells #[.int .u8 0, .int .i64 0, .int .i64 0, .int .i64 0, .int .i64 0, .int .i64 0, .int .i64 0, .int .u8 0, .slice none 0 0, .int .i64 0, .int .i64 0] 24)).heap.size = w.heap.size + 2 := by simp
  have e3 : (((w.alloc (.cells #[.int .u8 c.k, .int .i64 c.co, .int .i64 c.pe, .int .i64 c.tg, .int .i64 c.va, .int .i64 c.sz, .int .i64 c.ro, .int .u8 c.op, .slice ra c.rq.length rc, .int .i64 c.cl, .int .i64 c.ky] 24)).alloc (.cells #[.int .u8 0, .int .i64 0, .int .i64 0, .int .i64 0, .int .i64 0, .int .i64 0, .int .i64 0, .int .u8 0, .slice none 0 0, .int .i64 0, .int .i64 0] 24)).alloc (.cells #[.int .u8 0, .int .i64 0, .int .i64 0, .int .i64 0, .int .i64 0, .int .i64 0, .int .i64 0, .int .u8 0, .slice none 0 0, .int .i64 0, .int .i64 0] 24)).heap.size = w.heap.size + 3 := by simp
  have k1 := Blk.new w 24 #[.int .u8 c.k, .int .i64 c.co, .int .i64 c.pe, .int .i64 c.tg, .int .i64 c.va, .int .i64 c.sz, .int .i64 c.ro, .int .u8 c.op, .slice ra c.rq.length rc, .int .i64 c.cl, .int .i64 c.ky]
  have k1b := k1.below ((Below.refl _ _).alloc (Nat.le_refl _) (.cells #[.int .u8 0, .int .i64 0, .int .i64 0, .int .i64 0, .int .i64 0, .int .i64 0, .int .i64 0, .int .u8 0, .slice none 0 0, .int .i64 0, .int .i64 0] 24)) k1.lt
  have k1c := k1b.below ((Below.refl _ _).alloc (Nat.le_refl _) (.cells #[.int .u8 0, .int .i64 0, .int .i64 0, .int .i64 0, .int .i64 0, .int .i64 0, .int .i64 0, .int .u8 0, .slice none 0 0, .int .i64 0, .int .i64 0] 24)) k1b.lt
  have k2 := Blk.new (w.alloc (.cells #[.int .u8 c.k, .int .i64 c.co, .int .i64 c.pe, .int .i64 c.tg, .int .i64 c.va, .int .i64 c.sz, .int .i64 c.ro, .int .u8 c.op, .slice ra c.rq.length rc, .int .i64 c.cl, .int .i64 c.ky] 24)) 24 #[.int .u8 0, .int .i64 0, .int .i64 0, .int .i64 0, .int .i64 0, .int .i64 0, .int .i64 0, .int .u8 0, .slice none 0 0, .int .i64 0, .int .i64 0]
  have k2b := k2.below ((Below.refl _ _).alloc (Nat.le_refl _) (.cells #[.int .u8 0, .int .i64 0, .int .i64 0, .int .i64 0, .int .i64 0, .int .i64 0, .int .i64 0, .int .u8 0, .slice none 0 0, .int .i64 0, .int .i64 0] 24)) k2.lt
  have k3 := Blk.new ((w.alloc (.cells #[.int .u8 c.k, .int .i64 c.co, .int .i64 c.pe, .int .i64 c.tg, .int .i64 c.va, .int .i64 c.sz, .int .i64 c.ro, .int .u8 c.op, .slice ra c.rq.length rc, .int .i64 c.cl, .int .i64 c.ky] 24)).alloc (.cells #[.int .u8 0, .int .i64 0, .int .i64 0, .int .i64 0, .int .i64 0, .int .i64 0, .int .i64 0, .int .u8 0, .slice none 0 0, .int .i64 0, .int .i64 0] 24)) 24 #[.int .u8 0, .int .i64 0, .int .i64 0, .int .i64 0, .int .i64 0, .int .i64 0, .int .i64 0, .int .u8 0, .slice none 0 0, .int .i64 0, .int .i64 0]
  rw [e1] at k2b
  rw [e2] at k3
  have US := hide (used_c c.k (((w.alloc (.cells #[.int .u8 c.k, .int .i64 c.co, .int .i64 c.pe, .int .i64 c.tg, .int .i64 c.va, .int .i64 c.sz, .int .i64 c.ro, .int .u8 c.op, .slice ra c.rq.length rc, .int .i64 c.cl, .int .i64 c.ky] 24)).alloc (.cells #[.int .u8 0, .int .i64 0, .int .i64 0, .int .i64 0, .int .i64 0, .int .i64 0, .int .i64 0, .int .u8 0, .slice none 0 0, .int .i64 0, .int .i64 0] 24)).alloc (.cells #[.int .u8 0, .int .i64 0, .int .i64 0, .int .i64 0, .int .i64 0, .int .i64 0, .int .i64 0, .int .u8 0, .slice none 0 0, .int .i64 0, .int .i64 0] 24)))
  obtain ⟨w3, hw3⟩ : ∃ y, (((w.alloc (.cells #[.int .u8 c.k, .int .i64 c.co, .int .i64 c.pe, .int .i64 c.tg, .int .i64 c.va, .int .i64 c.sz, .int .i64 c.ro, .int .u8 c.op, .slice ra c.rq.length rc, .int .i64 c.cl, .int .i64 c.ky] 24)).alloc (.cells #[.int .u8 0, .int .i64 0, .int .i64 0, .int .i64 0, .int .i64 0, .int .i64 0, .int .i64 0, .int .u8 0, .slice none 0 0, .int .i64 0, .int .i64 0] 24)).alloc (.cells #[.int .u8 0, .int .i64 0, .int .i64 0, .int .i64 0, .int .i64 0, .int .i64 0, .int .i64 0, .int .u8 0, .slice none 0 0, .int .i64 0, .int .i64 0] 24)) = y := ⟨_, rfl⟩
  rw [hw3] at b3 k1c k2b k3 e3 US
  have ST : Hid (∀ w4, Below w3.heap.size w3 w4 → TrSt w w4 w4.heap.size c zeroC ra rc none 0) := hide (fun w4 h4 =>
    ⟨k1c.below h4 k1c.lt, k2b.below h4 k2b.lt, k3.below h4 k3.lt, ⟨rfl, .inl ⟨rfl, rfl⟩⟩, b3.trans (h4.mono b3.size), by have := h4.size; omega, Nat.le_refl _⟩)
  have HW3 := hide hw3
  have HE3 := hide e3
  have HR := hide hr
  have HL := hide hl
  have HO := hide ho
  clear b3 e1 e2 k1 k1b k1c k2 k2b k3 hw3 e3 hr hl ho
  go_enter Tryd.func14, Tryd.ntmps14
  go_wp2_with fail
  rw [HW3.out]
  refine US.out.mono ?_
  rintro e w4 ⟨v, rfl, hv, hb4⟩
  have ST4 := hide (ST.out w4 hb4)
  obtain ⟨fs, hfs⟩ : ∃ fs, usedL c.k = fs := ⟨_, rfl⟩
  have HFS := hide hfs
  have HFL : Hid (fs.length ≤ 5) := hide (by rw [← hfs]; exact used_len c.k)
  have HFM : Hid (∀ f ∈ fs, plainF f ∨ f = 7) := hide (fun f hf => used_mem (k := c.k) (by rw [hfs]; exact hf))
  have HFD : Hid (fs.foldl (stF c) zeroC = trimC c) := hide (by rw [← hfs]; exact used_fold c)
  obtain ⟨n, hn⟩ : ∃ n, fs.length = n := ⟨_, rfl⟩
  have HV : Hid ((fs = [] ∧ v = .slice none 0 0) ∨ ∃ g, 0 < fs.length ∧ v = .slice (some ⟨g, 0, none⟩) fs.length fs.length ∧ w3.heap.size ≤ g ∧ Blk w4 g 3 (i64s fs).toArray) := hide (by
    unfold UsedV at hv
    rw [hfs] at hv
    exact hv)
  obtain ⟨A, cp, hva, hva2⟩ : ∃ (A : Option Addr) (cp : Nat), v = .slice A n cp ∧ Hid (0 < n → ∃ g, A = some ⟨g, 0, none⟩ ∧ w3.heap.size ≤ g ∧ Blk w4 g 3 (i64s fs).toArray) := by
    rcases HV.out with ⟨h1, h2⟩ | ⟨g, h0, h1, h2, h3⟩
    · subst h1
      exact ⟨none, 0, by rw [h2, ← hn]; rfl, hide (fun h => by rw [← hn] at h; exact absurd h (Nat.lt_irrefl 0))⟩
    · rw [hn] at h1
      exact ⟨_, _, h1, hide (fun _ => ⟨g, rfl, h2, h3⟩)⟩
  subst hva
  have HN := hide hn
  have HB4 := hide hb4
  obtain ⟨Bo, hBo⟩ : ∃ b, w4.heap.size = b := ⟨_, rfl⟩
  rw [hBo] at ST4
  have HBO := hide hBo
  clear hfs hv hb4 HV hn US ST hBo
  go_wp2_with fail
  go_loopw [5, 11] (fun v5 vi wr => ∃ (i : Nat) (o : Cl) (rb : Option Addr) (rd : Nat), i ≤ n ∧ vi = .int .i64 i ∧ Hid (o = (fs.take i).foldl (stF c) zeroC) ∧ Hid (TrSt w wr Bo c o ra rc rb rd) ∧ Hid (∀ g, w3.heap.size ≤ g → g < Bo → wr.heap[g]? = w4.heap[g]?)) (fun _ vi _ => n - (RowKit.intOf vi).toNat)
  case atStart => exact ⟨0, zeroC, none, 0, Nat.zero_le _, rfl, hide rfl, ST4, hide (fun _ _ _ => rfl)⟩
  case round =>
    obtain ⟨i, o, rb, rd, hi, rfl, HO2, HS, HK⟩ := hrel
    by_cases hlt : i < n
    rotate_left
    · have hltI : ¬ (i : Int) < (n : Int) := by omega
      obtain rfl : i = n := by omega
      have ho2 := HO2.out
      rw [List.take_of_length_le (Nat.le_of_eq HN.out), HFD.out] at ho2
      have HS1 := HS.out
      have K : Blk wr (w.heap.size + 1) 24 #[.int .u8 0, .int .i64 0, .int .i64 0, .int .i64 0, .int .i64 0, .int .i64 0, .int .i64 0, .int .u8 0, .slice none 0 0, .int .i64 0, .int .i64 0] := HS1.res
      have x0 : wr.cell? ⟨w.heap.size + 2, 0, none⟩ = some (.int .u8 o.k) := HS1.box.cell 0
      have x1 : wr.cell? ⟨w.heap.size + 2, 1, none⟩ = some (.int .i64 o.co) := HS1.box.cell 1
      have x2 : wr.cell? ⟨w.heap.size + 2, 2, none⟩ = some (.int .i64 o.pe) := HS1.box.cell 2
      have x3 : wr.cell? ⟨w.heap.size + 2, 3, none⟩ = some (.int .i64 o.tg) := HS1.box.cell 3
      have x4 : wr.cell? ⟨w.heap.size + 2, 4, none⟩ = some (.int .i64 o.va) := HS1.box.cell 4
      have x5 : wr.cell? ⟨w.heap.size + 2, 5, none⟩ = some (.int .i64 o.sz) := HS1.box.cell 5
      have x6 : wr.cell? ⟨w.heap.size + 2, 6, none⟩ = some (.int .i64 o.ro) := HS1.box.cell 6
      have x7 : wr.cell? ⟨w.heap.size + 2, 7, none⟩ = some (.int .u8 o.op) := HS1.box.cell 7
      have x8 : wr.cell? ⟨w.heap.size + 2, 8, none⟩ = some (.slice rb o.rq.length rd) := HS1.box.cell 8
      have x9 : wr.cell? ⟨w.heap.size + 2, 9, none⟩ = some (.int .i64 o.cl) := HS1.box.cell 9
      have x10 : wr.cell? ⟨w.heap.size + 2, 10, none⟩ = some (.int .i64 o.ky) := HS1.box.cell 10
      have hb1 : w.heap.size ≤ w.heap.size + 1 := Nat.le_succ _
      have OW0 := HS1.own
      have hlo : w.heap.size + 1 < Bo := by have := HS1.lo; omega
      have f0 := K.frozen 0
      have c0 := K.cell 0
      have K0 := K.set_ 0 (.int .u8 o.k)
      have OW1 := own_set_farK (p := ⟨w.heap.size + 1, 0, none⟩) OW0 hlo (.int .u8 o.k)
      have f1 := K0.frozen 1
      have c1 := K0.cell 1
      have K1 := K0.set_ 1 (.int .i64 o.co)
      have OW2 := own_set_farK (p := ⟨w.heap.size + 1, 1, none⟩) OW1 hlo (.int .i64 o.co)
      have f2 := K1.frozen 2
      have c2 := K1.cell 2
      have K2 := K1.set_ 2 (.int .i64 o.pe)
      have OW3 := own_set_farK (p := ⟨w.heap.size + 1, 2, none⟩) OW2 hlo (.int .i64 o.pe)
      have f3 := K2.frozen 3
      have c3 := K2.cell 3
      have K3 := K2.set_ 3 (.int .i64 o.tg)
      have OW4 := own_set_farK (p := ⟨w.heap.size + 1, 3, none⟩) OW3 hlo (.int .i64 o.tg)
      have f4 := K3.frozen 4
      have c4 := K3.cell 4
      have K4 := K3.set_ 4 (.int .i64 o.va)
      have OW5 := own_set_farK (p := ⟨w.heap.size + 1, 4, none⟩) OW4 hlo (.int .i64 o.va)
      have f5 := K4.frozen 5
      have c5 := K4.cell 5
      have K5 := K4.set_ 5 (.int .i64 o.sz)
      have OW6 := own_set_farK (p := ⟨w.heap.size + 1, 5, none⟩) OW5 hlo (.int .i64 o.sz)
      have f6 := K5.frozen 6
      have c6 := K5.cell 6
      have K6 := K5.set_ 6 (.int .i64 o.ro)
      have OW7 := own_set_farK (p := ⟨w.heap.size + 1, 6, none⟩) OW6 hlo (.int .i64 o.ro)
      have f7 := K6.frozen 7
      have c7 := K6.cell 7
      have K7 := K6.set_ 7 (.int .u8 o.op)
      have OW8 := own_set_farK (p := ⟨w.heap.size + 1, 7, none⟩) OW7 hlo (.int .u8 o.op)
      have f8 := K7.frozen 8
      have c8 := K7.cell 8
      have K8 := K7.set_ 8 (.slice rb o.rq.length rd)
      have OW9 := own_set_farK (p := ⟨w.heap.size + 1, 8, none⟩) OW8 hlo (.slice rb o.rq.length rd)
      have f9 := K8.frozen 9
      have c9 := K8.cell 9
      have K9 := K8.set_ 9 (.int .i64 o.cl)
      have OW10 := own_set_farK (p := ⟨w.heap.size + 1, 9, none⟩) OW9 hlo (.int .i64 o.cl)
      have f10 := K9.frozen 10
      have c10 := K9.cell 10
      have K10 := K9.set_ 10 (.int .i64 o.ky)
      have OW11 := own_set_farK (p := ⟨w.heap.size + 1, 10, none⟩) OW10 hlo (.int .i64 o.ky)
      have u0 := K10.cell 0
      have u1 := K10.cell 1
      have u2 := K10.cell 2
      have u3 := K10.cell 3
      have u4 := K10.cell 4
      have u5 := K10.cell 5
      have u6 := K10.cell 6
      have u7 := K10.cell 7
      have u8 := K10.cell 8
      have u9 := K10.cell 9
      have u10 := K10.cell 10
      have FIN := hide (show ∃ rb' rd', (Ending.returned (.agg #[.int .u8 o.k, .int .i64 o.co, .int .i64 o.pe, .int .i64 o.tg, .int .i64 o.va, .int .i64 o.sz, .int .i64 o.ro, .int .u8 o.op, .slice rb o.rq.length rd, .int .i64 o.cl, .int .i64 o.ky])) = .returned (.agg ((trimC c).A rb' rd')) ∧ (((((((((((wr.setCell ⟨w.heap.size + 1, 0, none⟩ (.int .u8 o.k)).setCell ⟨w.heap.size + 1, 1, none⟩ (.int .i64 o.co)).setCell ⟨w.heap.size + 1, 2, none⟩ (.int .i64 o.pe)).setCell ⟨w.heap.size + 1, 3, none⟩ (.int .i64 o.tg)).setCell ⟨w.heap.size + 1, 4, none⟩ (.int .i64 o.va)).setCell ⟨w.heap.size + 1, 5, none⟩ (.int .i64 o.sz)).setCell ⟨w.heap.size + 1, 6, none⟩ (.int .i64 o.ro)).setCell ⟨w.heap.size + 1, 7, none⟩ (.int .u8 o.op)).setCell ⟨w.heap.size + 1, 8, none⟩ (.slice rb o.rq.length rd)).setCell ⟨w.heap.size + 1, 9, none⟩ (.int .i64 o.cl)).setCell ⟨w.heap.size + 1, 10, none⟩ (.int .i64 o.ky)).ownsRow w.heap.size 3 1 (.slice rb' (trimC c).rq.length rd') (trimC c).rq.length (i64s (trimC c).rq) ∧ Below w.heap.size w (((((((((((wr.setCell ⟨w.heap.size + 1, 0, none⟩ (.int .u8 o.k)).setCell ⟨w.heap.size + 1, 1, none⟩ (.int .i64 o.co)).setCell ⟨w.heap.size + 1, 2, none⟩ (.int .i64 o.pe)).setCell ⟨w.heap.size + 1, 3, none⟩ (.int .i64 o.tg)).setCell ⟨w.heap.size + 1, 4, none⟩ (.int .i64 o.va)).setCell ⟨w.heap.size + 1, 5, none⟩ (.int .i64 o.sz)).setCell ⟨w.heap.size + 1, 6, none⟩ (.int .i64 o.ro)).setCell ⟨w.heap.size + 1, 7, none⟩ (.int .u8 o.op)).setCell ⟨w.heap.size + 1, 8, none⟩ (.slice rb o.rq.length rd)).setCell ⟨w.heap.size + 1, 9, none⟩ (.int .i64 o.cl)).setCell ⟨w.heap.size + 1, 10, none⟩ (.int .i64 o.ky)) from by
        rw [← ho2]
        refine ⟨rb, rd, rfl, ⟨OW11.1, OW11.2.imp id ?_⟩, (((((((((((HS1.bl.setCell (p := ⟨w.heap.size + 1, 0, none⟩) hb1 (.int .u8 o.k)).setCell (p := ⟨w.heap.size + 1, 1, none⟩) hb1 (.int .i64 o.co)).setCell (p := ⟨w.heap.size + 1, 2, none⟩) hb1 (.int .i64 o.pe)).setCell (p := ⟨w.heap.size + 1, 3, none⟩) hb1 (.int .i64 o.tg)).setCell (p := ⟨w.heap.size + 1, 4, none⟩) hb1 (.int .i64 o.va)).setCell (p := ⟨w.heap.size + 1, 5, none⟩) hb1 (.int .i64 o.sz)).setCell (p := ⟨w.heap.size + 1, 6, none⟩) hb1 (.int .i64 o.ro)).setCell (p := ⟨w.heap.size + 1, 7, none⟩) hb1 (.int .u8 o.op)).setCell (p := ⟨w.heap.size + 1, 8, none⟩) hb1 (.slice rb o.rq.length rd)).setCell (p := ⟨w.heap.size + 1, 9, none⟩) hb1 (.int .i64 o.cl)).setCell (p := ⟨w.heap.size + 1, 10, none⟩) hb1 (.int .i64 o.ky))⟩
        rintro ⟨g, cap, cur, h0, hge, q⟩
        exact ⟨g, cap, cur, h0, by omega, q⟩)
      clear K0 K1 K2 K3 K4 K5 K6 K7 K8 K9 K10 OW0 OW1 OW2 OW3 OW4 OW5 OW6 OW7 OW8 OW9 OW10 OW11 K HS1 ho2 hlo HS HO2 HK ST4
      go_wp2_with fail
      exact bodyPost_ret (v := .agg #[.int .u8 o.k, .int .i64 o.co, .int .i64 o.pe, .int .i64 o.tg, .int .i64 o.va, .int .i64 o.sz, .int .i64 o.ro, .int .u8 o.op, .slice rb o.rq.length rd, .int .i64 o.cl, .int .i64 o.ky]) (by simp [results, Tryd.results14, go_sem, u0, u1, u2, u3, u4, u5, u6, u7, u8, u9, u10]) rfl FIN.out
    · have hltI : (i : Int) < (n : Int) := by omega
      have hi0 : ¬ (i : Int) < 0 := by omega
      have hs1 : IntKind.i64.wrap ((i : Int) + 1) = (i : Int) + 1 := by rw [IntKind.wrap_i64]; have := HFL.out; have := HN.out; omega
      obtain ⟨g, rfl, hg3, hgb⟩ := hva2.out (by omega)
      have hgl : g < Bo := by rw [← HBO.out]; exact hgb.lt
      obtain ⟨f, hf⟩ : ∃ f, fs.getD i 0 = f := ⟨_, rfl⟩
      have cg : wr.cell? ⟨g, i, none⟩ = some (.int .i64 f) := by
        have e : Blk wr g 3 (i64s fs).toArray := (HK.out g hg3 hgl).trans hgb
        rw [e.cell, ← hf]
        simpa using i64s_at (l := fs) (j := i) (by rw [HN.out]; exact hlt)
      have hfm : f ∈ fs := by
        rw [← hf, List.getD, List.getElem?_eq_getElem (by rw [HN.out]; exact hlt)]
        exact List.getElem_mem _
      have HTK : Hid ((fs.take (i + 1)).foldl (stF c) zeroC = stF c o f) := hide (by
        rw [List.take_succ_eq_append_getElem (by rw [HN.out]; exact hlt), List.foldl_append, ← HO2.out]
        show stF c o _ = _
        rw [← hf, List.getD, List.getElem?_eq_getElem (by rw [HN.out]; exact hlt)]
        rfl)
      have HS1 := HS.out
      have y0 : wr.cell? ⟨w.heap.size, 0, none⟩ = some (.int .u8 c.k) := HS1.cbx.cell 0
      have z0 : wr.cell? ⟨w.heap.size + 2, 0, none⟩ = some (.int .u8 o.k) := HS1.box.cell 0
      have fz0 := HS1.box.frozen 0
      have HS2 := HS1.put 0 (.int .u8 c.k) (o' := { o with k := c.k }) rfl rfl
      have HKP : Hid (∀ g', w3.heap.size ≤ g' → g' < Bo → (wr.setCell ⟨w.heap.size + 2, 0, none⟩ (.int .u8 c.k)).heap[g']? = w4.heap[g']?) := hide (fun g' h1 h2 => (Below.heap_setCell wr ⟨w.heap.size + 2, 0, none⟩ _ g' (by show g' ≠ w.heap.size + 2; have := HE3.out; omega)).trans (HK.out g' h1 h2))
      have HPF := hide (HFM.out f hfm)
      have HHS := hide HS2
      by_cases h7 : f = 7
      · subst h7
        obtain ⟨A1, c1, w11, hrun, hc8, hf8, hgr, hst⟩ := HS2.reqs (HR.out.below HS2.bl) HL.out
        have y8 : (wr.setCell ⟨w.heap.size + 2, 0, none⟩ (.int .u8 c.k)).cell? ⟨w.heap.size, 8, none⟩ = some (.slice ra c.rq.length rc) := HS2.cbx.cell 8
        have RUN := hide hrun
        have HKQ : Hid (∀ g', w3.heap.size ≤ g' → g' < Bo → (w11.setCell ⟨w.heap.size + 2, 8, none⟩ (.slice A1 c.rq.length c1)).heap[g']? = w4.heap[g']?) := hide (fun g' h1 h2 => ((Below.heap_setCell w11 ⟨w.heap.size + 2, 8, none⟩ _ g' (by show g' ≠ w.heap.size + 2; have := HE3.out; omega)).trans (hgr.out.block g' (Nat.lt_of_lt_of_le h2 HS2.le) (by simp))).trans (HKP.out g' h1 h2))
        clear HS1 HS2 hrun hgb hf hfm HS HK hgr HHS
        go_wp2_with (at_builtin; refine Lib.wpList_append_run _ rfl _ _ 22 22 rfl _ _ rfl rfl _ _ RUN.out ?_)
        go_roundw
        case rel => exact ⟨i + 1, _, A1, c1, by omega, by go_num, hide (by rw [HTK.out]; rfl), hst, HKQ⟩
        case measure => simp [RowKit.intOf] <;> omega
      · have HP : Hid (plainF f) := hide (HPF.out.resolve_right h7)
        have y0b : (wr.setCell ⟨w.heap.size + 2, 0, none⟩ (.int .u8 c.k)).cell? ⟨w.heap.size, 0, none⟩ = some (.int .u8 c.k) := HS2.cbx.cell 0
        have y1b : (wr.setCell ⟨w.heap.size + 2, 0, none⟩ (.int .u8 c.k)).cell? ⟨w.heap.size, 1, none⟩ = some (.int .i64 c.co) := HS2.cbx.cell 1
        have y2b : (wr.setCell ⟨w.heap.size + 2, 0, none⟩ (.int .u8 c.k)).cell? ⟨w.heap.size, 2, none⟩ = some (.int .i64 c.pe) := HS2.cbx.cell 2
        have y3b : (wr.setCell ⟨w.heap.size + 2, 0, none⟩ (.int .u8 c.k)).cell? ⟨w.heap.size, 3, none⟩ = some (.int .i64 c.tg) := HS2.cbx.cell 3
        have y4b : (wr.setCell ⟨w.heap.size + 2, 0, none⟩ (.int .u8 c.k)).cell? ⟨w.heap.size, 4, none⟩ = some (.int .i64 c.va) := HS2.cbx.cell 4
        have y5b : (wr.setCell ⟨w.heap.size + 2, 0, none⟩ (.int .u8 c.k)).cell? ⟨w.heap.size, 5, none⟩ = some (.int .i64 c.sz) := HS2.cbx.cell 5
        have y6b : (wr.setCell ⟨w.heap.size + 2, 0, none⟩ (.int .u8 c.k)).cell? ⟨w.heap.size, 6, none⟩ = some (.int .i64 c.ro) := HS2.cbx.cell 6
        have y7b : (wr.setCell ⟨w.heap.size + 2, 0, none⟩ (.int .u8 c.k)).cell? ⟨w.heap.size, 7, none⟩ = some (.int .u8 c.op) := HS2.cbx.cell 7
        have y8b : (wr.setCell ⟨w.heap.size + 2, 0, none⟩ (.int .u8 c.k)).cell? ⟨w.heap.size, 8, none⟩ = some (.slice ra c.rq.length rc) := HS2.cbx.cell 8
        have y9b : (wr.setCell ⟨w.heap.size + 2, 0, none⟩ (.int .u8 c.k)).cell? ⟨w.heap.size, 9, none⟩ = some (.int .i64 c.cl) := HS2.cbx.cell 9
        have y10b : (wr.setCell ⟨w.heap.size + 2, 0, none⟩ (.int .u8 c.k)).cell? ⟨w.heap.size, 10, none⟩ = some (.int .i64 c.ky) := HS2.cbx.cell 10
        clear HS1 HS2 hgb hf hfm HS HK HPF
        go_wp2_with fail
        refine (number_c c ra rc f HP.out HO.out _).mono ?_
        rintro e w9 ⟨rfl, hb9⟩
        have HS9 := HHS.out.below hb9
        have hk9 : ∀ g', w3.heap.size ≤ g' → g' < Bo → w9.heap[g']? = w4.heap[g']? := fun g' h1 h2 => (hb9.block g' (Nat.lt_of_lt_of_le h2 HHS.out.le)).trans (HKP.out g' h1 h2)
        have SET := hide (set_c (w.heap.size + 2) f (numF c f) HP.out (fun h => by rw [h]; exact HO.out) w9 _ HS9.box rfl)
        have HST := hide (HS9.put (posF f) (valF f (numF c f)) (setFld_A { o with k := c.k } f (numF c f) HP.out rb rd) (setFld_rq _ _ _))
        have HKQ : Hid (∀ g', w3.heap.size ≤ g' → g' < Bo → (w9.setCell ⟨w.heap.size + 2, posF f, none⟩ (valF f (numF c f))).heap[g']? = w4.heap[g']?) := hide (fun g' h1 h2 => (Below.heap_setCell w9 ⟨w.heap.size + 2, posF f, none⟩ _ g' (by show g' ≠ w.heap.size + 2; have := HE3.out; omega)).trans (hk9 g' h1 h2))
        have H7 := hide h7
        clear HS9 hk9 hb9 HKP HHS y0b y1b y2b y3b y4b y5b y6b y7b y8b y9b y10b
        go_wp2_with fail
        refine SET.out.mono ?_
        rintro e w10 ⟨rfl, rfl⟩
        go_wp2_with fail
        go_roundw
        case rel => exact ⟨i + 1, _, rb, rd, by omega, by go_num, hide (by rw [HTK.out]; unfold stF; rw [if_neg H7.out]), HST, HKQ⟩
        case measure => simp [RowKit.intOf] <;> omega
end Cal
end Go.Proofs.YthcoelkpiflfeaaDoor
