/- Which messages may be a receive's: the program. -/
import Derived.Test.YtonmojinijpneaaRows
import Derived.Test.YtonmojinijpneaaPoL
namespace Go.Proofs.Ytonmojinijpneaa
open Go Go.Joins Go.ChangeShapes Go.WideShapes Go.RowKit Go.Deep Go.Lib Go.Proofs.Ytonmojinijpneaa.Qu
set_option linter.unusedVariables false
set_option linter.unusedSimpArgs false
namespace Po
theorem own_monoP {w : World} {k B size n : Nat} {e : TypeId} {v : Value} {xs : List Value} (h : w.ownsRow k e size v n xs) (hB : B ≤ k) : w.ownsRow B e size v n xs := by
  refine ⟨h.1, h.2.imp id ?_⟩
  rintro ⟨g, cap, cur, hv, hge, r⟩
  exact ⟨g, cap, cur, hv, Nat.le_trans hB hge, r⟩
/-- The first of each sender's. -/
def fstsL (l : List Msg) (key : ByteArray) (rk tg : Int) (fs : List Int) : List Msg := fs.filterMap fun f => firstL l ⟨key, f, rk⟩ tg
theorem fsts_len (l : List Msg) (key : ByteArray) (rk tg : Int) (fs : List Int) : (fstsL l key rk tg fs).length ≤ fs.length := List.length_filterMap_le _ _
theorem fsts_step {l : List Msg} {key : ByteArray} {rk tg : Int} {fs : List Int} {j : Nat} {f : Int} (h : fs[j]? = some f) : fstsL l key rk tg (fs.take (j + 1)) = fstsL l key rk tg (fs.take j) ++ (firstL l ⟨key, f, rk⟩ tg).toList := by
  obtain ⟨hl, he⟩ := List.getElem?_eq_some_iff.1 h
  unfold fstsL
  rw [List.take_succ_eq_append_getElem hl, he, List.filterMap_append]
  congr 1
def sndL (l : List Msg) (key : ByteArray) (rk pe : Int) : List Int := if pe = -1 then sendersL l ⟨key, rk⟩ else [pe]
/-- Which messages may be a receive's, behind those. -/
def freeL (l : List Msg) (r : Rc) (ah : List Rc) : List Msg := flt ah (fstsL l r.key r.rk r.tg (sndL l r.key r.rk r.pe))
def IRow (w : World) (A : Option Addr) (fs : List Int) : Prop := ∀ i f, fs[i]? = some f → ∃ g, A = some ⟨g, 0, none⟩ ∧ g < w.heap.size ∧ w.cell? ⟨g, i, none⟩ = some (.int .i64 f)
theorem IRow.of_own {w : World} {B n c : Nat} {A : Option Addr} {fs : List Int} (h : w.ownsRow B 3 1 (.slice A n c) n (ints fs)) (hn : fs.length = n) : IRow w A fs := fun i f hf => by
  have hi : i < fs.length := (List.getElem?_eq_some_iff.1 hf).1
  obtain ⟨g, hA, _, _, ⟨cs, hb⟩, _, _, hc⟩ := own_cell h (by omega)
  exact ⟨g, hA, hb.lt, hc i _ (by unfold ints; rw [List.getElem?_map, hf]; rfl)⟩
theorem senders_len (l : List Msg) (b : Inb) : (sendersL l b).length ≤ 64 := by
  unfold sendersL
  refine Nat.le_trans (List.length_filter_le _ _) ?_
  simp [upto]
set_option maxRecDepth 100000 in
set_option maxHeartbeats 16000000 in
theorem free_c {w : World} {q : Nat} {L : QL} {l : List Msg} (hq : QSt w q L l) (hl : l.length ≤ 1000) (A : Option Addr) (cap n : Nat) (ah : List Rc) (hra : RRow w A ah) (han : ah.length = n) (hnl : n ≤ 100000) (key : ByteArray) (rk ca pe tg rq : Int) (dn : Bool) (fr sq : Int) :
    Calls Try.prog 58 #[.pointer (some ⟨q, 0, none⟩), .agg #[.string key, .int .i64 rk, .int .i64 ca, .int .i64 pe, .int .i64 tg, .int .i64 rq, .bool dn, .int .i64 fr, .int .i64 sq], .slice A n cap] w fun e w' => ∃ A1 c1, e = .returned (.slice A1 (freeL l ⟨key, rk, ca, pe, tg, rq, dn, fr, sq⟩ ah).length c1) ∧ w'.ownsRow w.heap.size 33 8 (.slice A1 (freeL l ⟨key, rk, ca, pe, tg, rq, dn, fr, sq⟩ ah).length c1) (freeL l ⟨key, rk, ca, pe, tg, rq, dn, fr, sq⟩ ah).length (msgCs (freeL l ⟨key, rk, ca, pe, tg, rq, dn, fr, sq⟩ ah)) ∧ Below w.heap.size w w' := by
  have b1 := (Below.refl w.heap.size w).alloc (Nat.le_refl _) (.cells #[.string key, .int .i64 rk, .int .i64 ca, .int .i64 pe, .int .i64 tg, .int .i64 rq, .bool dn, .int .i64 fr, .int .i64 sq] 35)
  have k1 := Blk.new w 35 #[.string key, .int .i64 rk, .int .i64 ca, .int .i64 pe, .int .i64 tg, .int .i64 rq, .bool dn, .int .i64 fr, .int .i64 sq]
  obtain ⟨w1, hw1⟩ : ∃ z, w.alloc (.cells #[.string key, .int .i64 rk, .int .i64 ca, .int .i64 pe, .int .i64 tg, .int .i64 rq, .bool dn, .int .i64 fr, .int .i64 sq] 35) = z := ⟨_, rfl⟩
  obtain ⟨X, hX⟩ : ∃ z, w.heap.size = z := ⟨_, rfl⟩
  have s1 : w1.heap.size = w.heap.size + 1 := by rw [← hw1]; simp
  rw [hw1] at b1 k1
  have b2 := (Below.refl w1.heap.size w1).alloc (Nat.le_refl _) (.cells #[.int .i64 pe] 3)
  have k2 := Blk.new w1 3 #[.int .i64 pe]
  obtain ⟨w2, hw2⟩ : ∃ z, w1.alloc (.cells #[.int .i64 pe] 3) = z := ⟨_, rfl⟩
  have s2 : w2.heap.size = w.heap.size + 2 := by rw [← hw2]; simp [s1]
  rw [hw2] at b2 k2
  rw [hX] at k1 s1 s2
  rw [s1] at k2
  have K2 := hide (k1.below b2 (by omega))
  have KI := hide k2
  have B2 : Hid (Below w.heap.size w w2) := hide (b1.trans (b2.mono (by omega)))
  have HQ := hide hq
  have HRA := hide hra
  have HAN := hide han
  have HW1 := hide hw1
  have HW2 := hide hw2
  have HX := hide hX
  have S1 := hide s1
  have x0 : w2.cell? ⟨X, 0, none⟩ = some (.string key) := K2.out.cell 0
  have x1 : w2.cell? ⟨X, 1, none⟩ = some (.int .i64 rk) := K2.out.cell 1
  have x3 : w2.cell? ⟨X, 3, none⟩ = some (.int .i64 pe) := K2.out.cell 3
  clear hw1 hw2 hX b1 b2 k1 k2 s1 s2 hq hra han
  by_cases hp : pe = -1
  · obtain rfl := hp
    obtain ⟨fs, hfs⟩ : ∃ z, sendersL l ⟨key, rk⟩ = z := ⟨_, rfl⟩
    have FE : Hid (freeL l ⟨key, rk, ca, -1, tg, rq, dn, fr, sq⟩ ah = flt ah (fstsL l key rk tg fs)) := hide (by unfold freeL sndL; rw [if_pos rfl, hfs])
    have SC := hide (Senders_c (HQ.out.below B2.out) ⟨key, rk⟩ hl)
    have hsl := senders_len l ⟨key, rk⟩
    rw [hfs] at SC hsl
    have HFL := hide hsl
    clear hsl hfs
    go_enter Try.func58, Try.ntmps58
    go_upto_region 2 with (fail)
    rw [HW1.out, HX.out, HW2.out]
    go_wp2_with fail
    refine SC.out.mono ?_
    rintro e w3 ⟨SA, sc, rfl, hso, hb3⟩
    have SR := hide (IRow.of_own hso rfl)
    have KB := hide (K2.out.below hb3 K2.out.lt)
    have B3 := hide (B2.out.trans (hb3.mono B2.out.size))
    have HQ3 := hide (HQ.out.below B3.out)
    obtain ⟨sn, hsn⟩ : ∃ z, fs.length = z := ⟨_, rfl⟩
    rw [hsn]
    have HSL := hide (show sn ≤ 1000 by have := HFL.out; omega)
    clear hso hb3 x0 x1 x3 SC
    go_wp2_with fail
    have HN := hide hsn
    go_loopw [8, 10, 11, 12, 27] (fun v8 _ _ _ v27 wr => ∃ (j : Nat) (A1 : Option Addr) (c1 : Nat), j ≤ sn ∧ v27 = .int .i64 j ∧ v8 = .slice A1 (fstsL l key rk tg (fs.take j)).length c1 ∧ Hid (wr.ownsRow w3.heap.size 33 8 (.slice A1 (fstsL l key rk tg (fs.take j)).length c1) (fstsL l key rk tg (fs.take j)).length (msgCs (fstsL l key rk tg (fs.take j)))) ∧ Hid (Below w3.heap.size w3 wr)) (fun _ _ _ _ v27 _ => sn - (RowKit.intOf v27).toNat)
    case atStart => exact ⟨0, none, 0, Nat.zero_le _, rfl, rfl, hide ⟨rfl, .inl ⟨rfl, rfl⟩⟩, hide (Below.refl _ _)⟩
    case round =>
      obtain ⟨j, A1, c1, hj, rfl, rfl, HOW, HBR⟩ := hrel
      rename World => wr
      have hn1 := HSL.out
      by_cases hlt : j < sn
      rotate_left
      · have hltI : ¬ (j : Int) < (sn : Int) := by omega
        obtain rfl : sn = j := by omega
        have e : fs.take sn = fs := by rw [← HN.out, List.take_length]
        rw [e] at HOW
        rw [e]
        have hfl : (fstsL l key rk tg fs).length ≤ 1000 := by have := fsts_len l key rk tg fs; have := HN.out; omega
        have FC := hide (filterM_c A1 c1 _ (fstsL l key rk tg fs) (MRow.of_own HOW.out rfl) rfl hfl A cap n ah ((HRA.out.below B3.out).below HBR.out) HAN.out hnl)
        go_wp2_with fail
        refine FC.out.mono ?_
        rintro e w7 ⟨A2, c2, rfl, how, hb7⟩
        go_wp2_with fail
        go_ret
        have B7 := B3.out.trans (HBR.out.mono B3.out.size)
        exact ⟨A2, c2, by rw [FE.out]; rfl, by rw [FE.out]; exact own_monoP how B7.size, B7.trans (hb7.mono B7.size)⟩
      have hltI : (j : Int) < (sn : Int) := by omega
      obtain ⟨f, hf⟩ : ∃ f, fs[j]? = some f := ⟨_, List.getElem?_eq_getElem (by rw [HN.out]; exact hlt)⟩
      obtain ⟨g, eg, hg, hcf⟩ := SR.out j f hf
      cases eg
      have n0 : wr.cell? ⟨g, j, none⟩ = some (.int .i64 f) := (HBR.out.cell (p := ⟨g, j, none⟩) hg).trans hcf
      have kxr := KB.out.below HBR.out KB.out.lt
      have p0 : wr.cell? ⟨X, 0, none⟩ = some (.string key) := kxr.cell 0
      have p1 : wr.cell? ⟨X, 1, none⟩ = some (.int .i64 rk) := kxr.cell 1
      have p4 : wr.cell? ⟨X, 4, none⟩ = some (.int .i64 tg) := kxr.cell 4
      have FC := hide (First_c (HQ3.out.below HBR.out) ⟨key, f, rk⟩ tg hl)
      obtain ⟨res, hres⟩ : ∃ z, firstL l ⟨key, f, rk⟩ tg = z := ⟨_, rfl⟩
      rw [hres] at FC
      have HST := hide (fsts_step (l := l) (key := key) (rk := rk) (tg := tg) hf)
      rw [hres] at HST
      have HLT := hide hlt
      have HWL := hide (show (fstsL l key rk tg (fs.take j)).length ≤ 1000 by
        have h1 := fsts_len l key rk tg (fs.take j)
        rw [List.length_take] at h1
        omega)
      clear hcf hf hres hlt hg kxr
      go_wp2_with fail
      refine FC.out.mono ?_
      unfold tellV
      rintro e w5 ⟨rfl, hb5⟩
      obtain ⟨y, hy⟩ : ∃ y, res.getD m0 = y := ⟨_, rfl⟩
      have HY := hide hy
      rw [hy]
      obtain ⟨yk, yf, yt, yc, yg, yv, yz, yb⟩ := y
      simp only
      have HB5 := hide (HBR.out.trans (hb5.mono HBR.out.size))
      have OW5 := hide (own_belowR HOW.out hb5)
      have ba := (Below.refl w5.heap.size w5).alloc (Nat.le_refl _) (.cells #[.string yk, .int .i64 yf, .int .i64 yt, .int .i64 yc, .int .i64 yg, .int .i64 yv, .int .i64 yz, .bool yb] 33)
      have ky := Blk.new w5 33 #[.string yk, .int .i64 yf, .int .i64 yt, .int .i64 yc, .int .i64 yg, .int .i64 yv, .int .i64 yz, .bool yb]
      obtain ⟨w6, hw6⟩ : ∃ z, w5.alloc (.cells #[.string yk, .int .i64 yf, .int .i64 yt, .int .i64 yc, .int .i64 yg, .int .i64 yv, .int .i64 yz, .bool yb] 33) = z := ⟨_, rfl⟩
      obtain ⟨Y, hYY⟩ : ∃ z, w5.heap.size = z := ⟨_, rfl⟩
      rw [hw6] at ba ky
      rw [hYY] at ky
      have HB6 := hide (HB5.out.trans (ba.mono HB5.out.size))
      have OW6 := hide (own_belowR OW5.out ba)
      have HW6 := hide hw6
      have HYY := hide hYY
      have KY := hide ky
      clear hb5 ba ky hw6 hYY hy FC n0 p0 p1 p4
      go_upto_region 9 with (fail)
      rw [HW6.out, HYY.out]
      cases res with
      | none =>
        have HU : Hid (fstsL l key rk tg (fs.take (j + 1)) = fstsL l key rk tg (fs.take j)) := hide (by rw [HST.out]; simp)
        go_wp2_with fail
        go_roundw
        case rel => exact ⟨j + 1, A1, c1, HLT.out, by go_num, by rw [HU.out], by rw [HU.out]; exact OW6, HB6⟩
        case measure => have := HLT.out; simp [RowKit.intOf] <;> omega
      | some m =>
        have HU : Hid (fstsL l key rk tg (fs.take (j + 1)) = fstsL l key rk tg (fs.take j) ++ [⟨yk, yf, yt, yc, yg, yv, yz, yb⟩]) := hide (by
          rw [HST.out]
          have h := HY.out
          simp only [Option.getD_some] at h
          rw [h]
          rfl)
        have y0 : w6.cell? ⟨Y, 0, none⟩ = some (.string yk) := KY.out.cell 0
        have y1 : w6.cell? ⟨Y, 1, none⟩ = some (.int .i64 yf) := KY.out.cell 1
        have y2 : w6.cell? ⟨Y, 2, none⟩ = some (.int .i64 yt) := KY.out.cell 2
        have y3 : w6.cell? ⟨Y, 3, none⟩ = some (.int .i64 yc) := KY.out.cell 3
        have y4 : w6.cell? ⟨Y, 4, none⟩ = some (.int .i64 yg) := KY.out.cell 4
        have y5 : w6.cell? ⟨Y, 5, none⟩ = some (.int .i64 yv) := KY.out.cell 5
        have y6 : w6.cell? ⟨Y, 6, none⟩ = some (.int .i64 yz) := KY.out.cell 6
        have y7 : w6.cell? ⟨Y, 7, none⟩ = some (.bool yb) := KY.out.cell 7
        obtain ⟨A2, c2', w7, hrun, hown, hgr, _⟩ := push_m w6 w3.heap.size A1 c1 _ _ ⟨yk, yf, yt, yc, yg, yv, yz, yb⟩ OW6.out HB6.out.size (by have := HWL.out; omega)
        have HB7 := hide (HB6.out.grown hgr HB6.out.size fun k e => (own_block OW6.out e).1)
        have HLN := hide (show (fstsL l key rk tg (fs.take (j + 1))).length = (fstsL l key rk tg (fs.take j)).length + 1 by rw [HU.out]; simp)
        have OW7 := hide (show w7.ownsRow w3.heap.size 33 8 (.slice A2 ((fstsL l key rk tg (fs.take j)).length + 1) c2') ((fstsL l key rk tg (fs.take j)).length + 1) (msgCs (fstsL l key rk tg (fs.take (j + 1)))) by
          rw [HU.out, msgCs_app]
          simpa [msgCs] using hown)
        have RUN := hide hrun
        clear hrun hown hgr
        go_wp2_with (at_builtin; refine Lib.wpList_append_run _ rfl _ _ 45 45 rfl _ _ rfl rfl _ _ RUN.out ?_)
        go_roundw
        case rel => exact ⟨j + 1, A2, c2', HLT.out, by go_num, by rw [HLN.out], by rw [HLN.out]; exact OW7, HB7⟩
        case measure => have := HLT.out; simp [RowKit.intOf] <;> omega
  · have hpb : (pe == (-1 : Int)) = false := by simp [hp]
    obtain ⟨fs, hfs⟩ : ∃ z, [pe] = z := ⟨_, rfl⟩
    have FE : Hid (freeL l ⟨key, rk, ca, pe, tg, rq, dn, fr, sq⟩ ah = flt ah (fstsL l key rk tg fs)) := hide (by unfold freeL sndL; simp only; rw [if_neg hp, hfs])
    go_enter Try.func58, Try.ntmps58
    go_upto_region 2 with (fail)
    rw [HW1.out, HX.out, HW2.out]
    go_wp2_with fail
    obtain ⟨w3, hw3⟩ : ∃ z, w2 = z := ⟨_, rfl⟩
    rw [hw3] at B2 K2 KI
    rw [hw3]
    have SR : Hid (IRow w3 (some ⟨X + 1, 0, none⟩) fs) := hide (fun i f hf => by
      rw [← hfs] at hf
      cases i with
      | zero =>
        have e : pe = f := by simpa using hf
        subst e
        exact ⟨_, rfl, KI.out.lt, KI.out.cell 0⟩
      | succ i => simp at hf)
    have KB := K2
    have B3 := B2
    have HQ3 := hide (HQ.out.below B3.out)
    have hsn1 : fs.length = 1 := by rw [← hfs]; rfl
    obtain ⟨sn, hsn⟩ : ∃ z, fs.length = z := ⟨_, rfl⟩
    obtain rfl : sn = 1 := by omega
    have HSL := hide (show (1 : Nat) ≤ 1000 by omega)
    clear x0 x1 x3 hpb hfs hw3 hsn1
    have HN := hide hsn
    go_loopw [8, 10, 11, 12, 27] (fun v8 _ _ _ v27 wr => ∃ (j : Nat) (A1 : Option Addr) (c1 : Nat), j ≤ 1 ∧ v27 = .int .i64 j ∧ v8 = .slice A1 (fstsL l key rk tg (fs.take j)).length c1 ∧ Hid (wr.ownsRow w3.heap.size 33 8 (.slice A1 (fstsL l key rk tg (fs.take j)).length c1) (fstsL l key rk tg (fs.take j)).length (msgCs (fstsL l key rk tg (fs.take j)))) ∧ Hid (Below w3.heap.size w3 wr)) (fun _ _ _ _ v27 _ => 1 - (RowKit.intOf v27).toNat)
    case atStart => exact ⟨0, none, 0, Nat.zero_le _, rfl, rfl, hide ⟨rfl, .inl ⟨rfl, rfl⟩⟩, hide (Below.refl _ _)⟩
    case round =>
      obtain ⟨j, A1, c1, hj, rfl, rfl, HOW, HBR⟩ := hrel
      rename World => wr
      have hn1 := HSL.out
      by_cases hlt : j < 1
      rotate_left
      · have hltI : ¬ (j : Int) < ((1 : Nat) : Int) := by omega
        obtain rfl : j = 1 := by omega
        have e : fs.take 1 = fs := by rw [← HN.out, List.take_length]
        rw [e] at HOW
        rw [e]
        have hfl : (fstsL l key rk tg fs).length ≤ 1000 := by have := fsts_len l key rk tg fs; have := HN.out; omega
        have FC := hide (filterM_c A1 c1 _ (fstsL l key rk tg fs) (MRow.of_own HOW.out rfl) rfl hfl A cap n ah ((HRA.out.below B3.out).below HBR.out) HAN.out hnl)
        go_wp2_with fail
        refine FC.out.mono ?_
        rintro e w7 ⟨A2, c2, rfl, how, hb7⟩
        go_wp2_with fail
        go_ret
        have B7 := B3.out.trans (HBR.out.mono B3.out.size)
        exact ⟨A2, c2, by rw [FE.out]; rfl, by rw [FE.out]; exact own_monoP how B7.size, B7.trans (hb7.mono B7.size)⟩
      have hltI : (j : Int) < ((1 : Nat) : Int) := by omega
      obtain ⟨f, hf⟩ : ∃ f, fs[j]? = some f := ⟨_, List.getElem?_eq_getElem (by rw [HN.out]; exact hlt)⟩
      obtain ⟨g, eg, hg, hcf⟩ := SR.out j f hf
      cases eg
      have n0 : wr.cell? ⟨X + 1, j, none⟩ = some (.int .i64 f) := (HBR.out.cell (p := ⟨X + 1, j, none⟩) hg).trans hcf
      have kxr := KB.out.below HBR.out KB.out.lt
      have p0 : wr.cell? ⟨X, 0, none⟩ = some (.string key) := kxr.cell 0
      have p1 : wr.cell? ⟨X, 1, none⟩ = some (.int .i64 rk) := kxr.cell 1
      have p4 : wr.cell? ⟨X, 4, none⟩ = some (.int .i64 tg) := kxr.cell 4
      have FC := hide (First_c (HQ3.out.below HBR.out) ⟨key, f, rk⟩ tg hl)
      obtain ⟨res, hres⟩ : ∃ z, firstL l ⟨key, f, rk⟩ tg = z := ⟨_, rfl⟩
      rw [hres] at FC
      have HST := hide (fsts_step (l := l) (key := key) (rk := rk) (tg := tg) hf)
      rw [hres] at HST
      have HLT := hide hlt
      have HWL := hide (show (fstsL l key rk tg (fs.take j)).length ≤ 1000 by
        have h1 := fsts_len l key rk tg (fs.take j)
        rw [List.length_take] at h1
        omega)
      clear hcf hf hres hlt hg kxr
      go_wp2_with fail
      refine FC.out.mono ?_
      unfold tellV
      rintro e w5 ⟨rfl, hb5⟩
      obtain ⟨y, hy⟩ : ∃ y, res.getD m0 = y := ⟨_, rfl⟩
      have HY := hide hy
      rw [hy]
      obtain ⟨yk, yf, yt, yc, yg, yv, yz, yb⟩ := y
      simp only
      have HB5 := hide (HBR.out.trans (hb5.mono HBR.out.size))
      have OW5 := hide (own_belowR HOW.out hb5)
      have ba := (Below.refl w5.heap.size w5).alloc (Nat.le_refl _) (.cells #[.string yk, .int .i64 yf, .int .i64 yt, .int .i64 yc, .int .i64 yg, .int .i64 yv, .int .i64 yz, .bool yb] 33)
      have ky := Blk.new w5 33 #[.string yk, .int .i64 yf, .int .i64 yt, .int .i64 yc, .int .i64 yg, .int .i64 yv, .int .i64 yz, .bool yb]
      obtain ⟨w6, hw6⟩ : ∃ z, w5.alloc (.cells #[.string yk, .int .i64 yf, .int .i64 yt, .int .i64 yc, .int .i64 yg, .int .i64 yv, .int .i64 yz, .bool yb] 33) = z := ⟨_, rfl⟩
      obtain ⟨Y, hYY⟩ : ∃ z, w5.heap.size = z := ⟨_, rfl⟩
      rw [hw6] at ba ky
      rw [hYY] at ky
      have HB6 := hide (HB5.out.trans (ba.mono HB5.out.size))
      have OW6 := hide (own_belowR OW5.out ba)
      have HW6 := hide hw6
      have HYY := hide hYY
      have KY := hide ky
      clear hb5 ba ky hw6 hYY hy FC n0 p0 p1 p4
      go_upto_region 9 with (fail)
      rw [HW6.out, HYY.out]
      cases res with
      | none =>
        have HU : Hid (fstsL l key rk tg (fs.take (j + 1)) = fstsL l key rk tg (fs.take j)) := hide (by rw [HST.out]; simp)
        go_wp2_with fail
        go_roundw
        case rel => exact ⟨j + 1, A1, c1, HLT.out, by go_num, by rw [HU.out], by rw [HU.out]; exact OW6, HB6⟩
        case measure => have := HLT.out; simp [RowKit.intOf] <;> omega
      | some m =>
        have HU : Hid (fstsL l key rk tg (fs.take (j + 1)) = fstsL l key rk tg (fs.take j) ++ [⟨yk, yf, yt, yc, yg, yv, yz, yb⟩]) := hide (by
          rw [HST.out]
          have h := HY.out
          simp only [Option.getD_some] at h
          rw [h]
          rfl)
        have y0 : w6.cell? ⟨Y, 0, none⟩ = some (.string yk) := KY.out.cell 0
        have y1 : w6.cell? ⟨Y, 1, none⟩ = some (.int .i64 yf) := KY.out.cell 1
        have y2 : w6.cell? ⟨Y, 2, none⟩ = some (.int .i64 yt) := KY.out.cell 2
        have y3 : w6.cell? ⟨Y, 3, none⟩ = some (.int .i64 yc) := KY.out.cell 3
        have y4 : w6.cell? ⟨Y, 4, none⟩ = some (.int .i64 yg) := KY.out.cell 4
        have y5 : w6.cell? ⟨Y, 5, none⟩ = some (.int .i64 yv) := KY.out.cell 5
        have y6 : w6.cell? ⟨Y, 6, none⟩ = some (.int .i64 yz) := KY.out.cell 6
        have y7 : w6.cell? ⟨Y, 7, none⟩ = some (.bool yb) := KY.out.cell 7
        obtain ⟨A2, c2', w7, hrun, hown, hgr, _⟩ := push_m w6 w3.heap.size A1 c1 _ _ ⟨yk, yf, yt, yc, yg, yv, yz, yb⟩ OW6.out HB6.out.size (by have := HWL.out; omega)
        have HB7 := hide (HB6.out.grown hgr HB6.out.size fun k e => (own_block OW6.out e).1)
        have HLN := hide (show (fstsL l key rk tg (fs.take (j + 1))).length = (fstsL l key rk tg (fs.take j)).length + 1 by rw [HU.out]; simp)
        have OW7 := hide (show w7.ownsRow w3.heap.size 33 8 (.slice A2 ((fstsL l key rk tg (fs.take j)).length + 1) c2') ((fstsL l key rk tg (fs.take j)).length + 1) (msgCs (fstsL l key rk tg (fs.take (j + 1)))) by
          rw [HU.out, msgCs_app]
          simpa [msgCs] using hown)
        have RUN := hide hrun
        clear hrun hown hgr
        go_wp2_with (at_builtin; refine Lib.wpList_append_run _ rfl _ _ 45 45 rfl _ _ rfl rfl _ _ RUN.out ?_)
        go_roundw
        case rel => exact ⟨j + 1, A2, c2', HLT.out, by go_num, by rw [HLN.out], by rw [HLN.out]; exact OW7, HB7⟩
        case measure => have := HLT.out; simp [RowKit.intOf] <;> omega
end Po
end Go.Proofs.Ytonmojinijpneaa
