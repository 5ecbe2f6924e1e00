/- A message is taken: the program. -/
import Derived.Test.YtonmojinijpneaaRows
import Derived.Test.YtonmojinijpneaaQuF
import Derived.Deep.LoopGhost
import Derived.Deep.CutRange
namespace Go.Proofs.Ytonmojinijpneaa
open Go Go.RowKit Go.Lib
set_option linter.unusedVariables false
set_option linter.unusedSimpArgs false
namespace Qu
/-- What lies at a channel, whichever. -/
theorem look_any {w : World} {q : Nat} {L : QL} {l : List Msg} (h : QSt w q L l) (c : Chan) : ∃ (A : Option Addr) (n cap : Nat) (fi : Int), (SMap.look (L.cl.map fun p => (p.1, rowV (rowsOf l p.1) p.2)) c).getD (.agg #[.slice none 0 0, .int .i64 0]) = .agg #[.slice A n cap, .int .i64 fi] := by
  by_cases hr : rowsOf l c = []
  · rw [h.norow hr]; exact ⟨none, 0, 0, 0, rfl⟩
  · obtain ⟨x, _, e⟩ := h.row hr
    rw [e]; exact ⟨_, _, _, _, rfl⟩
theorem taken_modify {r : List Msg} {a : Nat} (h : ∀ y ∈ r, y.tk = true) : ∀ y ∈ r.modify a Msg.took, y.tk = true := fun y hy => by
  obtain ⟨j, hj, rfl⟩ := List.getElem_of_mem hy
  rw [List.getElem_modify]
  split
  · rfl
  · exact h _ (List.getElem_mem _)
/-- How a queue goes on: what it tells of the world. -/
def Goes (w : World) (q : Nat) (L : QL) (l' : List Msg) (w' : World) : Prop := ∃ L', QSt w' q L' l' ∧ Ch (L.foot q) w w' ∧ ∀ b ∈ L'.foot q, b ∈ L.foot q ∨ w.heap.size ≤ b
theorem Goes.same {w w' : World} {q : Nat} {L : QL} {l : List Msg} (h : QSt w q L l) (hb : Below w.heap.size w w') : Goes w q L l w' := ⟨L, h.below hb, Ch.of_below hb, fun b hb => .inl hb⟩
set_option maxRecDepth 100000 in
set_option maxHeartbeats 16000000 in
theorem Take_c {w : World} {q : Nat} {L : QL} {l : List Msg} (h : QSt w q L l) (v : Who) (hl : l.length ≤ 1000) :
    Calls Try.prog 45 #[.pointer (some ⟨q, 0, none⟩), .int .i64 v.fr, .int .i64 v.ca] w fun e w' => e = .returned (.int .i64 (takeE l v)) ∧ Goes w q L (takeL l v) w' := by
  have HQ0 := hide h
  have MC := hide (made_c h)
  have c1 : w.cell? ⟨q, 1, none⟩ = some (.map (some L.pm)) := h.blk.cell 1
  have lk := SMap.run_lookupOk keyWho Try.underlying90 zero_place v L.pm _ w h.mp
  rw [h.pin] at lk
  unfold whV at lk
  clear h
  go_enter Try.func45, Try.ntmps45
  go_wp2_with fail
  refine MC.out.mono ?_
  rintro e w1b ⟨rfl, hw1b⟩
  obtain rfl : w = w1b := hw1b
  cases hp : plc l v with
  | none =>
    have FE : Hid (takeE l v = 2) := hide (by unfold takeE findL; rw [hp]; rfl)
    have FL : Hid (takeL l v = l) := hide (by unfold takeL; rw [hp])
    have hpr : plcR l v = none := by unfold plcR; rw [hp]; rfl
    rw [hpr] at lk
    simp only [Option.map_none, Option.getD_none, Option.isSome_none] at lk
    have bz := (Below.refl w.heap.size w).alloc (Nat.le_refl _) (.cells #[.string ⟨#[]⟩, .int .i64 0, .int .i64 0, .int .i64 0] 108)
    have ky := Blk.new w 108 #[.string ⟨#[]⟩, .int .i64 0, .int .i64 0, .int .i64 0]
    obtain ⟨w2, hw2⟩ : ∃ z, w.alloc (.cells #[.string ⟨#[]⟩, .int .i64 0, .int .i64 0, .int .i64 0] 108) = z := ⟨_, rfl⟩
    obtain ⟨Y, hY⟩ : ∃ z, w.heap.size = z := ⟨_, rfl⟩
    rw [hw2] at bz ky
    rw [hY] at ky
    have HQ2 := hide (HQ0.out.below bz)
    have HB2 := hide bz
    have HW2 := hide hw2
    have HY := hide hY
    have KY := hide ky
    clear bz ky hw2 hY MC hp hpr
    go_upto_region 4 with (fail)
    rw [HW2.out, HY.out]
    clear lk c1 HW2
    have br := (Below.refl w2.heap.size w2).alloc (Nat.le_refl _) (.cells #[.slice none 0 0, .int .i64 0] 103)
    have kr := Blk.new w2 103 #[.slice none 0 0, .int .i64 0]
    have HQ3 := hide (HQ2.out.below br)
    have HB3 := hide (HB2.out.trans (br.mono HB2.out.size))
    have ky3 := KY.out.below br KY.out.lt
    have c0' : w2.cell? ⟨q, 0, none⟩ = some (.map (some L.cm)) := HQ2.out.blk.cell 0
    have c0 : (w2.alloc (.cells #[.slice none 0 0, .int .i64 0] 103)).cell? ⟨q, 0, none⟩ = some (.map (some L.cm)) := HQ3.out.blk.cell 0
    have y0' : w2.cell? ⟨Y, 0, none⟩ = some (.string ⟨#[]⟩) := KY.out.cell 0
    have y1' : w2.cell? ⟨Y, 1, none⟩ = some (.int .i64 0) := KY.out.cell 1
    have y2' : w2.cell? ⟨Y, 2, none⟩ = some (.int .i64 0) := KY.out.cell 2
    have y3' : w2.cell? ⟨Y, 3, none⟩ = some (.int .i64 0) := KY.out.cell 3
    have y0 : (w2.alloc (.cells #[.slice none 0 0, .int .i64 0] 103)).cell? ⟨Y, 0, none⟩ = some (.string ⟨#[]⟩) := ky3.cell 0
    have y1 : (w2.alloc (.cells #[.slice none 0 0, .int .i64 0] 103)).cell? ⟨Y, 1, none⟩ = some (.int .i64 0) := ky3.cell 1
    have y2 : (w2.alloc (.cells #[.slice none 0 0, .int .i64 0] 103)).cell? ⟨Y, 2, none⟩ = some (.int .i64 0) := ky3.cell 2
    have y3 : (w2.alloc (.cells #[.slice none 0 0, .int .i64 0] 103)).cell? ⟨Y, 3, none⟩ = some (.int .i64 0) := ky3.cell 3
    have z0 : (w2.alloc (.cells #[.slice none 0 0, .int .i64 0] 103)).cell? ⟨w2.heap.size, 0, none⟩ = some (.slice none 0 0) := kr.cell 0
    have z1 : (w2.alloc (.cells #[.slice none 0 0, .int .i64 0] 103)).cell? ⟨w2.heap.size, 1, none⟩ = some (.int .i64 0) := kr.cell 1
    have f0 := kr.frozen 0
    have f1 := kr.frozen 1
    obtain ⟨A, n, cap, fi, hv⟩ := look_any HQ3.out ⟨⟨#[]⟩, 0, 0⟩
    have lk := SMap.run_lookup keyChan Try.underlying89 zero_row ⟨⟨#[]⟩, 0, 0⟩ L.cm _ _ HQ3.out.drew.mc
    have lk' := SMap.run_lookup keyChan Try.underlying89 zero_row ⟨⟨#[]⟩, 0, 0⟩ L.cm _ w2.drew HQ2.out.drew.mc
    rw [hv] at lk lk'
    unfold chV at lk lk'
    have HBA := hide (HB2.out.trans ((((Below.refl w2.heap.size w2).alloc (Nat.le_refl _) (.cells #[.slice A n cap, .int .i64 fi] 103)).drew).mono HB2.out.size))
    clear hv br kr ky3
    go_region
    all_goals (go_wp2_with fail)
    all_goals go_ret
    all_goals exact ⟨by rw [FE.out]; rfl, by rw [FL.out]; exact Goes.same HQ0.out HBA.out⟩
  | some i =>
    obtain ⟨m, x, hm, hw, hx, hpr, hat, hfi, he, hcap⟩ := plc_row HQ0.out hp
    rw [hpr] at lk
    generalize hC : m.ch = C at hpr hat he hcap hx lk
    generalize hA : (rowsOf (l.take i) C).length = a at hpr hat lk
    obtain ⟨ck, cf, ct⟩ := C
    simp only [Option.map_some, Option.getD_some, Option.isSome_some, plV] at lk
    have hal : a < (rowsOf l ⟨ck, cf, ct⟩).length := (List.getElem?_eq_some_iff.1 hat).1
    have hrl := rowsOf_len l ⟨ck, cf, ct⟩
    have bz := (Below.refl w.heap.size w).alloc (Nat.le_refl _) (.cells #[.string ck, .int .i64 cf, .int .i64 ct, .int .i64 a] 108)
    have ky := Blk.new w 108 #[.string ck, .int .i64 cf, .int .i64 ct, .int .i64 a]
    obtain ⟨w2, hw2⟩ : ∃ z, w.alloc (.cells #[.string ck, .int .i64 cf, .int .i64 ct, .int .i64 a] 108) = z := ⟨_, rfl⟩
    obtain ⟨Y, hY⟩ : ∃ z, w.heap.size = z := ⟨_, rfl⟩
    rw [hw2] at bz ky
    rw [hY] at ky
    obtain ⟨n, hn⟩ : ∃ n, (rowsOf l ⟨ck, cf, ct⟩).length = n := ⟨_, rfl⟩
    have HQ2 := hide (HQ0.out.below bz)
    have HB2 := hide bz
    have HW2 := hide hw2
    have HY := hide hY
    have KY := hide ky
    have HE := hide he
    have HAT := hide hat
    have HXM := hide hx
    have HAL := hide (show a < n by omega)
    have HNL := hide (show n ≤ 1000 by omega)
    have HCAP := hide (show n ≤ x.cap by omega)
    have HN := hide hn
    have HFI := hide hfi
    have HP := hide hp
    have HM := hide hm
    have HC := hide hC
    have HAA := hide hA
    clear bz ky hw2 hY MC hp hpr he hat hx hm hw hfi hcap hC hA hal hrl hn
    go_upto_region 4 with (fail)
    rw [HW2.out, HY.out]
    clear lk c1 HW2
    have br := (Below.refl w2.heap.size w2).alloc (Nat.le_refl _) (.cells #[.slice none 0 0, .int .i64 0] 103)
    have kr := Blk.new w2 103 #[.slice none 0 0, .int .i64 0]
    have HQ3 := hide (HQ2.out.below br)
    have HB3 := hide (HB2.out.trans (br.mono HB2.out.size))
    have ky3 := KY.out.below br KY.out.lt
    have c0' : w2.cell? ⟨q, 0, none⟩ = some (.map (some L.cm)) := HQ2.out.blk.cell 0
    have c0 : (w2.alloc (.cells #[.slice none 0 0, .int .i64 0] 103)).cell? ⟨q, 0, none⟩ = some (.map (some L.cm)) := HQ3.out.blk.cell 0
    have y0' : w2.cell? ⟨Y, 0, none⟩ = some (.string ck) := KY.out.cell 0
    have y1' : w2.cell? ⟨Y, 1, none⟩ = some (.int .i64 cf) := KY.out.cell 1
    have y2' : w2.cell? ⟨Y, 2, none⟩ = some (.int .i64 ct) := KY.out.cell 2
    have y3' : w2.cell? ⟨Y, 3, none⟩ = some (.int .i64 a) := KY.out.cell 3
    have y0 : (w2.alloc (.cells #[.slice none 0 0, .int .i64 0] 103)).cell? ⟨Y, 0, none⟩ = some (.string ck) := ky3.cell 0
    have y1 : (w2.alloc (.cells #[.slice none 0 0, .int .i64 0] 103)).cell? ⟨Y, 1, none⟩ = some (.int .i64 cf) := ky3.cell 1
    have y2 : (w2.alloc (.cells #[.slice none 0 0, .int .i64 0] 103)).cell? ⟨Y, 2, none⟩ = some (.int .i64 ct) := ky3.cell 2
    have y3 : (w2.alloc (.cells #[.slice none 0 0, .int .i64 0] 103)).cell? ⟨Y, 3, none⟩ = some (.int .i64 a) := ky3.cell 3
    have z0 : (w2.alloc (.cells #[.slice none 0 0, .int .i64 0] 103)).cell? ⟨w2.heap.size, 0, none⟩ = some (.slice none 0 0) := kr.cell 0
    have z1 : (w2.alloc (.cells #[.slice none 0 0, .int .i64 0] 103)).cell? ⟨w2.heap.size, 1, none⟩ = some (.int .i64 0) := kr.cell 1
    have f0 := kr.frozen 0
    have f1 := kr.frozen 1
    have lk := SMap.run_lookup keyChan Try.underlying89 zero_row ⟨ck, cf, ct⟩ L.cm _ _ HQ3.out.drew.mc
    have lk' := SMap.run_lookup keyChan Try.underlying89 zero_row ⟨ck, cf, ct⟩ L.cm _ w2.drew HQ2.out.drew.mc
    rw [HE.out] at lk lk'
    simp only [Option.getD_some, rowV, chV] at lk lk'
    rw [HN.out] at lk lk'
    have k5 := Blk.new w2 103 #[.slice (some ⟨x.g, 0, none⟩) n x.cap, .int .i64 x.fi]
    have b5 := (Below.refl w2.heap.size w2).alloc (Nat.le_refl _) (.cells #[.slice (some ⟨x.g, 0, none⟩) n x.cap, .int .i64 x.fi] 103)
    have K5 := hide (k5.below (Below.refl _ _).drew k5.lt)
    have B5 := hide b5.drew
    clear k5 b5 br kr ky3
    go_cut [9] from 24 to 30 (fun x9 wx => x9 = .pointer (some ⟨w2.heap.size, 0, none⟩) ∧ (w2.alloc (.cells #[.slice (some ⟨x.g, 0, none⟩) n x.cap, .int .i64 x.fi] 103)).drew = wx)
    case first =>
      go_region
      all_goals (go_wp2_with fail)
      all_goals go_meet
      all_goals exact ⟨rfl, rfl⟩
    obtain ⟨rfl, hwc⟩ := hcut
    subst hwc
    clear lk lk' c0 c0' y0 y1 y2 y3 y0' y1' y2' y3' z0 z1 f0 f1 HQ3 HB3
    obtain ⟨w3, hw3⟩ : ∃ z, (w2.alloc (.cells #[.slice (some ⟨x.g, 0, none⟩) n x.cap, .int .i64 x.fi] 103)).drew = z := ⟨_, rfl⟩
    obtain ⟨R, hR⟩ : ∃ z, w2.heap.size = z := ⟨_, rfl⟩
    rw [hw3, hR] at K5 ⊢
    have b5 := B5.out
    rw [hw3] at b5
    have HQ3 := hide (HQ2.out.below b5)
    have HB3 := hide (HB2.out.trans (b5.mono HB2.out.size))
    have KY3 := hide (KY.out.below b5 KY.out.lt)
    have HRY := hide (show Y < R by rw [← hR]; exact KY.out.lt)
    have HRF := hide (fun b (hb : b ∈ L.foot q) => show b < R by rw [← hR]; exact HQ2.out.lt b hb)
    have HR0 := hide (show w.heap.size ≤ R by rw [← hR]; exact HB2.out.size)
    have HXY := hide (fun b (hb : b ∈ L.foot q) => show b < Y by rw [← HY.out]; exact HQ0.out.lt b hb)
    clear b5 hw3 hR B5 HB2 HQ2 KY
    have hit := fun k v hv => HQ3.out.item HXM.out HAT.out k v hv
    have n7 : w3.cell? ⟨x.g, a * 8 + 7, none⟩ = some (.bool m.tk) := hit 7 _ rfl
    have r0 : w3.cell? ⟨R, 0, none⟩ = some (.slice (some ⟨x.g, 0, none⟩) n x.cap) := K5.out.cell 0
    have p3 : w3.cell? ⟨Y, 3, none⟩ = some (.int .i64 a) := KY3.out.cell 3
    have al0 : (0 : Int) ≤ (a : Int) := by omega
    have alI : (a : Int) < (n : Int) := by have := HAL.out; omega
    have han := HNL.out
    clear hit
    cases htk : m.tk with
    | true =>
      rw [htk] at n7
      have FE : Hid (takeE l v = 2) := hide (by unfold takeE; rw [HFI.out]; simp only [htk, if_true])
      have FL : Hid (takeL l v = l) := hide (by unfold takeL; rw [HP.out]; exact modify_same HM.out htk)
      clear htk
      go_wp2_with fail
      go_ret
      exact ⟨by rw [FE.out]; rfl, by rw [FL.out]; exact Goes.same HQ0.out HB3.out⟩
    | false =>
      rw [htk] at n7
      have FE : Hid (takeE l v = 0) := hide (by unfold takeE; rw [HFI.out]; simp only [htk]; rfl)
      have FL : Hid (takeL l v = l.modify i Msg.took) := hide (by unfold takeL; rw [HP.out])
      have hrow := HQ3.out.crow _ HXM.out
      simp only at hrow
      rw [HN.out] at hrow
      obtain ⟨g', hg', _, _, _, hfz, _, _⟩ := own_cell hrow (by have := HAL.out; omega)
      cases hg'
      have f7 := hfz (a * 8 + 7)
      have hset := own_set (k := a * 8 + 7) hrow (.bool true)
      obtain ⟨r, hr⟩ : ∃ r, rowsOf (l.modify i Msg.took) ⟨ck, cf, ct⟩ = r := ⟨_, rfl⟩
      have hon : r = (rowsOf l ⟨ck, cf, ct⟩).modify a Msg.took := by rw [← hr, ← HC.out, rowsOf_take_on HM.out, HC.out, HAA.out]
      rw [← msgCs_took _ _ _ HAT.out, ← hon] at hset
      have hrn : r.length = n := by rw [hon]; simp [HN.out]
      have hcf := HQ3.out.cfi _ HXM.out
      simp only at hcf
      rw [HN.out] at hcf
      have hpre : ∀ y ∈ r.take x.fi, y.tk = true := by
        rw [hon, List.take_modify]
        exact taken_modify hcf.2
      have hxf := hcf.1
      have HOW4 := hide hset
      have HR' := hide hr
      have HRN := hide hrn
      have HPRE := hide hpre
      have HXF := hide hxf
      have CH4 := hide (Ch.set_ (S := [R, x.g]) w3 (p := ⟨x.g, a * 8 + 7, none⟩) (.bool true) (List.mem_cons_of_mem _ List.mem_cons_self))
      have hxR : x.g ≠ R := by have := HRF.out _ (foot_row HXM.out); show x.g ≠ R; have h2 : x.g < R := this; omega
      have K4 := hide (K5.out.far (p := ⟨x.g, a * 8 + 7, none⟩) (fun e => hxR e.symm) (.bool true))
      have HXR := hide hxR
      clear hrow hfz hset hr hon hrn hcf hpre hxf hxR htk
      obtain ⟨w4, hw4⟩ : ∃ z, w3.setCell ⟨x.g, a * 8 + 7, none⟩ (.bool true) = z := ⟨_, rfl⟩
      rw [hw4] at HOW4 CH4 K4
      have HW4 := hide hw4
      clear hw4
      have hfn := HQ3.out.fd
      unfold QL.foot at hfn
      have n1 := List.nodup_cons.1 hfn
      have n2 := List.nodup_cons.1 n1.2
      have hxg : x.g ∈ L.cl.map (·.2.g) ++ L.sl.map (·.2.g) := List.mem_append_left _ (List.mem_map_of_mem (f := fun p : Chan × CRow => p.2.g) HXM.out)
      have HXC := hide (show x.g ≠ L.cm from fun e => n2.1 (by rw [← e]; exact List.mem_cons_of_mem _ (List.mem_cons_of_mem _ hxg)))
      have HXQ := hide (show x.g ≠ q from fun e => n1.1 (by rw [← e]; exact List.mem_cons_of_mem _ (List.mem_cons_of_mem _ (List.mem_cons_of_mem _ hxg))))
      have HNI := hide (fun b (h1 : b ≠ R) (h2 : b ≠ x.g) => show ¬ b ∈ [R, x.g] from fun hm => by
        rcases List.mem_cons.1 hm with e | hm
        · exact h1 e
        · exact h2 (List.mem_singleton.1 hm))
      have HCMN := hide (HNI.out L.cm (by have := HRF.out _ (foot_c (L := L) (q := q)); omega) (fun e => HXC.out e.symm))
      have HQN := hide (HNI.out q (by have := HRF.out _ (foot_q (L := L) (q := q)); omega) (fun e => HXQ.out e.symm))
      have HYN := hide (HNI.out Y (by have := HRY.out; omega) (by have h1 := HXY.out _ (foot_row HXM.out); intro e; rw [e] at h1; exact Nat.lt_irrefl _ h1))
      clear hfn n1 n2 hxg
      go_wp2_with fail
      rw [HW4.out]
      clear n7 r0 p3 f7
      go_loopg [] (n - x.fi) (fun gk wr => ∃ f : Nat, gk = n - f ∧ f ≤ n ∧ Hid (∀ y ∈ r.take f, y.tk = true) ∧ Hid (Blk wr R 103 #[.slice (some ⟨x.g, 0, none⟩) n x.cap, .int .i64 f]) ∧ Hid (Ch [R, x.g] w3 wr) ∧ Hid (wr.ownsRow 0 33 8 (.slice (some ⟨x.g, 0, none⟩) n x.cap) n (msgCs r)))
      case atStart => exact ⟨x.fi, rfl, HXF.out, HPRE, K4, CH4, HOW4⟩
      case round =>
        obtain ⟨f, hgk, hf, HTK, KR, HCH, HOW⟩ := hrel
        rename World => wr
        have r0 : wr.cell? ⟨R, 0, none⟩ = some (.slice (some ⟨x.g, 0, none⟩) n x.cap) := KR.out.cell 0
        have r1 : wr.cell? ⟨R, 1, none⟩ = some (.int .i64 f) := KR.out.cell 1
        have f1 := KR.out.frozen 1
        by_cases hlt : f < n
        · have hltI : (f : Int) < (n : Int) := by omega
          have hf0 : (0 : Int) ≤ (f : Int) := by omega
          obtain ⟨y, hy⟩ : ∃ y, r[f]? = some y := ⟨_, List.getElem?_eq_getElem (by rw [HRN.out]; exact hlt)⟩
          obtain ⟨g', hg', _, _, _, _, _, hcc⟩ := own_cell HOW.out (by omega)
          cases hg'
          have n7 : wr.cell? ⟨x.g, f * 8 + 7, none⟩ = some (.bool y.tk) := hcc _ _ (msgCs_at r f y hy 7 (by decide))
          have HY2 := hide hy
          have HLT := hide hlt
          clear hcc hy hlt
          cases hyt : y.tk with
          | true =>
            rw [hyt] at n7
            have HTK1 := hide (show ∀ z ∈ r.take (f + 1), z.tk = true from fun z hz => by
              obtain ⟨hl1, he1⟩ := List.getElem?_eq_some_iff.1 HY2.out
              rw [List.take_succ_eq_append_getElem hl1] at hz
              rcases List.mem_append.1 hz with hz | hz
              · exact HTK.out z hz
              · rw [List.mem_singleton.1 hz, he1]; exact hyt)
            have KR1 : Hid (Blk (wr.setCell ⟨R, 1, none⟩ (.int .i64 ((f + 1 : Nat) : Int))) R 103 #[.slice (some ⟨x.g, 0, none⟩) n x.cap, .int .i64 ((f + 1 : Nat) : Int)]) := hide (KR.out.set_ 1 (.int .i64 ((f + 1 : Nat) : Int)))
            have CH1 := hide (HCH.out.trans (Ch.set_ (S := [R, x.g]) wr (p := ⟨R, 1, none⟩) (.int .i64 ((f + 1 : Nat) : Int)) List.mem_cons_self))
            have OW1 := hide (own_heap (w' := wr.setCell ⟨R, 1, none⟩ (.int .i64 ((f + 1 : Nat) : Int))) HOW.out (Below.heap_setCell wr ⟨R, 1, none⟩ _ x.g HXR.out))
            have hw64 : wrap64 ((f : Int) + 1) = ((f + 1 : Nat) : Int) := by have h1 := HNL.out; have h2 := HLT.out; unfold wrap64; omega
            clear hyt
            go_wp2_with fail
            go_roundg (n - (f + 1))
            case rel => exact ⟨f + 1, rfl, HLT.out, HTK1, KR1, CH1, OW1⟩
            case measure => have := HLT.out; omega
          | false =>
            rw [hyt] at n7
            clear hyt
            obtain ⟨w5, hrun, h5e, hmb, hgr⟩ := SMap.run_mapUpdate keyChan Try.underlying89 ⟨ck, cf, ct⟩ (rowV r { x with fi := f }) L.cm _ wr.drew (show SMap.MB chV wr.drew L.cm _ from (HCH.out.block L.cm (HQ3.out.lt _ foot_c) HCMN.out).trans HQ3.out.mc)
            have hq0 : wr.cell? ⟨q, 0, none⟩ = some (.map (some L.cm)) := (World.cell?_of_block (w := w3) (HCH.out.block q (HQ3.out.lt _ foot_q) HQN.out)).trans (HQ3.out.blk.cell 0)
            have py := fun j => World.cell?_of_block (w := w3) (w' := wr) (a := ⟨Y, j, none⟩) (HCH.out.block Y KY3.out.lt HYN.out)
            have p0 : wr.cell? ⟨Y, 0, none⟩ = some (.string ck) := (py 0).trans (KY3.out.cell 0)
            have p1 : wr.cell? ⟨Y, 1, none⟩ = some (.int .i64 cf) := (py 1).trans (KY3.out.cell 1)
            have p2 : wr.cell? ⟨Y, 2, none⟩ = some (.int .i64 ct) := (py 2).trans (KY3.out.cell 2)
            have hb5 : ∀ b ∈ L.foot q, b ≠ x.g → b ≠ L.cm → w5.heap[b]? = w3.heap[b]? := fun b hb h1 h2 =>
              (hgr.block b (Nat.lt_of_lt_of_le (HQ3.out.lt _ hb) HCH.out.size) (fun e => h2 (by injection e))).trans (HCH.out.block b (HQ3.out.lt _ hb) (HNI.out b (by have := HRF.out b hb; omega) h1))
            have hrow5 : w5.ownsRow 0 33 8 (.slice (some ⟨x.g, 0, none⟩) n x.cap) n (msgCs r) := own_heap HOW.out (hgr.block x.g (Nat.lt_of_lt_of_le (HQ3.out.lt _ (foot_row HXM.out)) HCH.out.size) (fun e => HXC.out (by injection e)))
            have hq5 : QSt w5 q { L with cl := setF L.cl ⟨ck, cf, ct⟩ f } (l.modify i Msg.took) := by
              have hx := HXM.out
              have hC := HC.out
              have hrr := HR'.out
              have hnn := HN.out
              rw [← hC] at hx hrr hnn hmb ⊢
              refine HQ3.out.taken HM.out hx ⟨by rw [hnn]; exact hf, by rw [hrr]; exact HTK.out⟩ (by rw [hnn, hrr]; exact hrow5) (by rw [hrr]; exact hmb) hb5
            have hch5 : Ch (L.foot q) w w5 := by
              have c1 : Ch (R :: L.foot q) w w3 := Ch.of_below HB3.out
              have c2 : Ch (R :: L.foot q) w3 wr := HCH.out.more fun j hj => .inl (by
                rcases List.mem_cons.1 hj with e | hj
                · rw [e]; exact List.mem_cons_self
                · rw [List.mem_singleton.1 hj]; exact List.mem_cons_of_mem _ (foot_row HXM.out))
              have c3 : Ch (R :: L.foot q) wr wr.drew := Ch.of_below (Below.refl _ _).drew
              have c4 : Ch (R :: L.foot q) wr.drew w5 := Ch.of_grown hgr (List.mem_cons_of_mem _ foot_c)
              exact (((c1.trans c2).trans c3).trans c4).more fun j hj => by
                rcases List.mem_cons.1 hj with e | hj
                · exact .inr (by rw [e]; exact HR0.out)
                · exact .inl hj
            have GO : Hid (Goes w q L (takeL l v) w5) := hide ⟨_, by rw [FL.out]; exact hq5, hch5, fun b hb => .inl (by
              have e : ({ L with cl := setF L.cl ⟨ck, cf, ct⟩ f } : QL).foot q = L.foot q := by unfold QL.foot; rw [setF_gs]
              rw [← e]; exact hb)⟩
            have RUN : (Instr.mapUpdate 89 (.map (some L.cm)) (.agg #[.string ck, .int .i64 cf, .int .i64 ct]) (.agg #[.slice (some ⟨x.g, 0, none⟩) n x.cap, .int .i64 f])).run Try.prog wr.drew = .ok () w5 := by
              have h1 := hrun
              unfold rowV chV at h1
              rw [HRN.out] at h1
              exact h1
            clear h5e hrun hmb hgr py hb5 hrow5 hq5 hch5
            go_upto_region 10 with (fail)
            go_region
            all_goals (go_wp2_with fail)
            all_goals go_ret
            all_goals exact ⟨by rw [FE.out]; rfl, GO.out⟩
        · have hltI : ¬ (f : Int) < (n : Int) := by omega
          clear hlt
          obtain ⟨w5, hrun, h5e, hmb, hgr⟩ := SMap.run_mapUpdate keyChan Try.underlying89 ⟨ck, cf, ct⟩ (rowV r { x with fi := f }) L.cm _ wr.drew (show SMap.MB chV wr.drew L.cm _ from (HCH.out.block L.cm (HQ3.out.lt _ foot_c) HCMN.out).trans HQ3.out.mc)
          have hq0 : wr.cell? ⟨q, 0, none⟩ = some (.map (some L.cm)) := (World.cell?_of_block (w := w3) (HCH.out.block q (HQ3.out.lt _ foot_q) HQN.out)).trans (HQ3.out.blk.cell 0)
          have py := fun j => World.cell?_of_block (w := w3) (w' := wr) (a := ⟨Y, j, none⟩) (HCH.out.block Y KY3.out.lt HYN.out)
          have p0 : wr.cell? ⟨Y, 0, none⟩ = some (.string ck) := (py 0).trans (KY3.out.cell 0)
          have p1 : wr.cell? ⟨Y, 1, none⟩ = some (.int .i64 cf) := (py 1).trans (KY3.out.cell 1)
          have p2 : wr.cell? ⟨Y, 2, none⟩ = some (.int .i64 ct) := (py 2).trans (KY3.out.cell 2)
          have hb5 : ∀ b ∈ L.foot q, b ≠ x.g → b ≠ L.cm → w5.heap[b]? = w3.heap[b]? := fun b hb h1 h2 =>
            (hgr.block b (Nat.lt_of_lt_of_le (HQ3.out.lt _ hb) HCH.out.size) (fun e => h2 (by injection e))).trans (HCH.out.block b (HQ3.out.lt _ hb) (HNI.out b (by have := HRF.out b hb; omega) h1))
          have hrow5 : w5.ownsRow 0 33 8 (.slice (some ⟨x.g, 0, none⟩) n x.cap) n (msgCs r) := own_heap HOW.out (hgr.block x.g (Nat.lt_of_lt_of_le (HQ3.out.lt _ (foot_row HXM.out)) HCH.out.size) (fun e => HXC.out (by injection e)))
          have hq5 : QSt w5 q { L with cl := setF L.cl ⟨ck, cf, ct⟩ f } (l.modify i Msg.took) := by
            have hx := HXM.out
            have hC := HC.out
            have hrr := HR'.out
            have hnn := HN.out
            rw [← hC] at hx hrr hnn hmb ⊢
            refine HQ3.out.taken HM.out hx ⟨by rw [hnn]; exact hf, by rw [hrr]; exact HTK.out⟩ (by rw [hnn, hrr]; exact hrow5) (by rw [hrr]; exact hmb) hb5
          have hch5 : Ch (L.foot q) w w5 := by
            have c1 : Ch (R :: L.foot q) w w3 := Ch.of_below HB3.out
            have c2 : Ch (R :: L.foot q) w3 wr := HCH.out.more fun j hj => .inl (by
              rcases List.mem_cons.1 hj with e | hj
              · rw [e]; exact List.mem_cons_self
              · rw [List.mem_singleton.1 hj]; exact List.mem_cons_of_mem _ (foot_row HXM.out))
            have c3 : Ch (R :: L.foot q) wr wr.drew := Ch.of_below (Below.refl _ _).drew
            have c4 : Ch (R :: L.foot q) wr.drew w5 := Ch.of_grown hgr (List.mem_cons_of_mem _ foot_c)
            exact (((c1.trans c2).trans c3).trans c4).more fun j hj => by
              rcases List.mem_cons.1 hj with e | hj
              · exact .inr (by rw [e]; exact HR0.out)
              · exact .inl hj
          have GO : Hid (Goes w q L (takeL l v) w5) := hide ⟨_, by rw [FL.out]; exact hq5, hch5, fun b hb => .inl (by
            have e : ({ L with cl := setF L.cl ⟨ck, cf, ct⟩ f } : QL).foot q = L.foot q := by unfold QL.foot; rw [setF_gs]
            rw [← e]; exact hb)⟩
          have RUN : (Instr.mapUpdate 89 (.map (some L.cm)) (.agg #[.string ck, .int .i64 cf, .int .i64 ct]) (.agg #[.slice (some ⟨x.g, 0, none⟩) n x.cap, .int .i64 f])).run Try.prog wr.drew = .ok () w5 := by
            have h1 := hrun
            unfold rowV chV at h1
            rw [HRN.out] at h1
            exact h1
          clear h5e hrun hmb hgr py hb5 hrow5 hq5 hch5
          go_upto_region 10 with (fail)
          go_region
          all_goals (go_wp2_with fail)
          all_goals go_ret
          all_goals exact ⟨by rw [FE.out]; rfl, GO.out⟩
end Qu
end Go.Proofs.Ytonmojinijpneaa
