/- What a word is read as: the reference's pick. -/
import Derived.Test.YtaakndenkfkijaaDoorRows
import Derived.Test.YtaakndenkfkijaaDoorWitSb
import Derived.Test.YtaakndenkfkijaaDoorWitRa
namespace Go.Proofs.YtaakndenkfkijaaDoor
open Go.RowKit
open Go.Lib (itoa)
set_option linter.unusedVariables false
set_option linter.unusedSimpArgs false
namespace Wit
theorem own_form {w : World} {B size n : Nat} {e : TypeId} {v : Value} {xs : List Value} (h : w.ownsRow B e size v n xs) : ∃ a c, v = .slice a n c := by
  rcases h.2 with ⟨rfl, h0⟩ | ⟨g, cap, cur, rfl, _⟩
  · exact ⟨none, 0, by rw [h0]⟩
  · exact ⟨_, _, rfl⟩
theorem own_addr {w : World} {B n c : Nat} {e : TypeId} {a : Option Addr} {xs : List Value} (h : w.ownsRow B e 1 (.slice a n c) n xs) (hn : 0 < n) :
    ∃ g, a = some ⟨g, 0, none⟩ ∧ g < w.heap.size ∧ ∀ (j : Nat) (u : Value), xs[j]? = some u → w.cell? ⟨g, j, none⟩ = some u := by
  rcases h.2 with ⟨_, h0⟩ | ⟨g, cap, cur, hv, hge, hh, hnc, _, hcs, htk⟩
  · omega
  · injection hv with hv
    subst hv
    refine ⟨g, rfl, (Array.getElem?_eq_some_iff.1 hh).1, fun j u hu => ?_⟩
    rw [← htk, List.getElem?_take] at hu
    split at hu
    · rw [Blk.cell (show Blk w g _ cur from hh)]
      simpa using hu
    · cases hu
theorem own_belowR {w w' : World} {B size n : Nat} {e : TypeId} {v : Value} {xs : List Value} (h : w.ownsRow B e size v n xs) (hb : Below w.heap.size w w') : w'.ownsRow B e size v n xs := by
  refine ⟨h.1, h.2.imp id ?_⟩
  rintro ⟨g, cap, cur, rfl, hge, hh, r⟩
  exact ⟨g, cap, cur, rfl, hge, (hb.block g (Array.getElem?_eq_some_iff.1 hh).1).trans hh, r⟩
theorem numsB_snoc : ∀ (l : List (List UInt8)) (p : List UInt8), (rdB p).2 = true → numsB (l ++ [p]) = match numsB l with | some r => some (r ++ [(rdB p).1]) | none => none
  | [], p, h => by simp only [List.nil_append, numsB, h, if_true]
  | q :: l, p, h => by
    have ih := numsB_snoc l p h
    rw [List.cons_append, numsB, numsB, ih]
    split
    · cases numsB l <;> rfl
    · rfl
theorem numsB_no : ∀ (l : List (List UInt8)) (i : Nat) (h : i < l.length), (rdB l[i]).2 = false → numsB l = none
  | q :: l, 0, _, hn => by
    simp only [List.getElem_cons_zero] at hn
    rw [numsB, hn]
    rfl
  | q :: l, i + 1, h, hn => by
    have ih := numsB_no l i (by simpa using h) hn
    rw [numsB, ih]
    split <;> rfl
theorem numsB_take {l : List (List UInt8)} {i : Nat} (h : i < l.length) {L : List Int} (hL : numsB (l.take i) = some L) (hz : (rdB l[i]).2 = true) : numsB (l.take (i + 1)) = some (L ++ [(rdB l[i]).1]) := by
  rw [List.take_succ_eq_append_getElem h, numsB_snoc _ _ hz, hL]
theorem pkB_none {s a : List UInt8} {ws : List (List UInt8)} (h : spl 46 [] s = a :: ws) (hn : numsB ws = none) : pkB s = none := by
  unfold pkB; rw [h]; simp only; rw [hn]
theorem pkB_some {s a : List UInt8} {ws : List (List UInt8)} {L : List Int} (h : spl 46 [] s = a :: ws) (hn : numsB ws = some L) : pkB s = mkB a L := by
  unfold pkB; rw [h]; simp only; rw [hn]
theorem getD_map (L : List Int) (j : Nat) (h : j < L.length) : (L.map (Value.int .i64))[j]? = some (.int .i64 (L.getD j 0)) := by
  rw [List.getElem?_map, List.getD, List.getElem?_eq_getElem h]
  rfl
set_option maxRecDepth 100000 in
set_option maxHeartbeats 16000000 in
theorem pick_b (s : ByteArray) (w : World) (hs : s.size ≤ 100000) :
    Calls Tryd.prog 18 #[.string s] w fun e w' => e = .returned (RdR (pkB s.data.toList)) ∧ Below w.heap.size w w' := by
  have hSl : s.data.toList.length = s.size := by simp
  obtain ⟨a, ws, hsp⟩ := spl_pos 46 s.data.toList []
  have hcn := spl_cnt 46 s.data.toList []
  have hle := spl_le 46 s.data.toList []
  obtain ⟨i1, hi1, hy0, hy1, hy2⟩ := info_parts int_infoW
  have HI := hide (And.intro hi1 (And.intro hy0 (And.intro hy1 hy2)))
  obtain ⟨m, hmm⟩ : ∃ m, ws.length = m := ⟨_, rfl⟩
  have SPL : Hid (∀ w', Calls Tryd.prog 17 #[.string s, .int .u8 46] w' fun e w'' => (∃ v, e = .returned v ∧ w''.ownsRow w'.heap.size 9 1 v (m + 1) ((a :: ws).map strV)) ∧ Below w'.heap.size w' w'') := hide fun w' => by
    have := split_b s 46 w' (by omega)
    rw [hsp] at this
    rw [← hmm]
    exact this
  rw [hsp] at hcn hle
  rw [hSl] at hcn hle
  simp only [List.length_cons, List.length_nil, Nat.zero_add] at hcn hle
  have NON := hide (fun h => pkB_none hsp h)
  have YES := hide (fun L h => @pkB_some _ _ _ L hsp h)
  have HLE := hide hle
  generalize pkB s.data.toList = res at *
  have hm : m ≤ 100000 := by omega
  have HM := hide hmm
  have hb1 := (Below.refl w.heap.size w).alloc (Nat.le_refl _) (.cells (pkC pk0) 39)
  have k1 := Blk.new w 39 (pkC pk0)
  simp only [pkC, pk0] at hb1 k1
  have HB1 := hide hb1
  have K1 := hide k1
  clear hSl hsp hcn hle hb1 k1 hmm hi1 hy0 hy1 hy2
  go_enter Tryd.func18, Tryd.ntmps18
  go_wp2_with fail
  generalize w.alloc (.cells #[.int .u8 0, .int .i64 0, .int .i64 0, .int .i64 0, .int .i64 0, .int .i64 0] 39) = W1 at *
  refine (SPL.out _).mono ?_
  rintro e w1 ⟨⟨vw, rfl, how⟩, hb1⟩
  obtain ⟨aw, cw, rfl⟩ := own_form how
  obtain ⟨gw, rfl, hgw, cwc⟩ := own_addr how (by omega)
  have CW := hide cwc
  have HBw := hide (HB1.out.trans (hb1.mono HB1.out.size))
  have KW := hide (K1.out.below hb1 K1.out.lt)
  clear how hb1 cwc SPL
  go_wp2_with fail
  go_loopw [5, 6] (fun vn vi wr => ∃ (i : Nat) (L : List Int), i ≤ m ∧ vi = .int .i64 ((i : Int) + 1) ∧ Hid (L.length = i) ∧ Hid (numsB (ws.take i) = some L) ∧ Hid (wr.ownsRow w1.heap.size 3 1 vn L.length (L.map (Value.int .i64))) ∧ Hid (Below w1.heap.size w1 wr)) (fun _ vi _ => m + 1 - (intOf vi).toNat)
  case atStart => exact ⟨0, [], Nat.zero_le _, rfl, hide rfl, hide rfl, hide ⟨rfl, .inl ⟨rfl, rfl⟩⟩, hide (Below.refl _ _)⟩
  case round =>
    obtain ⟨i, L, hi, rfl, HL, HG, HO, HB⟩ := hrel
    have q0 : wr.cell? ⟨gw, 0, none⟩ = some (.string (bytes a)) := (HB.out.cell (p := ⟨gw, 0, none⟩) hgw).trans (CW.out 0 (strV a) rfl)
    have HBR := hide (HBw.out.trans (HB.out.mono HBw.out.size))
    have KR := hide (KW.out.below HB.out KW.out.lt)
    by_cases hltm : i < m
    · have hlt : i < ws.length := by rw [HM.out]; exact hltm
      have ltI : (i : Int) + 1 < (m : Int) + 1 := by omega
      have ltJ : (i : Int) < (m : Int) := by omega
      have qi : wr.cell? ⟨gw, i + 1, none⟩ = some (.string (bytes ws[i])) := (HB.out.cell (p := ⟨gw, i + 1, none⟩) hgw).trans (CW.out (i + 1) (strV ws[i]) (by simp [hlt]))
      have hsz : (bytes ws[i]).size ≤ 100000 := by
        rw [bytes_size]
        have := HLE.out ws[i] (List.mem_cons_of_mem _ (List.getElem_mem hlt))
        omega
      have NB := hide (fun w' => number_b (bytes ws[i]) w' (by omega))
      rw [show (bytes ws[i]).data.toList = ws[i] by simp [bytes]] at NB
      have GO := hide (fun h => numsB_take hlt HG.out h)
      have NOT := hide (fun h => NON.out (numsB_no ws i hlt h))
      generalize bytes ws[i] = wi at *
      cases hr : (rdB ws[i]).2 with
      | false =>
        have R := NOT.out hr
        subst R
        rw [hr] at NB
        clear hr
        go_wp2_with fail
        refine (NB.out _).mono ?_
        rintro e w2 ⟨rfl, hb2⟩
        have HB2 := hide (HBR.out.trans (hb2.mono HBR.out.size))
        have K2 := hide (KR.out.below hb2 KR.out.lt)
        clear hb2
        have K5 := K2.out
        have f0 := K5.frozen 0
        have f1 := K5.frozen 1
        have f2 := K5.frozen 2
        have f3 := K5.frozen 3
        have f4 := K5.frozen 4
        have f5 := K5.frozen 5
        have d0 := K5.cell 0
        have d1 := K5.cell 1
        have d2 := K5.cell 2
        have d3 := K5.cell 3
        have d4 := K5.cell 4
        have d5 := K5.cell 5
        simp only [List.getElem?_toArray, List.getElem?_cons_zero, List.getElem?_cons_succ] at d0 d1 d2 d3 d4 d5
        clear K5
        go_wp2_with fail
        have K6 := set6 K2.out (.int .u8 0) (.int .i64 0) (.int .i64 0) (.int .i64 0) (.int .i64 0) (.int .i64 0)
        have HB6 := hide (below6 (g := w.heap.size) HB2.out (Nat.le_refl _) (.int .u8 0) (.int .i64 0) (.int .i64 0) (.int .i64 0) (.int .i64 0) (.int .i64 0))
        generalize ((((((w2.setCell ⟨w.heap.size, 0, none⟩ (.int .u8 0)).setCell ⟨w.heap.size, 1, none⟩ (.int .i64 0)).setCell ⟨w.heap.size, 2, none⟩ (.int .i64 0)).setCell ⟨w.heap.size, 3, none⟩ (.int .i64 0)).setCell ⟨w.heap.size, 4, none⟩ (.int .i64 0)).setCell ⟨w.heap.size, 5, none⟩ (.int .i64 0)) = W6 at *
        have r0 := K6.cell 0
        have r1 := K6.cell 1
        have r2 := K6.cell 2
        have r3 := K6.cell 3
        have r4 := K6.cell 4
        have r5 := K6.cell 5
        simp only [List.getElem?_toArray, List.getElem?_cons_zero, List.getElem?_cons_succ] at r0 r1 r2 r3 r4 r5
        exact bodyPost_ret (v := .tuple #[.agg #[.int .u8 0, .int .i64 0, .int .i64 0, .int .i64 0, .int .i64 0, .int .i64 0], .bool false]) (by simp [results, Tryd.results18, go_sem, r0, r1, r2, r3, r4, r5]) rfl ⟨by rfl, by first | exact HB6.out | exact HB6.out.drew⟩
      | true =>
        have HG2 := hide (GO.out hr)
        rw [hr] at NB
        clear hr
        generalize (rdB ws[i]).1 = z at *
        have hLl : L.length ≤ 100000 := by have := HL.out; omega
        have APP : Hid (∀ (w' : World) (v' : Value), w'.ownsRow w1.heap.size 3 1 v' (L.length + 1) (L.map (Value.int .i64) ++ [.int .i64 z]) → w'.ownsRow w1.heap.size 3 1 v' (L ++ [z]).length ((L ++ [z]).map (Value.int .i64))) := hide fun w' v' h => by simpa using h
        go_wp2_with fail
        refine (NB.out _).mono ?_
        rintro e w2 ⟨rfl, hb2⟩
        have HB2 := hide (HB.out.trans (hb2.mono HB.out.size))
        have Own := hide (own_belowR HO.out hb2)
        have hs2 := HB2.out.size
        clear hb2
        go_wp2_with (at_builtin; refine wpList_append_own _ rfl _ _ 58 rfl w1.heap.size 3 i1 (.int .i64 0) 1 8 Tryd.underlying58 HI.out.1 HI.out.2.1 HI.out.2.2.1 HI.out.2.2.2 rfl (by decide) _ _ _ rfl (Own.out.alloc _) ⟨w2.heap.size, 0, none⟩ 1 1 [.int .i64 z] rfl rfl ?c1 ?c2 ?c3 ?c4 ?c5 ?_)
        case c1 =>
          intro j u hj
          match j, hj with
          | 0, hj => simp at hj; subst hj; simp [Addr.add]
        case c2 => intro u hu; simp at hu; subst hu; rfl
        case c3 => unfold maxLen; omega
        case c4 => omega
        case c5 => simp; omega
        intro v' w3 hown' hgrow _
        have hb3 := hide ((HB2.out.alloc hs2 _).grown hgrow (by simp; omega) (fun k hk => (own_ltS Own.out hk).1))
        have Own2 := hide (APP.out _ _ hown')
        clear hown' hgrow
        go_wp2_with fail
        go_roundw
        case rel => exact ⟨i + 1, L ++ [z], by omega, by go_num, hide (by rw [List.length_append, HL.out]; rfl), HG2, Own2, hb3⟩
        case measure => simp [intOf] <;> omega
    · have hi2 : i = m := by omega
      subst hi2
      have ltI : ¬ (i : Int) + 1 < (i : Int) + 1 := by omega
      have HG2 := HG.out
      rw [← HM.out, List.take_length] at HG2
      have RR := YES.out L HG2
      unfold mkB at RR
      have lb := lit_beq a
      obtain ⟨an, cn, rfl⟩ := own_form HO.out
      have gI := hide (lb [103])
      have mI := hide (lb [109])
      have aI := hide (lb [97])
      have hlen : L.length ≤ 100000 := by have := HL.out; omega
      clear lb HG2
      generalize bytes a = ab at *
      have CN : Hid (0 < L.length → ∃ g, an = some ⟨g, 0, none⟩ ∧ g < wr.heap.size ∧ ∀ (j : Nat), j < L.length → wr.cell? ⟨g, j, none⟩ = some (.int .i64 (L.getD j 0))) := hide fun h => by
        obtain ⟨g, h1, h2, h3⟩ := own_addr HO.out h
        exact ⟨g, h1, h2, fun j hj => h3 j _ (getD_map L j hj)⟩
      generalize hll : L.length = ll at *
      have HLL := hide hll
      clear HO hll
      by_cases hg : a = [103]
      · have g1 : (ab.toList == [103]) = true := by rw [gI.out]; exact decide_eq_true hg
        have g2 : (ab.toList == [109]) = false := by rw [mI.out]; exact decide_eq_false (by rw [hg]; decide)
        have g3 : (ab.toList == [97]) = false := by rw [aI.out]; exact decide_eq_false (by rw [hg]; decide)
        by_cases h1 : ll = 1
        · rw [if_pos ⟨hg, h1⟩] at RR
          obtain ⟨gn, rfl, hgn, cn⟩ := CN.out (by omega)
          have n0 := cn 0 (by omega)
          generalize L.getD 0 0 = z0 at *
          subst RR
          subst h1
          clear hg cn
          have K5 := KR.out
          have f0 := K5.frozen 0
          have f1 := K5.frozen 1
          have f2 := K5.frozen 2
          have f3 := K5.frozen 3
          have f4 := K5.frozen 4
          have f5 := K5.frozen 5
          have d0 := K5.cell 0
          have d1 := K5.cell 1
          have d2 := K5.cell 2
          have d3 := K5.cell 3
          have d4 := K5.cell 4
          have d5 := K5.cell 5
          simp only [List.getElem?_toArray, List.getElem?_cons_zero, List.getElem?_cons_succ] at d0 d1 d2 d3 d4 d5
          clear K5
          go_wp2_with fail
          have K6 := set6 KR.out (.int .u8 1) (.int .i64 z0) (.int .i64 0) (.int .i64 0) (.int .i64 0) (.int .i64 0)
          have HB6 := hide (below6 (g := w.heap.size) HBR.out (Nat.le_refl _) (.int .u8 1) (.int .i64 z0) (.int .i64 0) (.int .i64 0) (.int .i64 0) (.int .i64 0))
          generalize ((((((wr.setCell ⟨w.heap.size, 0, none⟩ (.int .u8 1)).setCell ⟨w.heap.size, 1, none⟩ (.int .i64 z0)).setCell ⟨w.heap.size, 2, none⟩ (.int .i64 0)).setCell ⟨w.heap.size, 3, none⟩ (.int .i64 0)).setCell ⟨w.heap.size, 4, none⟩ (.int .i64 0)).setCell ⟨w.heap.size, 5, none⟩ (.int .i64 0)) = W6 at *
          have r0 := K6.cell 0
          have r1 := K6.cell 1
          have r2 := K6.cell 2
          have r3 := K6.cell 3
          have r4 := K6.cell 4
          have r5 := K6.cell 5
          simp only [List.getElem?_toArray, List.getElem?_cons_zero, List.getElem?_cons_succ] at r0 r1 r2 r3 r4 r5
          exact bodyPost_ret (v := .tuple #[.agg #[.int .u8 1, .int .i64 z0, .int .i64 0, .int .i64 0, .int .i64 0, .int .i64 0], .bool true]) (by simp [results, Tryd.results18, go_sem, r0, r1, r2, r3, r4, r5]) rfl ⟨by rfl, by first | exact HB6.out | exact HB6.out.drew⟩
        · rw [if_neg (fun h => h1 h.2), if_neg (fun h => absurd (hg.symm.trans h.1) (by decide)), if_neg (fun h => absurd (hg.symm.trans h.1) (by decide))] at RR
          subst RR
          have e1 : ((ll : Int) == 1) = false := by
            have : ¬ (ll : Int) = 1 := by omega
            simpa using this
          clear hg h1
          have K5 := KR.out
          have f0 := K5.frozen 0
          have f1 := K5.frozen 1
          have f2 := K5.frozen 2
          have f3 := K5.frozen 3
          have f4 := K5.frozen 4
          have f5 := K5.frozen 5
          have d0 := K5.cell 0
          have d1 := K5.cell 1
          have d2 := K5.cell 2
          have d3 := K5.cell 3
          have d4 := K5.cell 4
          have d5 := K5.cell 5
          simp only [List.getElem?_toArray, List.getElem?_cons_zero, List.getElem?_cons_succ] at d0 d1 d2 d3 d4 d5
          clear K5
          go_wp2_with fail
          have K6 := set6 KR.out (.int .u8 0) (.int .i64 0) (.int .i64 0) (.int .i64 0) (.int .i64 0) (.int .i64 0)
          have HB6 := hide (below6 (g := w.heap.size) HBR.out (Nat.le_refl _) (.int .u8 0) (.int .i64 0) (.int .i64 0) (.int .i64 0) (.int .i64 0) (.int .i64 0))
          generalize ((((((wr.setCell ⟨w.heap.size, 0, none⟩ (.int .u8 0)).setCell ⟨w.heap.size, 1, none⟩ (.int .i64 0)).setCell ⟨w.heap.size, 2, none⟩ (.int .i64 0)).setCell ⟨w.heap.size, 3, none⟩ (.int .i64 0)).setCell ⟨w.heap.size, 4, none⟩ (.int .i64 0)).setCell ⟨w.heap.size, 5, none⟩ (.int .i64 0)) = W6 at *
          have r0 := K6.cell 0
          have r1 := K6.cell 1
          have r2 := K6.cell 2
          have r3 := K6.cell 3
          have r4 := K6.cell 4
          have r5 := K6.cell 5
          simp only [List.getElem?_toArray, List.getElem?_cons_zero, List.getElem?_cons_succ] at r0 r1 r2 r3 r4 r5
          exact bodyPost_ret (v := .tuple #[.agg #[.int .u8 0, .int .i64 0, .int .i64 0, .int .i64 0, .int .i64 0, .int .i64 0], .bool false]) (by simp [results, Tryd.results18, go_sem, r0, r1, r2, r3, r4, r5]) rfl ⟨by rfl, by first | exact HB6.out | exact HB6.out.drew⟩
      have g1 : (ab.toList == [103]) = false := by rw [gI.out]; exact decide_eq_false hg
      rw [if_neg (fun h => hg h.1)] at RR
      by_cases hg2 : a = [109]
      · have g2 : (ab.toList == [109]) = true := by rw [mI.out]; exact decide_eq_true hg2
        have g3 : (ab.toList == [97]) = false := by rw [aI.out]; exact decide_eq_false (by rw [hg2]; decide)
        by_cases h1 : ll = 4
        · rw [if_pos ⟨hg2, h1⟩] at RR
          obtain ⟨gn, rfl, hgn, cn⟩ := CN.out (by omega)
          have n0 := cn 0 (by omega)
          have n1 := cn 1 (by omega)
          have n2 := cn 2 (by omega)
          have n3 := cn 3 (by omega)
          generalize L.getD 0 0 = z0 at *
          generalize L.getD 1 0 = z1 at *
          generalize L.getD 2 0 = z2 at *
          generalize L.getD 3 0 = z3 at *
          subst RR
          subst h1
          clear hg hg2 cn
          have K5 := KR.out
          have f0 := K5.frozen 0
          have f1 := K5.frozen 1
          have f2 := K5.frozen 2
          have f3 := K5.frozen 3
          have f4 := K5.frozen 4
          have f5 := K5.frozen 5
          have d0 := K5.cell 0
          have d1 := K5.cell 1
          have d2 := K5.cell 2
          have d3 := K5.cell 3
          have d4 := K5.cell 4
          have d5 := K5.cell 5
          simp only [List.getElem?_toArray, List.getElem?_cons_zero, List.getElem?_cons_succ] at d0 d1 d2 d3 d4 d5
          clear K5
          go_wp2_with fail
          go_region
          go_wp2_with fail
          have K6 := set6 KR.out (.int .u8 2) (.int .i64 z0) (.int .i64 z1) (.int .i64 z2) (.int .i64 z3) (.int .i64 0)
          have HB6 := hide (below6 (g := w.heap.size) HBR.out (Nat.le_refl _) (.int .u8 2) (.int .i64 z0) (.int .i64 z1) (.int .i64 z2) (.int .i64 z3) (.int .i64 0))
          generalize ((((((wr.setCell ⟨w.heap.size, 0, none⟩ (.int .u8 2)).setCell ⟨w.heap.size, 1, none⟩ (.int .i64 z0)).setCell ⟨w.heap.size, 2, none⟩ (.int .i64 z1)).setCell ⟨w.heap.size, 3, none⟩ (.int .i64 z2)).setCell ⟨w.heap.size, 4, none⟩ (.int .i64 z3)).setCell ⟨w.heap.size, 5, none⟩ (.int .i64 0)) = W6 at *
          have r0 := K6.cell 0
          have r1 := K6.cell 1
          have r2 := K6.cell 2
          have r3 := K6.cell 3
          have r4 := K6.cell 4
          have r5 := K6.cell 5
          simp only [List.getElem?_toArray, List.getElem?_cons_zero, List.getElem?_cons_succ] at r0 r1 r2 r3 r4 r5
          exact bodyPost_ret (v := .tuple #[.agg #[.int .u8 2, .int .i64 z0, .int .i64 z1, .int .i64 z2, .int .i64 z3, .int .i64 0], .bool true]) (by simp [results, Tryd.results18, go_sem, r0, r1, r2, r3, r4, r5]) rfl ⟨by rfl, by first | exact HB6.out | exact HB6.out.drew⟩
        · rw [if_neg (fun h => h1 h.2), if_neg (fun h => absurd (hg2.symm.trans h.1) (by decide))] at RR
          subst RR
          have e1 : ((ll : Int) == 4) = false := by
            have : ¬ (ll : Int) = 4 := by omega
            simpa using this
          clear hg hg2 h1
          have K5 := KR.out
          have f0 := K5.frozen 0
          have f1 := K5.frozen 1
          have f2 := K5.frozen 2
          have f3 := K5.frozen 3
          have f4 := K5.frozen 4
          have f5 := K5.frozen 5
          have d0 := K5.cell 0
          have d1 := K5.cell 1
          have d2 := K5.cell 2
          have d3 := K5.cell 3
          have d4 := K5.cell 4
          have d5 := K5.cell 5
          simp only [List.getElem?_toArray, List.getElem?_cons_zero, List.getElem?_cons_succ] at d0 d1 d2 d3 d4 d5
          clear K5
          go_wp2_with fail
          have K6 := set6 KR.out (.int .u8 0) (.int .i64 0) (.int .i64 0) (.int .i64 0) (.int .i64 0) (.int .i64 0)
          have HB6 := hide (below6 (g := w.heap.size) HBR.out (Nat.le_refl _) (.int .u8 0) (.int .i64 0) (.int .i64 0) (.int .i64 0) (.int .i64 0) (.int .i64 0))
          generalize ((((((wr.setCell ⟨w.heap.size, 0, none⟩ (.int .u8 0)).setCell ⟨w.heap.size, 1, none⟩ (.int .i64 0)).setCell ⟨w.heap.size, 2, none⟩ (.int .i64 0)).setCell ⟨w.heap.size, 3, none⟩ (.int .i64 0)).setCell ⟨w.heap.size, 4, none⟩ (.int .i64 0)).setCell ⟨w.heap.size, 5, none⟩ (.int .i64 0)) = W6 at *
          have r0 := K6.cell 0
          have r1 := K6.cell 1
          have r2 := K6.cell 2
          have r3 := K6.cell 3
          have r4 := K6.cell 4
          have r5 := K6.cell 5
          simp only [List.getElem?_toArray, List.getElem?_cons_zero, List.getElem?_cons_succ] at r0 r1 r2 r3 r4 r5
          exact bodyPost_ret (v := .tuple #[.agg #[.int .u8 0, .int .i64 0, .int .i64 0, .int .i64 0, .int .i64 0, .int .i64 0], .bool false]) (by simp [results, Tryd.results18, go_sem, r0, r1, r2, r3, r4, r5]) rfl ⟨by rfl, by first | exact HB6.out | exact HB6.out.drew⟩
      have g2 : (ab.toList == [109]) = false := by rw [mI.out]; exact decide_eq_false hg2
      rw [if_neg (fun h => hg2 h.1)] at RR
      by_cases hg3 : a = [97]
      · have g3 : (ab.toList == [97]) = true := by rw [aI.out]; exact decide_eq_true hg3
        by_cases h1 : ll = 5
        · rw [if_pos ⟨hg3, h1⟩] at RR
          obtain ⟨gn, rfl, hgn, cn⟩ := CN.out (by omega)
          have n0 := cn 0 (by omega)
          have n1 := cn 1 (by omega)
          have n2 := cn 2 (by omega)
          have n3 := cn 3 (by omega)
          have n4 := cn 4 (by omega)
          generalize L.getD 0 0 = z0 at *
          generalize L.getD 1 0 = z1 at *
          generalize L.getD 2 0 = z2 at *
          generalize L.getD 3 0 = z3 at *
          generalize L.getD 4 0 = z4 at *
          subst RR
          subst h1
          clear hg hg2 hg3 cn
          have K5 := KR.out
          have f0 := K5.frozen 0
          have f1 := K5.frozen 1
          have f2 := K5.frozen 2
          have f3 := K5.frozen 3
          have f4 := K5.frozen 4
          have f5 := K5.frozen 5
          have d0 := K5.cell 0
          have d1 := K5.cell 1
          have d2 := K5.cell 2
          have d3 := K5.cell 3
          have d4 := K5.cell 4
          have d5 := K5.cell 5
          simp only [List.getElem?_toArray, List.getElem?_cons_zero, List.getElem?_cons_succ] at d0 d1 d2 d3 d4 d5
          clear K5
          go_wp2_with fail
          go_region
          go_wp2_with fail
          have K6 := set6 KR.out (.int .u8 3) (.int .i64 z0) (.int .i64 z1) (.int .i64 z3) (.int .i64 z4) (.int .i64 z2)
          have HB6 := hide (below6 (g := w.heap.size) HBR.out (Nat.le_refl _) (.int .u8 3) (.int .i64 z0) (.int .i64 z1) (.int .i64 z3) (.int .i64 z4) (.int .i64 z2))
          generalize ((((((wr.setCell ⟨w.heap.size, 0, none⟩ (.int .u8 3)).setCell ⟨w.heap.size, 1, none⟩ (.int .i64 z0)).setCell ⟨w.heap.size, 2, none⟩ (.int .i64 z1)).setCell ⟨w.heap.size, 3, none⟩ (.int .i64 z3)).setCell ⟨w.heap.size, 4, none⟩ (.int .i64 z4)).setCell ⟨w.heap.size, 5, none⟩ (.int .i64 z2)) = W6 at *
          have r0 := K6.cell 0
          have r1 := K6.cell 1
          have r2 := K6.cell 2
          have r3 := K6.cell 3
          have r4 := K6.cell 4
          have r5 := K6.cell 5
          simp only [List.getElem?_toArray, List.getElem?_cons_zero, List.getElem?_cons_succ] at r0 r1 r2 r3 r4 r5
          exact bodyPost_ret (v := .tuple #[.agg #[.int .u8 3, .int .i64 z0, .int .i64 z1, .int .i64 z3, .int .i64 z4, .int .i64 z2], .bool true]) (by simp [results, Tryd.results18, go_sem, r0, r1, r2, r3, r4, r5]) rfl ⟨by rfl, by first | exact HB6.out | exact HB6.out.drew⟩
        · rw [if_neg (fun h => h1 h.2)] at RR
          subst RR
          have e1 : ((ll : Int) == 5) = false := by
            have : ¬ (ll : Int) = 5 := by omega
            simpa using this
          clear hg hg2 hg3 h1
          have K5 := KR.out
          have f0 := K5.frozen 0
          have f1 := K5.frozen 1
          have f2 := K5.frozen 2
          have f3 := K5.frozen 3
          have f4 := K5.frozen 4
          have f5 := K5.frozen 5
          have d0 := K5.cell 0
          have d1 := K5.cell 1
          have d2 := K5.cell 2
          have d3 := K5.cell 3
          have d4 := K5.cell 4
          have d5 := K5.cell 5
          simp only [List.getElem?_toArray, List.getElem?_cons_zero, List.getElem?_cons_succ] at d0 d1 d2 d3 d4 d5
          clear K5
          go_wp2_with fail
          have K6 := set6 KR.out (.int .u8 0) (.int .i64 0) (.int .i64 0) (.int .i64 0) (.int .i64 0) (.int .i64 0)
          have HB6 := hide (below6 (g := w.heap.size) HBR.out (Nat.le_refl _) (.int .u8 0) (.int .i64 0) (.int .i64 0) (.int .i64 0) (.int .i64 0) (.int .i64 0))
          generalize ((((((wr.setCell ⟨w.heap.size, 0, none⟩ (.int .u8 0)).setCell ⟨w.heap.size, 1, none⟩ (.int .i64 0)).setCell ⟨w.heap.size, 2, none⟩ (.int .i64 0)).setCell ⟨w.heap.size, 3, none⟩ (.int .i64 0)).setCell ⟨w.heap.size, 4, none⟩ (.int .i64 0)).setCell ⟨w.heap.size, 5, none⟩ (.int .i64 0)) = W6 at *
          have r0 := K6.cell 0
          have r1 := K6.cell 1
          have r2 := K6.cell 2
          have r3 := K6.cell 3
          have r4 := K6.cell 4
          have r5 := K6.cell 5
          simp only [List.getElem?_toArray, List.getElem?_cons_zero, List.getElem?_cons_succ] at r0 r1 r2 r3 r4 r5
          exact bodyPost_ret (v := .tuple #[.agg #[.int .u8 0, .int .i64 0, .int .i64 0, .int .i64 0, .int .i64 0, .int .i64 0], .bool false]) (by simp [results, Tryd.results18, go_sem, r0, r1, r2, r3, r4, r5]) rfl ⟨by rfl, by first | exact HB6.out | exact HB6.out.drew⟩
      have g3 : (ab.toList == [97]) = false := by rw [aI.out]; exact decide_eq_false hg3
      rw [if_neg (fun h => hg3 h.1)] at RR
      subst RR
      clear hg hg2 hg3
      have K5 := KR.out
      have f0 := K5.frozen 0
      have f1 := K5.frozen 1
      have f2 := K5.frozen 2
      have f3 := K5.frozen 3
      have f4 := K5.frozen 4
      have f5 := K5.frozen 5
      have d0 := K5.cell 0
      have d1 := K5.cell 1
      have d2 := K5.cell 2
      have d3 := K5.cell 3
      have d4 := K5.cell 4
      have d5 := K5.cell 5
      simp only [List.getElem?_toArray, List.getElem?_cons_zero, List.getElem?_cons_succ] at d0 d1 d2 d3 d4 d5
      clear K5
      go_wp2_with fail
      have K6 := set6 KR.out (.int .u8 0) (.int .i64 0) (.int .i64 0) (.int .i64 0) (.int .i64 0) (.int .i64 0)
      have HB6 := hide (below6 (g := w.heap.size) HBR.out (Nat.le_refl _) (.int .u8 0) (.int .i64 0) (.int .i64 0) (.int .i64 0) (.int .i64 0) (.int .i64 0))
      generalize ((((((wr.setCell ⟨w.heap.size, 0, none⟩ (.int .u8 0)).setCell ⟨w.heap.size, 1, none⟩ (.int .i64 0)).setCell ⟨w.heap.size, 2, none⟩ (.int .i64 0)).setCell ⟨w.heap.size, 3, none⟩ (.int .i64 0)).setCell ⟨w.heap.size, 4, none⟩ (.int .i64 0)).setCell ⟨w.heap.size, 5, none⟩ (.int .i64 0)) = W6 at *
      have r0 := K6.cell 0
      have r1 := K6.cell 1
      have r2 := K6.cell 2
      have r3 := K6.cell 3
      have r4 := K6.cell 4
      have r5 := K6.cell 5
      simp only [List.getElem?_toArray, List.getElem?_cons_zero, List.getElem?_cons_succ] at r0 r1 r2 r3 r4 r5
      exact bodyPost_ret (v := .tuple #[.agg #[.int .u8 0, .int .i64 0, .int .i64 0, .int .i64 0, .int .i64 0, .int .i64 0], .bool false]) (by simp [results, Tryd.results18, go_sem, r0, r1, r2, r3, r4, r5]) rfl ⟨by rfl, by first | exact HB6.out | exact HB6.out.drew⟩
end Wit
end Go.Proofs.YtaakndenkfkijaaDoor
