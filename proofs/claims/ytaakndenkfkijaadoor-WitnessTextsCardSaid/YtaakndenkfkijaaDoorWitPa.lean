/- What a text is parsed as: the program's Parse. -/
import Derived.Test.YtaakndenkfkijaaDoorRows
import Derived.Test.YtaakndenkfkijaaDoorWitRw
import Derived.Test.YtaakndenkfkijaaDoorWitTa
namespace Go.Proofs.YtaakndenkfkijaaDoor
open Go.RowKit
set_option linter.unusedVariables false
set_option linter.unusedSimpArgs false
namespace Wit
theorem parA_no {s : List UInt8} (h : ¬ s = [45]) (hn : reads pkA (spl 32 [] s) = none) : parA s = none := by
  unfold parA; rw [if_neg h, hn]
theorem parA_yes {s : List UInt8} (h : ¬ s = [45]) {l : List Pk} (hn : reads pkA (spl 32 [] s) = some l) (ht : txtP l = some s) : parA s = some l := by
  unfold parA; rw [if_neg h, hn]; simp only; rw [if_pos ht]
theorem parA_not {s : List UInt8} (h : ¬ s = [45]) {l : List Pk} (hn : reads pkA (spl 32 [] s) = some l) (ht : ¬ txtP l = some s) : parA s = none := by
  unfold parA; rw [if_neg h, hn]; simp only; rw [if_neg ht]
set_option maxRecDepth 100000 in
set_option maxHeartbeats 16000000 in
theorem Parse_a (s : ByteArray) (w : World) (hs : s.size ≤ 90000) (he : Env w) :
    Calls Tryd.prog 6 #[.string s] w fun e w' => PaR (parA s.data.toList) e w' ∧ Below w.heap.size w w' := by
  by_cases h45 : s = ⟨#[45]⟩
  · subst h45
    have HP : Hid (∀ w', PaR (parA (⟨#[45]⟩ : ByteArray).data.toList) (.returned (.tuple #[.slice none 0 0, .int .i64 0])) w') := hide fun w' => PaR.yes (l := []) (by rfl) ⟨Nat.zero_le _, fun h => absurd h (Nat.lt_irrefl 0)⟩
    generalize parA (⟨#[45]⟩ : ByteArray).data.toList = res at *
    clear hs he
    go_enter Tryd.func6, Tryd.ntmps6
    go_wp2_with fail
    go_ret2
    exact ⟨HP.out _, Below.refl _ _⟩
  have hne : ¬ s.data.toList = [45] := fun h => h45 (by rw [← (bytes_list s [45]).2 h.symm]; rfl)
  have hb : (s.toList == [45]) = false := by
    have : ¬ s.toList = [45] := fun h => hne (by rw [ByteArray.toList_eq] at h; exact h)
    simpa using this
  have hSl : s.data.toList.length = s.size := by simp
  obtain ⟨i0, hi0, hz0, hz1, hz2⟩ := info_parts pk_info
  have HI := hide (And.intro hi0 (And.intro hz0 (And.intro hz1 hz2)))
  have LE := hide (fun p (hp : p ∈ spl 32 [] s.data.toList) => spl_le 32 s.data.toList [] p hp)
  have CNT := spl_cnt 32 s.data.toList []
  rw [hSl] at CNT
  have HSL := hide hSl
  have RNO0 := hide (fun h w' => PaR.no (parA_no hne h) w')
  have RYES := hide (fun (l : List Pk) (h : reads pkA (spl 32 [] s.data.toList) = some l) (ht : txtP l = some s.data.toList) (A : Option Addr) (c : Nat) (w' : World) (hr : PRow w' A l) => PaR.yes (c := c) (parA_yes hne h ht) hr)
  have RNOT := hide (fun (l : List Pk) (h : reads pkA (spl 32 [] s.data.toList) = some l) (ht : ¬ txtP l = some s.data.toList) w' => PaR.no (parA_not hne h ht) w')
  have SP := hide (split_a 32 s w he (by omega))
  generalize parA s.data.toList = res at *
  generalize spl 32 [] s.data.toList = ws at *
  obtain ⟨PC, hPC⟩ : ∃ PC, PC = (ws.map fun l => Value.string (bytes l)).toArray := ⟨_, rfl⟩
  have PCS : Hid (∀ i (h : i < ws.length), PC[i]? = some (.string (bytes ws[i]))) := hide fun i hi => by
    rw [hPC]
    simp [hi]
  have hPC2 : (ws.map fun l => Value.string (⟨l.toArray⟩ : ByteArray)).toArray = PC := hPC.symm
  rw [hPC2] at SP
  have RNO := hide (fun i hi h => reads_no pkA ws i hi h)
  have RTK := hide (fun i hi L p h1 h2 => @reads_take pkA ws i hi L p h1 h2)
  have RAL := hide (fun (l : List Pk) (h : reads pkA (ws.take ws.length) = some l) => show reads pkA ws = some l by rwa [List.take_length] at h)
  have HE := hide he
  clear h45 hne hSl hi0 hz0 hz1 hz2 hPC hPC2 he
  go_enter Tryd.func6, Tryd.ntmps6
  go_wp2_with fail
  refine SP.out.mono ?_
  rintro e w1 ⟨rfl, hw1⟩
  have q1 := Blk.new w 9 PC
  have hb1 := (Below.refl w.heap.size w).alloc (Nat.le_refl _) (.cells PC 9)
  have hl1 : w.heap.size < (w.alloc (.cells PC 9)).heap.size := by simp
  rw [← hw1] at q1 hb1 hl1
  have Q1 := hide q1
  have HB1 := hide hb1
  have HE1 := hide (HE.out.below hb1 (Nat.le_refl _))
  clear hw1 SP q1 hb1
  go_wp2_with fail
  go_loopw [4, 16] (fun vl vi wr => ∃ (i : Nat) (l : List Pk), i ≤ ws.length ∧ vi = .int .i64 i ∧ Hid (reads pkA (ws.take i) = some l) ∧ Hid (l.length = i ∧ ∀ t ∈ l, t.ok) ∧ Hid (wr.ownsRow w1.heap.size 39 6 vl l.length (pks l)) ∧ Hid (Below w1.heap.size w1 wr)) (fun _ vi _ => ws.length - (intOf vi).toNat)
  case atStart => exact ⟨0, [], Nat.zero_le _, rfl, hide rfl, hide ⟨rfl, fun t ht => by cases ht⟩, hide ⟨rfl, .inl ⟨rfl, rfl⟩⟩, hide (Below.refl _ _)⟩
  case round =>
    obtain ⟨i, l, hi, rfl, HW, HL, HO, HB⟩ := hrel
    have HEr := hide (HE1.out.below HB.out (Nat.le_refl _))
    by_cases hlt : i < ws.length
    · have ltI : (i : Int) < (ws.length : Int) := by omega
      have cell : wr.cell? ⟨w.heap.size, i, none⟩ = some (.string (bytes ws[i])) := (HB.out.cell (p := ⟨w.heap.size, i, none⟩) hl1).trans ((Q1.out.cell i).trans (PCS.out i hlt))
      have hwl := LE.out ws[i] (List.getElem_mem hlt)
      have hwl2 : (bytes ws[i]).size ≤ 90000 := by rw [bytes_size]; have := HSL.out; simp at hwl; omega
      have PK := hide (fun w' he' => read_a (bytes ws[i]) w' (by omega) he')
      rw [show (bytes ws[i]).data.toList = ws[i] by simp [bytes]] at PK
      clear hwl
      generalize bytes ws[i] = wb at *
      cases hp : pkA ws[i] with
      | none =>
        have F := hide (RNO0.out (RNO.out i hlt hp))
        rw [hp] at PK
        simp only [RdR, pkC, pk0] at PK
        clear hp
        go_wp2_with fail
        refine (PK.out _ HEr.out).mono ?_
        rintro e w2 ⟨rfl, hb2⟩
        have HB2 := hide (HB1.out.trans ((HB.out.trans (hb2.mono HB.out.size)).mono HB1.out.size))
        have HB3 := hide (HB2.out.alloc HB2.out.size (.cells #[.int .u8 0, .int .i64 0, .int .i64 0, .int .i64 0, .int .i64 0, .int .i64 0] 39))
        clear hb2
        go_wp2_with fail
        go_ret2
        exact ⟨F.out _, HB3.out⟩
      | some p =>
        have HW2 := hide (RTK.out i hlt l p HW.out hp)
        have OKC := hide (pkA_ok hp)
        rw [hp] at PK
        clear hp
        obtain ⟨k, r, c, f, s', v⟩ := p
        simp only [RdR, pkC, pk0] at PK
        go_wp2_with fail
        refine (PK.out _ HEr.out).mono ?_
        rintro e w2 ⟨rfl, hb2⟩
        have HO2 := hide (own_belowR HO.out hb2)
        have HB2 := hide (HB.out.trans (hb2.mono HB.out.size))
        clear hb2
        have hl6 : w2.heap.size < (w2.alloc (.cells #[.int .u8 k, .int .i64 r, .int .i64 c, .int .i64 f, .int .i64 s', .int .i64 v] 39)).heap.size := by simp
        have bk6 := Blk.new w2 39 #[.int .u8 k, .int .i64 r, .int .i64 c, .int .i64 f, .int .i64 s', .int .i64 v]
        have e0 := bk6.cell 0
        have e1 := bk6.cell 1
        have e2 := bk6.cell 2
        have e3 := bk6.cell 3
        have e4 := bk6.cell 4
        have e5 := bk6.cell 5
        simp only [List.getElem?_toArray, List.getElem?_cons_zero, List.getElem?_cons_succ] at e0 e1 e2 e3 e4 e5
        have hb6 := (Below.refl w2.heap.size w2).alloc (Nat.le_refl _) (.cells #[.int .u8 k, .int .i64 r, .int .i64 c, .int .i64 f, .int .i64 s', .int .i64 v] 39)
        have HO6 := hide (own_belowR HO2.out hb6)
        have HB6 := hide (HB2.out.trans (hb6.mono HB2.out.size))
        have hs6 := HB6.out.size
        obtain ⟨w6, hw6⟩ : ∃ w6, w2.alloc (.cells #[.int .u8 k, .int .i64 r, .int .i64 c, .int .i64 f, .int .i64 s', .int .i64 v] 39) = w6 := ⟨_, rfl⟩
        rw [hw6] at e0 e1 e2 e3 e4 e5 hl6 HO6 HB6 hs6 bk6 hb6
        have RD : Hid (Reads (w6.alloc (.cells #[.int .u8 k, .int .i64 r, .int .i64 c, .int .i64 f, .int .i64 s', .int .i64 v] 39)) (w6.heap.size + 1) 6 (some ⟨w6.heap.size, 0, none⟩) 1 [.int .u8 k, .int .i64 r, .int .i64 c, .int .i64 f, .int .i64 s', .int .i64 v]) := hide ⟨rfl, fun _ => ⟨_, rfl, Nat.lt_succ_self _, fun j u hj => by
          rw [add_lit]
          exact ((Blk.new w6 39 #[.int .u8 k, .int .i64 r, .int .i64 c, .int .i64 f, .int .i64 s', .int .i64 v]).cell j).trans (by simpa using hj)⟩⟩
        have HOn := hide (show ∀ u ∈ ([.int .u8 k, .int .i64 r, .int .i64 c, .int .i64 f, .int .i64 s', .int .i64 v] : List Value), u.oneCell' = true by simp [Value.oneCell'])
        have hll : l.length ≤ 100001 := by have := HL.out.1; omega
        have RES : Hid (∀ (w' : World) (v' : Value), w'.ownsRow w1.heap.size 39 6 v' (l.length + 1) (pks l ++ [.int .u8 k, .int .i64 r, .int .i64 c, .int .i64 f, .int .i64 s', .int .i64 v]) → w'.ownsRow w1.heap.size 39 6 v' (l ++ [(⟨k, r, c, f, s', v⟩ : Pk)]).length (pks (l ++ [(⟨k, r, c, f, s', v⟩ : Pk)]))) := hide fun w' v' h => by
          rw [pks_app, pks_one, List.length_append]
          exact h
        have LEN : Hid ((l ++ [(⟨k, r, c, f, s', v⟩ : Pk)]).length = i + 1 ∧ ∀ t ∈ l ++ [(⟨k, r, c, f, s', v⟩ : Pk)], t.ok) := hide ⟨by rw [List.length_append, HL.out.1]; rfl, fun t ht => by
          rcases List.mem_append.1 ht with h9 | h9
          · exact HL.out.2 t h9
          · rw [List.mem_singleton.1 h9]; exact OKC.out⟩
        clear bk6 hb6
        go_wp2_with (at_builtin; refine wpList_append_any _ rfl _ _ 22 rfl (w1.heap.size) 39 i0 pkZ 6 48 Tryd.underlying22 HI.out.1 HI.out.2.1 HI.out.2.2.1 HI.out.2.2.2 rfl (by decide) _ _ _ rfl (HO6.out.alloc _) (w6.heap.size + 1) (some ⟨w6.heap.size, 0, none⟩) 1 1 _ rfl RD.out HOn.out ?k1 ?k2 ?k3 ?_)
        case k1 => unfold maxLen; omega
        case k2 => omega
        case k3 => simp; omega
        intro v' w7 hown' hgrow _
        have hb7 := hide ((HB6.out.alloc hs6 _).grown hgrow (by simp; omega) (fun k hk => (own_ltS HO6.out hk).1))
        have ON7 := hide (RES.out _ _ hown')
        clear hown' hgrow
        go_wp2_with fail
        go_roundw
        case rel => exact ⟨i + 1, _, by omega, by go_num, HW2, LEN, ON7, hb7⟩
        case measure => simp [intOf] <;> omega
    · have hi2 : i = ws.length := by omega
      have ltI : ¬ (i : Int) < (ws.length : Int) := by omega
      have HW2 := HW.out
      rw [hi2] at HW2
      have HWW := hide (RAL.out l HW2)
      obtain ⟨la, lc, rfl, hLR⟩ := own_prow HO.out (fun k hk => HL.out.2 _ (List.getElem_mem hk)) (by have := HL.out.1; unfold maxLen; omega)
      have HR := hide hLR
      have HBW := hide (HB1.out.trans (HB.out.mono HB1.out.size))
      have T := hide (Text_a la lc l wr hLR (by have := HL.out.1; omega) HEr.out)
      clear hLR HW2
      cases ht : txtP l with
      | none =>
        have F := hide (RNOT.out l HWW.out (by rw [ht]; simp))
        have t1 : txR l = [] := by unfold txR; rw [ht]; rfl
        have t2 : txE l = 2 := by unfold txE; rw [ht]; rfl
        rw [t1, t2] at T
        clear hi2 ht t1 t2
        go_wp2_with fail
        refine T.out.mono ?_
        rintro e w3 ⟨rfl, hb3⟩
        have HB4 := hide (HBW.out.trans (hb3.mono HBW.out.size))
        clear hb3
        go_wp2_with fail
        go_ret2
        exact ⟨F.out _, HB4.out⟩
      | some t =>
        have t1 : txR l = t := by unfold txR; rw [ht]; rfl
        have t2 : txE l = 0 := by unfold txE; rw [ht]; rfl
        rw [t1, t2] at T
        by_cases hts : t = s.data.toList
        · subst hts
          have F := hide (RYES.out l HWW.out ht la lc)
          have b0 : bytes s.data.toList = s := rfl
          rw [b0] at T
          clear hi2 ht t1 t2 b0
          go_wp2_with fail
          refine T.out.mono ?_
          rintro e w3 ⟨rfl, hb3⟩
          have HB4 := hide (HBW.out.trans (hb3.mono HBW.out.size))
          have F2 := hide (F.out w3 (HR.out.below hb3))
          clear hb3
          go_wp2_with fail
          go_ret2
          exact ⟨F2.out, HB4.out⟩
        · have F := hide (RNOT.out l HWW.out (by rw [ht]; intro e; exact hts (Option.some.inj e)))
          have b0 : ¬ (bytes t).toList = s.toList := fun h => hts (by rw [ByteArray.toList_eq, ByteArray.toList_eq] at h; simpa [bytes] using h)
          have b1 : ((bytes t).toList == s.toList) = false := by simpa using b0
          have b2 : ((bytes t).toList != s.toList) = true := by simpa using b0
          clear hi2 ht t1 t2 hts b0
          generalize bytes t = X at *
          go_wp2_with fail
          refine T.out.mono ?_
          rintro e w3 ⟨rfl, hb3⟩
          have HB4 := hide (HBW.out.trans (hb3.mono HBW.out.size))
          clear hb3
          go_wp2_with fail
          go_ret2
          exact ⟨F.out _, HB4.out⟩
end Wit
end Go.Proofs.YtaakndenkfkijaaDoor
