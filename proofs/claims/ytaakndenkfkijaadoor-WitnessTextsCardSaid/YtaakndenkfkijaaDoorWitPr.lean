/- What a text is parsed as: the reference's Parse. -/
import Derived.Test.YtaakndenkfkijaaDoorRows
import Derived.Test.YtaakndenkfkijaaDoorWitRw
namespace Go.Proofs.YtaakndenkfkijaaDoor
open Go.RowKit
set_option linter.unusedVariables false
set_option linter.unusedSimpArgs false
namespace Wit
set_option maxRecDepth 100000 in
set_option maxHeartbeats 16000000 in
theorem Parse_b (s : ByteArray) (w : World) (hs : s.size ≤ 90000) :
    Calls Tryd.prog 7 #[.string s] w fun e w' => PaR (parB s.data.toList) e w' ∧ Below w.heap.size w w' := by
  by_cases h45 : s = ⟨#[45]⟩
  · subst h45
    have HP : Hid (∀ w', PaR (parB (⟨#[45]⟩ : ByteArray).data.toList) (.returned (.tuple #[.slice none 0 0, .int .i64 0])) w') := hide fun w' => PaR.yes (l := []) (by rfl) ⟨Nat.zero_le _, fun h => absurd h (Nat.lt_irrefl 0)⟩
    generalize parB (⟨#[45]⟩ : ByteArray).data.toList = res at *
    clear hs
    go_enter Tryd.func7, Tryd.ntmps7
    go_wp2_with fail
    go_ret2
    exact ⟨HP.out _, Below.refl _ _⟩
  have hne : ¬ s.data.toList = [45] := fun h => h45 (by rw [← (bytes_list s [45]).2 h.symm]; rfl)
  have hb : (s.toList == [45]) = false := by
    have : ¬ s.toList = [45] := fun h => hne (by rw [ByteArray.toList_eq] at h; exact h)
    simpa using this
  have hSl : s.data.toList.length = s.size := by simp
  obtain ⟨i0, hi0, hz0, hz1, hz2⟩ := info_parts pk_info
  have HI := hide (And.intro hi0 (And.intro hz0 (And.intro hz1 hz2)))
  have SP := hide (split_b s 32 w (by omega))
  have PE : parB s.data.toList = reads pkB (spl 32 [] s.data.toList) := by unfold parB; rw [if_neg hne]
  rw [PE]
  have LE := hide (fun p (hp : p ∈ spl 32 [] s.data.toList) => spl_le 32 s.data.toList [] p hp)
  have CNT := spl_cnt 32 s.data.toList []
  rw [hSl] at CNT
  have HSL := hide hSl
  rw [show (((32 : UInt8).toNat : Nat) : Int) = 32 from rfl] at SP
  generalize spl 32 [] s.data.toList = ws at *
  have NO := hide (fun (h : reads pkB ws = none) w' => PaR.no h w')
  have YES := hide (fun (l : List Pk) (h : reads pkB ws = some l) (A : Option Addr) (c : Nat) (w' : World) (hr : PRow w' A l) => PaR.yes (c := c) h hr)
  have RNO := hide (fun i hi h => reads_no pkB ws i hi h)
  have RTK := hide (fun i hi L p h1 h2 => @reads_take pkB ws i hi L p h1 h2)
  have RAL := hide (fun (l : List Pk) (h : reads pkB (ws.take ws.length) = some l) => show reads pkB ws = some l by rwa [List.take_length] at h)
  clear h45 hne hSl hi0 hz0 hz1 hz2 PE
  go_enter Tryd.func7, Tryd.ntmps7
  go_wp2_with fail
  refine SP.out.mono ?_
  rintro e w1 ⟨⟨vw, rfl, how⟩, hb1⟩
  obtain ⟨aw, cw, rfl⟩ := own_form how
  have OW := hide how
  have HB1 := hide hb1
  clear how hb1 SP
  go_wp2_with fail
  go_loopw [4, 6] (fun vl vi wr => ∃ (i : Nat) (l : List Pk), i ≤ ws.length ∧ vi = .int .i64 i ∧ Hid (reads pkB (ws.take i) = some l) ∧ Hid (l.length = i ∧ ∀ t ∈ l, t.ok) ∧ Hid (wr.ownsRow w1.heap.size 39 6 vl l.length (pks l)) ∧ Hid (Below w1.heap.size w1 wr)) (fun _ vi _ => ws.length - (intOf vi).toNat)
  case atStart => exact ⟨0, [], Nat.zero_le _, rfl, hide rfl, hide ⟨rfl, fun t ht => by cases ht⟩, hide ⟨rfl, .inl ⟨rfl, rfl⟩⟩, hide (Below.refl _ _)⟩
  case round =>
    obtain ⟨i, l, hi, rfl, HW, HL, HO, HB⟩ := hrel
    by_cases hlt : i < ws.length
    · have ltI : (i : Int) < (ws.length : Int) := by omega
      obtain ⟨gw, rfl, hgw, cwc⟩ := own_addr OW.out (by omega)
      have cell := (HB.out.cell (p := ⟨gw, i, none⟩) hgw).trans (cwc i (strV ws[i]) (by simp [hlt]))
      have hwl := LE.out ws[i] (List.getElem_mem hlt)
      have hwl2 : (bytes ws[i]).size ≤ 90000 := by rw [bytes_size]; have := HSL.out; simp at hwl; omega
      have PK := hide (fun w' => pick_b (bytes ws[i]) w' (by omega))
      rw [show (bytes ws[i]).data.toList = ws[i] by simp [bytes]] at PK
      unfold strV at cell
      clear cwc hwl
      generalize bytes ws[i] = wb at *
      cases hp : pkB ws[i] with
      | none =>
        have F := hide (NO.out (RNO.out i hlt hp))
        rw [hp] at PK
        simp only [RdR, pkC, pk0] at PK
        clear hp
        go_wp2_with fail
        refine (PK.out _).mono ?_
        rintro e w2 ⟨rfl, hb2⟩
        have HB2 := hide (HB1.out.trans ((HB.out.trans (hb2.mono HB.out.size)).mono HB1.out.size))
        have HB3 := hide (HB2.out.alloc HB2.out.size (.cells #[.int .u8 0, .int .i64 0, .int .i64 0, .int .i64 0, .int .i64 0, .int .i64 0] 39))
        clear hb2
        go_wp2_with fail
        go_ret2
        exact ⟨F.out _, HB3.out⟩
      | some p =>
        have HW2 := hide (RTK.out i hlt l p HW.out hp)
        have OKC := hide (pkB_ok hp)
        rw [hp] at PK
        clear hp
        obtain ⟨k, r, c, f, s', v⟩ := p
        simp only [RdR, pkC, pk0] at PK
        go_wp2_with fail
        refine (PK.out _).mono ?_
        rintro e w2 ⟨rfl, hb2⟩
        have HO2 := hide (own_belowR HO.out hb2)
        have HB2 := hide (HB.out.trans (hb2.mono HB.out.size))
        clear hb2
        have hl6 : w2.heap.size < (w2.alloc (.cells #[.int .u8 k, .int .i64 r, .int .i64 c, .int .i64 f, .int .i64 s', .int .i64 v] 39)).heap.size := by simp
        have bk6 := Blk.new w2 39 #[.int .u8 k, .int .i64 r, .int .i64 c, .int .i64 f, .int .i64 s', .int .i64 v]
        have e0 := bk6.cell 0
        have e1 := bk6.cell 1
        have e2 := bk6.cell 2
        have e3 := bk6.cell 3
        have e4 := bk6.cell 4
        have e5 := bk6.cell 5
        simp only [List.getElem?_toArray, List.getElem?_cons_zero, List.getElem?_cons_succ] at e0 e1 e2 e3 e4 e5
        have hb6 := (Below.refl w2.heap.size w2).alloc (Nat.le_refl _) (.cells #[.int .u8 k, .int .i64 r, .int .i64 c, .int .i64 f, .int .i64 s', .int .i64 v] 39)
        have HO6 := hide (own_belowR HO2.out hb6)
        have HB6 := hide (HB2.out.trans (hb6.mono HB2.out.size))
        have hs6 := HB6.out.size
        obtain ⟨w6, hw6⟩ : ∃ w6, w2.alloc (.cells #[.int .u8 k, .int .i64 r, .int .i64 c, .int .i64 f, .int .i64 s', .int .i64 v] 39) = w6 := ⟨_, rfl⟩
        rw [hw6] at e0 e1 e2 e3 e4 e5 hl6 HO6 HB6 hs6 bk6 hb6
        have RD : Hid (Reads (w6.alloc (.cells #[.int .u8 k, .int .i64 r, .int .i64 c, .int .i64 f, .int .i64 s', .int .i64 v] 39)) (w6.heap.size + 1) 6 (some ⟨w6.heap.size, 0, none⟩) 1 [.int .u8 k, .int .i64 r, .int .i64 c, .int .i64 f, .int .i64 s', .int .i64 v]) := hide ⟨rfl, fun _ => ⟨_, rfl, Nat.lt_succ_self _, fun j u hj => by
          rw [add_lit]
          exact ((Blk.new w6 39 #[.int .u8 k, .int .i64 r, .int .i64 c, .int .i64 f, .int .i64 s', .int .i64 v]).cell j).trans (by simpa using hj)⟩⟩
        have HOn := hide (show ∀ u ∈ ([.int .u8 k, .int .i64 r, .int .i64 c, .int .i64 f, .int .i64 s', .int .i64 v] : List Value), u.oneCell' = true by simp [Value.oneCell'])
        have hll : l.length ≤ 100001 := by have := HL.out.1; omega
        have RES : Hid (∀ (w' : World) (v' : Value), w'.ownsRow w1.heap.size 39 6 v' (l.length + 1) (pks l ++ [.int .u8 k, .int .i64 r, .int .i64 c, .int .i64 f, .int .i64 s', .int .i64 v]) → w'.ownsRow w1.heap.size 39 6 v' (l ++ [(⟨k, r, c, f, s', v⟩ : Pk)]).length (pks (l ++ [(⟨k, r, c, f, s', v⟩ : Pk)]))) := hide fun w' v' h => by
          rw [pks_app, pks_one, List.length_append]
          exact h
        have LEN : Hid ((l ++ [(⟨k, r, c, f, s', v⟩ : Pk)]).length = i + 1 ∧ ∀ t ∈ l ++ [(⟨k, r, c, f, s', v⟩ : Pk)], t.ok) := hide ⟨by rw [List.length_append, HL.out.1]; rfl, fun t ht => by
          rcases List.mem_append.1 ht with h9 | h9
          · exact HL.out.2 t h9
          · rw [List.mem_singleton.1 h9]; exact OKC.out⟩
        clear bk6 hb6
        go_wp2_with (at_builtin; refine wpList_append_any _ rfl _ _ 22 rfl (w1.heap.size) 39 i0 pkZ 6 48 Tryd.underlying22 HI.out.1 HI.out.2.1 HI.out.2.2.1 HI.out.2.2.2 rfl (by decide) _ _ _ rfl (HO6.out.alloc _) (w6.heap.size + 1) (some ⟨w6.heap.size, 0, none⟩) 1 1 _ rfl RD.out HOn.out ?k1 ?k2 ?k3 ?_)
        case k1 => unfold maxLen; omega
        case k2 => omega
        case k3 => simp; omega
        intro v' w7 hown' hgrow _
        have hb7 := hide ((HB6.out.alloc hs6 _).grown hgrow (by simp; omega) (fun k hk => (own_ltS HO6.out hk).1))
        have ON7 := hide (RES.out _ _ hown')
        clear hown' hgrow
        go_wp2_with fail
        go_roundw
        case rel => exact ⟨i + 1, _, by omega, by go_num, HW2, LEN, ON7, hb7⟩
        case measure => simp [intOf] <;> omega
    · obtain rfl : i = ws.length := by omega
      have ltI : ¬ (ws.length : Int) < (ws.length : Int) := by omega
      have HWW := RAL.out l HW.out
      obtain ⟨la, lc, rfl, hLR⟩ := own_prow HO.out (fun k hk => HL.out.2 _ (List.getElem_mem hk)) (by have := HL.out.1; unfold maxLen; omega)
      have F := hide (YES.out l HWW la lc wr hLR)
      have HBW := hide (HB1.out.trans (HB.out.mono HB1.out.size))
      clear hLR HWW
      go_wp2_with fail
      go_ret2
      exact ⟨F.out, HBW.out⟩
end Wit
end Go.Proofs.YtaakndenkfkijaaDoor
