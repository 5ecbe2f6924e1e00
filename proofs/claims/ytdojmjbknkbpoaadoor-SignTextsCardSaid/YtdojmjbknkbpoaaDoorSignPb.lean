/- What a text is parsed as: the reference's Parse. -/
import Derived.Test.YtdojmjbknkbpoaaDoorRows
import Derived.Test.YtdojmjbknkbpoaaDoorSignRb
import Derived.Test.YtdojmjbknkbpoaaDoorSignTb
import Derived.Test.YtdojmjbknkbpoaaDoorSignPa
namespace Go.Proofs.YtdojmjbknkbpoaaDoor
open Go.RowKit
set_option linter.unusedVariables false
set_option linter.unusedSimpArgs false
theorem wds_app : ∀ (a b : List (List UInt8)), wdsB (a ++ b) = match wdsB a with | some x => (match wdsB b with | some y => some (x ++ y) | none => none) | none => none
  | [], b => by
    rw [List.nil_append, wdsB]
    cases wdsB b <;> rfl
  | w :: a, b => by
    rw [List.cons_append, wdsB, wdsB, wds_app a b]
    cases wdB w with
    | none => rfl
    | some t =>
      cases wdsB a with
      | none => rfl
      | some x => cases wdsB b <;> rfl
theorem wds_step {ws : List (List UInt8)} {i : Nat} {l : List Ch} (hi : i < ws.length) (h : wdsB (ws.take i) = some l) : wdsB (ws.take (i + 1)) = match wdB ws[i] with | some t => some (l ++ [t]) | none => none := by
  rw [List.take_succ_eq_append_getElem hi, wds_app, h]
  simp only [wdsB]
  cases wdB ws[i] <;> rfl
theorem wds_none {ws : List (List UInt8)} {i : Nat} {l : List Ch} (hi : i < ws.length) (h : wdsB (ws.take i) = some l) (hn : wdB ws[i] = none) : wdsB ws = none := by
  have h1 := wds_step hi h
  rw [hn] at h1
  have := wds_app (ws.take (i + 1)) (ws.drop (i + 1))
  rw [List.take_append_drop, h1] at this
  exact this
theorem spl_le (b : UInt8) : ∀ (s cur : List UInt8), ∀ p ∈ spl b cur s, p.length ≤ cur.length + s.length
  | [], cur, p, h => by
    rw [spl] at h
    rw [List.mem_singleton.1 h]
    simp
  | x :: s, cur, p, h => by
    rw [spl] at h
    split at h
    · rcases List.mem_cons.1 h with h | h
      · rw [h]; simp
      · have := spl_le b s [] p h
        simp at this ⊢
        omega
    · have := spl_le b s _ p h
      simp at this ⊢
      omega
theorem spl_cnt (b : UInt8) : ∀ (s cur : List UInt8), (spl b cur s).length ≤ s.length + 1
  | [], cur => by simp [spl]
  | x :: s, cur => by
    rw [spl]
    split
    · have := spl_cnt b s []
      simp
      omega
    · have := spl_cnt b s (cur ++ [x])
      simp
      omega
theorem dig_lt : ∀ (l : List UInt8) (n m k : Nat), n < 10 ^ k → digF l n = some m → m < 10 ^ (k + l.length)
  | [], n, m, k, h, hd => by cases hd; simpa using h
  | x :: l, n, m, k, h, hd => by
    rw [digF] at hd
    split at hd
    · have := dig_lt l _ m (k + 1) (by rw [Nat.pow_succ]; omega) hd
      rw [List.length_cons]
      rwa [Nat.add_assoc, Nat.add_comm 1] at this
    · cases hd
theorem rdB_fit (p : List UInt8) : Fit64 (rdB p).1 := by
  unfold rdB
  split
  · unfold Fit64; simp
  · rename_i hc
    split
    · rename_i n hd
      have h1 := dig_lt _ 0 n 0 (by simp) hd
      have h2 : (10 : Nat) ^ (0 + (digs p).length) ≤ 10 ^ 13 := Nat.pow_le_pow_right (by omega) (by omega)
      have h3 : (10 : Nat) ^ 13 = 10000000000000 := by decide
      unfold Fit64
      simp only
      split <;> omega
    · unfold Fit64; simp
theorem wd_len {w : List UInt8} (h : (spl 46 [] w).length ≠ 5) : wdB w = none := by
  unfold wdB
  split
  · rename_i e
    rw [e] at h
    simp at h
  · rfl
theorem wd_no {w : List UInt8} {j : Nat} (hj : j < (spl 46 [] w).length) (h5 : (spl 46 [] w).length = 5) (h : (rdB (spl 46 [] w)[j]).2 = false) : wdB w = none := by
  unfold wdB
  split
  · rename_i a b c d e hs
    have hj5 : j < 5 := by omega
    have : (rdB ([a, b, c, d, e][j]'(by simpa using hj5))).2 = false := by
      have e1 : (spl 46 [] w)[j] = [a, b, c, d, e][j]'(by simpa using hj5) := by simp only [hs]
      rw [← e1]; exact h
    rw [if_neg]
    simp only [Bool.and_eq_true]
    rintro ⟨⟨⟨⟨h1, h2⟩, h3⟩, h4⟩, h6⟩
    match j, hj5, this with
    | 0, _, t => rw [show (rdB a).2 = false from t] at h1; cases h1
    | 1, _, t => rw [show (rdB b).2 = false from t] at h2; cases h2
    | 2, _, t => rw [show (rdB c).2 = false from t] at h3; cases h3
    | 3, _, t => rw [show (rdB d).2 = false from t] at h4; cases h4
    | 4, _, t => rw [show (rdB e).2 = false from t] at h6; cases h6
  · rfl
def okUp (ps : List (List UInt8)) (j : Nat) : Prop := ∀ k (hk : k < ps.length), k < j → (rdB ps[k]).2 = true
theorem wd_yes {w : List UInt8} (h5 : (spl 46 [] w).length = 5) (h : okUp (spl 46 [] w) 5) : ∃ a b c d e, (spl 46 [] w).map (fun p => (rdB p).1) = [a, b, c, d, e] ∧ wdB w = some ⟨a, b, d, e, c⟩ ∧ (⟨a, b, d, e, c⟩ : Ch).ok := by
  unfold wdB
  match hs : spl 46 [] w, h5, h with
  | [a, b, c, d, e], _, h =>
    refine ⟨_, _, _, _, _, rfl, ?_, rdB_fit a, rdB_fit b, rdB_fit d, rdB_fit e, rdB_fit c⟩
    have h0 := h 0 (by simp) (by omega)
    have h1 := h 1 (by simp) (by omega)
    have h2 := h 2 (by simp) (by omega)
    have h3 := h 3 (by simp) (by omega)
    have h4 := h 4 (by simp) (by omega)
    simp only [List.getElem_cons_zero, List.getElem_cons_succ] at h0 h1 h2 h3 h4
    simp only [h0, h1, h2, h3, h4, Bool.and_self, if_true]
def nuU (ps : List (List UInt8)) (j : Nat) : List Value := (ps.take j).map (fun p => Value.int .i64 (rdB p).1)
theorem nuU_all {ps : List (List UInt8)} {a b c d e : Int} (h5 : ps.length = 5) (h : ps.map (fun p => (rdB p).1) = [a, b, c, d, e]) : nuU ps 5 = [.int .i64 a, .int .i64 b, .int .i64 c, .int .i64 d, .int .i64 e] := by
  unfold nuU
  rw [List.take_of_length_le (by omega)]
  have := congrArg (List.map (Value.int .i64)) h
  rw [List.map_map] at this
  exact this
theorem data_bytesB (l : List UInt8) : (bytes l).data.toList = l := by simp [bytes]
def PbR (s : ByteArray) (e : Ending) (w' : World) : Prop := match parB s.data.toList with
  | some l => ∃ A c, e = .returned (.tuple #[.slice A l.length c, .int .i64 0]) ∧ CRow w' A l
  | none => e = .returned (.tuple #[.slice none 0 0, .int .i64 240])
theorem PbR.no {s : ByteArray} (h : parB s.data.toList = none) (w' : World) : PbR s (.returned (.tuple #[.slice none 0 0, .int .i64 240])) w' := by
  unfold PbR; rw [h]
theorem PbR.yes {s : ByteArray} {l : List Ch} (h : parB s.data.toList = some l) {A : Option Addr} {c : Nat} {w' : World} (hr : CRow w' A l) : PbR s (.returned (.tuple #[.slice A l.length c, .int .i64 0])) w' := by
  unfold PbR; rw [h]; exact ⟨A, c, rfl, hr⟩
set_option maxRecDepth 100000 in
set_option maxHeartbeats 16000000 in
theorem Parse_b (s : ByteArray) (w : World) (hs : s.size ≤ 90000) :
    Calls Tryd.prog 11 #[.string s] w fun e w' => PbR s e w' ∧ Below w.heap.size w w' := by
  by_cases h45 : s = ⟨#[45]⟩
  · subst h45
    have HP : Hid (∀ w', PbR ⟨#[45]⟩ (.returned (.tuple #[.slice none 0 0, .int .i64 0])) w') := hide fun w' => PbR.yes (l := []) (by decide) ⟨Nat.zero_le _, fun h => absurd h (Nat.lt_irrefl 0)⟩
    clear hs
    go_enter Tryd.func11, Tryd.ntmps11
    go_wp2_with fail
    go_ret2
    exact ⟨HP.out _, Below.refl _ _⟩
  have hne : ¬ s.data.toList = [45] := fun h => h45 (by rw [← (bytes_list s [45]).2 h.symm]; rfl)
  have hb : (s.toList == [45]) = false := by
    have : ¬ s.toList = [45] := fun h => hne (by rw [ByteArray.toList_eq] at h; exact h)
    simpa using this
  have hSl : s.data.toList.length = s.size := by simp
  obtain ⟨i0, hi0, hz0, hz1, hz2⟩ := info_parts ch_info
  obtain ⟨i1, hi1, hy0, hy1, hy2⟩ := info_parts int_info
  have HI := hide (And.intro hi0 (And.intro hz0 (And.intro hz1 hz2)))
  have HJ := hide (And.intro hi1 (And.intro hy0 (And.intro hy1 hy2)))
  have SP := hide (split_b s 32 w (by omega))
  have NONE := hide (fun (h : wdsB (spl 32 [] s.data.toList) = none) (w' : World) => PbR.no (s := s) (by unfold parB; rw [if_neg hne, h]) w')
  have MAY0 := hide (fun (l : List Ch) (h : wdsB (spl 32 [] s.data.toList) = some l) (hm : mayL l = false) (w' : World) => PbR.no (s := s) (by unfold parB; rw [if_neg hne, h]; simp [hm]) w')
  have MAY1 := hide (fun (l : List Ch) (h : wdsB (spl 32 [] s.data.toList) = some l) (hm : mayL l = true) (A : Option Addr) (c : Nat) (w' : World) (hr : CRow w' A l) => PbR.yes (s := s) (c := c) (by unfold parB; rw [if_neg hne, h]; simp [hm]) hr)
  have LE := hide (fun p (hp : p ∈ spl 32 [] s.data.toList) => spl_le 32 s.data.toList [] p hp)
  have CNT := spl_cnt 32 s.data.toList []
  rw [hSl] at CNT
  have HSL := hide hSl
  have HX : Hid ((32 : UInt8).toNat = 32) := hide rfl
  rw [show (((32 : UInt8).toNat : Nat) : Int) = 32 from rfl] at SP
  generalize spl 32 [] s.data.toList = ws at *
  clear h45 hne hSl hi0 hz0 hz1 hz2 hi1 hy0 hy1 hy2
  go_enter Tryd.func11, Tryd.ntmps11
  go_wp2_with fail
  refine SP.out.mono ?_
  rintro e w1 ⟨⟨vw, rfl, how⟩, hb1⟩
  obtain ⟨aw, cw, rfl⟩ := own_form how
  have OW := hide how
  have HB1 := hide hb1
  clear how hb1 SP
  go_wp2_with fail
  go_loopw [4, 6] (fun vl vi wr => ∃ (i : Nat) (l : List Ch), i ≤ ws.length ∧ vi = .int .i64 i ∧ Hid (wdsB (ws.take i) = some l) ∧ Hid (l.length = i ∧ ∀ t ∈ l, t.ok) ∧ Hid (wr.ownsRow w1.heap.size 40 5 vl l.length (chs l)) ∧ Hid (Below w1.heap.size w1 wr)) (fun _ vi _ => ws.length - (intOf vi).toNat)
  case atStart => exact ⟨0, [], Nat.zero_le _, rfl, hide rfl, hide ⟨rfl, fun t ht => by cases ht⟩, hide ⟨rfl, .inl ⟨rfl, rfl⟩⟩, hide (Below.refl _ _)⟩
  case round =>
    obtain ⟨i, l, hi, rfl, HW, HL, HO, HB⟩ := hrel
    by_cases hlt : i < ws.length
    · have ltI : (i : Int) < (ws.length : Int) := by omega
      obtain ⟨gw, rfl, hgw, cwc⟩ := own_addr OW.out (by omega)
      have cell := (HB.out.cell (p := ⟨gw, i, none⟩) hgw).trans (cwc i (strV ws[i]) (by simp [hlt]))
      have hwl := LE.out ws[i] (List.getElem_mem hlt)
      have hwl2 : (bytes ws[i]).size ≤ 90000 := by rw [bytes_size]; have := HSL.out; simp at hwl; omega
      have SP2 := hide (split_b (bytes ws[i]) 46 wr (by omega))
      rw [show (bytes ws[i]).data.toList = ws[i] by simp [bytes], show (((46 : UInt8).toNat : Nat) : Int) = 46 from rfl] at SP2
      have WN := hide (wds_none hlt HW.out)
      have WS := hide (wds_step hlt HW.out)
      have PLE := hide (fun (p : List UInt8) (h9 : p ∈ spl 46 [] (ws[i]'hlt)) => spl_le 46 (ws[i]'hlt) [] p h9)
      have WL := hide (fun (h9 : (spl 46 [] (ws[i]'hlt)).length ≠ 5) => wd_len h9)
      have WNo := hide (fun (j : Nat) (hj : j < (spl 46 [] (ws[i]'hlt)).length) (h5 : (spl 46 [] (ws[i]'hlt)).length = 5) (h9 : (rdB ((spl 46 [] (ws[i]'hlt))[j]'hj)).2 = false) => wd_no hj h5 h9)
      have WY := hide (fun (h5 : (spl 46 [] (ws[i]'hlt)).length = 5) (h9 : okUp (spl 46 [] (ws[i]'hlt)) 5) => wd_yes h5 h9)
      have PC := spl_cnt 46 ws[i] []
      have PC2 : (spl 46 [] ws[i]).length ≤ 90001 := by rw [bytes_size] at hwl2; omega
      unfold strV at cell
      clear cwc hwl PC
      have HLW := hide (show ws[i].length ≤ 90000 by rw [bytes_size] at hwl2; exact hwl2)
      generalize bytes ws[i] = wb at *
      generalize ws[i] = wi at *
      generalize spl 46 [] wi = ps at *
      go_wp2_with fail
      refine SP2.out.mono ?_
      rintro e w2 ⟨⟨vp, rfl, hop⟩, hb2⟩
      obtain ⟨ap, cp, rfl⟩ := own_form hop
      have OP := hide hop
      have HB2 := hide (HB.out.trans (hb2.mono HB.out.size))
      have HO2 := hide (own_belowR HO.out hb2)
      have HBW := hide (HB1.out.trans (HB2.out.mono HB1.out.size))
      clear hop hb2 SP2
      by_cases h5 : ps.length = 5
      rotate_left
      · have e5 : ((ps.length : Int) == 5) = false := by
          have : ¬ (ps.length : Int) = 5 := by omega
          simpa using this
        have e6 : ((ps.length : Int) != 5) = true := by
          have : ¬ (ps.length : Int) = 5 := by omega
          simpa using this
        have F := hide (NONE.out (WN.out (WL.out h5)))
        have HH := hide h5
        clear h5
        go_wp2_with fail
        go_ret2
        exact ⟨F.out _, HBW.out⟩
      obtain ⟨gp, rfl, hgp, cpc⟩ := own_addr OP.out (by omega)
      have CPC := hide (fun (j : Nat) (hj : j < ps.length) => cpc j (strV (ps[j]'hj)) (by simp [hj]))
      have RB := hide (fun (j : Nat) (hj : j < ps.length) (w' : World) => by
        have h9 := PLE.out (ps[j]'hj) (List.getElem_mem hj)
        have t := read_b (bytes (ps[j]'hj)) w' (by rw [bytes_size]; have := HLW.out; simp at h9; omega)
        rw [data_bytesB] at t
        exact t)
      have H5 := hide h5
      rw [h5]
      clear cpc h5 OP
      go_wp2_with fail
      go_loopw [8, 9] (fun vn vk wq => ∃ (j : Nat), j ≤ 5 ∧ vk = .int .i64 j ∧ Hid (okUp ps j) ∧ Hid (wq.ownsRow w2.heap.size 3 1 vn j (nuU ps j)) ∧ Hid (Below w2.heap.size w2 wq)) (fun _ vk _ => 5 - (intOf vk).toNat)
      case atStart => exact ⟨0, by omega, rfl, hide (fun k _ h => absurd h (Nat.not_lt_zero _)), hide ⟨rfl, .inl ⟨rfl, rfl⟩⟩, hide (Below.refl _ _)⟩
      case round =>
        obtain ⟨j, hj, rfl, HK, ON, HB3⟩ := hrel
        have hs3 := HB3.out.size
        by_cases hj5 : j < 5
        · have jI : (j : Int) < 5 := by omega
          have hjl : j < ps.length := by rw [H5.out]; exact hj5
          have pc := (HB3.out.cell (p := ⟨gp, j, none⟩) hgp).trans (CPC.out j hjl)
          have RJ := hide (RB.out j hjl)
          have KK : Hid ((rdB (ps[j]'hjl)).2 = true → okUp ps (j + 1)) := hide fun hk k hkl hlt => by
            rcases Nat.lt_or_ge k j with h9 | h9
            · exact HK.out k hkl h9
            · obtain rfl : k = j := by omega
              exact hk
          have APP : Hid (∀ (w' : World) (v' : Value), w'.ownsRow w2.heap.size 3 1 v' (j + 1) (nuU ps j ++ [.int .i64 (rdB (ps[j]'hjl)).1]) → w'.ownsRow w2.heap.size 3 1 v' (j + 1) (nuU ps (j + 1))) := hide fun w' v' h => by
            unfold nuU
            rw [List.take_succ_eq_append_getElem hjl, List.map_append]
            exact h
          have WX := hide (WNo.out j hjl H5.out)
          unfold strV at pc
          generalize bytes (ps[j]'hjl) = pb at *
          cases hok : (rdB (ps[j]'hjl)).2 with
          | false =>
            have F := hide (NONE.out (WN.out (WX.out hok)))
            rw [hok] at RJ
            clear hok
            go_wp2_with fail
            refine (RJ.out _).mono ?_
            rintro e w3 ⟨rfl, hb3⟩
            have HB4 := hide (HBW.out.trans ((HB3.out.trans (hb3.mono HB3.out.size)).mono HBW.out.size))
            clear hb3
            go_wp2_with fail
            go_ret2
            exact ⟨F.out _, HB4.out⟩
          | true =>
            have K2 := hide (KK.out hok)
            rw [hok] at RJ
            clear hok WX KK
            generalize (rdB (ps[j]'hjl)).1 = z at *
            go_wp2_with fail
            refine (RJ.out _).mono ?_
            rintro e w3 ⟨rfl, hb3⟩
            have ON3 := hide (own_belowR ON.out hb3)
            have HB4 := hide (HB3.out.trans (hb3.mono HB3.out.size))
            have hs4 := HB4.out.size
            clear hb3 RJ
            go_wp2_with (at_builtin; refine wpList_append_own _ rfl _ _ 56 rfl w2.heap.size 3 i1 (.int .i64 0) 1 8 Tryd.underlying56 HJ.out.1 HJ.out.2.1 HJ.out.2.2.1 HJ.out.2.2.2 rfl (by decide) _ _ _ rfl (ON3.out.alloc _) ⟨w3.heap.size, 0, none⟩ 1 1 [.int .i64 z] rfl rfl ?c1 ?c2 ?c3 ?c4 ?c5 ?_)
            case c1 =>
              intro j u hj
              match j, hj with
              | 0, hj => simp at hj; subst hj; simp [Addr.add]
            case c2 => intro u hu; simp at hu; subst hu; rfl
            case c3 => unfold maxLen; omega
            case c4 => omega
            case c5 => simp; omega
            intro v' w4 hown' hgrow _
            have hb4 := hide ((HB4.out.alloc hs4 _).grown hgrow (by simp; omega) (fun k hk => (own_ltS ON3.out hk).1))
            have ON4 := hide (APP.out _ _ hown')
            clear hown' hgrow
            go_wp2_with fail
            go_roundw
            case rel => exact ⟨j + 1, by omega, by go_num, K2, ON4, hb4⟩
            case measure => simp [intOf] <;> omega
        · obtain rfl : j = 5 := by omega
          obtain ⟨z0, z1, z2, z3, z4, hmap, hwd, hokc⟩ := WY.out H5.out HK.out
          have ON5 := ON.out
          rw [nuU_all H5.out hmap] at ON5
          obtain ⟨an, cn, rfl⟩ := own_form ON5
          obtain ⟨gn, rfl, hgn, cnc⟩ := own_addr ON5 (by omega)
          have q0 := cnc 0 _ rfl
          have q1 := cnc 1 _ rfl
          have q2 := cnc 2 _ rfl
          have q3 := cnc 3 _ rfl
          have q4 := cnc 4 _ rfl
          have HO3 := hide (own_belowR HO2.out HB3.out)
          have HB4 := hide (HB2.out.trans (HB3.out.mono HB2.out.size))
          have W2 := hide (show wdsB (ws.take (i + 1)) = some (l ++ [⟨z0, z1, z3, z4, z2⟩]) by rw [WS.out, hwd])
          have OKC := hide hokc
          clear cnc ON5 hmap hwd hokc WY WNo WL PLE RB CPC
          rename World => wq
          go_wp2_with fail
          go_region
          have bk := (Blk.new wq 40 #[.int .i64 z0, .int .i64 z1, .int .i64 0, .int .i64 0, .int .i64 z2]).drew
          have hb5 := ((Below.refl wq.heap.size wq).alloc (Nat.le_refl _) (.cells #[.int .i64 z0, .int .i64 z1, .int .i64 0, .int .i64 0, .int .i64 z2] 40)).drew
          have hs5 : wq.heap.size < ((wq.alloc (.cells #[.int .i64 z0, .int .i64 z1, .int .i64 0, .int .i64 0, .int .i64 z2] 40)).drew).heap.size := by
            show _ < (wq.alloc _).heap.size
            simp
          generalize (wq.alloc (.cells #[.int .i64 z0, .int .i64 z1, .int .i64 0, .int .i64 0, .int .i64 z2] 40)).drew = w5 at *
          have r3 := (hb5.cell (p := ⟨gn, 3, none⟩) hgn).trans q3
          have r4 := (hb5.cell (p := ⟨gn, 4, none⟩) hgn).trans q4
          have d2 := bk.cell 2
          have d3 := bk.cell 3
          simp only [List.getElem?_toArray, List.getElem?_cons_zero, List.getElem?_cons_succ] at d2 d3
          have bfr := bk.frozen
          have f2 := bfr 2
          have f3 := bfr 3
          have hgne : gn ≠ wq.heap.size := by omega
          have BK := hide bk
          have HB5 := hide hb5
          clear bk hb5 q0 q1 q2 q3 q4 bfr
          go_wp2_with fail
          go_region
          have bk6 : Blk (((w5.setCell ⟨wq.heap.size, 2, none⟩ (.int .i64 z3)).setCell ⟨wq.heap.size, 3, none⟩ (.int .i64 z4)).drew) wq.heap.size 40 #[.int .i64 z0, .int .i64 z1, .int .i64 z3, .int .i64 z4, .int .i64 z2] := ((BK.out.set_ 2 (.int .i64 z3)).set_ 3 (.int .i64 z4)).drew
          have hb6 : Below wq.heap.size wq (((w5.setCell ⟨wq.heap.size, 2, none⟩ (.int .i64 z3)).setCell ⟨wq.heap.size, 3, none⟩ (.int .i64 z4)).drew) := ((HB5.out.setCell (p := ⟨wq.heap.size, 2, none⟩) (Nat.le_refl _) _).setCell (p := ⟨wq.heap.size, 3, none⟩) (Nat.le_refl _) _).drew
          generalize (((w5.setCell ⟨wq.heap.size, 2, none⟩ (.int .i64 z3)).setCell ⟨wq.heap.size, 3, none⟩ (.int .i64 z4)).drew) = w6 at *
          have e0 := bk6.cell 0
          have e1 := bk6.cell 1
          have e2 := bk6.cell 2
          have e3 := bk6.cell 3
          have e4 := bk6.cell 4
          simp only [List.getElem?_toArray, List.getElem?_cons_zero, List.getElem?_cons_succ] at e0 e1 e2 e3 e4
          have HO6 := hide (own_belowR HO3.out hb6)
          have HB6 := hide (HB4.out.trans (hb6.mono HB4.out.size))
          have hs6 := HB6.out.size
          have RD : Hid (Reads (w6.alloc (.cells #[.int .i64 z0, .int .i64 z1, .int .i64 z3, .int .i64 z4, .int .i64 z2] 40)) (w6.heap.size + 1) 5 (some ⟨w6.heap.size, 0, none⟩) 1 [.int .i64 z0, .int .i64 z1, .int .i64 z3, .int .i64 z4, .int .i64 z2]) := hide ⟨rfl, fun _ => ⟨_, rfl, Nat.lt_succ_self _, fun j u hj => by
            rw [add_lit]
            exact ((Blk.new w6 40 #[.int .i64 z0, .int .i64 z1, .int .i64 z3, .int .i64 z4, .int .i64 z2]).cell j).trans (by simpa using hj)⟩⟩
          have HOn := hide (show ∀ u ∈ ([.int .i64 z0, .int .i64 z1, .int .i64 z3, .int .i64 z4, .int .i64 z2] : List Value), u.oneCell' = true by simp [Value.oneCell'])
          have hll : l.length ≤ 90001 := by have := HL.out.1; omega
          have RES : Hid (∀ (w' : World) (v' : Value), w'.ownsRow w1.heap.size 40 5 v' (l.length + 1) (chs l ++ [.int .i64 z0, .int .i64 z1, .int .i64 z3, .int .i64 z4, .int .i64 z2]) → w'.ownsRow w1.heap.size 40 5 v' (l ++ [(⟨z0, z1, z3, z4, z2⟩ : Ch)]).length (chs (l ++ [(⟨z0, z1, z3, z4, z2⟩ : Ch)]))) := hide fun w' v' h => by
            rw [chs_app, chs_one, List.length_append]
            exact h
          have LEN : Hid ((l ++ [(⟨z0, z1, z3, z4, z2⟩ : Ch)]).length = i + 1 ∧ ∀ t ∈ l ++ [(⟨z0, z1, z3, z4, z2⟩ : Ch)], t.ok) := hide ⟨by rw [List.length_append, HL.out.1]; rfl, fun t ht => by
            rcases List.mem_append.1 ht with h9 | h9
            · exact HL.out.2 t h9
            · rw [List.mem_singleton.1 h9]; exact OKC.out⟩
          clear bk6 hb6 BK HB5 d2 d3 r3 r4 f2 f3 HO3 HO2 HB4 ON
          go_wp2_with (at_builtin; refine wpList_append_any _ rfl _ _ 22 rfl w1.heap.size 40 i0 chZ 5 40 Tryd.underlying22 HI.out.1 HI.out.2.1 HI.out.2.2.1 HI.out.2.2.2 rfl (by decide) u4 l.length (chs l) rfl (HO6.out.alloc _) (w6.heap.size + 1) (some ⟨w6.heap.size, 0, none⟩) 1 1 _ rfl RD.out HOn.out ?k1 ?k2 ?k3 ?_)
          case k1 => unfold maxLen; omega
          case k2 => omega
          case k3 => simp; omega
          intro v' w7 hown' hgrow _
          have hb7 := hide ((HB6.out.alloc hs6 _).grown hgrow (by simp; omega) (fun k hk => (own_ltS HO6.out hk).1))
          have ON7 := hide (RES.out _ _ hown')
          clear hown' hgrow
          go_wp2_with fail
          go_roundw
          case rel => exact ⟨i + 1, _, by omega, by go_num, W2, LEN, ON7, hb7⟩
          case measure => simp [intOf] <;> omega
    · obtain rfl : i = ws.length := by omega
      have ltI : ¬ (ws.length : Int) < (ws.length : Int) := by omega
      have hW : wdsB ws = some l := by
        have := HW.out
        rwa [List.take_length] at this
      obtain ⟨la, lc, rfl, hLR⟩ := own_crow HO.out (fun k hk => HL.out.2 _ (List.getElem_mem hk)) (by have := HL.out.1; unfold maxLen; omega)
      have HLR := hide hLR
      have MB := hide (May_bigB la lc l wr hLR (by have := HL.out.1; omega))
      have HBW := hide (HB1.out.trans (HB.out.mono HB1.out.size))
      clear hLR
      cases hm : mayL l with
      | false =>
        have F := hide (MAY0.out l hW hm)
        rw [hm] at MB
        clear hW hm
        go_wp2_with fail
        refine MB.out.mono ?_
        rintro e w3 ⟨rfl, hb3⟩
        have HB4 := hide (HBW.out.trans (hb3.mono HBW.out.size))
        clear hb3
        go_wp2_with fail
        go_ret2
        exact ⟨F.out _, HB4.out⟩
      | true =>
        have F := hide (MAY1.out l hW hm)
        rw [hm] at MB
        clear hW hm
        go_wp2_with fail
        refine MB.out.mono ?_
        rintro e w3 ⟨rfl, hb3⟩
        have HB4 := hide (HBW.out.trans (hb3.mono HBW.out.size))
        have F2 := hide (F.out la lc w3 (HLR.out.below hb3))
        clear hb3
        go_wp2_with fail
        go_ret2
        exact ⟨F2.out, HB4.out⟩
end Go.Proofs.YtdojmjbknkbpoaaDoor
