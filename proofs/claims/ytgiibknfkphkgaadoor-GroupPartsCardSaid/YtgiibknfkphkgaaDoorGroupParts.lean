/- The walk of the statement GroupParts: of any group, any number, whatever is asked; without conditions. -/
import Derived.Test.YtgiibknfkphkgaaDoorRows
import Derived.Test.YtgiibknfkphkgaaDoorSpM
import Derived.Test.YtgiibknfkphkgaaDoorSpN
import Derived.Test.YtgiibknfkphkgaaDoorSpO
import Derived.Test.YtgiibknfkphkgaaDoorSpR
import Derived.Test.YtgiibknfkphkgaaDoorQuietBelow
import Derived.LoopN
namespace Go.Proofs.YtgiibknfkphkgaaDoor.GroupPartsW
open Go Go.Joins Go.ChangeShapes Go.WideShapes Go.RowKit Go.Deep Go.Proofs.YtgiibknfkphkgaaDoor Go.Proofs.YtgiibknfkphkgaaDoor.Grp Go.Proofs.YtgiibknfkphkgaaDoor.Sp
set_option linter.unusedVariables false
set_option linter.unusedSimpArgs false
theorem at_one {l : List Int} (hl : okL l) {i : Nat} (hi : i < l.length) {z : Int} (h : At1 l (l.getD i 0) z) : z = (i : Int) := by
  rcases h with ⟨rfl, hno⟩ | ⟨k, hk, rfl, he, _⟩
  · exact absurd rfl (hno i hi)
  · rw [List.getD_eq_getElem?_getD, List.getD_eq_getElem?_getD, List.getElem?_eq_getElem hk, List.getElem?_eq_getElem hi] at he
    have := (List.getElem?_inj hk hl.2 (j := i)).1 (by rw [List.getElem?_eq_getElem hk, List.getElem?_eq_getElem hi]; exact congrArg some he)
    omega
theorem blk_at {gs : List Gw} {P : List (List Ak)} (h : gs.map Gw.p = P.map blkP) {i : Nat} (hi : i < gs.length) (hp : i < P.length) : gs[i].c = hdC P[i] ∧ gs[i].rs = P[i].map Ak.r := by
  have h1 : (gs.map Gw.p)[i]? = (P.map blkP)[i]? := by rw [h]
  rw [List.getElem?_map, List.getElem?_map, List.getElem?_eq_getElem hi, List.getElem?_eq_getElem hp] at h1
  have h2 : (gs[i].c, gs[i].rs) = (hdC P[i], P[i].map Ak.r) := Option.some.inj h1
  exact ⟨congrArg Prod.fst h2, congrArg Prod.snd h2⟩
/-- What came ahead within the group. -/
def Prev (p : List Ak) (n : Nat) (c y m : Int) : Prop := 0 < n → (p.getD (n - 1) default).c = c ∧ (p.getD (n - 1) default).k = y ∧ (p.getD (n - 1) default).n = m
theorem prev_lt {p : List Ak} (h : p.Pairwise ltA) {n : Nat} (hn : n < p.length) (h0 : 0 < n) {c y m : Int} (hp : Prev p n c y m) (hc : ∀ x ∈ p, x.c = hdC p) : p[n].c = c ∧ ¬ p[n].k < y ∧ (p[n].k = y → ¬ p[n].n ≤ m) := by
  obtain ⟨rfl, rfl, rfl⟩ := hp h0
  have hlt : n - 1 < p.length := by omega
  rw [List.getD_eq_getElem?_getD, List.getElem?_eq_getElem hlt]
  show p[n].c = p[n - 1].c ∧ ¬ p[n].k < p[n - 1].k ∧ (p[n].k = p[n - 1].k → ¬ p[n].n ≤ p[n - 1].n)
  have h1 := (List.pairwise_iff_getElem.1 h) (n - 1) n hlt hn (by omega)
  have h2 := hc _ (List.getElem_mem hlt)
  have h3 := hc _ (List.getElem_mem hn)
  unfold ltA at h1
  omega
theorem prev_next {p : List Ak} {n : Nat} (hn : n < p.length) {x : Ak} (hx : p[n] = x) : Prev p (n + 1) x.c x.k x.n := fun _ => by
  rw [Nat.add_sub_cancel, List.getD_eq_getElem?_getD, List.getElem?_eq_getElem hn, hx]
  exact ⟨rfl, rfl, rfl⟩
set_option maxRecDepth 100000 in
set_option maxHeartbeats 16000000 in
theorem walk {H : Type} {enc : TypeId × Value → H} {base : Nat} (W : World) (hP : Pow W) (v0 : Value) (d0 : DataW H) (p0 : List MemPlace) (o0 : Value.okWide Tryd.prog W .any base 24 v0) (r0 : DataW.Trod enc Tryd.prog W 0 (fun _ => true) true 24 v0 d0 p0) (k : Int) (w1 : (Lit.int .i64 k).wf = true) (v2 : Value) (d2 : DataW H) (p2 : List MemPlace) (o2 : Value.okWide Tryd.prog W .any base 25 v2) (r2 : DataW.Trod enc Tryd.prog W 0 (fun _ => true) true 25 v2 d2 p2) :
    Calls Tryd.prog 5 #[v0, .int .i64 k, v2] W fun e w' => e = .returned (.bool true) ∧ Below W.heap.size W w' := by
  obtain ⟨key, A, l, cap, rfl, hr⟩ := group_of o0 r0 (fun _ => rfl)
  obtain ⟨B, bc, q, rfl, hqr, hqm, hqf⟩ := asks_of o2 r2
  have hqr : AskR W B q := hqr
  have FK := hide (fit_wf w1)
  have FQ := hide (fun x hx => (hqf x hx).1.2)
  clear o0 r0 o2 r2 w1 hqf hqm
  have hb1 := (Below.refl W.heap.size W).alloc (Nat.le_refl _) (.cells #[.string key, .slice A l.length cap] 24)
  have b1 := Blk.new W 24 #[.string key, .slice A l.length cap]
  obtain ⟨W1, hW1⟩ : ∃ W1, W.alloc (.cells #[.string key, .slice A l.length cap] 24) = W1 := ⟨_, rfl⟩
  rw [hW1] at hb1 b1
  have AW := hide (awake_c W1 (hP.below hb1 (Nat.le_refl _)))
  have HN := hide (hr.below hb1)
  have HQ := hide (hqr.below hb1)
  have HP := hide (hP.below hb1 (Nat.le_refl _))
  have HB1 := hide hb1
  have B1 := hide b1
  clear hb1 b1 hr hP hqr
  go_enter Tryd.func5, Tryd.ntmps5
  go_wp2_with fail
  refine AW.out.mono ?_
  rintro e w2 ⟨rfl, hb2⟩
  have HB2 := hide hb2
  have b2 := B1.out.below hb2 B1.out.lt
  have q0 : w2.cell? ⟨W.heap.size, 0, none⟩ = some (.string key) := b2.cell 0
  have q1 : w2.cell? ⟨W.heap.size, 1, none⟩ = some (.slice A l.length cap) := b2.cell 1
  have GR := hide (Great_a key A l.length cap w2)
  clear hb2 b2 AW
  go_wp2_with fail
  refine GR.out.mono ?_
  rintro e w3 ⟨rfl, hb3⟩
  have HB3 := hide (HB2.out.trans (hb3.mono HB2.out.size))
  have b3 := B1.out.below HB3.out B1.out.lt
  have x0 : w3.cell? ⟨W.heap.size, 0, none⟩ = some (.string key) := b3.cell 0
  have x1 : w3.cell? ⟨W.heap.size, 1, none⟩ = some (.slice A l.length cap) := b3.cell 1
  clear hb3 b3 q0 q1 GR
  cases hg : gt key l.length with
  | true =>
    clear hg
    go_wp2_with fail
    go_ret
    exact ⟨rfl, HB1.out.trans (HB3.out.mono HB1.out.size)⟩
  | false =>
  have hrl : l.length ≤ 80 ∧ key.size ≤ 200 := by
    unfold gt at hg
    simp at hg
    omega
  have HRL := hide hrl
  clear hg hrl
  by_cases hq100 : 100 < q.length
  · have hI : (100 : Int) < (q.length : Int) := by omega
    clear hq100
    go_wp2_with fail
    go_ret
    exact ⟨rfl, HB1.out.trans (HB3.out.mono HB1.out.size)⟩
  have hI : ¬ (100 : Int) < (q.length : Int) := by omega
  have HQL := hide (show q.length ≤ 100 by omega)
  have SC := hide (Split_c key A cap l k B bc q w3 (HN.out.below HB3.out) (HQ.out.below HB3.out) (by have := HRL.out.1; omega) (by omega) (HP.out.below HB3.out (Nat.le_refl _)) (by have := HRL.out.2; omega) FK.out.2 FQ.out)
  clear hq100
  go_wp2_with fail
  clear hI
  refine SC.out.mono ?_
  rintro e w5 ⟨h5, hb5⟩
  have HB5 := hide (HB3.out.trans (hb5.mono HB3.out.size))
  have b5 := B1.out.below HB5.out B1.out.lt
  have q0 : w5.cell? ⟨W.heap.size, 0, none⟩ = some (.string key) := b5.cell 0
  have q1 : w5.cell? ⟨W.heap.size, 1, none⟩ = some (.slice A l.length cap) := b5.cell 1
  clear hb5 b5 x0 x1 SC
  rcases h5 with ⟨hbad, rfl⟩ | ⟨hgood, L', O, oc, gs, B0, rfl, hperm, hsrt, hgs, hout, hB0⟩
  · -- it is refused
    have BAD := hide hbad
    have MC := hide (May_a key A cap l w5 (HN.out.below HB5.out) (by have := HRL.out.1; omega))
    clear hbad
    go_wp2_with fail
    refine MC.out.mono ?_
    rintro e w6 ⟨rfl, hb6⟩
    have HB6 := hide (HB5.out.trans (hb6.mono HB5.out.size))
    have b6 := B1.out.below HB6.out B1.out.lt
    have x1 : w6.cell? ⟨W.heap.size, 1, none⟩ = some (.slice A l.length cap) := b6.cell 1
    clear hb6 b6 q0 q1 MC
    by_cases hmay : mayL l
    rotate_left
    · rw [decide_eq_false hmay]
      clear hmay
      go_wp2_with fail
      go_ret
      exact ⟨rfl, HB1.out.trans (HB6.out.mono HB1.out.size)⟩
    rw [decide_eq_true hmay]
    by_cases hk0 : k < 0
    · clear hmay
      go_wp2_with fail
      go_ret
      exact ⟨by simp, HB1.out.trans (HB6.out.mono HB1.out.size)⟩
    have hne : q.length ≠ l.length := by
      rcases BAD.out with h | h | h
      · exact absurd hmay h
      · exact absurd h hk0
      · exact h
    have hneI : ((q.length : Int) != (l.length : Int)) = true := by rw [bne_iff_ne]; omega
    clear hmay hne
    go_wp2_with fail
    go_ret
    exact ⟨by simp, HB1.out.trans (HB6.out.mono HB1.out.size)⟩
  have hmay : mayL l := by
    by_cases h : mayL l
    · exact h
    · exact absurd (.inl h) hgood
  have hql : q.length = l.length := by
    by_cases h : q.length = l.length
    · exact h
    · exact absurd (.inr (.inr h)) hgood
  obtain ⟨P, hbl, hgp, hpw⟩ := split_blocks hperm hsrt
  have hgm : gs.map Gw.p = P.map blkP := hgs.trans hgp
  have hglen : gs.length = P.length := by
    have := congrArg List.length hgm
    simpa using this
  have HM := hide hmay
  have HQLL := hide hql
  have HPERM := hide hperm
  have HBL := hide hbl
  have HPW := hide hpw
  have HGM := hide hgm
  have HGLEN := hide hglen
  have HOUT := hide hout
  have HLL := hide (show L'.length ≤ 100 by rw [hperm.length_eq]; have := askL_len q l q.length; have := HQL.out; omega)
  have hneI : ((q.length : Int) != (l.length : Int)) = false := by rw [hql]; simp
  have hP100 : P.length ≤ 100 := by
    have h1 := flat_len P hbl.ne
    rw [hbl.flat] at h1
    have := HLL.out
    omega
  clear hgood hmay hql hperm hsrt hgs hout hB0 hbl hgp hpw hgm
  rw [hglen]
  clear hglen
  go_wp2_with fail
  clear q0 q1 hneI
  go_loopw [9, 10] (fun vm vi wr => ∃ (i : Nat), i ≤ P.length ∧ vi = .int .i64 i ∧ vm = .int .i64 (cntP P i : Int) ∧ Hid (Below w5.heap.size w5 wr)) (fun _ vi _ => P.length - (RowKit.intOf vi).toNat)
  case atStart => exact ⟨0, Nat.zero_le _, rfl, rfl, hide (Below.refl _ _)⟩
  case round =>
    obtain ⟨i, hi, rfl, rfl, HB⟩ := hrel
    rename World => wr
    by_cases hlt : i < P.length
    rotate_left
    · -- all groups are gone through
      have hltI : ¬ (i : Int) < (P.length : Int) := by omega
      have hie : i = P.length := by omega
      have hcnt : cntP P i = L'.length := by rw [hie]; exact cntP_all HBL.out
      rw [hcnt]
      have hLL := HLL.out
      have hQL := HQL.out
      clear hcnt hie
      go_wp2_with fail
      go_loopw [9, 17] (fun vm vj ws => ∃ (j : Nat) (m : Nat), j ≤ q.length ∧ vj = .int .i64 j ∧ vm = .int .i64 m ∧ Hid (m + (askL q l j).length = L'.length) ∧ Hid (Below wr.heap.size wr ws)) (fun _ vj _ => q.length - (RowKit.intOf vj).toNat)
      case atStart => exact ⟨0, L'.length, Nat.zero_le _, rfl, rfl, hide rfl, hide (Below.refl _ _)⟩
      case round =>
        obtain ⟨j, m, hj, rfl, rfl, HCN, HBs⟩ := hrel
        rename World => ws
        by_cases hjl : j < q.length
        · have hjI : (j : Int) < (q.length : Int) := by omega
          have hbw := HB5.out.trans ((HB.out.trans (HBs.out.mono HB.out.size)).mono HB5.out.size)
          obtain ⟨aq, rfl, haq, c0, _⟩ := (HQ.out.below hbw).at_ hjl
          have hstep : askL q l (j + 1) = askL q l j ++ (if 0 ≤ q[j].1 then [⟨q[j].1, q[j].2, j, l.getD j 0⟩] else []) := by
            rw [askL, List.getD_eq_getElem?_getD, List.getElem?_eq_getElem hjl]
            rfl
          have hle : (askL q l (j + 1)).length ≤ L'.length := by
            have h1 : (askL q l q.length).length = L'.length := HPERM.out.length_eq.symm
            rw [← h1]
            exact ask_mono q l (by omega)
          obtain ⟨c, hc⟩ : ∃ c, q[j].1 = c := ⟨_, rfl⟩
          rw [hc] at c0 hstep
          by_cases hc0 : 0 ≤ c
          · have hm1 : m = (m - 1) + 1 := by
              have := HCN.out
              rw [hstep, if_pos hc0, List.length_append, List.length_singleton] at hle
              omega
            obtain ⟨m', rfl⟩ : ∃ m', m = m' + 1 := ⟨m - 1, hm1⟩
            have HC2 := hide (show m' + (askL q l (j + 1)).length = L'.length by
              rw [hstep, if_pos hc0, List.length_append, List.length_singleton]
              have := HCN.out
              omega)
            have hm100 : m' ≤ 100 := by have := HCN.out; omega
            clear hstep hc hle hm1 haq hbw
            go_wp2_with fail
            go_roundw
            case rel => exact ⟨j + 1, m', by omega, by go_num, by go_num, HC2, HBs⟩
            case measure => simp [RowKit.intOf] <;> omega
          · have HC2 := hide (show m + (askL q l (j + 1)).length = L'.length by
              rw [hstep, if_neg hc0, List.append_nil]
              exact HCN.out)
            clear hstep hc hle haq hbw
            go_wp2_with fail
            go_roundw
            case rel => exact ⟨j + 1, m, by omega, by go_num, rfl, HC2, HBs⟩
            case measure => simp [RowKit.intOf] <;> omega
        · have hjI : ¬ (j : Int) < (q.length : Int) := by omega
          obtain rfl : j = q.length := by omega
          have hm0 : m = 0 := by
            have h1 := HCN.out
            have h2 := HPERM.out.length_eq
            omega
          subst hm0
          go_wp2_with fail
          go_ret
          exact ⟨rfl, HB1.out.trans ((HB5.out.trans ((HB.out.trans (HBs.out.mono HB.out.size)).mono HB5.out.size)).mono HB1.out.size)⟩
    -- a group
    have hltI : (i : Int) < (P.length : Int) := by omega
    have hig : i < gs.length := by have := HGLEN.out; omega
    obtain ⟨hgc, hgrs⟩ := blk_at HGM.out hig hlt
    have hpm : P[i] ∈ P := List.getElem_mem hlt
    have hmp := blk_may HM.out HQLL.out HPERM.out HBL.out HPW.out hpm
    have HPP := hide (HPW.out _ hpm)
    have HCOL := hide (HBL.out.col _ hpm)
    have HMEM := hide (fun x (hx : x ∈ P[i]) => show ∃ j : Nat, j < q.length ∧ 0 ≤ (q.getD j (0, 0)).1 ∧ x = ⟨(q.getD j (0, 0)).1, (q.getD j (0, 0)).2, j, l.getD j 0⟩ from ask_mem2 q.length x (HPERM.out.mem_iff.1 (by rw [← HBL.out.flat]; exact List.mem_flatten.2 ⟨_, hpm, hx⟩)))
    have HCNT := hide (cntP_succ hlt)
    have HLE := hide (show cntP P i + P[i].length ≤ 100 by
      rw [← cntP_succ hlt]
      have h1 := cntP_le P (by omega : i + 1 ≤ P.length)
      rw [cntP_all HBL.out] at h1
      have := HLL.out
      omega)
    have hbw := HB.out
    have ho := HOUT.out.below hbw
    have hrow := ho.rs i hig
    obtain ⟨o, hO, _, _, ⟨cso, hOb⟩, _, _, hOc⟩ := own_cell ho.row (by omega)
    subst hO
    obtain ⟨hg0, hg1⟩ := gwCs_at (keyK key k) gs i hig
    have g0 := hOc _ _ hg0
    have g1 := hOc _ _ hg1
    obtain ⟨gx, hgx⟩ : ∃ x, gs[i] = x := ⟨_, rfl⟩
    rw [hgx] at hgc hgrs hrow g0 g1
    obtain ⟨gc, gA, gcap, grs⟩ := gx
    obtain ⟨p, hp⟩ : ∃ p, P[i] = p := ⟨_, rfl⟩
    rw [hp] at hgc hgrs hmp HPP HCOL HMEM HCNT HLE
    simp only at hgc hgrs g0 g1
    unfold Gw.v at g1 hrow
    simp only at g1 hrow
    have hgl : grs.length = p.length := by rw [hgrs, List.length_map]
    have hN : NRow wr gA grs := own_nrow hrow
    rw [hgl] at g1
    have MC := hide (May_a (keyK key k gc) gA gcap grs wr hN (by have := HLE.out; omega))
    rw [hgl, decide_eq_true (show mayL grs by rw [hgrs]; exact hmp)] at MC
    have HG1 := hide (fun (w' : World) (hb : Below wr.heap.size wr w') => (hb.cell (p := ⟨o, i * 2 + 1, none⟩) hOb.lt).trans g1)
    have HOL := hide hOb.lt
    have HGN := hide hN
    have HGR := hide hgrs
    have HGLL := hide hgl
    have hcp := HLE.out
    clear hgc hgrs hpm hmp hbw ho hrow hOb hOc hg0 hg1 hgx hp hgl hN
    go_wp2_with fail
    refine MC.out.mono ?_
    rintro e w6 ⟨rfl, hb6⟩
    have HB6 := hide hb6
    clear hb6 g0 g1 MC
    go_wp2_with fail
    go_loopw [9, 11, 12, 13, 14] (fun vm vc vy vn vi ws => ∃ (n : Nat) (c y m : Int), n ≤ p.length ∧ vi = .int .i64 n ∧ vm = .int .i64 ((cntP P i + n : Nat) : Int) ∧ vc = .int .i64 c ∧ vy = .int .i64 y ∧ vn = .int .i64 m ∧ Hid (Prev p n c y m) ∧ Hid (Below wr.heap.size wr ws)) (fun _ _ _ _ vi _ => p.length - (RowKit.intOf vi).toNat)
    case atStart => exact ⟨0, -1, 0, 0, Nat.zero_le _, rfl, rfl, rfl, rfl, rfl, hide (fun h => absurd h (Nat.lt_irrefl 0)), HB6⟩
    case round =>
      obtain ⟨n, c, y, m, hn, rfl, rfl, rfl, rfl, rfl, HPV, HBs⟩ := hrel
      rename World => ws
      have g1 := HG1.out ws HBs.out
      by_cases hnl : n < p.length
      rotate_left
      · have hnI : ¬ (n : Int) < (p.length : Int) := by omega
        obtain rfl : n = p.length := by omega
        have HBw := hide (HB.out.trans (HBs.out.mono HB.out.size))
        have HCN2 := hide HCNT.out.symm
        rw [HCN2.out]
        go_wp2_with fail
        go_roundw
        case rel => exact ⟨i + 1, by omega, by go_num, rfl, HBw⟩
        case measure => simp [RowKit.intOf] <;> omega
      have hnI : (n : Int) < (p.length : Int) := by omega
      obtain ⟨x, hx⟩ : ∃ x, p[n] = x := ⟨_, rfl⟩
      have HPX := hide (fun h0 => prev_lt HPP.out hnl h0 HPV.out HCOL.out)
      have HNX := hide (prev_next hnl hx)
      obtain ⟨j, hjq, hj0, hxj⟩ := HMEM.out x (by rw [← hx]; exact List.getElem_mem hnl)
      obtain ⟨gad, rfl, hgad, hgc⟩ := (HGN.out.below HBs.out) (by have := HGLL.out; omega)
      have hrk := hgc n (by have := HGLL.out; omega)
      have hrx : grs.getD n 0 = l.getD j 0 := by
        rw [HGR.out, List.getD_eq_getElem?_getD, List.getElem?_map, List.getElem?_eq_getElem hnl, hx, hxj]
        rfl
      rw [hrx] at hrk
      have hbw := HB5.out.trans ((HB.out.trans (HBs.out.mono HB.out.size)).mono HB5.out.size)
      obtain ⟨aq, rfl, haq, c0, c1⟩ := (HQ.out.below hbw).at_ hjq
      have hqj : q.getD j (0, 0) = q[j] := by rw [List.getD_eq_getElem?_getD, List.getElem?_eq_getElem hjq]; rfl
      rw [hqj] at hj0 hxj
      obtain ⟨xc, hxc⟩ : ∃ z, q[j].1 = z := ⟨_, rfl⟩
      obtain ⟨xk, hxk⟩ : ∃ z, q[j].2 = z := ⟨_, rfl⟩
      rw [hxc] at hj0 hxj c0
      rw [hxk] at hxj c1
      rw [hx] at HPX
      rw [hxj] at HPX HNX
      simp only at HPX HNX
      have hjl : j < l.length := by have := HQLL.out; omega
      have NE : Nonempty (BelowOf ws) := ⟨⟨ws, Below.refl _ _⟩⟩
      have b5 := B1.out.below hbw B1.out.lt
      have u0 : ∀ p : BelowOf ws, p.world.cell? ⟨W.heap.size, 0, none⟩ = some (.string key) := fun p => p.cell b5.lt (b5.cell 0)
      have u1 : ∀ p : BelowOf ws, p.world.cell? ⟨W.heap.size, 1, none⟩ = some (.slice A l.length cap) := fun p => p.cell b5.lt (b5.cell 1)
      have u2 : ∀ b : BelowOf ws, b.world.cell? ⟨o, i * 2 + 1, none⟩ = some (.slice (some gad) p.length gcap) := fun b => b.cell (by have := HOL.out; have := HBs.out.size; omega) g1
      have u3 : ∀ b : BelowOf ws, b.world.cell? (gad.add n) = some (.int .i64 (l.getD j 0)) := fun b => (b.below.cell (p := gad.add n) (by rw [block_of_add]; exact hgad)).trans hrk
      have NC : Hid (∀ b : BelowOf ws, Calls Tryd.prog 19 #[.agg #[.string key, .slice A l.length cap], .int .i64 (l.getD j 0)] b.world fun e w' => e = .returned (.tuple #[.int .i64 (j : Int), .bool true]) ∧ Below b.world.heap.size b.world w') := hide (fun b => (Number_c key A cap l (l.getD j 0) b.world ((HN.out.below hbw).below b.below) (by have := HRL.out.1; omega)).mono fun e w' h => by
        obtain ⟨z, rfl, hat, hb⟩ := h
        have hz := at_one HM.out.2.2 hjl hat
        subst hz
        refine ⟨?_, hb⟩
        rw [show max (j : Int) 0 = (j : Int) by omega, show decide ((0 : Int) ≤ (j : Int)) = true by simp])
      have HC0 := hide (fun (w' : World) (hb : Below ws.heap.size ws w') => And.intro ((hb.cell (p := aq.add (j * 2)) (by rw [block_of_add]; exact haq)).trans c0) ((hb.cell (p := ⟨(aq.add (j * 2)).block, (aq.add (j * 2)).off + 1, none⟩) (by show (aq.add (j * 2)).block < _; rw [block_of_add]; exact haq)).trans c1))
      have hjq100 : j ≤ 100 := by have := HQL.out; omega
      have hjI : (j : Int) < (q.length : Int) := by omega
      generalize l.getD j 0 = r at *
      clear hgad hgc hrk hrx hbw haq c0 c1 hqj hxc hxk hxj hx hjl b5
      go_wp2_with fail
      refine wp_region_quiet_below (by kernel_rfl) (by kernel_rfl) ?_
      repeat (go_big_quiet_step (first
        | (go_at_call 19; exact calls_below (NC.out _))))
      refine wpQuiet_nil ?_
      rintro Wq ⟨⟨_, hq⟩, rfl⟩
      have HBq := hide (HBs.out.trans (hq.mono HBs.out.size))
      obtain ⟨c0, c1⟩ := HC0.out _ hq
      clear hq u0 u1 u2 u3 NE NC HC0 g1
      rcases Nat.eq_zero_or_pos n with hn0 | hn0
      · have hnz : ((0 : Int) < (n : Int)) = False := by simp [hn0]
        have hnz2 : ¬ (0 : Int) < (n : Int) := by omega
        clear hnz hn0
        go_wp2_with fail
        go_quiet (fail)
        go_wp2_with fail
        go_roundw
        case rel => exact ⟨n + 1, xc, xk, (j : Int), by omega, by go_num, by go_num, rfl, rfl, rfl, HNX, hide (below_drewN HBq.out _)⟩
        case measure => simp [RowKit.intOf] <;> omega
      · obtain ⟨hpc, hpk, hpn⟩ := HPX.out hn0
        have hnz2 : (0 : Int) < (n : Int) := by omega
        subst hpc
        have hcc : (xc != xc) = false := by simp
        by_cases hyk : xk = y
        · have hmm := hpn hyk
          subst hyk
          have hkk : (xk == xk) = true := by simp
          clear hpn hn0
          go_wp2_with fail
          go_quiet (fail)
          go_wp2_with fail
          go_roundw
          case rel => exact ⟨n + 1, xc, xk, (j : Int), by omega, by go_num, by go_num, rfl, rfl, rfl, HNX, hide (below_drewN HBq.out _)⟩
          case measure => simp [RowKit.intOf] <;> omega
        · have hkk : (xk == y) = false := by rw [beq_eq_false_iff_ne]; exact hyk
          clear hpn hn0 hyk
          go_wp2_with fail
          go_quiet (fail)
          go_wp2_with fail
          go_roundw
          case rel => exact ⟨n + 1, xc, xk, (j : Int), by omega, by go_num, by go_num, rfl, rfl, rfl, HNX, hide (below_drewN HBq.out _)⟩
          case measure => simp [RowKit.intOf] <;> omega
end Go.Proofs.YtgiibknfkphkgaaDoor.GroupPartsW
