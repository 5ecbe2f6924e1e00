/- The walk of the statement PathTree: of any shape; without conditions. -/
import Derived.Test.YtiojpokfcejhcaaDoorRows
import Derived.Test.YtiojpokfcejhcaaDoorPathX
import Derived.Test.YtiojpokfcejhcaaDoorPathLe
import Derived.Test.YtiojpokfcejhcaaDoorRelG
import Derived.LoopN
import Derived.Deep.CutRange
namespace Go.Proofs.YtiojpokfcejhcaaDoor.PathTreeW
open Go Go.Joins Go.ChangeShapes Go.WideShapes Go.RowKit Go.Deep Go.Proofs.YtiojpokfcejhcaaDoor Go.Proofs.YtiojpokfcejhcaaDoor.Pth Go.Proofs.YtiojpokfcejhcaaDoor.PathTextsW
set_option linter.unusedVariables false
set_option linter.unusedSimpArgs false
/-- What has been called stands behind what is called ahead of it. -/
def DD (V : Nat → Option Value) : Prop := ((V 10).isSome = true → (V 8).isSome = true) ∧ ((V 8).isSome = true → (V 6).isSome = true) ∧ ((V 6).isSome = true → (V 1).isSome = true)
theorem DD.set_ {V : Nat → Option Value} {i : Nat} {v : Value} (h : DD V) (h10 : i = 10 → (V 8).isSome = true) (h8 : i = 8 → (V 6).isSome = true) (h6 : i = 6 → (V 1).isSome = true) : DD (setV V i v) := by
  have up : ∀ j, (V j).isSome = true → (setV V i v j).isSome = true := fun j hj => by unfold setV; split; rfl; exact hj
  have dn : ∀ j, (setV V i v j).isSome = true → i = j ∨ (V j).isSome = true := fun j hj => by
    unfold setV at hj
    by_cases e : j = i
    · exact .inl e.symm
    · rw [if_neg e] at hj; exact .inr hj
  refine ⟨fun h1 => ?_, fun h1 => ?_, fun h1 => ?_⟩
  · rcases dn 10 h1 with e | e
    · exact up 8 (h10 e)
    · exact up 8 (h.1 e)
  · rcases dn 8 h1 with e | e
    · exact up 6 (h8 e)
    · exact up 6 (h.2.1 e)
  · rcases dn 6 h1 with e | e
    · exact up 1 (h6 e)
    · exact up 1 (h.2.2 e)
/-- The region of the round's end. -/
structure J16 (w2 : World) (ls : List Lv) (g3 B3 : Nat) (cs3 : Array Value) (u0 v3 : Value) (LL : List (List Sp)) (V : Nat → Option Value) (w : World) : Prop where
  d : DD V
  a0 : V 10 = none → StA w w2.heap.size w2.heap.size ls
  a1 : (V 10).isSome = true → StA w w2.heap.size w2.heap.size (nextL ls)
  bl : Below w2.heap.size w2 w
  lv : Lvs w B3 v3 LL
  rb : Blk w g3 30 cs3
  ro : w.ownsRow 0 49 8 u0 (stepsOf ls).length (spCs (stepsOf ls))
theorem Lvs.keeps {tys : List TypeId} {w w' : World} {B : Nat} {v : Value} {ll : List (List Sp)} (h : Lvs w B v ll) (k : KeepsBut tys w w') (h1 : ¬ 30 ∈ tys) (h2 : ¬ 49 ∈ tys) : Lvs w' B v ll := by
  obtain ⟨vals, h3, h4⟩ := h
  refine ⟨vals, KeepsBut.own k h3 h1, fun i hi => ?_⟩
  obtain ⟨u, h5, h6⟩ := h4 i hi
  exact ⟨u, h5, KeepsBut.own k h6 h2⟩
section
variable {w2 : World} {ls : List Lv} {g3 B3 : Nat} {cs3 : Array Value} {u0 v3 : Value} {LL : List (List Sp)} {V : Nat → Option Value} {w w' : World}
theorem J16.plain {i : Nat} {v : Value} (h : J16 w2 ls g3 B3 cs3 u0 v3 LL V w) (hb : Below w.heap.size w w') (hi : i ≠ 10) (h8 : i = 8 → (V 6).isSome = true) (h6 : i = 6 → (V 1).isSome = true) : J16 w2 ls g3 B3 cs3 u0 v3 LL (setV V i v) w' := by
  have e : setV V i v 10 = V 10 := if_neg (by omega)
  exact ⟨h.d.set_ (fun h => absurd h hi) h8 h6, by rw [e]; exact fun hn => (h.a0 hn).below hb, by rw [e]; exact fun hn => (h.a1 hn).below hb, h.bl.trans (hb.mono h.bl.size), h.lv.below hb, h.rb.below hb h.rb.lt, own_belowR h.ro hb⟩
theorem J16.first (h : J16 w2 ls g3 B3 cs3 u0 v3 LL V w) (h1 : V 1 = none) : StA w w2.heap.size w2.heap.size ls := h.a0 (by
  cases e : V 10 with
  | none => rfl
  | some z =>
    have := h.d.2.2 (h.d.2.1 (h.d.1 (by rw [e]; rfl)))
    rw [h1] at this
    cases this)
theorem J16.next {v : Value} (h : J16 w2 ls g3 B3 cs3 u0 v3 LL V w) (hs : StA w' w2.heap.size w2.heap.size (nextL ls)) (hb : Below w2.heap.size w w') (hk : KeepsBut [59, 54] w w') (h8 : (V 8).isSome = true) : J16 w2 ls g3 B3 cs3 u0 v3 LL (setV V 10 v) w' := by
  have e : setV V 10 v 10 = some v := if_pos rfl
  exact ⟨h.d.set_ (fun _ => h8) (fun h => absurd h (by decide)) (fun h => absurd h (by decide)), by rw [e]; exact fun hn => (by cases hn), fun _ => hs, h.bl.trans hb, Lvs.keeps h.lv hk (by decide) (by decide), KeepsBut.blk hk h.rb (by decide), KeepsBut.own hk h.ro (by decide)⟩
end
theorem mk_may (d m : Nat) (hm : 0 < m) : mayV d 0 (mk d 0 m) := by
  refine ⟨by rw [mk_len]; exact hm, fun x hx => ?_, ?_⟩
  · obtain ⟨i, _, rfl⟩ := List.mem_map.1 hx
    exact ⟨rfl, rfl⟩
  · unfold mk
    rw [List.Nodup, List.pairwise_map]
    refine List.Pairwise.imp ?_ List.pairwise_lt_range
    intro a b hab e
    have : ((a : Nat) : Int) = (b : Int) := congrArg Ch.f e
    omega
theorem mk_ok (d m : Nat) (hd : d ≤ 10) (hm : m ≤ 10) : ∀ i (hi : i < (mk d 0 m).length), ((mk d 0 m)[i]).ok := by
  intro i hi
  have h : (mk d 0 m)[i] = ⟨d, 0, i, 0, 0⟩ := by simp [mk]
  rw [h]
  rw [mk_len] at hi
  unfold Ch.ok Fit64
  simp only
  omega
set_option maxRecDepth 100000 in
set_option maxHeartbeats 8000000 in
theorem walk (W : World) (hP : Pow W) (a0 : Option Addr) (len0 cap0 : Nat) (z0 : List Int) (w0 : IsRow .u8 W a0 len0 cap0 z0) :
    Calls Tryd.prog 3 #[.slice a0 len0 cap0] W fun e w' => e = .returned (.bool true) ∧ Below W.heap.size W w' := by
  obtain ⟨sh, rfl, hS⟩ := SRow.of_is w0
  have AW := hide (awake_c W hP)
  have HS := hide hS
  clear hP hS w0
  go_enter Tryd.func3, Tryd.ntmps3
  go_wp2_with fail
  refine AW.out.mono ?_
  rintro e w1 ⟨rfl, hb1⟩
  have HS1 := hide (HS.out.below hb1)
  have HB1 := hide hb1
  clear hb1 AW
  by_cases h60 : 60 < sh.length
  · have hI : (60 : Int) < (sh.length : Int) := by omega
    clear h60
    go_wp2_with fail
    go_ret
    exact ⟨rfl, HB1.out⟩
  have hI : ¬ (60 : Int) < (sh.length : Int) := by omega
  have H60 := hide (show sh.length ≤ 60 by omega)
  have LV := hide (leaves_c a0 cap0 sh H60.out 4 [] (.slice none 0 0) 0 w1 rfl HS1.out ⟨rfl, .inl ⟨rfl, rfl⟩⟩ (fun s hs => by cases hs))
  clear h60
  go_wp2_with fail
  refine LV.out.mono ?_
  rintro e w2 ⟨v3, rfl, hlv, hb2⟩
  have HB2 := hide (HB1.out.trans (hb2.mono HB1.out.size))
  have HS2 := hide (HS1.out.below hb2)
  have HL256 := hide (lf_len sh [])
  have HL1 := hide (List.length_pos_iff.2 (lf_ne sh 4 []))
  have HLL := hide (show lf sh [] = lf sh (stepsOf []) ++ aft sh [] by simp [stepsOf, aft, aftR])
  obtain ⟨a3, c3, rfl⟩ : ∃ a c, v3 = .slice a (lf sh []).length c := by
    obtain ⟨_, o, _⟩ := hlv
    exact own_form o
  have HL1 : Hid (0 < (lf sh []).length) := HL1
  obtain ⟨LL, hLL⟩ : ∃ x, lf sh [] = x := ⟨_, rfl⟩
  rw [hLL] at HL256 HL1 HLL hlv ⊢
  have HV := hide hlv
  have NW := hide (New_a w2)
  clear hlv hb2 LV hLL
  obtain ⟨L, hL⟩ : ∃ x, LL.length = x := ⟨_, rfl⟩
  rw [hL] at HV HL256 HL1 ⊢
  have HLe := hide hL
  clear hL
  go_wp2_with fail
  refine NW.out.mono ?_
  rintro e w3 ⟨rfl, ht3, hb3⟩
  have S3 := hide (show StA w3 w2.heap.size w2.heap.size [] from ⟨by simp, ⟨_, ht3, rfl, .inl ⟨rfl, rfl⟩⟩, fun i hi => absurd hi (Nat.not_lt_zero i)⟩)
  have HB3 := hide hb3
  have HV3 := hide (HV.out.below hb3)
  clear ht3 hb3 NW HV
  go_wp2_with fail
  go_loopw [5] (fun vi wr => ∃ (i : Nat) (ls : List Lv), i ≤ L ∧ vi = .int .i64 i ∧ Hid (StA wr w2.heap.size w2.heap.size ls) ∧ Hid (Tr sh ls) ∧ Hid ((i < L → LL.drop i = lf sh (stepsOf ls) ++ aft sh ls) ∧ (i = L → ls = [])) ∧ Hid (Lvs wr w1.heap.size (.slice a3 L c3) LL) ∧ Hid (Below w2.heap.size w2 wr)) (fun vi _ => L - (intOf vi).toNat)
  case atStart => exact ⟨0, [], by omega, rfl, S3, hide Tr.nil, hide ⟨fun _ => HLL.out, fun _ => rfl⟩, HV3, HB3⟩
  case round =>
    clear S3 HV3 HB3
    obtain ⟨i, ls, hi, rfl, HST, HTR, HDR, HLV, HB⟩ := hrel
    by_cases hlt : i < L
    rotate_left
    · have hltI : ¬ (i : Int) < (L : Int) := by omega
      have hnil := HDR.out.2 (by omega)
      subst hnil
      have DP : Hid (Calls Tryd.prog 12 #[.pointer (some ⟨w2.heap.size, 0, none⟩)] wr fun e w' => e = .returned (.int .i64 0) ∧ wr = w') := hide (depth_a w2.heap.size w2.heap.size [] wr HST.out)
      go_wp2_with fail
      refine DP.out.mono ?_
      rintro e w5 ⟨rfl, rfl⟩
      go_wp2_with fail
      go_ret
      exact ⟨rfl, HB2.out.trans (HB.out.mono HB2.out.size)⟩
    have hltI : (i : Int) < (L : Int) := by omega
    have HDI := hide (HDR.out.1 hlt)
    go_wp2_with fail
    go_loopw [6] (fun vd ws => ∃ (d : Nat) (ls : List Lv), d ≤ 5 ∧ vd = .int .i64 d ∧ Hid (StA ws w2.heap.size w2.heap.size ls) ∧ Hid (Tr sh ls) ∧ Hid (LL.drop i = lf sh (stepsOf ls) ++ aft sh ls) ∧ Hid (d ≤ ls.length ∨ (nodeN sh (stepsOf ls)).1 = 0) ∧ Hid (Lvs ws w1.heap.size (.slice a3 L c3) LL) ∧ Hid (Below w2.heap.size w2 ws)) (fun vd _ => 5 - (intOf vd).toNat)
    case atStart => exact ⟨0, ls, by omega, rfl, HST, HTR, HDI, hide (.inl (Nat.zero_le _)), HLV, HB⟩
    case round =>
      clear HST HTR HDR HDI HLV HB
      obtain ⟨d, ls, hd, rfl, HST, HTR, HDI, HDN, HLV, HB⟩ := hrel
      have HFT := hide HTR.out.fit
      by_cases hd5 : d < 5
      · have hd5I : (d : Int) < 5 := by omega
        have SA := hide (Steps_a w2.heap.size _ ls wr HST.out HFT.out)
        clear hd
        go_wp2_with fail
        refine SA.out.mono ?_
        rintro e wa ⟨va, rfl, hoa, hba⟩
        have ND := hide (node_c a0 cap0 sh va (stepsOf ls) _ wa (HS2.out.below (HB.out.trans (hba.mono HB.out.size))) H60.out (by rw [stepsOf_len]; exact hoa) HTR.out.ok (by rw [stepsOf_len]; exact HTR.out.len))
        have HSTa := hide (HST.out.below hba)
        have HLVa := hide (HLV.out.below hba)
        have HBa := hide (HB.out.trans (hba.mono HB.out.size))
        have hm3 := nodeN_le sh (stepsOf ls)
        have hlen4 := HTR.out.len
        have FX := hide (fun (x : Lv) (h1 : x.r = ls.length) (h2 : x.c = 0) (h3 : x.vs = mk ls.length 0 (nodeN sh (stepsOf ls)).1) (h4 : x.off = (nodeN sh (stepsOf ls)).2) (h5 : 0 < (nodeN sh (stepsOf ls)).1) (h6 : x.at_ = 0) => (show FitTo sh ls x from ⟨h1, h2, h3, h4, h5, by
          have := congrArg List.length h3
          rw [mk_len] at this
          unfold many
          omega⟩))
        obtain ⟨m, hm⟩ : ∃ x, (nodeN sh (stepsOf ls)).1 = x := ⟨_, rfl⟩
        obtain ⟨off, hoff⟩ : ∃ x, (nodeN sh (stepsOf ls)).2 = x := ⟨_, rfl⟩
        rw [hm] at FX ND hm3
        rw [hoff] at FX ND
        have HM := hide hm
        clear hoa hba SA hm hoff
        go_wp2_with fail
        refine ND.out.mono ?_
        rintro e wb ⟨rfl, hbb⟩
        have HSTb := hide (HSTa.out.below hbb)
        have HLVb := hide (HLVa.out.below hbb)
        have HBb := hide (HBa.out.trans (hbb.mono HBa.out.size))
        clear hbb ND HSTa HLVa HBa
        by_cases hm0 : m = 0
        · subst hm0
          go_wp2_with fail
          go_roundw
          case rel => exact ⟨d + 1, ls, by omega, by go_num, HSTb, HTR, HDI, hide (.inr HM.out), HLVb, HBb⟩
          case measure => simp [intOf]; omega
        · have hm0I : (0 : Int) < (m : Int) := by omega
          have DP := hide (depth_a w2.heap.size w2.heap.size ls wb HSTb.out)
          have PT := hide (fun (w' : World) => point_a ls.length 0 m w' (by omega))
          go_wp2_with fail
          refine DP.out.mono ?_
          rintro e wc ⟨rfl, rfl⟩
          go_wp2_with fail
          refine (PT.out _).mono ?_
          rintro e wc ⟨vp, rfl, hop, hbc⟩
          obtain ⟨pA, pc, rfl, hcr⟩ := own_crow (l := mk ls.length 0 m) (by rw [mk_len]; exact hop) (mk_ok ls.length m (by omega) (by omega)) (by rw [mk_len]; unfold maxLen; omega)
          have hcr : CRow wc pA (mk ls.length 0 m) := hcr
          have PU := Push_yes w2.heap.size w2.heap.size ls ls.length 0 pA pc (mk ls.length 0 m) off wc (HSTb.out.below hbc) (Nat.le_refl _) hcr (by rw [mk_len]; omega) (mk_may _ _ (by omega)) (by omega)
          rw [mk_len] at PU ⊢
          have PU := hide PU
          have HLVc := hide (HLVb.out.below hbc)
          have HBc := hide (HBb.out.trans (hbc.mono HBb.out.size))
          clear hop hbc hcr DP PT
          go_wp2_with fail
          refine PU.out.mono ?_
          rintro e wd ⟨rfl, ⟨g, cap', _, hst⟩, hbd, hkd, _⟩
          have hfx : FitTo sh ls ⟨ls.length, 0, some ⟨g, 0, none⟩, cap', mk ls.length 0 m, off, 0⟩ := FX.out _ rfl rfl rfl rfl (by omega) rfl
          have HSTd := hide hst
          have HTRd := hide (Tr.snoc HTR.out hfx)
          have HDId := hide (HDI.out.trans (push_down hfx rfl))
          have HDNd : Hid (d + 1 ≤ (ls ++ [(⟨ls.length, 0, some ⟨g, 0, none⟩, cap', mk ls.length 0 m, off, 0⟩ : Lv)]).length ∨ (nodeN sh (stepsOf (ls ++ [(⟨ls.length, 0, some ⟨g, 0, none⟩, cap', mk ls.length 0 m, off, 0⟩ : Lv)]))).1 = 0) := hide (.inl (by
            have h1 := HDN.out.resolve_right (by rw [HM.out]; exact hm0)
            simp
            omega))
          have HLVd := hide (Lvs.keeps HLVc.out hkd (by decide) (by decide))
          have HBd := hide (HBc.out.trans hbd)
          clear hst hbd hkd hfx PU
          go_wp2_with fail
          go_roundw
          case rel => exact ⟨d + 1, _, by omega, by go_num, HSTd, HTRd, HDId, HDNd, HLVd, HBd⟩
          case measure => simp [intOf]; omega
      · have hd5I : ¬ (d : Int) < 5 := by omega
        have hn0 : (nodeN sh (stepsOf ls)).1 = 0 := by
          rcases HDN.out with h | h
          · have := HTR.out.len
            omega
          · exact h
        have hdrop : LL.drop i = stepsOf ls :: aft sh ls := by rw [HDI.out, lf_leaf hn0]; rfl
        have hll : LL[i]? = some (stepsOf ls) := by
          have := congrArg (·[0]?) hdrop
          simpa using this
        have hiL : i < LL.length := by rw [HLe.out]; exact hlt
        have hli : LL[i] = stepsOf ls := by rw [List.getElem?_eq_getElem hiL] at hll; exact Option.some.inj hll
        have hdrop1 : LL.drop (i + 1) = aft sh ls := by
          have := congrArg (List.drop 1) hdrop
          rw [List.drop_drop] at this
          simpa using this
        obtain ⟨vals, o3, e3⟩ := HLV.out
        rw [HLe.out] at o3
        obtain ⟨u0, hu0, hro⟩ := e3 i hiL
        rw [hli] at hro
        obtain ⟨g3, rfl, _, _, ⟨cs3, hb3⟩, _, _, hcc⟩ := own_cell o3 (by omega)
        have hcs := (hb3.cell i).symm.trans (hcc i u0 hu0)
        have HU0 := hide hcs
        have NX := next_on HTR.out
        have HEQ : Hid (decide (0 < (nextL ls).length) = decide ((i : Int) < (L : Int) - 1)) := hide (by
          have hlen := congrArg List.length hdrop1
          rw [List.length_drop, HLe.out] at hlen
          by_cases hz : nextL ls = []
          · rw [NX.1 hz] at hlen
            rw [hz]
            have : L - (i + 1) = 0 := hlen
            simp
            omega
          · have h2 := (NX.2 hz).2
            have h3 : 0 < (aft sh ls).length := by
              rw [h2, List.length_append]
              have := List.length_pos_iff.2 (lf_ne sh (4 - (stepsOf (nextL ls)).length) (stepsOf (nextL ls)))
              have : 0 < (lf sh (stepsOf (nextL ls))).length := this
              omega
            have h4 : 0 < (nextL ls).length := List.length_pos_iff.2 hz
            rw [decide_eq_true h4]
            exact (decide_eq_true (by omega)).symm)
        have HNX : Hid (Tr sh (nextL ls) ∧ (i + 1 < L → LL.drop (i + 1) = lf sh (stepsOf (nextL ls)) ++ aft sh (nextL ls)) ∧ (i + 1 = L → nextL ls = [])) := hide (by
          have hlen := congrArg List.length hdrop1
          rw [List.length_drop, HLe.out] at hlen
          by_cases hz : nextL ls = []
          · rw [NX.1 hz] at hlen
            have : L - (i + 1) = 0 := hlen
            exact ⟨by rw [hz]; exact Tr.nil, fun h => absurd h (by omega), fun _ => hz⟩
          · have h2 := NX.2 hz
            refine ⟨h2.1, fun _ => by rw [hdrop1, h2.2], fun h => ?_⟩
            have h3 : 0 < (aft sh ls).length := by
              rw [h2.2, List.length_append]
              have := List.length_pos_iff.2 (lf_ne sh (4 - (stepsOf (nextL ls)).length) (stepsOf (nextL ls)))
              have : 0 < (lf sh (stepsOf (nextL ls))).length := this
              omega
            omega)
        have hL256 := HL256.out
        have HJ : Hid (J16 w2 ls g3 w1.heap.size cs3 u0 (.slice (some ⟨g3, 0, none⟩) L c3) LL (fun _ => none) wr.drew) := hide ⟨⟨fun h => (by cases h), fun h => (by cases h), fun h => (by cases h)⟩, fun _ => HST.out.below (Below.refl _ _).drew, fun h => (by cases h), HB.out.drew, HLV.out.below (Below.refl _ _).drew, hb3.drew, own_belowR hro (Below.refl _ _).drew⟩
        clear hn0 hdrop hll hiL hli hdrop1 o3 e3 hu0 hro hb3 hcc hcs NX
        go_wp2_with fail
        let R : Nat → Value → World → Prop := fun sl u wx => match sl with
          | 46 | 55 => u = .pointer (some ⟨w2.heap.size, 0, none⟩)
          | 47 | 51 => wx.ownsRow 0 49 8 u (stepsOf ls).length (spCs (stepsOf ls))
          | 48 | 58 => u = .slice (some ⟨g3, 0, none⟩) L c3
          | 49 | 57 => u = .int .i64 i
          | 50 => u = .pointer (some ⟨g3, i, none⟩)
          | 52 => u = .bool true
          | 53 | 54 | 62 | 63 => u = .bool false
          | 56 => u = .bool (decide (0 < (nextL ls).length))
          | 59 => u = .int .i64 L
          | 60 => u = .int .i64 ((L : Int) - 1)
          | 61 => u = .bool (decide ((i : Int) < (L : Int) - 1))
          | _ => True
        refine wp_region_relGW [(54, false)] R (KeepsBut [59, 54]) (J16 w2 ls g3 w1.heap.size cs3 u0 (.slice (some ⟨g3, 0, none⟩) L c3) LL) (by kernel_rfl) (by kernel_rfl) (by kernel_rfl) (by kernel_rfl) ?mono16 (fun w => KeepsBut.of_below (Below.refl _ _)) HJ.out (fun p hp u w h => by rw [List.mem_singleton.1 hp] at h ⊢; exact h) ?step16 ?fin16
        case mono16 =>
          intro sl u wx wy h hk
          match sl with
          | 47 | 51 => exact KeepsBut.own hk h (by decide)
          | 0 | 1 | 2 | 3 | 4 | 5 | 6 | 7 | 8 | 9 | 10 | 11 | 12 | 13 | 14 | 15 | 16 | 17 | 18 | 19 | 20 | 21 | 22 | 23 | 24 | 25 | 26 | 27 | 28 | 29 | 30 | 31 | 32 | 33 | 34 | 35 | 36 | 37 | 38 | 39 | 40 | 41 | 42 | 43 | 44 | 45 | 46 | 48 | 49 | 50 | 52 | 53 | 54 | 55 | 56 | 57 | 58 | 59 | 60 | 61 | 62 | 63 | _ + 64 => exact h
        case step16 =>
          intro j o ho
          match j, ho with
          | 0, ho =>
            cases ho
            intro V aa wx hV hdep hval hj hsm hr
            have e4 : aa.tmps.getD 4 undef = .pointer (some ⟨w2.heap.size, 0, none⟩) := hsm 4 (by decide)
            rw [Array.getD_eq_getD_getElem?] at e4
            unfold Oper.wp
            simp only [execOp, Act.eval, Array.getD_eq_getD_getElem?, e4]
            go_simp
            exact ⟨_, rfl, rfl, KeepsBut.of_below (Below.refl _ _), hj.plain (Below.refl _ _) (by decide) (fun h => absurd h (by decide)) (fun h => absurd h (by decide))⟩
          | 1, ho =>
            cases ho
            intro V aa wx hV hdep hval hj hsm hr
            have e46 : aa.tmps.getD 46 undef = .pointer (some ⟨w2.heap.size, 0, none⟩) := hr 46 (by decide) (by apply Array.mem_toList_iff.1; repeat (first | exact List.Mem.head _ | apply List.Mem.tail))
            rw [Array.getD_eq_getD_getElem?] at e46
            unfold Oper.wp
            simp only [execOp, Act.eval, Array.getD_eq_getD_getElem?, e46]
            go_simp
            refine (Steps_a _ _ ls wx (hj.first hV) HFT.out).mono ?_
            rintro e w' ⟨v, rfl, ho, hb⟩
            exact ⟨_, rfl, own_more (by rw [stepsOf_len]; exact ho) (Nat.zero_le _), KeepsBut.of_below hb, hj.plain hb (by decide) (fun h => absurd h (by decide)) (fun h => absurd h (by decide))⟩
          | 2, ho =>
            cases ho
            intro V aa wx hV hdep hval hj hsm hr
            have e3 : aa.tmps.getD 3 undef = .slice (some ⟨g3, 0, none⟩) L c3 := hsm 3 (by decide)
            rw [Array.getD_eq_getD_getElem?] at e3
            unfold Oper.wp
            simp only [execOp, Act.eval, Array.getD_eq_getD_getElem?, e3]
            go_simp
            exact ⟨_, rfl, rfl, KeepsBut.of_below (Below.refl _ _), hj.plain (Below.refl _ _) (by decide) (fun h => absurd h (by decide)) (fun h => absurd h (by decide))⟩
          | 3, ho =>
            cases ho
            intro V aa wx hV hdep hval hj hsm hr
            have e5 : aa.tmps.getD 5 undef = .int .i64 i := hsm 5 (by decide)
            rw [Array.getD_eq_getD_getElem?] at e5
            unfold Oper.wp
            simp only [execOp, Act.eval, Array.getD_eq_getD_getElem?, e5]
            go_simp
            exact ⟨_, rfl, rfl, KeepsBut.of_below (Below.refl _ _), hj.plain (Below.refl _ _) (by decide) (fun h => absurd h (by decide)) (fun h => absurd h (by decide))⟩
          | 4, ho =>
            cases ho
            intro V aa wx hV hdep hval hj hsm hr
            have e48 : aa.tmps.getD 48 undef = .slice (some ⟨g3, 0, none⟩) L c3 := hr 48 (by decide) (by apply Array.mem_toList_iff.1; repeat (first | exact List.Mem.head _ | apply List.Mem.tail))
            have e49 : aa.tmps.getD 49 undef = .int .i64 i := hr 49 (by decide) (by apply Array.mem_toList_iff.1; repeat (first | exact List.Mem.head _ | apply List.Mem.tail))
            rw [Array.getD_eq_getD_getElem?] at e48
            rw [Array.getD_eq_getD_getElem?] at e49
            unfold Oper.wp
            simp only [execOp, Act.eval, Array.getD_eq_getD_getElem?, e48, e49]
            go_simp
            exact ⟨_, rfl, rfl, KeepsBut.of_below (Below.refl _ _), hj.plain (Below.refl _ _) (by decide) (fun h => absurd h (by decide)) (fun h => absurd h (by decide))⟩
          | 5, ho =>
            cases ho
            intro V aa wx hV hdep hval hj hsm hr
            have e50 : aa.tmps.getD 50 undef = .pointer (some ⟨g3, i, none⟩) := hr 50 (by decide) (by apply Array.mem_toList_iff.1; repeat (first | exact List.Mem.head _ | apply List.Mem.tail))
            have cc : wx.cell? ⟨g3, i, none⟩ = some u0 := (hj.rb.cell i).trans HU0.out
            rw [Array.getD_eq_getD_getElem?] at e50
            unfold Oper.wp
            simp only [execOp, Act.eval, Array.getD_eq_getD_getElem?, e50]
            go_simp
            exact ⟨_, rfl, hj.ro, KeepsBut.of_below (Below.refl _ _), hj.plain (Below.refl _ _) (by decide) (fun h => absurd h (by decide)) (fun h => absurd h (by decide))⟩
          | 6, ho =>
            cases ho
            intro V aa wx hV hdep hval hj hsm hr
            have e47 : wx.ownsRow 0 49 8 (aa.tmps.getD 47 undef) (stepsOf ls).length (spCs (stepsOf ls)) := hr 47 (by decide) (by apply Array.mem_toList_iff.1; repeat (first | exact List.Mem.head _ | apply List.Mem.tail))
            have e51 : wx.ownsRow 0 49 8 (aa.tmps.getD 51 undef) (stepsOf ls).length (spCs (stepsOf ls)) := hr 51 (by decide) (by apply Array.mem_toList_iff.1; repeat (first | exact List.Mem.head _ | apply List.Mem.tail))
            have SA := Same_b 0 0 _ _ (stepsOf ls) wx e47 e51 (by rw [stepsOf_len]; have := HTR.out.len; omega)
            rw [Array.getD_eq_getD_getElem?, Array.getD_eq_getD_getElem?] at SA
            unfold Oper.wp
            simp only [execOp, Act.eval, Array.getD_eq_getD_getElem?]
            go_simp
            refine SA.mono ?_
            rintro e w' ⟨rfl, hb⟩
            exact ⟨_, rfl, rfl, KeepsBut.of_below hb, hj.plain hb (by decide) (fun h => absurd h (by decide)) (fun _ => hdep ⟨1, Ground.data⟩ (by simp) (by decide))⟩
          | 7, ho =>
            cases ho
            intro V aa wx hV hdep hval hj hsm hr
            have e52 : aa.tmps.getD 52 undef = .bool true := hr 52 (by decide) (by apply Array.mem_toList_iff.1; repeat (first | exact List.Mem.head _ | apply List.Mem.tail))
            rw [Array.getD_eq_getD_getElem?] at e52
            unfold Oper.wp
            simp only [execOp, Act.eval, Array.getD_eq_getD_getElem?, e52]
            go_simp
            exact ⟨_, rfl, rfl, KeepsBut.of_below (Below.refl _ _), hj.plain (Below.refl _ _) (by decide) (fun h => absurd h (by decide)) (fun h => absurd h (by decide))⟩
          | 8, ho =>
            cases ho
            intro V aa wx hV hdep hval hj hsm hr
            have e53 : aa.tmps.getD 53 undef = .bool false := hr 53 (by decide) (by apply Array.mem_toList_iff.1; repeat (first | exact List.Mem.head _ | apply List.Mem.tail))
            rw [Array.getD_eq_getD_getElem?] at e53
            unfold Oper.wp
            simp only [execOp, Act.eval, Array.getD_eq_getD_getElem?, e53]
            go_simp
            exact ⟨_, rfl, rfl, KeepsBut.of_below (Below.refl _ _), hj.plain (Below.refl _ _) (by decide) (fun _ => hdep ⟨6, Ground.chain⟩ (by simp) (by decide)) (fun h => absurd h (by decide))⟩
          | 9, ho =>
            cases ho
            intro V aa wx hV hdep hval hj hsm hr
            have e4 : aa.tmps.getD 4 undef = .pointer (some ⟨w2.heap.size, 0, none⟩) := hsm 4 (by decide)
            rw [Array.getD_eq_getD_getElem?] at e4
            unfold Oper.wp
            simp only [execOp, Act.eval, Array.getD_eq_getD_getElem?, e4]
            go_simp
            exact ⟨_, rfl, rfl, KeepsBut.of_below (Below.refl _ _), hj.plain (Below.refl _ _) (by decide) (fun h => absurd h (by decide)) (fun h => absurd h (by decide))⟩
          | 10, ho =>
            cases ho
            intro V aa wx hV hdep hval hj hsm hr
            have e55 : aa.tmps.getD 55 undef = .pointer (some ⟨w2.heap.size, 0, none⟩) := hr 55 (by decide) (by apply Array.mem_toList_iff.1; repeat (first | exact List.Mem.head _ | apply List.Mem.tail))
            rw [Array.getD_eq_getD_getElem?] at e55
            unfold Oper.wp
            simp only [execOp, Act.eval, Array.getD_eq_getD_getElem?, e55]
            go_simp
            refine (Next_a _ _ ls wx (hj.a0 hV) (Nat.le_refl _) HFT.out).mono ?_
            rintro e w' ⟨rfl, hs, hb, ho, _⟩
            have hk := (hj.a0 hV).keeps ho
            exact ⟨_, rfl, rfl, hk, hj.next hs hb hk (hdep ⟨8, Ground.chain⟩ (by simp) (by decide))⟩
          | 11, ho =>
            cases ho
            intro V aa wx hV hdep hval hj hsm hr
            have e5 : aa.tmps.getD 5 undef = .int .i64 i := hsm 5 (by decide)
            rw [Array.getD_eq_getD_getElem?] at e5
            unfold Oper.wp
            simp only [execOp, Act.eval, Array.getD_eq_getD_getElem?, e5]
            go_simp
            exact ⟨_, rfl, rfl, KeepsBut.of_below (Below.refl _ _), hj.plain (Below.refl _ _) (by decide) (fun h => absurd h (by decide)) (fun h => absurd h (by decide))⟩
          | 12, ho =>
            cases ho
            intro V aa wx hV hdep hval hj hsm hr
            have e3 : aa.tmps.getD 3 undef = .slice (some ⟨g3, 0, none⟩) L c3 := hsm 3 (by decide)
            rw [Array.getD_eq_getD_getElem?] at e3
            unfold Oper.wp
            simp only [execOp, Act.eval, Array.getD_eq_getD_getElem?, e3]
            go_simp
            exact ⟨_, rfl, rfl, KeepsBut.of_below (Below.refl _ _), hj.plain (Below.refl _ _) (by decide) (fun h => absurd h (by decide)) (fun h => absurd h (by decide))⟩
          | 13, ho =>
            cases ho
            intro V aa wx hV hdep hval hj hsm hr
            have e58 : aa.tmps.getD 58 undef = .slice (some ⟨g3, 0, none⟩) L c3 := hr 58 (by decide) (by apply Array.mem_toList_iff.1; repeat (first | exact List.Mem.head _ | apply List.Mem.tail))
            rw [Array.getD_eq_getD_getElem?] at e58
            unfold Oper.wp
            simp only [execOp, Act.eval, Array.getD_eq_getD_getElem?, e58]
            go_simp
            exact ⟨_, rfl, rfl, KeepsBut.of_below (Below.refl _ _), hj.plain (Below.refl _ _) (by decide) (fun h => absurd h (by decide)) (fun h => absurd h (by decide))⟩
          | 14, ho =>
            cases ho
            intro V aa wx hV hdep hval hj hsm hr
            have e59 : aa.tmps.getD 59 undef = .int .i64 L := hr 59 (by decide) (by apply Array.mem_toList_iff.1; repeat (first | exact List.Mem.head _ | apply List.Mem.tail))
            rw [Array.getD_eq_getD_getElem?] at e59
            unfold Oper.wp
            simp only [execOp, Act.eval, Array.getD_eq_getD_getElem?, e59]
            go_simp
            exact ⟨_, rfl, (by show Value.int IntKind.i64 (IntKind.i64.wrap ((L : Int) - 1)) = .int .i64 ((L : Int) - 1); rw [IntKind.wrap_i64]; congr 1; omega), KeepsBut.of_below (Below.refl _ _), hj.plain (Below.refl _ _) (by decide) (fun h => absurd h (by decide)) (fun h => absurd h (by decide))⟩
          | 15, ho =>
            cases ho
            intro V aa wx hV hdep hval hj hsm hr
            have e57 : aa.tmps.getD 57 undef = .int .i64 i := hr 57 (by decide) (by apply Array.mem_toList_iff.1; repeat (first | exact List.Mem.head _ | apply List.Mem.tail))
            have e60 : aa.tmps.getD 60 undef = .int .i64 ((L : Int) - 1) := hr 60 (by decide) (by apply Array.mem_toList_iff.1; repeat (first | exact List.Mem.head _ | apply List.Mem.tail))
            rw [Array.getD_eq_getD_getElem?] at e57
            rw [Array.getD_eq_getD_getElem?] at e60
            unfold Oper.wp
            simp only [execOp, Act.eval, Array.getD_eq_getD_getElem?, e57, e60]
            go_simp
            exact ⟨_, rfl, rfl, KeepsBut.of_below (Below.refl _ _), hj.plain (Below.refl _ _) (by decide) (fun h => absurd h (by decide)) (fun h => absurd h (by decide))⟩
          | 16, ho =>
            cases ho
            intro V aa wx hV hdep hval hj hsm hr
            have e56 : aa.tmps.getD 56 undef = .bool (decide (0 < (nextL ls).length)) := hr 56 (by decide) (by apply Array.mem_toList_iff.1; repeat (first | exact List.Mem.head _ | apply List.Mem.tail))
            have e61 : aa.tmps.getD 61 undef = .bool (decide ((i : Int) < (L : Int) - 1)) := hr 61 (by decide) (by apply Array.mem_toList_iff.1; repeat (first | exact List.Mem.head _ | apply List.Mem.tail))
            rw [Array.getD_eq_getD_getElem?] at e56
            rw [Array.getD_eq_getD_getElem?] at e61
            unfold Oper.wp
            simp only [execOp, Act.eval, Array.getD_eq_getD_getElem?, e56, e61]
            go_simp
            exact ⟨_, rfl, (by rw [HEQ.out]; show Value.bool _ = .bool false; simp), KeepsBut.of_below (Below.refl _ _), hj.plain (Below.refl _ _) (by decide) (fun h => absurd h (by decide)) (fun h => absurd h (by decide))⟩
          | 17, ho =>
            cases ho
            intro V aa wx hV hdep hval hj hsm hr
            have e54 : aa.tmps.getD 54 undef = .bool false := hr 54 (by decide) (by apply Array.mem_toList_iff.1; repeat (first | exact List.Mem.head _ | apply List.Mem.tail))
            have e62 : aa.tmps.getD 62 undef = .bool false := hr 62 (by decide) (by apply Array.mem_toList_iff.1; repeat (first | exact List.Mem.head _ | apply List.Mem.tail))
            rw [Array.getD_eq_getD_getElem?] at e54
            rw [Array.getD_eq_getD_getElem?] at e62
            unfold Oper.wp
            simp only [execOp, Act.eval, Array.getD_eq_getD_getElem?, e54, e62]
            go_simp
            exact ⟨_, rfl, rfl, KeepsBut.of_below (Below.refl _ _), hj.plain (Below.refl _ _) (by decide) (fun h => absurd h (by decide)) (fun h => absurd h (by decide))⟩
          | j + 18, ho => cases ho
        case fin16 =>
          intro ff V wi hVs hj hr
          have h10 : (V 10).isSome = true := by rw [hVs 10 _ rfl]; rfl
          have e63 : ff 63 = .bool false := hr 63 (by decide)
          have S9 := hide (hj.a1 h10)
          have B9 := hide hj.bl
          have L9 := hide hj.lv
          clear hVs hj hr h10
          simp only [putAll, slotsOf, List.take, List.drop, List.filterMap_cons, List.filterMap_nil, List.foldl_cons, List.foldl_nil, Act.put, e63]
          simp only [List.setIfInBounds_toArray, List.set_cons_succ, List.set_cons_zero]
          go_wp2_with fail
          go_roundw
          case rel => exact ⟨i + 1, nextL ls, by omega, by go_num, S9, hide HNX.out.1, hide HNX.out.2, L9, B9⟩
          case measure => simp [intOf]; omega
end Go.Proofs.YtiojpokfcejhcaaDoor.PathTreeW
