/- The walk of the statement QueueOrder: of any tags; without conditions. -/
import Derived.Test.YtomladbdebfikaaRows
import Derived.Test.YtomladbdebfikaaQuXf
import Derived.Test.YtomladbdebfikaaRelG
namespace Go.Proofs.Ytomladbdebfikaa.QueueOrderW
open Go Go.RowKit Go.Deep Go.Lib Go.Proofs.Ytomladbdebfikaa Go.Proofs.Ytomladbdebfikaa.Qu
set_option linter.unusedVariables false
set_option linter.unusedSimpArgs false
def KM (f t : Int) (i : Nat) (tg : Int) : Msg := ⟨⟨#[107]⟩, f, t, 2 * (i : Int), tg, 0, 1, false⟩
def LM (f t : Int) (i : Nat) (tg : Int) : Msg := ⟨⟨#[108]⟩, f, t, 2 * (i : Int) + 1, tg, 0, 1, false⟩
/-- What has been sent. -/
structure OL (f : Int) (i : Nat) (l : List Msg) : Prop where
  fr : ∀ m ∈ l, m.fr = f
  ca : ∀ m ∈ l, m.ca < 2 * (i : Int)
  len : l.length ≤ 2 * i
theorem OL.k {f t tg : Int} {i : Nat} {l : List Msg} (h : OL f i l) (hf : 0 ≤ f ∧ f < 64) (ht : 0 ≤ t ∧ t < 64) (hg : 0 ≤ tg ∧ tg < 4) :
    sendE l (KM f t i tg) = 0 ∧ sendL l (KM f t i tg) = l ++ [KM f t i tg] :=
  send_new ⟨hf.1, hf.2, ht.1, ht.2, by show 0 ≤ 2 * (i : Int); omega, hg.1, by show tg ≤ 32767; omega, (by show (1 : Int) ≤ 1; omega), by show (1 : Int) ≤ 64; omega, rfl⟩ h.ca
theorem OL.l {f t tg : Int} {i : Nat} {l : List Msg} (h : OL f i l) (hf : 0 ≤ f ∧ f < 64) (ht : 0 ≤ t ∧ t < 64) (hg : 0 ≤ tg ∧ tg < 4) :
    sendL (l ++ [KM f t i tg]) (LM f t i tg) = l ++ [KM f t i tg] ++ [LM f t i tg] :=
  (send_new ⟨hf.1, hf.2, ht.1, ht.2, by show 0 ≤ 2 * (i : Int) + 1; omega, hg.1, by show tg ≤ 32767; omega, (by show (1 : Int) ≤ 1; omega), by show (1 : Int) ≤ 64; omega, rfl⟩ fun x hx => by
    rcases List.mem_append.1 hx with hx | hx
    · have := h.ca x hx; show x.ca < 2 * (i : Int) + 1; omega
    · rw [List.mem_singleton.1 hx]; show 2 * (i : Int) < 2 * (i : Int) + 1; omega).2
theorem OL.nk {f t tg : Int} {i : Nat} {l : List Msg} (h : OL f i l) : OL f (i + 1) (l ++ [KM f t i tg]) :=
  ⟨fun m hm => by rcases List.mem_append.1 hm with hm | hm; exact h.fr m hm; rw [List.mem_singleton.1 hm]; rfl,
   fun m hm => by
    rcases List.mem_append.1 hm with hm | hm
    · have := h.ca m hm; omega
    · rw [List.mem_singleton.1 hm]; show 2 * (i : Int) < 2 * ((i + 1 : Nat) : Int); omega,
   by rw [List.length_append]; have := h.len; simp; omega⟩
theorem OL.nl {f t tg : Int} {i : Nat} {l : List Msg} (h : OL f i l) : OL f (i + 1) (l ++ [KM f t i tg] ++ [LM f t i tg]) :=
  ⟨fun m hm => by
    rcases List.mem_append.1 hm with hm | hm
    · exact h.nk.fr m hm
    · rw [List.mem_singleton.1 hm]; rfl,
   fun m hm => by
    rcases List.mem_append.1 hm with hm | hm
    · exact h.nk.ca m hm
    · rw [List.mem_singleton.1 hm]; show 2 * (i : Int) + 1 < 2 * ((i + 1 : Nat) : Int); omega,
   by rw [List.length_append, List.length_append]; have := h.len; simp; omega⟩
theorem sel_k (f t tg tag : Int) (i : Nat) (l : List Msg) : (l ++ [KM f t i tg]).filter (sel ⟨⟨#[107]⟩, f, t⟩ tag) = l.filter (sel ⟨⟨#[107]⟩, f, t⟩ tag) ++ (if tagged tag (KM f t i tg) = true then [KM f t i tg] else []) := by
  rw [List.filter_append, List.filter_cons]
  have e : sel ⟨⟨#[107]⟩, f, t⟩ tag (KM f t i tg) = tagged tag (KM f t i tg) := by
    unfold sel isM KM Msg.ch
    simp
  rw [e]
  rfl
theorem sel_l (f t tg tag : Int) (i : Nat) (l : List Msg) : (l ++ [LM f t i tg]).filter (sel ⟨⟨#[107]⟩, f, t⟩ tag) = l.filter (sel ⟨⟨#[107]⟩, f, t⟩ tag) := by
  have e : sel ⟨⟨#[107]⟩, f, t⟩ tag (LM f t i tg) = false := by
    have h : ¬ (LM f t i tg).ch = ⟨⟨#[107]⟩, f, t⟩ := fun h => by
      have h1 := congrArg Chan.key h
      have h2 : (⟨#[108]⟩ : ByteArray) = ⟨#[107]⟩ := h1
      have h3 := congrArg ByteArray.data h2
      have h4 : (#[108] : Array UInt8) = #[107] := h3
      simp at h4
    unfold sel isM
    rw [decide_eq_false h]
    simp
  rw [List.filter_append, List.filter_cons, if_neg (by rw [e]; decide)]
  simp
theorem u8_at {W : World} {a : Option Addr} {len cap : Nat} {z : List Int} (h : IsRow .u8 W a len cap z) {i : Nat} (hi : i < len) : ∃ x v, a = some x ∧ x.block < W.heap.size ∧ 0 ≤ v ∧ v ≤ 255 ∧ W.cell? (x.add i) = some (.int .u8 v) := by
  rcases h with ⟨rfl, rfl, rfl, rfl⟩ | ⟨x, rfl, h1, h2, h3, h4, h5⟩
  · omega
  · have hc := h4 i (by omega)
    have hm : z.getD i 0 ∈ z := by
      rw [List.getD_eq_getElem?_getD, List.getElem?_eq_getElem (by omega)]
      exact List.getElem_mem _
    have hw := h5 _ hm
    generalize z.getD i 0 = y at *
    simp [Lit.wf] at hw
    have k1 : IntKind.u8.min = 0 := rfl
    have k2 : IntKind.u8.max = 255 := rfl
    refine ⟨x, y, rfl, ?_, by omega, by omega, hc⟩
    have := block_lt_of_cell hc
    rwa [block_of_add] at this
theorem rem_at {v m : Int} (h0 : 0 ≤ v) (hm : 0 < m) : 0 ≤ Int.tmod v m ∧ Int.tmod v m < m := by
  rw [Int.tmod_eq_emod_of_nonneg h0]
  exact ⟨Int.emod_nonneg _ (by omega), Int.emod_lt_of_pos _ hm⟩
def ST (W w0 : World) (q X : Nat) (cs : Array Value) (A : Option Addr) (c : Nat) (ws : List Int) (l : List Msg) (w : World) : Prop := ∃ L, WQ w W.heap.size q L l A c ws ∧ Blk w X 31 cs ∧ ¬ X ∈ L.foot q ∧ Below W.heap.size W w
theorem ST.below {W w0 w w' : World} {q X : Nat} {cs : Array Value} {A : Option Addr} {c : Nat} {ws : List Int} {l : List Msg} (h : ST W w0 q X cs A c ws l w) (hb : Below w.heap.size w w') : ST W w0 q X cs A c ws l w' := by
  obtain ⟨L, h1, h2, h3, h4⟩ := h
  exact ⟨L, h1.below hb, h2.below hb h2.lt, h3, h4.trans (hb.mono h4.size)⟩
theorem ST.go {W w0 w w' : World} {q X : Nat} {cs : Array Value} {A : Option Addr} {c : Nat} {ws : List Int} {l l' : List Msg} {L : QL} (h1 : WQ w W.heap.size q L l A c ws) (h2 : Blk w X 31 cs) (h3 : ¬ X ∈ L.foot q) (h4 : Below W.heap.size W w)
    (hg : Goes w q L l' w') : ST W w0 q X cs A c ws l' w' := by
  obtain ⟨L', k1, k2, k3, k5⟩ := h1.goX hg h2 h3
  exact ⟨L', k1, k3, k5, h4.trans k2⟩
/-- The two takes: what the world is like, by whether the first one is done. -/
def JT (W w0 : World) (q X : Nat) (cs : Array Value) (A : Option Addr) (c : Nat) (ws : List Int) (l l' : List Msg) (V : Nat → Option Value) (w : World) : Prop :=
  ((V 19).isSome = true → (V 16).isSome = true) ∧ (V 16 = none → ST W w0 q X cs A c ws l w) ∧ ((V 16).isSome = true → ST W w0 q X cs A c ws l' w)
section
variable {W w0 w w' : World} {q X : Nat} {cs : Array Value} {A : Option Addr} {c : Nat} {ws : List Int} {l l' : List Msg} {V : Nat → Option Value}
theorem JT.plain {i : Nat} {v : Value} (h : JT W w0 q X cs A c ws l l' V w) (hb : Below w.heap.size w w') (hi : i ≠ 16) (h19 : i = 19 → (V 16).isSome = true) : JT W w0 q X cs A c ws l l' (setV V i v) w' := by
  have e : setV V i v 16 = V 16 := if_neg (by omega)
  refine ⟨fun h9 => ?_, fun hn => ?_, fun hn => ?_⟩
  · rw [e]
    by_cases h19' : i = 19
    · exact h19 h19'
    · have e9 : setV V i v 19 = V 19 := if_neg (by omega)
      rw [e9] at h9
      exact h.1 h9
  · rw [e] at hn
    exact (h.2.1 hn).below hb
  · rw [e] at hn
    exact (h.2.2 hn).below hb
theorem JT.first {v : Value} (hs : ST W w0 q X cs A c ws l' w') : JT W w0 q X cs A c ws l l' (setV V 16 v) w' := by
  have e : setV V 16 v 16 = some v := if_pos rfl
  exact ⟨fun _ => (by rw [e]; rfl), fun hn => (by rw [e] at hn; cases hn), fun _ => hs⟩
theorem JT.second {v : Value} (h16 : (V 16).isSome = true) (hs : ST W w0 q X cs A c ws l' w') : JT W w0 q X cs A c ws l l' (setV V 24 v) w' := by
  have e : setV V 24 v 16 = V 16 := if_neg (by omega)
  refine ⟨fun _ => by rw [e]; exact h16, fun hn => ?_, fun _ => hs⟩
  rw [e] at hn
  rw [hn] at h16
  cases h16
theorem JT.any (h : JT W w0 q X cs A c ws l l' V w) : ∃ l2, ST W w0 q X cs A c ws l2 w := by
  cases e : V 16 with
  | none => exact ⟨l, h.2.1 e⟩
  | some z => exact ⟨l', h.2.2 (by rw [e]; rfl)⟩
theorem JT.blk (h : JT W w0 q X cs A c ws l l' V w) : Blk w X 31 cs := by
  obtain ⟨l2, L, h1, h2, _⟩ := h.any
  exact h2
theorem JT.row (h : JT W w0 q X cs A c ws l l' V w) : w.ownsRow W.heap.size 3 1 (.slice A ws.length c) ws.length (ints ws) := by
  obtain ⟨l2, L, h1, _⟩ := h.any
  exact h1.own
end
set_option maxRecDepth 100000 in
set_option maxHeartbeats 32000000 in
theorem walkA (W : World) (a0 : Option Addr) (len0 cap0 : Nat) (z0 : List Int) (w0 : IsRow .u8 W a0 len0 cap0 z0) (a1 : Int) (w1 : (Lit.int .u8 a1).wf = true) (a2 : Int) (w2 : (Lit.int .u8 a2).wf = true) (a3 : Bool) :
    Calls Try.prog 5 #[.slice a0 len0 cap0, .int .u8 a1, .int .u8 a2, .bool a3, .int .i64 (-1)] W fun e w' => e = .returned (.bool true) ∧ Below W.heap.size W w' := by
  have AW := hide (awake_c W)
  have HU := hide (fun (wx : World) (hb : Below W.heap.size W wx) (i : Nat) (hi : i < len0) => u8_at w0 hi)
  have HR := hide w0
  have hA1 : 0 ≤ a1 := by simp [Lit.wf] at w1; have k1 : IntKind.u8.min = 0 := rfl; omega
  have hA2 : 0 ≤ a2 := by simp [Lit.wf] at w2; have k1 : IntKind.u8.min = 0 := rfl; omega
  obtain ⟨f, hf⟩ : ∃ z, wrap64 (Int.tmod a1 64) = z := ⟨_, rfl⟩
  obtain ⟨t, ht⟩ : ∃ z, wrap64 (Int.tmod a2 64) = z := ⟨_, rfl⟩
  have rf := rem_at hA1 (m := 64) (by decide)
  have rt := rem_at hA2 (m := 64) (by decide)
  have ef : wrap64 (Int.tmod a1 64) = Int.tmod a1 64 := by unfold wrap64; omega
  have et : wrap64 (Int.tmod a2 64) = Int.tmod a2 64 := by unfold wrap64; omega
  rw [← ef] at rf
  rw [← et] at rt
  rw [hf] at rf
  rw [ht] at rt
  have HRF := hide rf
  have HRT := hide rt
  clear w0 w1 w2 hA1 hA2 rf rt ef et
  go_enter Try.func5, Try.ntmps5
  go_wp2_with fail
  refine AW.out.mono ?_
  rintro e wa ⟨rfl, hba⟩
  have HBA := hide hba
  clear hba AW
  by_cases h60 : (60 : Int) < (len0 : Int)
  · go_wp2_with fail
    go_ret
    exact ⟨rfl, HBA.out⟩
  have H60 := hide (show len0 ≤ 60 by omega)
  have NC := hide (New_c wa)
  go_wp2_with fail
  refine NC.out.mono ?_
  rintro e wn ⟨q, L0, rfl, hq, hfo, hbn⟩
  have hbw := HBA.out.trans (hbn.mono HBA.out.size)
  have HQ0 := hide (WQ.new (w := wn) (B := W.heap.size) ⟨hq, fun b hb => Nat.le_trans HBA.out.size (hfo b hb)⟩)
  have HB0 := hide hbw
  have OL0 : Hid (OL f 0 []) := hide ⟨fun m hm => absurd hm List.not_mem_nil, fun m hm => absurd hm List.not_mem_nil, Nat.le_refl _⟩
  clear hq hfo hbn hbw NC h60
  go_wp2_with fail
  clear hf ht
  go_loopw [14, 15, 16] (fun v14 v15 _ wr => ∃ (i : Nat) (l : List Msg) (L : QL) (A : Option Addr) (c : Nat) (ws : List Int) (n : Nat), i ≤ len0 ∧ v15 = .int .i64 i ∧ v14 = .slice A n c ∧ Hid (ws.length = n) ∧ Hid (ws = (l.filter (sel ⟨⟨#[107]⟩, f, t⟩ (-1))).map (·.ca)) ∧ Hid (OL f i l) ∧ Hid (WQ wr W.heap.size q L l A c ws) ∧ Hid (Below W.heap.size W wr)) (fun _ v15 _ _ => len0 - (RowKit.intOf v15).toNat)
  case atStart => exact ⟨0, [], L0, none, 0, [], 0, Nat.zero_le _, rfl, rfl, hide rfl, hide rfl, OL0, HQ0, HB0⟩
  case round =>
    obtain ⟨i, l, L, A, c, ws, n, hi, rfl, rfl, HN, HWS, HOL, HWQ, HBW⟩ := hrel
    rename World => wr
    have h6 := H60.out
    by_cases hlt : i < len0
    rotate_left
    · have hltI : ¬ (i : Int) < (len0 : Int) := by omega
      have HOD := hide (show l.length ≤ 120 by have := HOL.out.len; omega)
      obtain ⟨R0, hR⟩ : ∃ z, l.filter (sel ⟨⟨#[107]⟩, f, t⟩ (-1)) = z := ⟨_, rfl⟩
      rw [hR] at HWS
      have HR0 := hide hR
      have HNR := hide (show R0.length = n by rw [← HN.out, HWS.out, List.length_map])
      have hnl : n ≤ 1000 := by
        have h1 : R0.length ≤ l.length := by rw [← hR]; exact List.length_filter_le _ _
        have := HNR.out
        have := HOD.out
        omega
      have HNL := hide hnl
      clear hlt h6 hnl hR
      go_wp2_with fail
      go_loopw [17, 18, 19] (fun v17 _ _ wr => ∃ (k : Nat) (l2 : List Msg) (L2 : QL), k ≤ n ∧ v17 = .int .i64 k ∧ Hid (l2.filter (sel ⟨⟨#[107]⟩, f, t⟩ (-1)) = R0.drop k) ∧ Hid (l2.length ≤ 120) ∧ Hid (WQ wr W.heap.size q L2 l2 A c ws) ∧ Hid (Below W.heap.size W wr)) (fun v17 _ _ _ => n - (RowKit.intOf v17).toNat)
      case atStart => exact ⟨0, l, L, Nat.zero_le _, rfl, hide (by rw [List.drop_zero]; exact HR0.out), HOD, HWQ, HBW⟩
      case round =>
        obtain ⟨k, l2, L2, hk, rfl, HF, HL2, HQ2, HB2⟩ := hrel
        rename World => wx
        have hn1 := HNL.out
        by_cases hlt2 : k < n
        rotate_left
        · have hltJ : ¬ (k : Int) < (n : Int) := by omega
          have CC : Hid (Calls Try.prog 22 #[.pointer (some ⟨q, 0, none⟩), .string ⟨#[107]⟩, .int .i64 f, .int .i64 t, .int .i64 (-1)] wx fun e w' => e = .returned (.tuple #[.agg #[.string ⟨#[]⟩, .int .i64 0, .int .i64 0, .int .i64 0, .int .i64 0, .int .i64 0, .int .i64 0, .bool false], .bool false]) ∧ Below wx.heap.size wx w') := hide (by
            have h := First_c HQ2.out.q1.qs ⟨⟨#[107]⟩, f, t⟩ (-1) (by have := HL2.out; omega)
            rw [show firstL l2 ⟨⟨#[107]⟩, f, t⟩ (-1) = none from by rw [first_sel, HF.out, List.drop_of_length_le (by rw [HNR.out]; omega)]; rfl] at h
            exact h)
          clear hlt2
          go_wp2_with fail
          refine CC.out.mono ?_
          rintro e w3 ⟨rfl, hb3⟩
          have hb4 := HB2.out.trans (hb3.mono HB2.out.size)
          have HB4 := hide (hb4.trans (((Below.refl w3.heap.size w3).alloc (Nat.le_refl _) (.cells #[.string ⟨#[]⟩, .int .i64 0, .int .i64 0, .int .i64 0, .int .i64 0, .int .i64 0, .int .i64 0, .bool false] 31)).mono hb4.size))
          clear hb3 hb4 CC
          go_wp2_with fail
          go_ret
          exact ⟨rfl, HB4.out⟩
        have hltJ : (k : Int) < (n : Int) := by omega
        have hkge : (0 : Int) ≤ (k : Int) := by omega
        have hkR : k < R0.length := by rw [HNR.out]; exact hlt2
        obtain ⟨⟨mk, mf, mt, mc, mg, mv, mz, mb⟩, hm⟩ : ∃ m, R0[k]? = some m := ⟨_, List.getElem?_eq_getElem hkR⟩
        have hdr : R0.drop k = ⟨mk, mf, mt, mc, mg, mv, mz, mb⟩ :: R0.drop (k + 1) := by
          obtain ⟨_, he⟩ := List.getElem?_eq_some_iff.1 hm
          rw [List.drop_eq_getElem_cons hkR, he]
        obtain ⟨t1, t2, t3, t4, t5, t6⟩ := take_sel HQ2.out.q1.qs.uq (HF.out.trans hdr)
        have hfirst : firstL l2 ⟨⟨#[107]⟩, f, t⟩ (-1) = some ⟨mk, mf, mt, mc, mg, mv, mz, mb⟩ := by rw [first_sel, HF.out, hdr]; rfl
        obtain rfl : f = mf := (congrArg Chan.fr t6).symm
        have hwho : (Msg.who ⟨mk, f, mt, mc, mg, mv, mz, mb⟩) = ⟨f, mc⟩ := rfl
        rw [hwho] at t1 t2 t3 t4 t5
        obtain ⟨l3, hl3⟩ : ∃ z, takeL l2 ⟨f, mc⟩ = z := ⟨_, rfl⟩
        rw [hl3] at t2 t3 t4 t5
        have hwk : ws[k]? = some mc := by rw [HWS.out, List.getElem?_map, hm]; rfl
        have hwl : ws.length = n := HN.out
        obtain ⟨gA, hgA, _⟩ := (NRow.of_own HQ2.out.own rfl).it k mc hwk
        subst hgA
        have HROW := hide (show ∀ wy : World, wy.ownsRow W.heap.size 3 1 (.slice (some ⟨gA, 0, none⟩) ws.length c) ws.length (ints ws) → wy.cell? ⟨gA, k, none⟩ = some (.int .i64 mc) from fun wy ho => by
          obtain ⟨g', e, _, hc⟩ := (NRow.of_own ho rfl).it k mc hwk
          cases e
          exact hc)
        have CC : Hid (Calls Try.prog 22 #[.pointer (some ⟨q, 0, none⟩), .string ⟨#[107]⟩, .int .i64 f, .int .i64 t, .int .i64 (-1)] wx fun e w' => e = .returned (.tuple #[.agg #[.string mk, .int .i64 f, .int .i64 mt, .int .i64 mc, .int .i64 mg, .int .i64 mv, .int .i64 mz, .bool mb], .bool true]) ∧ Below wx.heap.size wx w') := hide (by
          have h := First_c HQ2.out.q1.qs ⟨⟨#[107]⟩, f, t⟩ (-1) (by have := HL2.out; omega)
          rw [hfirst] at h
          exact h)
        have HT2 := hide t2
        have HL3 := hide (show l3.length ≤ 120 by rw [t5]; exact HL2.out)
        have HLT2 := hide hlt2
        have TT := hide (And.intro t1 (And.intro t3 t4))
        have HL3E := hide hl3
        clear hlt2 hkR hm hdr t1 t2 t3 t4 t5 t6 hfirst hwho hl3 hwk hwl
        go_wp2_with fail
        refine CC.out.mono ?_
        rintro e w3 ⟨rfl, hb3⟩
        have ba := (Below.refl w3.heap.size w3).alloc (Nat.le_refl _) (.cells #[.string mk, .int .i64 f, .int .i64 mt, .int .i64 mc, .int .i64 mg, .int .i64 mv, .int .i64 mz, .bool mb] 31)
        have kx := Blk.new w3 31 #[.string mk, .int .i64 f, .int .i64 mt, .int .i64 mc, .int .i64 mg, .int .i64 mv, .int .i64 mz, .bool mb]
        obtain ⟨wy, hw1⟩ : ∃ zz, w3.alloc (.cells #[.string mk, .int .i64 f, .int .i64 mt, .int .i64 mc, .int .i64 mg, .int .i64 mv, .int .i64 mz, .bool mb] 31) = zz := ⟨_, rfl⟩
        obtain ⟨X, hX⟩ : ∃ zz, w3.heap.size = zz := ⟨_, rfl⟩
        have hq3 := HQ2.out.below hb3
        have hxf : ¬ X ∈ L2.foot q := fun hm => by have := hq3.q1.qs.lt X hm; omega
        rw [hw1] at ba kx
        rw [hX] at kx
        have hbx := hb3.trans (ba.mono hb3.size)
        have hst : ST W wy q X #[.string mk, .int .i64 f, .int .i64 mt, .int .i64 mc, .int .i64 mg, .int .i64 mv, .int .i64 mz, .bool mb] (some ⟨gA, 0, none⟩) c ws l2 wy := ⟨L2, HQ2.out.below hbx, kx, hxf, HB2.out.trans (hbx.mono HB2.out.size)⟩
        have HJ0 := hide (show JT W wy q X #[.string mk, .int .i64 f, .int .i64 mt, .int .i64 mc, .int .i64 mg, .int .i64 mv, .int .i64 mz, .bool mb] (some ⟨gA, 0, none⟩) c ws l2 l3 (fun _ => none) wy.drew from ⟨fun h => (by cases h), fun _ => hst.below (Below.refl _ _).drew, fun h => (by cases h)⟩)
        have TK1 := hide (show ∀ wz : World, ST W wy q X #[.string mk, .int .i64 f, .int .i64 mt, .int .i64 mc, .int .i64 mg, .int .i64 mv, .int .i64 mz, .bool mb] (some ⟨gA, 0, none⟩) c ws l2 wz → Calls Try.prog 12 #[.pointer (some ⟨q, 0, none⟩), .int .i64 f, .int .i64 mc] wz fun e w' => e = .returned (.int .i64 0) ∧ ST W wy q X #[.string mk, .int .i64 f, .int .i64 mt, .int .i64 mc, .int .i64 mg, .int .i64 mv, .int .i64 mz, .bool mb] (some ⟨gA, 0, none⟩) c ws l3 w' from fun wz ⟨L', h1, h2, h3, h4⟩ => by
          have h := Take_c h1.q1.qs ⟨f, mc⟩ (by have := HL2.out; omega)
          rw [TT.out.1, HL3E.out] at h
          exact h.mono fun e w' ⟨he, hg⟩ => ⟨he, ST.go h1 h2 h3 h4 hg⟩)
        have TK2 := hide (show ∀ wz : World, ST W wy q X #[.string mk, .int .i64 f, .int .i64 mt, .int .i64 mc, .int .i64 mg, .int .i64 mv, .int .i64 mz, .bool mb] (some ⟨gA, 0, none⟩) c ws l3 wz → Calls Try.prog 12 #[.pointer (some ⟨q, 0, none⟩), .int .i64 f, .int .i64 mc] wz fun e w' => e = .returned (.int .i64 2) ∧ ST W wy q X #[.string mk, .int .i64 f, .int .i64 mt, .int .i64 mc, .int .i64 mg, .int .i64 mv, .int .i64 mz, .bool mb] (some ⟨gA, 0, none⟩) c ws l3 w' from fun wz ⟨L', h1, h2, h3, h4⟩ => by
          have h := Take_c h1.q1.qs ⟨f, mc⟩ (by have := HL3.out; omega)
          rw [TT.out.2.1, TT.out.2.2] at h
          exact h.mono fun e w' ⟨he, hg⟩ => ⟨he, ST.go h1 h2 h3 h4 hg⟩)
        have HE := hide (And.intro hw1 hX)
        clear hb3 ba kx hw1 hX hq3 hxf hbx hst CC
        go_upto_region 22 with (fail)
        rw [HE.out.1, HE.out.2]
        clear HE
        let R : Nat → Value → World → Prop := fun sl u w1 => match sl with
          | 101 => u = .bool true
          | 102 => u = .bool false
          | 103 => u = .bool false
          | 104 => u = .pointer (some ⟨X, 3, none⟩)
          | 105 => u = .int .i64 mc
          | 106 => u = .slice (some ⟨gA, 0, none⟩) n c
          | 107 => u = .int .i64 k
          | 108 => u = .pointer (some ⟨gA, k, none⟩)
          | 109 => u = .int .i64 mc
          | 110 => u = .bool false
          | 111 => u = .bool false
          | 112 => u = .bool false
          | 113 => u = .pointer (some ⟨q, 0, none⟩)
          | 114 => u = .int .i64 f
          | 115 => u = .pointer (some ⟨X, 3, none⟩)
          | 116 => u = .int .i64 mc
          | 117 => u = .int .i64 0
          | 118 => u = .bool false
          | 119 => u = .bool false
          | 120 => u = .bool false
          | 121 => u = .pointer (some ⟨q, 0, none⟩)
          | 122 => u = .int .i64 f
          | 123 => u = .pointer (some ⟨X, 3, none⟩)
          | 124 => u = .int .i64 mc
          | 125 => u = .int .i64 2
          | 126 => u = .bool false
          | 127 => u = .bool false
          | _ => True
        refine wp_region_relGW [(103, false), (112, false), (120, false)] R (fun _ _ => True) (fun V w1 => JT W wy q X #[.string mk, .int .i64 f, .int .i64 mt, .int .i64 mc, .int .i64 mg, .int .i64 mv, .int .i64 mz, .bool mb] (some ⟨gA, 0, none⟩) c ws l2 l3 V w1) (by kernel_rfl) (by kernel_rfl) (by kernel_rfl) (by kernel_rfl) ?mono (fun _ => trivial) HJ0.out ?gs ?step ?fin
        case mono =>
          intro sl u wx wy h hk
          match sl with
          | 0 | 1 | 2 | 3 | 4 | 5 | 6 | 7 | 8 | 9 | 10 | 11 | 12 | 13 | 14 | 15 | 16 | 17 | 18 | 19 | 20 | 21 | 22 | 23 | 24 | 25 | 26 | 27 | 28 | 29 | 30 | 31 | 32 | 33 | 34 | 35 | 36 | 37 | 38 | 39 | 40 | 41 | 42 | 43 | 44 | 45 | 46 | 47 | 48 | 49 | 50 | 51 | 52 | 53 | 54 | 55 | 56 | 57 | 58 | 59 | 60 | 61 | 62 | 63 | 64 | 65 | 66 | 67 | 68 | 69 | 70 | 71 | 72 | 73 | 74 | 75 | 76 | 77 | 78 | 79 | 80 | 81 | 82 | 83 | 84 | 85 | 86 | 87 | 88 | 89 | 90 | 91 | 92 | 93 | 94 | 95 | 96 | 97 | 98 | 99 | 100 | 101 | 102 | 103 | 104 | 105 | 106 | 107 | 108 | 109 | 110 | 111 | 112 | 113 | 114 | 115 | 116 | 117 | 118 | 119 | 120 | 121 | 122 | 123 | 124 | 125 | 126 | 127 | _ + 128 => exact h
        case gs =>
          intro p hp u w1 h
          simp only [List.mem_cons, List.not_mem_nil, or_false] at hp
          rcases hp with rfl | rfl | rfl <;> exact h
        case step =>
          intro j o ho
          match j, ho with
          | 0, ho =>
            cases ho
            intro V aa wx hV hdep hval hj hsm hr
            have e19 : aa.tmps.getD 19 undef = .bool true := hsm 19 (by decide)
            rw [Array.getD_eq_getD_getElem?] at e19
            unfold Oper.wp
            simp only [execOp, Act.eval, Array.getD_eq_getD_getElem?, e19]
            go_simp
            first | exact ⟨_, rfl, rfl, hj.plain (Below.refl _ _) (by decide) (fun h => absurd h (by decide))⟩ | exact ⟨_, rfl, hj.plain (Below.refl _ _) (by decide) (fun h => absurd h (by decide))⟩
          | 1, ho =>
            cases ho
            intro V aa wx hV hdep hval hj hsm hr
            have e101 : aa.tmps.getD 101 undef = .bool true := hr 101 (by decide) (by apply Array.mem_toList_iff.1; repeat (first | exact List.Mem.head _ | apply List.Mem.tail))
            rw [Array.getD_eq_getD_getElem?] at e101
            unfold Oper.wp
            simp only [execOp, Act.eval, Array.getD_eq_getD_getElem?, e101]
            go_simp
            first | exact ⟨_, rfl, rfl, hj.plain (Below.refl _ _) (by decide) (fun h => absurd h (by decide))⟩ | exact ⟨_, rfl, hj.plain (Below.refl _ _) (by decide) (fun h => absurd h (by decide))⟩
          | 2, ho =>
            cases ho
            intro V aa wx hV hdep hval hj hsm hr
            have e102 : aa.tmps.getD 102 undef = .bool false := hr 102 (by decide) (by apply Array.mem_toList_iff.1; repeat (first | exact List.Mem.head _ | apply List.Mem.tail))
            rw [Array.getD_eq_getD_getElem?] at e102
            unfold Oper.wp
            simp only [execOp, Act.eval, Array.getD_eq_getD_getElem?, e102]
            go_simp
            first | exact ⟨_, rfl, rfl, hj.plain (Below.refl _ _) (by decide) (fun h => absurd h (by decide))⟩ | exact ⟨_, rfl, hj.plain (Below.refl _ _) (by decide) (fun h => absurd h (by decide))⟩
          | 3, ho =>
            cases ho
            intro V aa wx hV hdep hval hj hsm hr
            have e18 : aa.tmps.getD 18 undef = .pointer (some ⟨X, 0, none⟩) := hsm 18 (by decide)
            rw [Array.getD_eq_getD_getElem?] at e18
            unfold Oper.wp
            simp only [execOp, Act.eval, Array.getD_eq_getD_getElem?, e18]
            go_simp
            first | exact ⟨_, rfl, rfl, hj.plain (Below.refl _ _) (by decide) (fun h => absurd h (by decide))⟩ | exact ⟨_, rfl, hj.plain (Below.refl _ _) (by decide) (fun h => absurd h (by decide))⟩
          | 4, ho =>
            cases ho
            intro V aa wx hV hdep hval hj hsm hr
            have e104 : aa.tmps.getD 104 undef = .pointer (some ⟨X, 3, none⟩) := hr 104 (by decide) (by apply Array.mem_toList_iff.1; repeat (first | exact List.Mem.head _ | apply List.Mem.tail))
            have y3 : wx.cell? ⟨X, 3, none⟩ = some (.int .i64 mc) := hj.blk.cell 3
            rw [Array.getD_eq_getD_getElem?] at e104
            unfold Oper.wp
            simp only [execOp, Act.eval, Array.getD_eq_getD_getElem?, e104]
            go_simp
            first | exact ⟨_, rfl, rfl, hj.plain (Below.refl _ _) (by decide) (fun h => absurd h (by decide))⟩ | exact ⟨_, rfl, hj.plain (Below.refl _ _) (by decide) (fun h => absurd h (by decide))⟩
          | 5, ho =>
            cases ho
            intro V aa wx hV hdep hval hj hsm hr
            have e14 : aa.tmps.getD 14 undef = .slice (some ⟨gA, 0, none⟩) n c := hsm 14 (by decide)
            rw [Array.getD_eq_getD_getElem?] at e14
            unfold Oper.wp
            simp only [execOp, Act.eval, Array.getD_eq_getD_getElem?, e14]
            go_simp
            first | exact ⟨_, rfl, rfl, hj.plain (Below.refl _ _) (by decide) (fun h => absurd h (by decide))⟩ | exact ⟨_, rfl, hj.plain (Below.refl _ _) (by decide) (fun h => absurd h (by decide))⟩
          | 6, ho =>
            cases ho
            intro V aa wx hV hdep hval hj hsm hr
            have e17 : aa.tmps.getD 17 undef = .int .i64 k := hsm 17 (by decide)
            rw [Array.getD_eq_getD_getElem?] at e17
            unfold Oper.wp
            simp only [execOp, Act.eval, Array.getD_eq_getD_getElem?, e17]
            go_simp
            first | exact ⟨_, rfl, rfl, hj.plain (Below.refl _ _) (by decide) (fun h => absurd h (by decide))⟩ | exact ⟨_, rfl, hj.plain (Below.refl _ _) (by decide) (fun h => absurd h (by decide))⟩
          | 7, ho =>
            cases ho
            intro V aa wx hV hdep hval hj hsm hr
            have e106 : aa.tmps.getD 106 undef = .slice (some ⟨gA, 0, none⟩) n c := hr 106 (by decide) (by apply Array.mem_toList_iff.1; repeat (first | exact List.Mem.head _ | apply List.Mem.tail))
            have e107 : aa.tmps.getD 107 undef = .int .i64 k := hr 107 (by decide) (by apply Array.mem_toList_iff.1; repeat (first | exact List.Mem.head _ | apply List.Mem.tail))
            rw [Array.getD_eq_getD_getElem?] at e106
            rw [Array.getD_eq_getD_getElem?] at e107
            unfold Oper.wp
            simp only [execOp, Act.eval, Array.getD_eq_getD_getElem?, e106, e107]
            go_simp
            first | exact ⟨_, rfl, rfl, hj.plain (Below.refl _ _) (by decide) (fun h => absurd h (by decide))⟩ | exact ⟨_, rfl, hj.plain (Below.refl _ _) (by decide) (fun h => absurd h (by decide))⟩
          | 8, ho =>
            cases ho
            intro V aa wx hV hdep hval hj hsm hr
            have e108 : aa.tmps.getD 108 undef = .pointer (some ⟨gA, k, none⟩) := hr 108 (by decide) (by apply Array.mem_toList_iff.1; repeat (first | exact List.Mem.head _ | apply List.Mem.tail))
            have ya : wx.cell? ⟨gA, k, none⟩ = some (.int .i64 mc) := HROW.out wx hj.row
            rw [Array.getD_eq_getD_getElem?] at e108
            unfold Oper.wp
            simp only [execOp, Act.eval, Array.getD_eq_getD_getElem?, e108]
            go_simp
            first | exact ⟨_, rfl, rfl, hj.plain (Below.refl _ _) (by decide) (fun h => absurd h (by decide))⟩ | exact ⟨_, rfl, hj.plain (Below.refl _ _) (by decide) (fun h => absurd h (by decide))⟩
          | 9, ho =>
            cases ho
            intro V aa wx hV hdep hval hj hsm hr
            have e105 : aa.tmps.getD 105 undef = .int .i64 mc := hr 105 (by decide) (by apply Array.mem_toList_iff.1; repeat (first | exact List.Mem.head _ | apply List.Mem.tail))
            have e109 : aa.tmps.getD 109 undef = .int .i64 mc := hr 109 (by decide) (by apply Array.mem_toList_iff.1; repeat (first | exact List.Mem.head _ | apply List.Mem.tail))
            have em : (mc != mc) = false := by simp
            rw [Array.getD_eq_getD_getElem?] at e105
            rw [Array.getD_eq_getD_getElem?] at e109
            unfold Oper.wp
            simp only [execOp, Act.eval, Array.getD_eq_getD_getElem?, e105, e109]
            go_simp
            first | exact ⟨_, rfl, rfl, hj.plain (Below.refl _ _) (by decide) (fun h => absurd h (by decide))⟩ | exact ⟨_, rfl, hj.plain (Below.refl _ _) (by decide) (fun h => absurd h (by decide))⟩
          | 10, ho =>
            cases ho
            intro V aa wx hV hdep hval hj hsm hr
            have e103 : aa.tmps.getD 103 undef = .bool false := hr 103 (by decide) (by apply Array.mem_toList_iff.1; repeat (first | exact List.Mem.head _ | apply List.Mem.tail))
            have e110 : aa.tmps.getD 110 undef = .bool false := hr 110 (by decide) (by apply Array.mem_toList_iff.1; repeat (first | exact List.Mem.head _ | apply List.Mem.tail))
            rw [Array.getD_eq_getD_getElem?] at e103
            rw [Array.getD_eq_getD_getElem?] at e110
            unfold Oper.wp
            simp only [execOp, Act.eval, Array.getD_eq_getD_getElem?, e103, e110]
            go_simp
            first | exact ⟨_, rfl, rfl, hj.plain (Below.refl _ _) (by decide) (fun h => absurd h (by decide))⟩ | exact ⟨_, rfl, hj.plain (Below.refl _ _) (by decide) (fun h => absurd h (by decide))⟩
          | 11, ho =>
            cases ho
            intro V aa wx hV hdep hval hj hsm hr
            have e111 : aa.tmps.getD 111 undef = .bool false := hr 111 (by decide) (by apply Array.mem_toList_iff.1; repeat (first | exact List.Mem.head _ | apply List.Mem.tail))
            rw [Array.getD_eq_getD_getElem?] at e111
            unfold Oper.wp
            simp only [execOp, Act.eval, Array.getD_eq_getD_getElem?, e111]
            go_simp
            first | exact ⟨_, rfl, rfl, hj.plain (Below.refl _ _) (by decide) (fun h => absurd h (by decide))⟩ | exact ⟨_, rfl, hj.plain (Below.refl _ _) (by decide) (fun h => absurd h (by decide))⟩
          | 12, ho =>
            cases ho
            intro V aa wx hV hdep hval hj hsm hr
            have e13 : aa.tmps.getD 13 undef = .pointer (some ⟨q, 0, none⟩) := hsm 13 (by decide)
            rw [Array.getD_eq_getD_getElem?] at e13
            unfold Oper.wp
            simp only [execOp, Act.eval, Array.getD_eq_getD_getElem?, e13]
            go_simp
            first | exact ⟨_, rfl, rfl, hj.plain (Below.refl _ _) (by decide) (fun h => absurd h (by decide))⟩ | exact ⟨_, rfl, hj.plain (Below.refl _ _) (by decide) (fun h => absurd h (by decide))⟩
          | 13, ho =>
            cases ho
            intro V aa wx hV hdep hval hj hsm hr
            have e11 : aa.tmps.getD 11 undef = .int .i64 f := hsm 11 (by decide)
            rw [Array.getD_eq_getD_getElem?] at e11
            unfold Oper.wp
            simp only [execOp, Act.eval, Array.getD_eq_getD_getElem?, e11]
            go_simp
            first | exact ⟨_, rfl, rfl, hj.plain (Below.refl _ _) (by decide) (fun h => absurd h (by decide))⟩ | exact ⟨_, rfl, hj.plain (Below.refl _ _) (by decide) (fun h => absurd h (by decide))⟩
          | 14, ho =>
            cases ho
            intro V aa wx hV hdep hval hj hsm hr
            have e18 : aa.tmps.getD 18 undef = .pointer (some ⟨X, 0, none⟩) := hsm 18 (by decide)
            rw [Array.getD_eq_getD_getElem?] at e18
            unfold Oper.wp
            simp only [execOp, Act.eval, Array.getD_eq_getD_getElem?, e18]
            go_simp
            first | exact ⟨_, rfl, rfl, hj.plain (Below.refl _ _) (by decide) (fun h => absurd h (by decide))⟩ | exact ⟨_, rfl, hj.plain (Below.refl _ _) (by decide) (fun h => absurd h (by decide))⟩
          | 15, ho =>
            cases ho
            intro V aa wx hV hdep hval hj hsm hr
            have e115 : aa.tmps.getD 115 undef = .pointer (some ⟨X, 3, none⟩) := hr 115 (by decide) (by apply Array.mem_toList_iff.1; repeat (first | exact List.Mem.head _ | apply List.Mem.tail))
            have y3 : wx.cell? ⟨X, 3, none⟩ = some (.int .i64 mc) := hj.blk.cell 3
            rw [Array.getD_eq_getD_getElem?] at e115
            unfold Oper.wp
            simp only [execOp, Act.eval, Array.getD_eq_getD_getElem?, e115]
            go_simp
            first | exact ⟨_, rfl, rfl, hj.plain (Below.refl _ _) (by decide) (fun h => absurd h (by decide))⟩ | exact ⟨_, rfl, hj.plain (Below.refl _ _) (by decide) (fun h => absurd h (by decide))⟩
          | 16, ho =>
            cases ho
            intro V aa wx hV hdep hval hj hsm hr
            have e113 : aa.tmps.getD 113 undef = .pointer (some ⟨q, 0, none⟩) := hr 113 (by decide) (by apply Array.mem_toList_iff.1; repeat (first | exact List.Mem.head _ | apply List.Mem.tail))
            have e114 : aa.tmps.getD 114 undef = .int .i64 f := hr 114 (by decide) (by apply Array.mem_toList_iff.1; repeat (first | exact List.Mem.head _ | apply List.Mem.tail))
            have e116 : aa.tmps.getD 116 undef = .int .i64 mc := hr 116 (by decide) (by apply Array.mem_toList_iff.1; repeat (first | exact List.Mem.head _ | apply List.Mem.tail))
            rw [Array.getD_eq_getD_getElem?] at e113
            rw [Array.getD_eq_getD_getElem?] at e114
            rw [Array.getD_eq_getD_getElem?] at e116
            unfold Oper.wp
            simp only [execOp, Act.eval, Array.getD_eq_getD_getElem?, e113, e114, e116]
            go_simp
            refine (TK1.out wx (hj.2.1 hV)).mono ?_
            rintro e w' ⟨rfl, hs⟩
            exact ⟨_, rfl, rfl, JT.first hs⟩
          | 17, ho =>
            cases ho
            intro V aa wx hV hdep hval hj hsm hr
            have e117 : aa.tmps.getD 117 undef = .int .i64 0 := hr 117 (by decide) (by apply Array.mem_toList_iff.1; repeat (first | exact List.Mem.head _ | apply List.Mem.tail))
            rw [Array.getD_eq_getD_getElem?] at e117
            unfold Oper.wp
            simp only [execOp, Act.eval, Array.getD_eq_getD_getElem?, e117]
            go_simp
            first | exact ⟨_, rfl, rfl, hj.plain (Below.refl _ _) (by decide) (fun h => absurd h (by decide))⟩ | exact ⟨_, rfl, hj.plain (Below.refl _ _) (by decide) (fun h => absurd h (by decide))⟩
          | 18, ho =>
            cases ho
            intro V aa wx hV hdep hval hj hsm hr
            have e112 : aa.tmps.getD 112 undef = .bool false := hr 112 (by decide) (by apply Array.mem_toList_iff.1; repeat (first | exact List.Mem.head _ | apply List.Mem.tail))
            have e118 : aa.tmps.getD 118 undef = .bool false := hr 118 (by decide) (by apply Array.mem_toList_iff.1; repeat (first | exact List.Mem.head _ | apply List.Mem.tail))
            rw [Array.getD_eq_getD_getElem?] at e112
            rw [Array.getD_eq_getD_getElem?] at e118
            unfold Oper.wp
            simp only [execOp, Act.eval, Array.getD_eq_getD_getElem?, e112, e118]
            go_simp
            first | exact ⟨_, rfl, rfl, hj.plain (Below.refl _ _) (by decide) (fun h => absurd h (by decide))⟩ | exact ⟨_, rfl, hj.plain (Below.refl _ _) (by decide) (fun h => absurd h (by decide))⟩
          | 19, ho =>
            cases ho
            intro V aa wx hV hdep hval hj hsm hr
            have e119 : aa.tmps.getD 119 undef = .bool false := hr 119 (by decide) (by apply Array.mem_toList_iff.1; repeat (first | exact List.Mem.head _ | apply List.Mem.tail))
            rw [Array.getD_eq_getD_getElem?] at e119
            unfold Oper.wp
            simp only [execOp, Act.eval, Array.getD_eq_getD_getElem?, e119]
            go_simp
            exact ⟨_, rfl, rfl, hj.plain (Below.refl _ _) (by decide) (fun _ => hdep ⟨16, Ground.chain⟩ (by simp) (by decide))⟩
          | 20, ho =>
            cases ho
            intro V aa wx hV hdep hval hj hsm hr
            have e13 : aa.tmps.getD 13 undef = .pointer (some ⟨q, 0, none⟩) := hsm 13 (by decide)
            rw [Array.getD_eq_getD_getElem?] at e13
            unfold Oper.wp
            simp only [execOp, Act.eval, Array.getD_eq_getD_getElem?, e13]
            go_simp
            first | exact ⟨_, rfl, rfl, hj.plain (Below.refl _ _) (by decide) (fun h => absurd h (by decide))⟩ | exact ⟨_, rfl, hj.plain (Below.refl _ _) (by decide) (fun h => absurd h (by decide))⟩
          | 21, ho =>
            cases ho
            intro V aa wx hV hdep hval hj hsm hr
            have e11 : aa.tmps.getD 11 undef = .int .i64 f := hsm 11 (by decide)
            rw [Array.getD_eq_getD_getElem?] at e11
            unfold Oper.wp
            simp only [execOp, Act.eval, Array.getD_eq_getD_getElem?, e11]
            go_simp
            first | exact ⟨_, rfl, rfl, hj.plain (Below.refl _ _) (by decide) (fun h => absurd h (by decide))⟩ | exact ⟨_, rfl, hj.plain (Below.refl _ _) (by decide) (fun h => absurd h (by decide))⟩
          | 22, ho =>
            cases ho
            intro V aa wx hV hdep hval hj hsm hr
            have e18 : aa.tmps.getD 18 undef = .pointer (some ⟨X, 0, none⟩) := hsm 18 (by decide)
            rw [Array.getD_eq_getD_getElem?] at e18
            unfold Oper.wp
            simp only [execOp, Act.eval, Array.getD_eq_getD_getElem?, e18]
            go_simp
            first | exact ⟨_, rfl, rfl, hj.plain (Below.refl _ _) (by decide) (fun h => absurd h (by decide))⟩ | exact ⟨_, rfl, hj.plain (Below.refl _ _) (by decide) (fun h => absurd h (by decide))⟩
          | 23, ho =>
            cases ho
            intro V aa wx hV hdep hval hj hsm hr
            have e123 : aa.tmps.getD 123 undef = .pointer (some ⟨X, 3, none⟩) := hr 123 (by decide) (by apply Array.mem_toList_iff.1; repeat (first | exact List.Mem.head _ | apply List.Mem.tail))
            have y3 : wx.cell? ⟨X, 3, none⟩ = some (.int .i64 mc) := hj.blk.cell 3
            rw [Array.getD_eq_getD_getElem?] at e123
            unfold Oper.wp
            simp only [execOp, Act.eval, Array.getD_eq_getD_getElem?, e123]
            go_simp
            first | exact ⟨_, rfl, rfl, hj.plain (Below.refl _ _) (by decide) (fun h => absurd h (by decide))⟩ | exact ⟨_, rfl, hj.plain (Below.refl _ _) (by decide) (fun h => absurd h (by decide))⟩
          | 24, ho =>
            cases ho
            intro V aa wx hV hdep hval hj hsm hr
            have e121 : aa.tmps.getD 121 undef = .pointer (some ⟨q, 0, none⟩) := hr 121 (by decide) (by apply Array.mem_toList_iff.1; repeat (first | exact List.Mem.head _ | apply List.Mem.tail))
            have e122 : aa.tmps.getD 122 undef = .int .i64 f := hr 122 (by decide) (by apply Array.mem_toList_iff.1; repeat (first | exact List.Mem.head _ | apply List.Mem.tail))
            have e124 : aa.tmps.getD 124 undef = .int .i64 mc := hr 124 (by decide) (by apply Array.mem_toList_iff.1; repeat (first | exact List.Mem.head _ | apply List.Mem.tail))
            rw [Array.getD_eq_getD_getElem?] at e121
            rw [Array.getD_eq_getD_getElem?] at e122
            rw [Array.getD_eq_getD_getElem?] at e124
            unfold Oper.wp
            simp only [execOp, Act.eval, Array.getD_eq_getD_getElem?, e121, e122, e124]
            go_simp
            refine (TK2.out wx (hj.2.2 (hj.1 (hdep ⟨19, Ground.chain⟩ (by simp) (by decide))))).mono ?_
            rintro e w' ⟨rfl, hs⟩
            exact ⟨_, rfl, rfl, JT.second (hj.1 (hdep ⟨19, Ground.chain⟩ (by simp) (by decide))) hs⟩
          | 25, ho =>
            cases ho
            intro V aa wx hV hdep hval hj hsm hr
            have e125 : aa.tmps.getD 125 undef = .int .i64 2 := hr 125 (by decide) (by apply Array.mem_toList_iff.1; repeat (first | exact List.Mem.head _ | apply List.Mem.tail))
            rw [Array.getD_eq_getD_getElem?] at e125
            unfold Oper.wp
            simp only [execOp, Act.eval, Array.getD_eq_getD_getElem?, e125]
            go_simp
            first | exact ⟨_, rfl, rfl, hj.plain (Below.refl _ _) (by decide) (fun h => absurd h (by decide))⟩ | exact ⟨_, rfl, hj.plain (Below.refl _ _) (by decide) (fun h => absurd h (by decide))⟩
          | 26, ho =>
            cases ho
            intro V aa wx hV hdep hval hj hsm hr
            have e120 : aa.tmps.getD 120 undef = .bool false := hr 120 (by decide) (by apply Array.mem_toList_iff.1; repeat (first | exact List.Mem.head _ | apply List.Mem.tail))
            have e126 : aa.tmps.getD 126 undef = .bool false := hr 126 (by decide) (by apply Array.mem_toList_iff.1; repeat (first | exact List.Mem.head _ | apply List.Mem.tail))
            rw [Array.getD_eq_getD_getElem?] at e120
            rw [Array.getD_eq_getD_getElem?] at e126
            unfold Oper.wp
            simp only [execOp, Act.eval, Array.getD_eq_getD_getElem?, e120, e126]
            go_simp
            first | exact ⟨_, rfl, rfl, hj.plain (Below.refl _ _) (by decide) (fun h => absurd h (by decide))⟩ | exact ⟨_, rfl, hj.plain (Below.refl _ _) (by decide) (fun h => absurd h (by decide))⟩
          | _ + 27, ho => cases ho
        case fin =>
          intro ff V wz hV hj hr
          have e127 : ff 127 = .bool false := hr 127 (by decide)
          obtain ⟨L3, h1, _, _, h4⟩ := hj.2.2 (by rw [hV 16 _ rfl]; rfl)
          have HQ3 := hide h1
          have HB3 := hide h4
          clear hV hr hj h1 h4
          simp only [putAll, slotsOf, List.filterMap_cons, List.filterMap_nil, List.foldl_cons, List.foldl_nil, Act.put, e127]
          simp only [List.setIfInBounds_toArray, List.set_cons_succ, List.set_cons_zero]
          go_wp2_with fail
          go_roundw
          case rel => exact ⟨k + 1, l3, L3, HLT2.out, by go_num, HT2, HL3, HQ3, HB3⟩
          case measure => have := HLT2.out; simp [RowKit.intOf] <;> omega
    have hltI : (i : Int) < (len0 : Int) := by omega
    have hgeI : (0 : Int) ≤ (i : Int) := by omega
    obtain ⟨x, v, rfl, hxl, hv0, hv1, hc0⟩ := HU.out wr HBW.out i hlt
    have cv : wr.cell? (x.add i) = some (.int .u8 v) := (HBW.out.cell (p := x.add i) (by rw [block_of_add]; exact hxl)).trans hc0
    obtain ⟨g, hg⟩ : ∃ z, wrap64 (Int.tmod v 4) = z := ⟨_, rfl⟩
    have rg := rem_at hv0 (m := 4) (by decide)
    have eg : wrap64 (Int.tmod v 4) = Int.tmod v 4 := by unfold wrap64; omega
    rw [← eg, hg] at rg
    have HRG := hide rg
    have HLT := hide hlt
    have hba := (Below.refl wr.heap.size wr).alloc (Nat.le_refl _) (.cells #[.string ⟨#[107]⟩, .int .i64 f, .int .i64 t, .int .i64 (2 * (i : Int)), .int .i64 g, .int .i64 0, .int .i64 1, .bool false] 31)
    have ky := Blk.new wr 31 #[.string ⟨#[107]⟩, .int .i64 f, .int .i64 t, .int .i64 (2 * (i : Int)), .int .i64 g, .int .i64 0, .int .i64 1, .bool false]
    obtain ⟨ws1, hws1⟩ : ∃ z, wr.alloc (.cells #[.string ⟨#[107]⟩, .int .i64 f, .int .i64 t, .int .i64 (2 * (i : Int)), .int .i64 g, .int .i64 0, .int .i64 1, .bool false] 31) = z := ⟨_, rfl⟩
    obtain ⟨Y, hY⟩ : ∃ z, wr.heap.size = z := ⟨_, rfl⟩
    rw [hws1] at hba ky
    have HYF := hide (show ¬ Y ∈ L.foot q from fun hm => by have := HWQ.out.q1.qs.lt Y hm; omega)
    have HYW := hide (show ∀ gg, (Value.slice A ws.length c).ownBlock = some gg → gg < Y from fun gg hgg => by have := (own_block HWQ.out.own hgg).2.1; omega)
    rw [hY] at ky
    have hwq1 := HWQ.out.below hba
    have HB1 := hide (HBW.out.trans (hba.mono HBW.out.size))
    have HWQ1 := hide hwq1
    have KY := hide ky
    have HE := hide (And.intro hws1 hY)
    have HLL := hide (show l.length ≤ 200 by have := HOL.out.len; omega)
    have CC : Hid (Calls Try.prog 10 #[.pointer (some ⟨q, 0, none⟩), .agg #[.string ⟨#[107]⟩, .int .i64 f, .int .i64 t, .int .i64 (2 * (i : Int)), .int .i64 g, .int .i64 0, .int .i64 1, .bool false]] ws1 fun e w' => e = .returned (.int .i64 0) ∧ Goes ws1 q L (l ++ [KM f t i g]) w') := hide (by
      have h := Send_c hwq1.q1.qs (KM f t i g) (by have := HLL.out; omega)
      rw [(HOL.out.k HRF.out HRT.out HRG.out).1, (HOL.out.k HRF.out HRT.out HRG.out).2] at h
      exact h)
    clear hxl hv0 hv1 hc0 rg eg hlt hba ky hws1 hY hwq1
    go_upto_region 12 with (fail)
    rw [HE.out.1, HE.out.2]
    clear HE cv hg
    have y0 : ws1.cell? ⟨Y, 0, none⟩ = some (.string ⟨#[107]⟩) := KY.out.cell 0
    have y1 : ws1.cell? ⟨Y, 1, none⟩ = some (.int .i64 f) := KY.out.cell 1
    have y2 : ws1.cell? ⟨Y, 2, none⟩ = some (.int .i64 t) := KY.out.cell 2
    have y3 : ws1.cell? ⟨Y, 3, none⟩ = some (.int .i64 (2 * (i : Int))) := KY.out.cell 3
    have y4 : ws1.cell? ⟨Y, 4, none⟩ = some (.int .i64 g) := KY.out.cell 4
    have y5 : ws1.cell? ⟨Y, 5, none⟩ = some (.int .i64 0) := KY.out.cell 5
    have y6 : ws1.cell? ⟨Y, 6, none⟩ = some (.int .i64 1) := KY.out.cell 6
    have y7 : ws1.cell? ⟨Y, 7, none⟩ = some (.bool false) := KY.out.cell 7
    go_wp2_with fail
    refine CC.out.mono ?_
    rintro e w5 ⟨rfl, hg5⟩
    have KY5 := hide (Goes.kept HWQ1.out.q1 hg5 KY.out HYF.out)
    obtain ⟨L5, hwq5, hb5, hky5, hy5⟩ := HWQ1.out.goX hg5 KY.out HYF.out
    have HWQ5 := hide hwq5
    have HB5 := hide (HB1.out.trans hb5)
    have HY5 := hide hy5
    clear hg5 hwq5 hb5 hky5 hy5 CC y0 y1 y2 y3 y4 y5 y6 y7
    have y4 : w5.cell? ⟨Y, 4, none⟩ = some (.int .i64 g) := KY5.out.cell 4
    have HTG := hide (show tagged (-1) (KM f t i g) = true from by unfold tagged; simp)
    have HWS5 := hide (show ws ++ [2 * (i : Int)] = ((l ++ [KM f t i g]).filter (sel ⟨⟨#[107]⟩, f, t⟩ (-1))).map (·.ca) by rw [sel_k, if_pos HTG.out, List.map_append, ← HWS.out]; rfl)
    have hpu := HWQ5.out.push (2 * (i : Int)) (by
      have h1 : ws.length ≤ l.length := by rw [HWS.out, List.length_map]; exact List.length_filter_le _ _
      have := HLL.out
      omega)
    rw [HN.out] at hpu
    obtain ⟨A7, c7, w7, hrun, hwq7, hb7, hgr7⟩ := hpu
    have HWQ7 := hide hwq7
    have HB7 := hide (HB5.out.trans hb7)
    have HN7 := hide (show (ws ++ [2 * (i : Int)]).length = n + 1 by rw [List.length_append, HN.out]; rfl)
    have KY7 := hide (KY5.out.grown hgr7 (fun e => by have := HYW.out Y (by rw [HN.out]; exact e.symm); omega))
    have RUN := hide hrun
    clear hrun hwq7 hb7 hgr7
    go_upto_region 15 with (fail)
    clear y4 
    go_upto_region 16 with (at_builtin; refine Lib.wpList_append_run _ rfl _ _ 49 49 rfl _ _ rfl rfl _ _ RUN.out ?_)
    cases a3 with
    | false =>
      go_wp2_with fail
      go_roundw
      case rel => exact ⟨i + 1, l ++ [KM f t i g], L5, A7, c7, (ws ++ [2 * (i : Int)]), (n + 1), HLT.out, by go_num, by first | rfl | go_num, HN7, HWS5, hide HOL.out.nk, HWQ7, HB7⟩
      case measure => have := HLT.out; simp [RowKit.intOf] <;> omega
    | true =>
      have z4 : w7.cell? ⟨Y, 4, none⟩ = some (.int .i64 g) := KY7.out.cell 4
      have DD : Hid (Calls Try.prog 10 #[.pointer (some ⟨q, 0, none⟩), .agg #[.string ⟨#[108]⟩, .int .i64 f, .int .i64 t, .int .i64 (2 * (i : Int) + 1), .int .i64 g, .int .i64 0, .int .i64 1, .bool false]] w7 fun e w' => (∃ x, e = .returned (.int .i64 x)) ∧ Goes w7 q L5 (l ++ [KM f t i g] ++ [LM f t i g]) w') := hide (by
        refine (Send_c HWQ7.out.q1.qs (LM f t i g) (by rw [List.length_append]; have := HLL.out; simp; omega)).mono ?_
        rintro e w' ⟨he, hg⟩
        rw [HOL.out.l HRF.out HRT.out HRG.out] at hg
        exact ⟨⟨_, he⟩, hg⟩)
      go_wp2_with fail
      refine DD.out.mono ?_
      rintro e w9 ⟨⟨x9, rfl⟩, hg9⟩
      obtain ⟨L9, hwq9, hb9⟩ := HWQ7.out.go hg9
      have HWQ9 := hide hwq9
      have HB9 := hide (HB7.out.trans hb9)
      have HWS9 := hide (show (ws ++ [2 * (i : Int)]) = ((l ++ [KM f t i g] ++ [LM f t i g]).filter (sel ⟨⟨#[107]⟩, f, t⟩ (-1))).map (·.ca) by rw [sel_l]; exact HWS5.out)
      clear hg9 hwq9 hb9 DD z4
      go_wp2_with fail
      go_roundw
      case rel => exact ⟨i + 1, l ++ [KM f t i g] ++ [LM f t i g], L9, A7, c7, (ws ++ [2 * (i : Int)]), (n + 1), HLT.out, by go_num, by first | rfl | go_num, HN7, HWS9, hide HOL.out.nl, HWQ9, HB9⟩
      case measure => have := HLT.out; simp [RowKit.intOf] <;> omega
set_option maxRecDepth 100000 in
set_option maxHeartbeats 32000000 in
theorem walkB (W : World) (a0 : Option Addr) (len0 cap0 : Nat) (z0 : List Int) (w0 : IsRow .u8 W a0 len0 cap0 z0) (a1 : Int) (w1 : (Lit.int .u8 a1).wf = true) (a2 : Int) (w2 : (Lit.int .u8 a2).wf = true) (a3 : Bool) (a4 : Int) (w4 : ¬ a4 = -1) :
    Calls Try.prog 5 #[.slice a0 len0 cap0, .int .u8 a1, .int .u8 a2, .bool a3, .int .i64 a4] W fun e w' => e = .returned (.bool true) ∧ Below W.heap.size W w' := by
  have hnm : (a4 == -1) = false := by simpa using w4
  have HNM := hide w4
  have AW := hide (awake_c W)
  have HU := hide (fun (wx : World) (hb : Below W.heap.size W wx) (i : Nat) (hi : i < len0) => u8_at w0 hi)
  have HR := hide w0
  have hA1 : 0 ≤ a1 := by simp [Lit.wf] at w1; have k1 : IntKind.u8.min = 0 := rfl; omega
  have hA2 : 0 ≤ a2 := by simp [Lit.wf] at w2; have k1 : IntKind.u8.min = 0 := rfl; omega
  obtain ⟨f, hf⟩ : ∃ z, wrap64 (Int.tmod a1 64) = z := ⟨_, rfl⟩
  obtain ⟨t, ht⟩ : ∃ z, wrap64 (Int.tmod a2 64) = z := ⟨_, rfl⟩
  have rf := rem_at hA1 (m := 64) (by decide)
  have rt := rem_at hA2 (m := 64) (by decide)
  have ef : wrap64 (Int.tmod a1 64) = Int.tmod a1 64 := by unfold wrap64; omega
  have et : wrap64 (Int.tmod a2 64) = Int.tmod a2 64 := by unfold wrap64; omega
  rw [← ef] at rf
  rw [← et] at rt
  rw [hf] at rf
  rw [ht] at rt
  have HRF := hide rf
  have HRT := hide rt
  clear w0 w1 w2 w4 hA1 hA2 rf rt ef et
  go_enter Try.func5, Try.ntmps5
  go_wp2_with fail
  refine AW.out.mono ?_
  rintro e wa ⟨rfl, hba⟩
  have HBA := hide hba
  clear hba AW
  by_cases h60 : (60 : Int) < (len0 : Int)
  · go_wp2_with fail
    go_ret
    exact ⟨rfl, HBA.out⟩
  have H60 := hide (show len0 ≤ 60 by omega)
  by_cases hlo : a4 < -1
  · go_wp2_with fail
    go_ret
    exact ⟨rfl, HBA.out⟩
  by_cases hhi : (3 : Int) < a4
  · go_wp2_with fail
    go_ret
    exact ⟨rfl, HBA.out⟩
  have NC := hide (New_c wa)
  go_wp2_with fail
  refine NC.out.mono ?_
  rintro e wn ⟨q, L0, rfl, hq, hfo, hbn⟩
  have hbw := HBA.out.trans (hbn.mono HBA.out.size)
  have HQ0 := hide (WQ.new (w := wn) (B := W.heap.size) ⟨hq, fun b hb => Nat.le_trans HBA.out.size (hfo b hb)⟩)
  have HB0 := hide hbw
  have OL0 : Hid (OL f 0 []) := hide ⟨fun m hm => absurd hm List.not_mem_nil, fun m hm => absurd hm List.not_mem_nil, Nat.le_refl _⟩
  clear hq hfo hbn hbw NC h60 hlo hhi
  go_wp2_with fail
  clear hf ht
  go_loopw [14, 15, 16] (fun v14 v15 _ wr => ∃ (i : Nat) (l : List Msg) (L : QL) (A : Option Addr) (c : Nat) (ws : List Int) (n : Nat), i ≤ len0 ∧ v15 = .int .i64 i ∧ v14 = .slice A n c ∧ Hid (ws.length = n) ∧ Hid (ws = (l.filter (sel ⟨⟨#[107]⟩, f, t⟩ a4)).map (·.ca)) ∧ Hid (OL f i l) ∧ Hid (WQ wr W.heap.size q L l A c ws) ∧ Hid (Below W.heap.size W wr)) (fun _ v15 _ _ => len0 - (RowKit.intOf v15).toNat)
  case atStart => exact ⟨0, [], L0, none, 0, [], 0, Nat.zero_le _, rfl, rfl, hide rfl, hide rfl, OL0, HQ0, HB0⟩
  case round =>
    obtain ⟨i, l, L, A, c, ws, n, hi, rfl, rfl, HN, HWS, HOL, HWQ, HBW⟩ := hrel
    rename World => wr
    have h6 := H60.out
    by_cases hlt : i < len0
    rotate_left
    · have hltI : ¬ (i : Int) < (len0 : Int) := by omega
      have HOD := hide (show l.length ≤ 120 by have := HOL.out.len; omega)
      obtain ⟨R0, hR⟩ : ∃ z, l.filter (sel ⟨⟨#[107]⟩, f, t⟩ a4) = z := ⟨_, rfl⟩
      rw [hR] at HWS
      have HR0 := hide hR
      have HNR := hide (show R0.length = n by rw [← HN.out, HWS.out, List.length_map])
      have hnl : n ≤ 1000 := by
        have h1 : R0.length ≤ l.length := by rw [← hR]; exact List.length_filter_le _ _
        have := HNR.out
        have := HOD.out
        omega
      have HNL := hide hnl
      clear hlt h6 hnl hR
      go_wp2_with fail
      go_loopw [17, 18, 19] (fun v17 _ _ wr => ∃ (k : Nat) (l2 : List Msg) (L2 : QL), k ≤ n ∧ v17 = .int .i64 k ∧ Hid (l2.filter (sel ⟨⟨#[107]⟩, f, t⟩ a4) = R0.drop k) ∧ Hid (l2.length ≤ 120) ∧ Hid (WQ wr W.heap.size q L2 l2 A c ws) ∧ Hid (Below W.heap.size W wr)) (fun v17 _ _ _ => n - (RowKit.intOf v17).toNat)
      case atStart => exact ⟨0, l, L, Nat.zero_le _, rfl, hide (by rw [List.drop_zero]; exact HR0.out), HOD, HWQ, HBW⟩
      case round =>
        obtain ⟨k, l2, L2, hk, rfl, HF, HL2, HQ2, HB2⟩ := hrel
        rename World => wx
        have hn1 := HNL.out
        by_cases hlt2 : k < n
        rotate_left
        · have hltJ : ¬ (k : Int) < (n : Int) := by omega
          have CC : Hid (Calls Try.prog 22 #[.pointer (some ⟨q, 0, none⟩), .string ⟨#[107]⟩, .int .i64 f, .int .i64 t, .int .i64 a4] wx fun e w' => e = .returned (.tuple #[.agg #[.string ⟨#[]⟩, .int .i64 0, .int .i64 0, .int .i64 0, .int .i64 0, .int .i64 0, .int .i64 0, .bool false], .bool false]) ∧ Below wx.heap.size wx w') := hide (by
            have h := First_c HQ2.out.q1.qs ⟨⟨#[107]⟩, f, t⟩ a4 (by have := HL2.out; omega)
            rw [show firstL l2 ⟨⟨#[107]⟩, f, t⟩ a4 = none from by rw [first_sel, HF.out, List.drop_of_length_le (by rw [HNR.out]; omega)]; rfl] at h
            exact h)
          clear hlt2
          go_wp2_with fail
          refine CC.out.mono ?_
          rintro e w3 ⟨rfl, hb3⟩
          have hb4 := HB2.out.trans (hb3.mono HB2.out.size)
          have HB4 := hide (hb4.trans (((Below.refl w3.heap.size w3).alloc (Nat.le_refl _) (.cells #[.string ⟨#[]⟩, .int .i64 0, .int .i64 0, .int .i64 0, .int .i64 0, .int .i64 0, .int .i64 0, .bool false] 31)).mono hb4.size))
          clear hb3 hb4 CC
          go_wp2_with fail
          go_ret
          exact ⟨rfl, HB4.out⟩
        have hltJ : (k : Int) < (n : Int) := by omega
        have hkge : (0 : Int) ≤ (k : Int) := by omega
        have hkR : k < R0.length := by rw [HNR.out]; exact hlt2
        obtain ⟨⟨mk, mf, mt, mc, mg, mv, mz, mb⟩, hm⟩ : ∃ m, R0[k]? = some m := ⟨_, List.getElem?_eq_getElem hkR⟩
        have hdr : R0.drop k = ⟨mk, mf, mt, mc, mg, mv, mz, mb⟩ :: R0.drop (k + 1) := by
          obtain ⟨_, he⟩ := List.getElem?_eq_some_iff.1 hm
          rw [List.drop_eq_getElem_cons hkR, he]
        obtain ⟨t1, t2, t3, t4, t5, t6⟩ := take_sel HQ2.out.q1.qs.uq (HF.out.trans hdr)
        have hfirst : firstL l2 ⟨⟨#[107]⟩, f, t⟩ a4 = some ⟨mk, mf, mt, mc, mg, mv, mz, mb⟩ := by rw [first_sel, HF.out, hdr]; rfl
        obtain rfl : f = mf := (congrArg Chan.fr t6).symm
        have hwho : (Msg.who ⟨mk, f, mt, mc, mg, mv, mz, mb⟩) = ⟨f, mc⟩ := rfl
        rw [hwho] at t1 t2 t3 t4 t5
        obtain ⟨l3, hl3⟩ : ∃ z, takeL l2 ⟨f, mc⟩ = z := ⟨_, rfl⟩
        rw [hl3] at t2 t3 t4 t5
        have hwk : ws[k]? = some mc := by rw [HWS.out, List.getElem?_map, hm]; rfl
        have hwl : ws.length = n := HN.out
        obtain ⟨gA, hgA, _⟩ := (NRow.of_own HQ2.out.own rfl).it k mc hwk
        subst hgA
        have HROW := hide (show ∀ wy : World, wy.ownsRow W.heap.size 3 1 (.slice (some ⟨gA, 0, none⟩) ws.length c) ws.length (ints ws) → wy.cell? ⟨gA, k, none⟩ = some (.int .i64 mc) from fun wy ho => by
          obtain ⟨g', e, _, hc⟩ := (NRow.of_own ho rfl).it k mc hwk
          cases e
          exact hc)
        have CC : Hid (Calls Try.prog 22 #[.pointer (some ⟨q, 0, none⟩), .string ⟨#[107]⟩, .int .i64 f, .int .i64 t, .int .i64 a4] wx fun e w' => e = .returned (.tuple #[.agg #[.string mk, .int .i64 f, .int .i64 mt, .int .i64 mc, .int .i64 mg, .int .i64 mv, .int .i64 mz, .bool mb], .bool true]) ∧ Below wx.heap.size wx w') := hide (by
          have h := First_c HQ2.out.q1.qs ⟨⟨#[107]⟩, f, t⟩ a4 (by have := HL2.out; omega)
          rw [hfirst] at h
          exact h)
        have HT2 := hide t2
        have HL3 := hide (show l3.length ≤ 120 by rw [t5]; exact HL2.out)
        have HLT2 := hide hlt2
        have TT := hide (And.intro t1 (And.intro t3 t4))
        have HL3E := hide hl3
        clear hlt2 hkR hm hdr t1 t2 t3 t4 t5 t6 hfirst hwho hl3 hwk hwl
        go_wp2_with fail
        refine CC.out.mono ?_
        rintro e w3 ⟨rfl, hb3⟩
        have ba := (Below.refl w3.heap.size w3).alloc (Nat.le_refl _) (.cells #[.string mk, .int .i64 f, .int .i64 mt, .int .i64 mc, .int .i64 mg, .int .i64 mv, .int .i64 mz, .bool mb] 31)
        have kx := Blk.new w3 31 #[.string mk, .int .i64 f, .int .i64 mt, .int .i64 mc, .int .i64 mg, .int .i64 mv, .int .i64 mz, .bool mb]
        obtain ⟨wy, hw1⟩ : ∃ zz, w3.alloc (.cells #[.string mk, .int .i64 f, .int .i64 mt, .int .i64 mc, .int .i64 mg, .int .i64 mv, .int .i64 mz, .bool mb] 31) = zz := ⟨_, rfl⟩
        obtain ⟨X, hX⟩ : ∃ zz, w3.heap.size = zz := ⟨_, rfl⟩
        have hq3 := HQ2.out.below hb3
        have hxf : ¬ X ∈ L2.foot q := fun hm => by have := hq3.q1.qs.lt X hm; omega
        rw [hw1] at ba kx
        rw [hX] at kx
        have hbx := hb3.trans (ba.mono hb3.size)
        have hst : ST W wy q X #[.string mk, .int .i64 f, .int .i64 mt, .int .i64 mc, .int .i64 mg, .int .i64 mv, .int .i64 mz, .bool mb] (some ⟨gA, 0, none⟩) c ws l2 wy := ⟨L2, HQ2.out.below hbx, kx, hxf, HB2.out.trans (hbx.mono HB2.out.size)⟩
        have HJ0 := hide (show JT W wy q X #[.string mk, .int .i64 f, .int .i64 mt, .int .i64 mc, .int .i64 mg, .int .i64 mv, .int .i64 mz, .bool mb] (some ⟨gA, 0, none⟩) c ws l2 l3 (fun _ => none) wy.drew from ⟨fun h => (by cases h), fun _ => hst.below (Below.refl _ _).drew, fun h => (by cases h)⟩)
        have TK1 := hide (show ∀ wz : World, ST W wy q X #[.string mk, .int .i64 f, .int .i64 mt, .int .i64 mc, .int .i64 mg, .int .i64 mv, .int .i64 mz, .bool mb] (some ⟨gA, 0, none⟩) c ws l2 wz → Calls Try.prog 12 #[.pointer (some ⟨q, 0, none⟩), .int .i64 f, .int .i64 mc] wz fun e w' => e = .returned (.int .i64 0) ∧ ST W wy q X #[.string mk, .int .i64 f, .int .i64 mt, .int .i64 mc, .int .i64 mg, .int .i64 mv, .int .i64 mz, .bool mb] (some ⟨gA, 0, none⟩) c ws l3 w' from fun wz ⟨L', h1, h2, h3, h4⟩ => by
          have h := Take_c h1.q1.qs ⟨f, mc⟩ (by have := HL2.out; omega)
          rw [TT.out.1, HL3E.out] at h
          exact h.mono fun e w' ⟨he, hg⟩ => ⟨he, ST.go h1 h2 h3 h4 hg⟩)
        have TK2 := hide (show ∀ wz : World, ST W wy q X #[.string mk, .int .i64 f, .int .i64 mt, .int .i64 mc, .int .i64 mg, .int .i64 mv, .int .i64 mz, .bool mb] (some ⟨gA, 0, none⟩) c ws l3 wz → Calls Try.prog 12 #[.pointer (some ⟨q, 0, none⟩), .int .i64 f, .int .i64 mc] wz fun e w' => e = .returned (.int .i64 2) ∧ ST W wy q X #[.string mk, .int .i64 f, .int .i64 mt, .int .i64 mc, .int .i64 mg, .int .i64 mv, .int .i64 mz, .bool mb] (some ⟨gA, 0, none⟩) c ws l3 w' from fun wz ⟨L', h1, h2, h3, h4⟩ => by
          have h := Take_c h1.q1.qs ⟨f, mc⟩ (by have := HL3.out; omega)
          rw [TT.out.2.1, TT.out.2.2] at h
          exact h.mono fun e w' ⟨he, hg⟩ => ⟨he, ST.go h1 h2 h3 h4 hg⟩)
        have HE := hide (And.intro hw1 hX)
        clear hb3 ba kx hw1 hX hq3 hxf hbx hst CC
        go_upto_region 22 with (fail)
        rw [HE.out.1, HE.out.2]
        clear HE
        let R : Nat → Value → World → Prop := fun sl u w1 => match sl with
          | 101 => u = .bool true
          | 102 => u = .bool false
          | 103 => u = .bool false
          | 104 => u = .pointer (some ⟨X, 3, none⟩)
          | 105 => u = .int .i64 mc
          | 106 => u = .slice (some ⟨gA, 0, none⟩) n c
          | 107 => u = .int .i64 k
          | 108 => u = .pointer (some ⟨gA, k, none⟩)
          | 109 => u = .int .i64 mc
          | 110 => u = .bool false
          | 111 => u = .bool false
          | 112 => u = .bool false
          | 113 => u = .pointer (some ⟨q, 0, none⟩)
          | 114 => u = .int .i64 f
          | 115 => u = .pointer (some ⟨X, 3, none⟩)
          | 116 => u = .int .i64 mc
          | 117 => u = .int .i64 0
          | 118 => u = .bool false
          | 119 => u = .bool false
          | 120 => u = .bool false
          | 121 => u = .pointer (some ⟨q, 0, none⟩)
          | 122 => u = .int .i64 f
          | 123 => u = .pointer (some ⟨X, 3, none⟩)
          | 124 => u = .int .i64 mc
          | 125 => u = .int .i64 2
          | 126 => u = .bool false
          | 127 => u = .bool false
          | _ => True
        refine wp_region_relGW [(103, false), (112, false), (120, false)] R (fun _ _ => True) (fun V w1 => JT W wy q X #[.string mk, .int .i64 f, .int .i64 mt, .int .i64 mc, .int .i64 mg, .int .i64 mv, .int .i64 mz, .bool mb] (some ⟨gA, 0, none⟩) c ws l2 l3 V w1) (by kernel_rfl) (by kernel_rfl) (by kernel_rfl) (by kernel_rfl) ?mono (fun _ => trivial) HJ0.out ?gs ?step ?fin
        case mono =>
          intro sl u wx wy h hk
          match sl with
          | 0 | 1 | 2 | 3 | 4 | 5 | 6 | 7 | 8 | 9 | 10 | 11 | 12 | 13 | 14 | 15 | 16 | 17 | 18 | 19 | 20 | 21 | 22 | 23 | 24 | 25 | 26 | 27 | 28 | 29 | 30 | 31 | 32 | 33 | 34 | 35 | 36 | 37 | 38 | 39 | 40 | 41 | 42 | 43 | 44 | 45 | 46 | 47 | 48 | 49 | 50 | 51 | 52 | 53 | 54 | 55 | 56 | 57 | 58 | 59 | 60 | 61 | 62 | 63 | 64 | 65 | 66 | 67 | 68 | 69 | 70 | 71 | 72 | 73 | 74 | 75 | 76 | 77 | 78 | 79 | 80 | 81 | 82 | 83 | 84 | 85 | 86 | 87 | 88 | 89 | 90 | 91 | 92 | 93 | 94 | 95 | 96 | 97 | 98 | 99 | 100 | 101 | 102 | 103 | 104 | 105 | 106 | 107 | 108 | 109 | 110 | 111 | 112 | 113 | 114 | 115 | 116 | 117 | 118 | 119 | 120 | 121 | 122 | 123 | 124 | 125 | 126 | 127 | _ + 128 => exact h
        case gs =>
          intro p hp u w1 h
          simp only [List.mem_cons, List.not_mem_nil, or_false] at hp
          rcases hp with rfl | rfl | rfl <;> exact h
        case step =>
          intro j o ho
          match j, ho with
          | 0, ho =>
            cases ho
            intro V aa wx hV hdep hval hj hsm hr
            have e19 : aa.tmps.getD 19 undef = .bool true := hsm 19 (by decide)
            rw [Array.getD_eq_getD_getElem?] at e19
            unfold Oper.wp
            simp only [execOp, Act.eval, Array.getD_eq_getD_getElem?, e19]
            go_simp
            first | exact ⟨_, rfl, rfl, hj.plain (Below.refl _ _) (by decide) (fun h => absurd h (by decide))⟩ | exact ⟨_, rfl, hj.plain (Below.refl _ _) (by decide) (fun h => absurd h (by decide))⟩
          | 1, ho =>
            cases ho
            intro V aa wx hV hdep hval hj hsm hr
            have e101 : aa.tmps.getD 101 undef = .bool true := hr 101 (by decide) (by apply Array.mem_toList_iff.1; repeat (first | exact List.Mem.head _ | apply List.Mem.tail))
            rw [Array.getD_eq_getD_getElem?] at e101
            unfold Oper.wp
            simp only [execOp, Act.eval, Array.getD_eq_getD_getElem?, e101]
            go_simp
            first | exact ⟨_, rfl, rfl, hj.plain (Below.refl _ _) (by decide) (fun h => absurd h (by decide))⟩ | exact ⟨_, rfl, hj.plain (Below.refl _ _) (by decide) (fun h => absurd h (by decide))⟩
          | 2, ho =>
            cases ho
            intro V aa wx hV hdep hval hj hsm hr
            have e102 : aa.tmps.getD 102 undef = .bool false := hr 102 (by decide) (by apply Array.mem_toList_iff.1; repeat (first | exact List.Mem.head _ | apply List.Mem.tail))
            rw [Array.getD_eq_getD_getElem?] at e102
            unfold Oper.wp
            simp only [execOp, Act.eval, Array.getD_eq_getD_getElem?, e102]
            go_simp
            first | exact ⟨_, rfl, rfl, hj.plain (Below.refl _ _) (by decide) (fun h => absurd h (by decide))⟩ | exact ⟨_, rfl, hj.plain (Below.refl _ _) (by decide) (fun h => absurd h (by decide))⟩
          | 3, ho =>
            cases ho
            intro V aa wx hV hdep hval hj hsm hr
            have e18 : aa.tmps.getD 18 undef = .pointer (some ⟨X, 0, none⟩) := hsm 18 (by decide)
            rw [Array.getD_eq_getD_getElem?] at e18
            unfold Oper.wp
            simp only [execOp, Act.eval, Array.getD_eq_getD_getElem?, e18]
            go_simp
            first | exact ⟨_, rfl, rfl, hj.plain (Below.refl _ _) (by decide) (fun h => absurd h (by decide))⟩ | exact ⟨_, rfl, hj.plain (Below.refl _ _) (by decide) (fun h => absurd h (by decide))⟩
          | 4, ho =>
            cases ho
            intro V aa wx hV hdep hval hj hsm hr
            have e104 : aa.tmps.getD 104 undef = .pointer (some ⟨X, 3, none⟩) := hr 104 (by decide) (by apply Array.mem_toList_iff.1; repeat (first | exact List.Mem.head _ | apply List.Mem.tail))
            have y3 : wx.cell? ⟨X, 3, none⟩ = some (.int .i64 mc) := hj.blk.cell 3
            rw [Array.getD_eq_getD_getElem?] at e104
            unfold Oper.wp
            simp only [execOp, Act.eval, Array.getD_eq_getD_getElem?, e104]
            go_simp
            first | exact ⟨_, rfl, rfl, hj.plain (Below.refl _ _) (by decide) (fun h => absurd h (by decide))⟩ | exact ⟨_, rfl, hj.plain (Below.refl _ _) (by decide) (fun h => absurd h (by decide))⟩
          | 5, ho =>
            cases ho
            intro V aa wx hV hdep hval hj hsm hr
            have e14 : aa.tmps.getD 14 undef = .slice (some ⟨gA, 0, none⟩) n c := hsm 14 (by decide)
            rw [Array.getD_eq_getD_getElem?] at e14
            unfold Oper.wp
            simp only [execOp, Act.eval, Array.getD_eq_getD_getElem?, e14]
            go_simp
            first | exact ⟨_, rfl, rfl, hj.plain (Below.refl _ _) (by decide) (fun h => absurd h (by decide))⟩ | exact ⟨_, rfl, hj.plain (Below.refl _ _) (by decide) (fun h => absurd h (by decide))⟩
          | 6, ho =>
            cases ho
            intro V aa wx hV hdep hval hj hsm hr
            have e17 : aa.tmps.getD 17 undef = .int .i64 k := hsm 17 (by decide)
            rw [Array.getD_eq_getD_getElem?] at e17
            unfold Oper.wp
            simp only [execOp, Act.eval, Array.getD_eq_getD_getElem?, e17]
            go_simp
            first | exact ⟨_, rfl, rfl, hj.plain (Below.refl _ _) (by decide) (fun h => absurd h (by decide))⟩ | exact ⟨_, rfl, hj.plain (Below.refl _ _) (by decide) (fun h => absurd h (by decide))⟩
          | 7, ho =>
            cases ho
            intro V aa wx hV hdep hval hj hsm hr
            have e106 : aa.tmps.getD 106 undef = .slice (some ⟨gA, 0, none⟩) n c := hr 106 (by decide) (by apply Array.mem_toList_iff.1; repeat (first | exact List.Mem.head _ | apply List.Mem.tail))
            have e107 : aa.tmps.getD 107 undef = .int .i64 k := hr 107 (by decide) (by apply Array.mem_toList_iff.1; repeat (first | exact List.Mem.head _ | apply List.Mem.tail))
            rw [Array.getD_eq_getD_getElem?] at e106
            rw [Array.getD_eq_getD_getElem?] at e107
            unfold Oper.wp
            simp only [execOp, Act.eval, Array.getD_eq_getD_getElem?, e106, e107]
            go_simp
            first | exact ⟨_, rfl, rfl, hj.plain (Below.refl _ _) (by decide) (fun h => absurd h (by decide))⟩ | exact ⟨_, rfl, hj.plain (Below.refl _ _) (by decide) (fun h => absurd h (by decide))⟩
          | 8, ho =>
            cases ho
            intro V aa wx hV hdep hval hj hsm hr
            have e108 : aa.tmps.getD 108 undef = .pointer (some ⟨gA, k, none⟩) := hr 108 (by decide) (by apply Array.mem_toList_iff.1; repeat (first | exact List.Mem.head _ | apply List.Mem.tail))
            have ya : wx.cell? ⟨gA, k, none⟩ = some (.int .i64 mc) := HROW.out wx hj.row
            rw [Array.getD_eq_getD_getElem?] at e108
            unfold Oper.wp
            simp only [execOp, Act.eval, Array.getD_eq_getD_getElem?, e108]
            go_simp
            first | exact ⟨_, rfl, rfl, hj.plain (Below.refl _ _) (by decide) (fun h => absurd h (by decide))⟩ | exact ⟨_, rfl, hj.plain (Below.refl _ _) (by decide) (fun h => absurd h (by decide))⟩
          | 9, ho =>
            cases ho
            intro V aa wx hV hdep hval hj hsm hr
            have e105 : aa.tmps.getD 105 undef = .int .i64 mc := hr 105 (by decide) (by apply Array.mem_toList_iff.1; repeat (first | exact List.Mem.head _ | apply List.Mem.tail))
            have e109 : aa.tmps.getD 109 undef = .int .i64 mc := hr 109 (by decide) (by apply Array.mem_toList_iff.1; repeat (first | exact List.Mem.head _ | apply List.Mem.tail))
            have em : (mc != mc) = false := by simp
            rw [Array.getD_eq_getD_getElem?] at e105
            rw [Array.getD_eq_getD_getElem?] at e109
            unfold Oper.wp
            simp only [execOp, Act.eval, Array.getD_eq_getD_getElem?, e105, e109]
            go_simp
            first | exact ⟨_, rfl, rfl, hj.plain (Below.refl _ _) (by decide) (fun h => absurd h (by decide))⟩ | exact ⟨_, rfl, hj.plain (Below.refl _ _) (by decide) (fun h => absurd h (by decide))⟩
          | 10, ho =>
            cases ho
            intro V aa wx hV hdep hval hj hsm hr
            have e103 : aa.tmps.getD 103 undef = .bool false := hr 103 (by decide) (by apply Array.mem_toList_iff.1; repeat (first | exact List.Mem.head _ | apply List.Mem.tail))
            have e110 : aa.tmps.getD 110 undef = .bool false := hr 110 (by decide) (by apply Array.mem_toList_iff.1; repeat (first | exact List.Mem.head _ | apply List.Mem.tail))
            rw [Array.getD_eq_getD_getElem?] at e103
            rw [Array.getD_eq_getD_getElem?] at e110
            unfold Oper.wp
            simp only [execOp, Act.eval, Array.getD_eq_getD_getElem?, e103, e110]
            go_simp
            first | exact ⟨_, rfl, rfl, hj.plain (Below.refl _ _) (by decide) (fun h => absurd h (by decide))⟩ | exact ⟨_, rfl, hj.plain (Below.refl _ _) (by decide) (fun h => absurd h (by decide))⟩
          | 11, ho =>
            cases ho
            intro V aa wx hV hdep hval hj hsm hr
            have e111 : aa.tmps.getD 111 undef = .bool false := hr 111 (by decide) (by apply Array.mem_toList_iff.1; repeat (first | exact List.Mem.head _ | apply List.Mem.tail))
            rw [Array.getD_eq_getD_getElem?] at e111
            unfold Oper.wp
            simp only [execOp, Act.eval, Array.getD_eq_getD_getElem?, e111]
            go_simp
            first | exact ⟨_, rfl, rfl, hj.plain (Below.refl _ _) (by decide) (fun h => absurd h (by decide))⟩ | exact ⟨_, rfl, hj.plain (Below.refl _ _) (by decide) (fun h => absurd h (by decide))⟩
          | 12, ho =>
            cases ho
            intro V aa wx hV hdep hval hj hsm hr
            have e13 : aa.tmps.getD 13 undef = .pointer (some ⟨q, 0, none⟩) := hsm 13 (by decide)
            rw [Array.getD_eq_getD_getElem?] at e13
            unfold Oper.wp
            simp only [execOp, Act.eval, Array.getD_eq_getD_getElem?, e13]
            go_simp
            first | exact ⟨_, rfl, rfl, hj.plain (Below.refl _ _) (by decide) (fun h => absurd h (by decide))⟩ | exact ⟨_, rfl, hj.plain (Below.refl _ _) (by decide) (fun h => absurd h (by decide))⟩
          | 13, ho =>
            cases ho
            intro V aa wx hV hdep hval hj hsm hr
            have e11 : aa.tmps.getD 11 undef = .int .i64 f := hsm 11 (by decide)
            rw [Array.getD_eq_getD_getElem?] at e11
            unfold Oper.wp
            simp only [execOp, Act.eval, Array.getD_eq_getD_getElem?, e11]
            go_simp
            first | exact ⟨_, rfl, rfl, hj.plain (Below.refl _ _) (by decide) (fun h => absurd h (by decide))⟩ | exact ⟨_, rfl, hj.plain (Below.refl _ _) (by decide) (fun h => absurd h (by decide))⟩
          | 14, ho =>
            cases ho
            intro V aa wx hV hdep hval hj hsm hr
            have e18 : aa.tmps.getD 18 undef = .pointer (some ⟨X, 0, none⟩) := hsm 18 (by decide)
            rw [Array.getD_eq_getD_getElem?] at e18
            unfold Oper.wp
            simp only [execOp, Act.eval, Array.getD_eq_getD_getElem?, e18]
            go_simp
            first | exact ⟨_, rfl, rfl, hj.plain (Below.refl _ _) (by decide) (fun h => absurd h (by decide))⟩ | exact ⟨_, rfl, hj.plain (Below.refl _ _) (by decide) (fun h => absurd h (by decide))⟩
          | 15, ho =>
            cases ho
            intro V aa wx hV hdep hval hj hsm hr
            have e115 : aa.tmps.getD 115 undef = .pointer (some ⟨X, 3, none⟩) := hr 115 (by decide) (by apply Array.mem_toList_iff.1; repeat (first | exact List.Mem.head _ | apply List.Mem.tail))
            have y3 : wx.cell? ⟨X, 3, none⟩ = some (.int .i64 mc) := hj.blk.cell 3
            rw [Array.getD_eq_getD_getElem?] at e115
            unfold Oper.wp
            simp only [execOp, Act.eval, Array.getD_eq_getD_getElem?, e115]
            go_simp
            first | exact ⟨_, rfl, rfl, hj.plain (Below.refl _ _) (by decide) (fun h => absurd h (by decide))⟩ | exact ⟨_, rfl, hj.plain (Below.refl _ _) (by decide) (fun h => absurd h (by decide))⟩
          | 16, ho =>
            cases ho
            intro V aa wx hV hdep hval hj hsm hr
            have e113 : aa.tmps.getD 113 undef = .pointer (some ⟨q, 0, none⟩) := hr 113 (by decide) (by apply Array.mem_toList_iff.1; repeat (first | exact List.Mem.head _ | apply List.Mem.tail))
            have e114 : aa.tmps.getD 114 undef = .int .i64 f := hr 114 (by decide) (by apply Array.mem_toList_iff.1; repeat (first | exact List.Mem.head _ | apply List.Mem.tail))
            have e116 : aa.tmps.getD 116 undef = .int .i64 mc := hr 116 (by decide) (by apply Array.mem_toList_iff.1; repeat (first | exact List.Mem.head _ | apply List.Mem.tail))
            rw [Array.getD_eq_getD_getElem?] at e113
            rw [Array.getD_eq_getD_getElem?] at e114
            rw [Array.getD_eq_getD_getElem?] at e116
            unfold Oper.wp
            simp only [execOp, Act.eval, Array.getD_eq_getD_getElem?, e113, e114, e116]
            go_simp
            refine (TK1.out wx (hj.2.1 hV)).mono ?_
            rintro e w' ⟨rfl, hs⟩
            exact ⟨_, rfl, rfl, JT.first hs⟩
          | 17, ho =>
            cases ho
            intro V aa wx hV hdep hval hj hsm hr
            have e117 : aa.tmps.getD 117 undef = .int .i64 0 := hr 117 (by decide) (by apply Array.mem_toList_iff.1; repeat (first | exact List.Mem.head _ | apply List.Mem.tail))
            rw [Array.getD_eq_getD_getElem?] at e117
            unfold Oper.wp
            simp only [execOp, Act.eval, Array.getD_eq_getD_getElem?, e117]
            go_simp
            first | exact ⟨_, rfl, rfl, hj.plain (Below.refl _ _) (by decide) (fun h => absurd h (by decide))⟩ | exact ⟨_, rfl, hj.plain (Below.refl _ _) (by decide) (fun h => absurd h (by decide))⟩
          | 18, ho =>
            cases ho
            intro V aa wx hV hdep hval hj hsm hr
            have e112 : aa.tmps.getD 112 undef = .bool false := hr 112 (by decide) (by apply Array.mem_toList_iff.1; repeat (first | exact List.Mem.head _ | apply List.Mem.tail))
            have e118 : aa.tmps.getD 118 undef = .bool false := hr 118 (by decide) (by apply Array.mem_toList_iff.1; repeat (first | exact List.Mem.head _ | apply List.Mem.tail))
            rw [Array.getD_eq_getD_getElem?] at e112
            rw [Array.getD_eq_getD_getElem?] at e118
            unfold Oper.wp
            simp only [execOp, Act.eval, Array.getD_eq_getD_getElem?, e112, e118]
            go_simp
            first | exact ⟨_, rfl, rfl, hj.plain (Below.refl _ _) (by decide) (fun h => absurd h (by decide))⟩ | exact ⟨_, rfl, hj.plain (Below.refl _ _) (by decide) (fun h => absurd h (by decide))⟩
          | 19, ho =>
            cases ho
            intro V aa wx hV hdep hval hj hsm hr
            have e119 : aa.tmps.getD 119 undef = .bool false := hr 119 (by decide) (by apply Array.mem_toList_iff.1; repeat (first | exact List.Mem.head _ | apply List.Mem.tail))
            rw [Array.getD_eq_getD_getElem?] at e119
            unfold Oper.wp
            simp only [execOp, Act.eval, Array.getD_eq_getD_getElem?, e119]
            go_simp
            exact ⟨_, rfl, rfl, hj.plain (Below.refl _ _) (by decide) (fun _ => hdep ⟨16, Ground.chain⟩ (by simp) (by decide))⟩
          | 20, ho =>
            cases ho
            intro V aa wx hV hdep hval hj hsm hr
            have e13 : aa.tmps.getD 13 undef = .pointer (some ⟨q, 0, none⟩) := hsm 13 (by decide)
            rw [Array.getD_eq_getD_getElem?] at e13
            unfold Oper.wp
            simp only [execOp, Act.eval, Array.getD_eq_getD_getElem?, e13]
            go_simp
            first | exact ⟨_, rfl, rfl, hj.plain (Below.refl _ _) (by decide) (fun h => absurd h (by decide))⟩ | exact ⟨_, rfl, hj.plain (Below.refl _ _) (by decide) (fun h => absurd h (by decide))⟩
          | 21, ho =>
            cases ho
            intro V aa wx hV hdep hval hj hsm hr
            have e11 : aa.tmps.getD 11 undef = .int .i64 f := hsm 11 (by decide)
            rw [Array.getD_eq_getD_getElem?] at e11
            unfold Oper.wp
            simp only [execOp, Act.eval, Array.getD_eq_getD_getElem?, e11]
            go_simp
            first | exact ⟨_, rfl, rfl, hj.plain (Below.refl _ _) (by decide) (fun h => absurd h (by decide))⟩ | exact ⟨_, rfl, hj.plain (Below.refl _ _) (by decide) (fun h => absurd h (by decide))⟩
          | 22, ho =>
            cases ho
            intro V aa wx hV hdep hval hj hsm hr
            have e18 : aa.tmps.getD 18 undef = .pointer (some ⟨X, 0, none⟩) := hsm 18 (by decide)
            rw [Array.getD_eq_getD_getElem?] at e18
            unfold Oper.wp
            simp only [execOp, Act.eval, Array.getD_eq_getD_getElem?, e18]
            go_simp
            first | exact ⟨_, rfl, rfl, hj.plain (Below.refl _ _) (by decide) (fun h => absurd h (by decide))⟩ | exact ⟨_, rfl, hj.plain (Below.refl _ _) (by decide) (fun h => absurd h (by decide))⟩
          | 23, ho =>
            cases ho
            intro V aa wx hV hdep hval hj hsm hr
            have e123 : aa.tmps.getD 123 undef = .pointer (some ⟨X, 3, none⟩) := hr 123 (by decide) (by apply Array.mem_toList_iff.1; repeat (first | exact List.Mem.head _ | apply List.Mem.tail))
            have y3 : wx.cell? ⟨X, 3, none⟩ = some (.int .i64 mc) := hj.blk.cell 3
            rw [Array.getD_eq_getD_getElem?] at e123
            unfold Oper.wp
            simp only [execOp, Act.eval, Array.getD_eq_getD_getElem?, e123]
            go_simp
            first | exact ⟨_, rfl, rfl, hj.plain (Below.refl _ _) (by decide) (fun h => absurd h (by decide))⟩ | exact ⟨_, rfl, hj.plain (Below.refl _ _) (by decide) (fun h => absurd h (by decide))⟩
          | 24, ho =>
            cases ho
            intro V aa wx hV hdep hval hj hsm hr
            have e121 : aa.tmps.getD 121 undef = .pointer (some ⟨q, 0, none⟩) := hr 121 (by decide) (by apply Array.mem_toList_iff.1; repeat (first | exact List.Mem.head _ | apply List.Mem.tail))
            have e122 : aa.tmps.getD 122 undef = .int .i64 f := hr 122 (by decide) (by apply Array.mem_toList_iff.1; repeat (first | exact List.Mem.head _ | apply List.Mem.tail))
            have e124 : aa.tmps.getD 124 undef = .int .i64 mc := hr 124 (by decide) (by apply Array.mem_toList_iff.1; repeat (first | exact List.Mem.head _ | apply List.Mem.tail))
            rw [Array.getD_eq_getD_getElem?] at e121
            rw [Array.getD_eq_getD_getElem?] at e122
            rw [Array.getD_eq_getD_getElem?] at e124
            unfold Oper.wp
            simp only [execOp, Act.eval, Array.getD_eq_getD_getElem?, e121, e122, e124]
            go_simp
            refine (TK2.out wx (hj.2.2 (hj.1 (hdep ⟨19, Ground.chain⟩ (by simp) (by decide))))).mono ?_
            rintro e w' ⟨rfl, hs⟩
            exact ⟨_, rfl, rfl, JT.second (hj.1 (hdep ⟨19, Ground.chain⟩ (by simp) (by decide))) hs⟩
          | 25, ho =>
            cases ho
            intro V aa wx hV hdep hval hj hsm hr
            have e125 : aa.tmps.getD 125 undef = .int .i64 2 := hr 125 (by decide) (by apply Array.mem_toList_iff.1; repeat (first | exact List.Mem.head _ | apply List.Mem.tail))
            rw [Array.getD_eq_getD_getElem?] at e125
            unfold Oper.wp
            simp only [execOp, Act.eval, Array.getD_eq_getD_getElem?, e125]
            go_simp
            first | exact ⟨_, rfl, rfl, hj.plain (Below.refl _ _) (by decide) (fun h => absurd h (by decide))⟩ | exact ⟨_, rfl, hj.plain (Below.refl _ _) (by decide) (fun h => absurd h (by decide))⟩
          | 26, ho =>
            cases ho
            intro V aa wx hV hdep hval hj hsm hr
            have e120 : aa.tmps.getD 120 undef = .bool false := hr 120 (by decide) (by apply Array.mem_toList_iff.1; repeat (first | exact List.Mem.head _ | apply List.Mem.tail))
            have e126 : aa.tmps.getD 126 undef = .bool false := hr 126 (by decide) (by apply Array.mem_toList_iff.1; repeat (first | exact List.Mem.head _ | apply List.Mem.tail))
            rw [Array.getD_eq_getD_getElem?] at e120
            rw [Array.getD_eq_getD_getElem?] at e126
            unfold Oper.wp
            simp only [execOp, Act.eval, Array.getD_eq_getD_getElem?, e120, e126]
            go_simp
            first | exact ⟨_, rfl, rfl, hj.plain (Below.refl _ _) (by decide) (fun h => absurd h (by decide))⟩ | exact ⟨_, rfl, hj.plain (Below.refl _ _) (by decide) (fun h => absurd h (by decide))⟩
          | _ + 27, ho => cases ho
        case fin =>
          intro ff V wz hV hj hr
          have e127 : ff 127 = .bool false := hr 127 (by decide)
          obtain ⟨L3, h1, _, _, h4⟩ := hj.2.2 (by rw [hV 16 _ rfl]; rfl)
          have HQ3 := hide h1
          have HB3 := hide h4
          clear hV hr hj h1 h4
          simp only [putAll, slotsOf, List.filterMap_cons, List.filterMap_nil, List.foldl_cons, List.foldl_nil, Act.put, e127]
          simp only [List.setIfInBounds_toArray, List.set_cons_succ, List.set_cons_zero]
          go_wp2_with fail
          go_roundw
          case rel => exact ⟨k + 1, l3, L3, HLT2.out, by go_num, HT2, HL3, HQ3, HB3⟩
          case measure => have := HLT2.out; simp [RowKit.intOf] <;> omega
    have hltI : (i : Int) < (len0 : Int) := by omega
    have hgeI : (0 : Int) ≤ (i : Int) := by omega
    obtain ⟨x, v, rfl, hxl, hv0, hv1, hc0⟩ := HU.out wr HBW.out i hlt
    have cv : wr.cell? (x.add i) = some (.int .u8 v) := (HBW.out.cell (p := x.add i) (by rw [block_of_add]; exact hxl)).trans hc0
    obtain ⟨g, hg⟩ : ∃ z, wrap64 (Int.tmod v 4) = z := ⟨_, rfl⟩
    have rg := rem_at hv0 (m := 4) (by decide)
    have eg : wrap64 (Int.tmod v 4) = Int.tmod v 4 := by unfold wrap64; omega
    rw [← eg, hg] at rg
    have HRG := hide rg
    have HLT := hide hlt
    have hba := (Below.refl wr.heap.size wr).alloc (Nat.le_refl _) (.cells #[.string ⟨#[107]⟩, .int .i64 f, .int .i64 t, .int .i64 (2 * (i : Int)), .int .i64 g, .int .i64 0, .int .i64 1, .bool false] 31)
    have ky := Blk.new wr 31 #[.string ⟨#[107]⟩, .int .i64 f, .int .i64 t, .int .i64 (2 * (i : Int)), .int .i64 g, .int .i64 0, .int .i64 1, .bool false]
    obtain ⟨ws1, hws1⟩ : ∃ z, wr.alloc (.cells #[.string ⟨#[107]⟩, .int .i64 f, .int .i64 t, .int .i64 (2 * (i : Int)), .int .i64 g, .int .i64 0, .int .i64 1, .bool false] 31) = z := ⟨_, rfl⟩
    obtain ⟨Y, hY⟩ : ∃ z, wr.heap.size = z := ⟨_, rfl⟩
    rw [hws1] at hba ky
    have HYF := hide (show ¬ Y ∈ L.foot q from fun hm => by have := HWQ.out.q1.qs.lt Y hm; omega)
    have HYW := hide (show ∀ gg, (Value.slice A ws.length c).ownBlock = some gg → gg < Y from fun gg hgg => by have := (own_block HWQ.out.own hgg).2.1; omega)
    rw [hY] at ky
    have hwq1 := HWQ.out.below hba
    have HB1 := hide (HBW.out.trans (hba.mono HBW.out.size))
    have HWQ1 := hide hwq1
    have KY := hide ky
    have HE := hide (And.intro hws1 hY)
    have HLL := hide (show l.length ≤ 200 by have := HOL.out.len; omega)
    have CC : Hid (Calls Try.prog 10 #[.pointer (some ⟨q, 0, none⟩), .agg #[.string ⟨#[107]⟩, .int .i64 f, .int .i64 t, .int .i64 (2 * (i : Int)), .int .i64 g, .int .i64 0, .int .i64 1, .bool false]] ws1 fun e w' => e = .returned (.int .i64 0) ∧ Goes ws1 q L (l ++ [KM f t i g]) w') := hide (by
      have h := Send_c hwq1.q1.qs (KM f t i g) (by have := HLL.out; omega)
      rw [(HOL.out.k HRF.out HRT.out HRG.out).1, (HOL.out.k HRF.out HRT.out HRG.out).2] at h
      exact h)
    clear hxl hv0 hv1 hc0 rg eg hlt hba ky hws1 hY hwq1
    go_upto_region 12 with (fail)
    rw [HE.out.1, HE.out.2]
    clear HE cv hg
    have y0 : ws1.cell? ⟨Y, 0, none⟩ = some (.string ⟨#[107]⟩) := KY.out.cell 0
    have y1 : ws1.cell? ⟨Y, 1, none⟩ = some (.int .i64 f) := KY.out.cell 1
    have y2 : ws1.cell? ⟨Y, 2, none⟩ = some (.int .i64 t) := KY.out.cell 2
    have y3 : ws1.cell? ⟨Y, 3, none⟩ = some (.int .i64 (2 * (i : Int))) := KY.out.cell 3
    have y4 : ws1.cell? ⟨Y, 4, none⟩ = some (.int .i64 g) := KY.out.cell 4
    have y5 : ws1.cell? ⟨Y, 5, none⟩ = some (.int .i64 0) := KY.out.cell 5
    have y6 : ws1.cell? ⟨Y, 6, none⟩ = some (.int .i64 1) := KY.out.cell 6
    have y7 : ws1.cell? ⟨Y, 7, none⟩ = some (.bool false) := KY.out.cell 7
    go_wp2_with fail
    refine CC.out.mono ?_
    rintro e w5 ⟨rfl, hg5⟩
    have KY5 := hide (Goes.kept HWQ1.out.q1 hg5 KY.out HYF.out)
    obtain ⟨L5, hwq5, hb5, hky5, hy5⟩ := HWQ1.out.goX hg5 KY.out HYF.out
    have HWQ5 := hide hwq5
    have HB5 := hide (HB1.out.trans hb5)
    have HY5 := hide hy5
    clear hg5 hwq5 hb5 hky5 hy5 CC y0 y1 y2 y3 y4 y5 y6 y7
    have y4 : w5.cell? ⟨Y, 4, none⟩ = some (.int .i64 g) := KY5.out.cell 4
    by_cases hag : a4 = g
    · have hgg : (a4 == g) = true := by rw [hag]; simp
      have HAG := hide hag
      clear hag
      have HTG := hide (show tagged a4 (KM f t i g) = true from by unfold tagged KM; simp [HAG.out])
      have HWS5 := hide (show ws ++ [2 * (i : Int)] = ((l ++ [KM f t i g]).filter (sel ⟨⟨#[107]⟩, f, t⟩ a4)).map (·.ca) by rw [sel_k, if_pos HTG.out, List.map_append, ← HWS.out]; rfl)
      have hpu := HWQ5.out.push (2 * (i : Int)) (by
        have h1 : ws.length ≤ l.length := by rw [HWS.out, List.length_map]; exact List.length_filter_le _ _
        have := HLL.out
        omega)
      rw [HN.out] at hpu
      obtain ⟨A7, c7, w7, hrun, hwq7, hb7, hgr7⟩ := hpu
      have HWQ7 := hide hwq7
      have HB7 := hide (HB5.out.trans hb7)
      have HN7 := hide (show (ws ++ [2 * (i : Int)]).length = n + 1 by rw [List.length_append, HN.out]; rfl)
      have KY7 := hide (KY5.out.grown hgr7 (fun e => by have := HYW.out Y (by rw [HN.out]; exact e.symm); omega))
      have RUN := hide hrun
      clear hrun hwq7 hb7 hgr7
      go_upto_region 15 with (fail)
      clear y4 hgg
      go_upto_region 16 with (at_builtin; refine Lib.wpList_append_run _ rfl _ _ 49 49 rfl _ _ rfl rfl _ _ RUN.out ?_)
      cases a3 with
      | false =>
        go_wp2_with fail
        go_roundw
        case rel => exact ⟨i + 1, l ++ [KM f t i g], L5, A7, c7, (ws ++ [2 * (i : Int)]), (n + 1), HLT.out, by go_num, by first | rfl | go_num, HN7, HWS5, hide HOL.out.nk, HWQ7, HB7⟩
        case measure => have := HLT.out; simp [RowKit.intOf] <;> omega
      | true =>
        have z4 : w7.cell? ⟨Y, 4, none⟩ = some (.int .i64 g) := KY7.out.cell 4
        have DD : Hid (Calls Try.prog 10 #[.pointer (some ⟨q, 0, none⟩), .agg #[.string ⟨#[108]⟩, .int .i64 f, .int .i64 t, .int .i64 (2 * (i : Int) + 1), .int .i64 g, .int .i64 0, .int .i64 1, .bool false]] w7 fun e w' => (∃ x, e = .returned (.int .i64 x)) ∧ Goes w7 q L5 (l ++ [KM f t i g] ++ [LM f t i g]) w') := hide (by
          refine (Send_c HWQ7.out.q1.qs (LM f t i g) (by rw [List.length_append]; have := HLL.out; simp; omega)).mono ?_
          rintro e w' ⟨he, hg⟩
          rw [HOL.out.l HRF.out HRT.out HRG.out] at hg
          exact ⟨⟨_, he⟩, hg⟩)
        go_wp2_with fail
        refine DD.out.mono ?_
        rintro e w9 ⟨⟨x9, rfl⟩, hg9⟩
        obtain ⟨L9, hwq9, hb9⟩ := HWQ7.out.go hg9
        have HWQ9 := hide hwq9
        have HB9 := hide (HB7.out.trans hb9)
        have HWS9 := hide (show (ws ++ [2 * (i : Int)]) = ((l ++ [KM f t i g] ++ [LM f t i g]).filter (sel ⟨⟨#[107]⟩, f, t⟩ a4)).map (·.ca) by rw [sel_l]; exact HWS5.out)
        clear hg9 hwq9 hb9 DD z4
        go_wp2_with fail
        go_roundw
        case rel => exact ⟨i + 1, l ++ [KM f t i g] ++ [LM f t i g], L9, A7, c7, (ws ++ [2 * (i : Int)]), (n + 1), HLT.out, by go_num, by first | rfl | go_num, HN7, HWS9, hide HOL.out.nl, HWQ9, HB9⟩
        case measure => have := HLT.out; simp [RowKit.intOf] <;> omega
    · have hgg : (a4 == g) = false := by simpa using hag
      have HAG := hide hag
      clear hag
      have HWS5 := hide (show ws = ((l ++ [KM f t i g]).filter (sel ⟨⟨#[107]⟩, f, t⟩ a4)).map (·.ca) by rw [sel_k, if_neg (by unfold tagged KM; simp [HAG.out, HNM.out]), List.append_nil]; exact HWS.out)
      go_upto_region 16 with (fail)
      clear y4
      cases a3 with
      | false =>
        go_wp2_with fail
        go_roundw
        case rel => exact ⟨i + 1, l ++ [KM f t i g], L5, A, c, ws, n, HLT.out, by go_num, by first | rfl | go_num, HN, HWS5, hide HOL.out.nk, HWQ5, HB5⟩
        case measure => have := HLT.out; simp [RowKit.intOf] <;> omega
      | true =>
        have z4 : w5.cell? ⟨Y, 4, none⟩ = some (.int .i64 g) := KY5.out.cell 4
        have DD : Hid (Calls Try.prog 10 #[.pointer (some ⟨q, 0, none⟩), .agg #[.string ⟨#[108]⟩, .int .i64 f, .int .i64 t, .int .i64 (2 * (i : Int) + 1), .int .i64 g, .int .i64 0, .int .i64 1, .bool false]] w5 fun e w' => (∃ x, e = .returned (.int .i64 x)) ∧ Goes w5 q L5 (l ++ [KM f t i g] ++ [LM f t i g]) w') := hide (by
          refine (Send_c HWQ5.out.q1.qs (LM f t i g) (by rw [List.length_append]; have := HLL.out; simp; omega)).mono ?_
          rintro e w' ⟨he, hg⟩
          rw [HOL.out.l HRF.out HRT.out HRG.out] at hg
          exact ⟨⟨_, he⟩, hg⟩)
        go_wp2_with fail
        refine DD.out.mono ?_
        rintro e w9 ⟨⟨x9, rfl⟩, hg9⟩
        obtain ⟨L9, hwq9, hb9⟩ := HWQ5.out.go hg9
        have HWQ9 := hide hwq9
        have HB9 := hide (HB5.out.trans hb9)
        have HWS9 := hide (show ws = ((l ++ [KM f t i g] ++ [LM f t i g]).filter (sel ⟨⟨#[107]⟩, f, t⟩ a4)).map (·.ca) by rw [sel_l]; exact HWS5.out)
        clear hg9 hwq9 hb9 DD z4
        go_wp2_with fail
        go_roundw
        case rel => exact ⟨i + 1, l ++ [KM f t i g] ++ [LM f t i g], L9, A, c, ws, n, HLT.out, by go_num, by first | rfl | go_num, HN, HWS9, hide HOL.out.nl, HWQ9, HB9⟩
        case measure => have := HLT.out; simp [RowKit.intOf] <;> omega
theorem walk (W : World) (a0 : Option Addr) (len0 cap0 : Nat) (z0 : List Int) (w0 : IsRow .u8 W a0 len0 cap0 z0) (a1 : Int) (w1 : (Lit.int .u8 a1).wf = true) (a2 : Int) (w2 : (Lit.int .u8 a2).wf = true) (a3 : Bool) (a4 : Int) (w4 : (Lit.int .i64 a4).wf = true) :
    Calls Try.prog 5 #[.slice a0 len0 cap0, .int .u8 a1, .int .u8 a2, .bool a3, .int .i64 a4] W fun e w' => e = .returned (.bool true) ∧ Below W.heap.size W w' := by
  by_cases h : a4 = -1
  · subst h
    exact walkA W a0 len0 cap0 z0 w0 a1 w1 a2 w2 a3
  · exact walkB W a0 len0 cap0 z0 w0 a1 w1 a2 w2 a3 a4 h
end Go.Proofs.Ytomladbdebfikaa.QueueOrderW
