/- The walk of the statement PostedProbes: of any acts and any receive; without conditions. -/
import Derived.Test.YtonmojinijpneaaRows
import Derived.Test.YtonmojinijpneaaPoAb
import Derived.BigRegion
import Derived.BigQuiet
import Derived.StillTailTactics
namespace Go.Proofs.Ytonmojinijpneaa.PostedProbesW
open Go Go.Joins Go.ChangeShapes Go.WideShapes Go.RowKit Go.Deep Go.Lib Go.Proofs.Ytonmojinijpneaa Go.Proofs.Ytonmojinijpneaa.Po Go.Proofs.Ytonmojinijpneaa.Qu
set_option linter.unusedVariables false
set_option linter.unusedSimpArgs false
theorem PQ.ch {S : List Nat} {w w' : World} {p q : Nat} {L : Nat → Option Addr × Nat} {K : QL} {ls : Nat → List Rc} {l : List Msg} (h : PQ w p q L K ls l) (hb : Ch S w w') (hS : ∀ b ∈ foot2 p q L K, ¬ b ∈ S) : PQ w' p q L K ls l :=
  ⟨h.hp.ch hb fun b hm => hS b (List.mem_append_left _ hm), h.hq.ch hb fun b hs hm => hS b (List.mem_append_right _ hm) hs, h.ap⟩
/-- A row of messages of one's own that lies away from all. -/
structure MRA (w : World) (p q : Nat) (L : Nat → Option Addr × Nat) (K : QL) (A : Option Addr) (m c : Nat) (r : List Msg) : Prop where
  own : w.ownsRow 0 33 8 (.slice A m c) m (msgCs r)
  aw : ∀ g, (Value.slice A m c).ownBlock = some g → Away w p q L K g
theorem MRA.of {w w' : World} {p q : Nat} {L : Nat → Option Addr × Nat} {K : QL} {A : Option Addr} {m c : Nat} {r : List Msg} (h : w'.ownsRow w.heap.size 33 8 (.slice A m c) m (msgCs r)) (hl : ∀ b ∈ foot2 p q L K, b < w.heap.size) : MRA w' p q L K A m c r :=
  ⟨own_more h (Nat.zero_le _), fun g hg => ⟨(own_block h hg).2.1, fun hm => by have := hl g hm; have := (own_block h hg).1; omega⟩⟩
theorem MRA.go {w w' : World} {p q : Nat} {L L' : Nat → Option Addr × Nat} {K K' : QL} {A : Option Addr} {m c : Nat} {r : List Msg} (h : MRA w p q L K A m c r) (hw : ∀ g, Away w p q L K g → Away w' p q L' K' g ∧ w'.heap[g]? = w.heap[g]?) : MRA w' p q L' K' A m c r :=
  ⟨own_keepV h.own fun g hg => (hw g (h.aw g hg)).2, fun g hg => (hw g (h.aw g hg)).1⟩
theorem MRA.below {w w' : World} {p q : Nat} {L : Nat → Option Addr × Nat} {K : QL} {A : Option Addr} {m c : Nat} {r : List Msg} (h : MRA w p q L K A m c r) (hb : Below w.heap.size w w') : MRA w' p q L K A m c r :=
  h.go fun g hg => ⟨⟨Nat.lt_of_lt_of_le hg.1 hb.size, hg.2⟩, hb.block g hg.1⟩
theorem free_len (l : List Msg) (r : Rc) (ah : List Rc) : (freeL l r ah).length ≤ 64 := by
  unfold freeL flt
  refine Nat.le_trans (List.length_filter_le _ _) (Nat.le_trans (fsts_len _ _ _ _ _) ?_)
  unfold sndL
  split
  · exact senders_len _ _
  · exact Nat.le_of_ble_eq_true rfl
set_option maxRecDepth 100000 in
set_option maxHeartbeats 16000000 in
theorem walk {H : Type} {enc : TypeId × Value → H} {base : Nat} (W : World) (v0 : Value) (d0 : DataW H) (p0 : List MemPlace) (o0 : Value.okWide Try.prog W .any base 22 v0) (r0 : DataW.Trod enc Try.prog W 0 (fun _ => true) true 22 v0 d0 p0) (v1 : Value) (d1 : DataW H) (p1 : List MemPlace) (o1 : Value.okWide Try.prog W .any base 35 v1) (r1 : DataW.Trod enc Try.prog W 0 (fun _ => true) true 35 v1 d1 p1) :
    Calls Try.prog 8 #[v0, v1] W fun e w' => e = .returned (.bool true) ∧ Below W.heap.size W w' := by
  obtain ⟨A, n, cap, F, rfl, hnm, hF⟩ := acts_of o0 r0
  obtain ⟨key, rk, ca, pe, tg, rq, dn, fr, sq, rfl⟩ := rec_of o1 r1
  have b1 := (Below.refl W.heap.size W).alloc (Nat.le_refl _) (.cells #[.string key, .int .i64 rk, .int .i64 ca, .int .i64 pe, .int .i64 tg, .int .i64 rq, .bool dn, .int .i64 fr, .int .i64 sq] 35)
  have kx := Blk.new W 35 #[.string key, .int .i64 rk, .int .i64 ca, .int .i64 pe, .int .i64 tg, .int .i64 rq, .bool dn, .int .i64 fr, .int .i64 sq]
  obtain ⟨wA, hwA⟩ : ∃ z, W.alloc (.cells #[.string key, .int .i64 rk, .int .i64 ca, .int .i64 pe, .int .i64 tg, .int .i64 rq, .bool dn, .int .i64 fr, .int .i64 sq] 35) = z := ⟨_, rfl⟩
  obtain ⟨X, hX⟩ : ∃ z, W.heap.size = z := ⟨_, rfl⟩
  rw [hwA] at b1 kx
  rw [hX] at kx
  have HF := hide (hF.below b1)
  have BA := hide b1
  have KX := hide kx
  have HWA := hide hwA
  have HX := hide hX
  have AW := hide (awake_c wA)
  clear o0 r0 o1 r1 hF hnm b1 kx hwA hX
  go_enter Try.func8, Try.ntmps8
  go_upto_region 1 with (fail)
  rw [HWA.out, HX.out]
  go_wp2_with fail
  refine AW.out.mono ?_
  rintro e wB ⟨rfl, hb1⟩
  have BB := hide (BA.out.trans (hb1.mono BA.out.size))
  have KB := hide (KX.out.below hb1 KX.out.lt)
  have HFB := hide (HF.out.below hb1)
  have GC := hide (Great_c cap HFB.out)
  clear hb1 AW HF
  have x0 : wB.cell? ⟨X, 0, none⟩ = some (.string key) := KB.out.cell 0
  go_wp2_with fail
  refine GC.out.mono ?_
  rintro e wB2 ⟨rfl, hw2⟩
  obtain rfl : wB = wB2 := hw2
  obtain ⟨b, hb⟩ : ∃ z, grt n F = z := ⟨_, rfl⟩
  rw [hb]
  cases b with
  | true =>
    clear hb
    go_wp2_with fail
    go_ret
    exact ⟨rfl, BB.out⟩
  | false =>
    by_cases hks : 100 < key.size
    · have hksI : (100 : Int) < (key.size : Int) := by omega
      clear hb
      go_wp2_with fail
      go_ret
      exact ⟨rfl, BB.out⟩
    have hksI : ¬ (100 : Int) < (key.size : Int) := by omega
    have MC := hide (made_c14 A n cap F HFB.out (grt_small hb))
    clear hb GC
    go_wp2_with fail
    refine MC.out.mono ?_
    rintro e wC ⟨p, q, L, K, ls, l, rfl, hp, hll, hl, hb3⟩
    have KC := hide (KB.out.below hb3 KB.out.lt)
    have hXf : ∀ b ∈ foot2 p q L K, ¬ b ∈ [X] := fun b hb hm => by
      rw [List.mem_singleton] at hm
      have := hp.fb b hb
      have := KB.out.lt
      omega
    have HLS := hide hll
    have HLL := hide hl
    have HB3 := hide (BB.out.trans (hb3.mono BB.out.size))
    have ch := Ch.set_ (S := [X]) wC (p := ⟨X, 2, none⟩) (.int .i64 1099511627776) List.mem_cons_self
    have hpq := PQ.ch hp.pq ch hXf
    have hbD := HB3.out.setCell (p := ⟨X, 2, none⟩) (show W.heap.size ≤ X by rw [HX.out]; exact Nat.le_refl _) (.int .i64 1099511627776)
    have kd : Blk (wC.setCell ⟨X, 2, none⟩ (.int .i64 1099511627776)) X 35 #[.string key, .int .i64 rk, .int .i64 1099511627776, .int .i64 pe, .int .i64 tg, .int .i64 rq, .bool dn, .int .i64 fr, .int .i64 sq] := KC.out.set_ 2 (.int .i64 1099511627776)
    obtain ⟨wD, hwD⟩ : ∃ z, wC.setCell ⟨X, 2, none⟩ (.int .i64 1099511627776) = z := ⟨_, rfl⟩
    rw [hwD] at hpq hbD kd
    have HWD := hide hwD
    have HP := hide (P1.mk (B := W.heap.size) hpq (fun b hb => Nat.le_trans BB.out.size (hp.fb b hb)))
    have BD := hide hbD
    have KD := hide kd
    have XF := hide hXf
    have z2 := KC.out.frozen 2
    have c2 : wC.cell? ⟨X, 2, none⟩ = some (.int .i64 ca) := KC.out.cell 2
    clear hp hll hl hb3 hXf MC x0 ch hpq hbD kd hwD
    go_upto_region 7 with (fail)
    rw [HWD.out]
    clear HWD z2 c2
    have d0 : wD.cell? ⟨X, 0, none⟩ = some (.string key) := KD.out.cell 0
    have d1 : wD.cell? ⟨X, 1, none⟩ = some (.int .i64 rk) := KD.out.cell 1
    have d2 : wD.cell? ⟨X, 2, none⟩ = some (.int .i64 1099511627776) := KD.out.cell 2
    have d3 : wD.cell? ⟨X, 3, none⟩ = some (.int .i64 pe) := KD.out.cell 3
    have d4 : wD.cell? ⟨X, 4, none⟩ = some (.int .i64 tg) := KD.out.cell 4
    have d5 : wD.cell? ⟨X, 5, none⟩ = some (.int .i64 rq) := KD.out.cell 5
    have d6 : wD.cell? ⟨X, 6, none⟩ = some (.bool dn) := KD.out.cell 6
    have d7 : wD.cell? ⟨X, 7, none⟩ = some (.int .i64 fr) := KD.out.cell 7
    have d8 : wD.cell? ⟨X, 8, none⟩ = some (.int .i64 sq) := KD.out.cell 8
    have PRC := hide (probe_c HP.out.pq.hp (fun k _ => by have := HLS.out k; omega) HP.out.pq.hq (by have := HLL.out; omega) key rk 1099511627776 pe tg rq dn fr sq)
    go_wp2_with fail
    refine PRC.out.mono ?_
    rintro e wE ⟨Am, cm, rfl, hom, hbE⟩
    have h64 := free_len l ⟨key, rk, 1099511627776, pe, tg, rq, dn, fr, sq⟩ (rowL ls rk)
    obtain ⟨ml, hml⟩ : ∃ z, freeL l ⟨key, rk, 1099511627776, pe, tg, rq, dn, fr, sq⟩ (rowL ls rk) = z := ⟨_, rfl⟩
    rw [hml] at hom h64
    rw [hml]
    obtain ⟨m, hm⟩ : ∃ z, ml.length = z := ⟨_, rfl⟩
    rw [hm] at hom h64
    rw [hm]
    have MA := hide (MRA.of hom HP.out.pq.lt)
    have HPE := hide (HP.out.below hbE)
    have BE := hide (BD.out.trans (hbE.mono BD.out.size))
    have KE := hide (KD.out.below hbE KD.out.lt)
    have HML := hide hml
    have HM := hide hm
    have H64 := hide h64
    clear hom hbE hml hm h64 PRC d0 d1 d2 d3 d4 d5 d6 d7 d8
    have e0 : wE.cell? ⟨X, 0, none⟩ = some (.string key) := KE.out.cell 0
    have e1 : wE.cell? ⟨X, 1, none⟩ = some (.int .i64 rk) := KE.out.cell 1
    have e2 : wE.cell? ⟨X, 2, none⟩ = some (.int .i64 1099511627776) := KE.out.cell 2
    have e3 : wE.cell? ⟨X, 3, none⟩ = some (.int .i64 pe) := KE.out.cell 3
    have e4 : wE.cell? ⟨X, 4, none⟩ = some (.int .i64 tg) := KE.out.cell 4
    have e5 : wE.cell? ⟨X, 5, none⟩ = some (.int .i64 rq) := KE.out.cell 5
    have e6 : wE.cell? ⟨X, 6, none⟩ = some (.bool dn) := KE.out.cell 6
    have e7 : wE.cell? ⟨X, 7, none⟩ = some (.int .i64 fr) := KE.out.cell 7
    have e8 : wE.cell? ⟨X, 8, none⟩ = some (.int .i64 sq) := KE.out.cell 8
    have PC := hide (Post_c HPE.out.pq.hp (fun k _ => by have := HLS.out k; omega) key rk 1099511627776 pe tg rq dn fr sq)
    by_cases hok : postOk ls ⟨key, rk, 1099511627776, pe, tg, rq, dn, fr, sq⟩
    rotate_left
    · have hpe : postE ls ⟨key, rk, 1099511627776, pe, tg, rq, dn, fr, sq⟩ = 2 := by unfold postE; rw [if_neg hok]
      rw [hpe] at PC
      clear hok hpe
      go_wp2_with fail
      refine PC.out.mono ?_
      rintro e wF ⟨rfl, hg⟩
      obtain ⟨L', K', hpF, hbF, _⟩ := HPE.out.go BE.out.size (GoesPQ.of_p HPE.out.pq hg)
      have BF := hide (BE.out.trans hbF)
      clear hg hpF hbF
      go_wp2_with fail
      go_ret
      exact ⟨rfl, BF.out⟩
    have hpe : postE ls ⟨key, rk, 1099511627776, pe, tg, rq, dn, fr, sq⟩ = 0 := by unfold postE; rw [if_pos hok]
    rw [hpe] at PC
    obtain ⟨k, rfl⟩ : ∃ k : Nat, rk = k := ⟨rk.toNat, by have := hok.1.1; simp only at this; omega⟩
    have hk : k < 64 := by have := hok.1.2.1; simp only at this; omega
    have hrow : rowL ls (k : Int) = ls k := by unfold rowL; rw [if_pos ⟨by omega, by omega⟩]; rfl
    have HPP := hide (probe_post (l := l) (r := ⟨key, (k : Int), 1099511627776, pe, tg, rq, dn, fr, sq⟩) (k := k) rfl hok)
    have HPL := hide (postL_len ls ⟨key, (k : Int), 1099511627776, pe, tg, rq, dn, fr, sq⟩)
    rw [hrow] at HML
    obtain ⟨ls', hls'⟩ : ∃ z, postL ls ⟨key, (k : Int), 1099511627776, pe, tg, rq, dn, fr, sq⟩ = z := ⟨_, rfl⟩
    rw [hls'] at PC HPP HPL
    clear hok hpe hrow hls'
    go_wp2_with fail
    refine PC.out.mono ?_
    rintro e wF ⟨rfl, hg⟩
    have hg' := GoesPQ.of_p HPE.out.pq hg
    have hkf : Blk wF X 35 #[.string key, .int .i64 (k : Int), .int .i64 1099511627776, .int .i64 pe, .int .i64 tg, .int .i64 rq, .bool dn, .int .i64 fr, .int .i64 sq] := by
      obtain ⟨_, _, hch, _⟩ := hg
      exact (hch.block X KE.out.lt fun hm => XF.out X (List.mem_append_left _ hm) List.mem_cons_self).trans KE.out
    obtain ⟨L', K', hpF, hbF, hw⟩ := HPE.out.go BE.out.size hg'
    have HPF := hide hpF
    have BF := hide (BE.out.trans hbF)
    have MAF := hide (MA.out.go hw)
    have KF := hide hkf
    clear hg hg' hkf hpF hbF hw PC e0 e1 e2 e3 e4 e5 e6 e7 e8
    have HLF := hide (fun j (hj : j < 64) => show (ls' j).length ≤ 1000 from Nat.le_trans (HPL.out j) (by have := HLS.out j; omega))
    have MY := hide (may_c HPF.out.pq.hp HLF.out HPF.out.pq.hq (by have := HLL.out; omega) k hk 1099511627776)
    have hmm : mayL l (ls' k) 1099511627776 = ml := HPP.out.trans HML.out
    rw [hmm, HM.out] at MY
    have f1 : wF.cell? ⟨X, 1, none⟩ = some (.int .i64 (k : Int)) := KF.out.cell 1
    have f2 : wF.cell? ⟨X, 2, none⟩ = some (.int .i64 1099511627776) := KF.out.cell 2
    have HMM := hide hmm
    clear hmm
    go_wp2_with fail
    refine MY.out.mono ?_
    rintro e wG ⟨Ay, cy, rfl, hoy, hbG⟩
    have SC := hide (Same_b (w := wG) Am Ay cm cy m ml ((MRow.of_own MAF.out.own HM.out).below hbG) (MRow.of_own hoy HM.out) HM.out (by have := H64.out; omega))
    have HPG := hide (HPF.out.below hbG)
    have BG := hide (BF.out.trans (hbG.mono BF.out.size))
    have MAG := hide (MAF.out.below hbG)
    have KG := hide (KF.out.below hbG KF.out.lt)
    clear hoy hbG MY f1 f2
    go_wp2_with fail
    refine SC.out.mono ?_
    rintro e wH ⟨rfl, hbH⟩
    have HPH := hide (HPG.out.below hbH)
    have BH := hide (BG.out.trans (hbH.mono BG.out.size))
    have MAH := hide (MAG.out.below hbH)
    have KH := hide (KG.out.below hbH KG.out.lt)
    clear hbH SC
    go_wp2_with fail
    go_loopw [8] (fun v8 wr => ∃ i : Nat, i ≤ m ∧ v8 = .int .i64 i ∧ Hid (Below wH.heap.size wH wr)) (fun v8 _ => m - (RowKit.intOf v8).toNat)
    case atStart => exact ⟨0, Nat.zero_le _, rfl, hide (Below.refl _ _)⟩
    case round =>
      obtain ⟨i, hi, rfl, HB⟩ := hrel
      rename World => wr
      have hm64 := H64.out
      have HPr := hide (HPH.out.below HB.out)
      have Br := hide (BH.out.trans (HB.out.mono BH.out.size))
      have MAr := hide (MAH.out.below HB.out)
      have Kr := hide (KH.out.below HB.out KH.out.lt)
      by_cases hlt : i < m
      · have hltI : (i : Int) < (m : Int) := by omega
        have hi0 : (0 : Int) ≤ (i : Int) := by omega
        obtain ⟨⟨mk, mf, mt, mc, mg, mv, mz, mb⟩, hmm⟩ : ∃ y, ml[i]? = some y := ⟨_, List.getElem?_eq_getElem (by rw [HM.out]; exact hlt)⟩
        have hme : (⟨mk, mf, mt, mc, mg, mv, mz, mb⟩ : Msg) ∈ mayL l (ls' k) 1099511627776 := by rw [HMM.out]; exact List.mem_of_getElem? hmm
        obtain ⟨g, rfl, hg, hit⟩ := (MRow.of_own MAr.out.own HM.out).it i _ hmm
        have NE : Nonempty (BelowOf wr) := ⟨⟨wr, Below.refl _ _⟩⟩
        have e1 : ∀ z : BelowOf wr, z.world.cell? ⟨X, 1, none⟩ = some (.int .i64 (k : Int)) := fun z => z.cell Kr.out.lt (Kr.out.cell 1)
        have e2 : ∀ z : BelowOf wr, z.world.cell? ⟨X, 2, none⟩ = some (.int .i64 1099511627776) := fun z => z.cell Kr.out.lt (Kr.out.cell 2)
        have m1 : ∀ z : BelowOf wr, z.world.cell? ⟨g, i * 8 + 1, none⟩ = some (.int .i64 mf) := fun z => z.cell hg (hit 1 _ rfl)
        have m3 : ∀ z : BelowOf wr, z.world.cell? ⟨g, i * 8 + 3, none⟩ = some (.int .i64 mc) := fun z => z.cell hg (hit 3 _ rfl)
        have MN := hide (fun (z : BelowOf wr) (x : Int) (hx : x ≠ mc) => Match_no (HPr.out.below z.below).pq HLF.out (by have := HLL.out; omega) k hk 1099511627776 mf x (has_other hme hx))
        have HLT := hide hlt
        clear hmm hme hg hit hlt
        go_upto_region 15 with (fail)
        refine wp_region_quiet_below (by kernel_rfl) (by kernel_rfl) ?_
        repeat (go_big_quiet_step (first
          | (go_at_call 30; refine calls_below (MN.out _ _ ?_); first | (intro h; unfold wrap64 at h; omega) | (intro h; rw [IntKind.wrap_i64] at h; omega) | (intro h; omega))))
        refine wpQuiet_nil ?_
        rintro Wq ⟨⟨_, hq⟩, rfl⟩
        have HBQ := hide (HB.out.trans (hq.mono HB.out.size))
        clear hq e1 e2 m1 m3 NE
        go_wp2_with fail
        go_roundw
        case rel => exact ⟨i + 1, HLT.out, by go_num, HBQ⟩
        case measure => have := HLT.out; simp [RowKit.intOf] <;> omega
      · have hltI : ¬ (i : Int) < (m : Int) := by omega
        clear hlt
        rcases Nat.eq_zero_or_pos m with h0 | hpos
        · subst h0
          have NE : Nonempty (BelowOf wr) := ⟨⟨wr, Below.refl _ _⟩⟩
          go_upto_region 17 with (fail)
          refine wp_region_quiet_below (by kernel_rfl) (by kernel_rfl) ?_
          repeat (go_big_quiet_step (fail))
          refine wpQuiet_nil ?_
          rintro Wq ⟨⟨_, hq⟩, rfl⟩
          have HBQ := hide (Br.out.trans (hq.mono Br.out.size))
          clear hq NE
          go_wp2_with fail
          go_ret
          exact ⟨rfl, HBQ.out⟩
        have hm0 : ((m : Int) == 0) = false := by simp; omega
        have hm2 : (m == 0) = false := by simp; omega
        have hm3 : decide (m = 0) = false := by simp; omega
        have hm4 : ¬ m = 0 := by omega
        have hm1 : (0 : Int) < (m : Int) := by omega
        obtain ⟨⟨mk, mf, mt, mc, mg, mv, mz, mb⟩, hmm⟩ : ∃ y, ml[0]? = some y := ⟨_, List.getElem?_eq_getElem (by rw [HM.out]; exact hpos)⟩
        have hme : (⟨mk, mf, mt, mc, mg, mv, mz, mb⟩ : Msg) ∈ mayL l (ls' k) 1099511627776 := by rw [HMM.out]; exact List.mem_of_getElem? hmm
        obtain ⟨g, rfl, hg, hit⟩ := (MRow.of_own MAr.out.own HM.out).it 0 _ hmm
        have e1 : wr.cell? ⟨X, 1, none⟩ = some (.int .i64 (k : Int)) := Kr.out.cell 1
        have e2 : wr.cell? ⟨X, 2, none⟩ = some (.int .i64 1099511627776) := Kr.out.cell 2
        have m1 : wr.cell? ⟨g, 1, none⟩ = some (.int .i64 mf) := hit 1 _ rfl
        have m3 : wr.cell? ⟨g, 3, none⟩ = some (.int .i64 mc) := hit 3 _ rfl
        have MC : Hid (Calls Try.prog 30 #[.pointer (some ⟨p, 0, none⟩), .pointer (some ⟨q, 0, none⟩), .int .i64 k, .int .i64 1099511627776, .int .i64 mf, .int .i64 mc] wr.drew fun e w' => e = .returned (.int .i64 0) ∧ Below W.heap.size wr.drew w') := hide (by
          have hpd := HPr.out.below (Below.refl wr.heap.size wr).drew
          have h := Match_c hpd.pq HLF.out (by have := HLL.out; omega) k hk 1099511627776 mf mc
          rw [show matchE l (ls' k) 1099511627776 mf mc = 0 from has_first hme] at h
          exact h.mono fun e w' hh => ⟨hh.1, by obtain ⟨_, _, _, hb, _⟩ := hpd.go Br.out.size hh.2; exact hb⟩)
        clear hmm hme hg hit
        go_upto_region 17 with (fail)
        go_still_tail 18, (by kernel_rfl)
        change wpList _ _ _ _ _ wr.drew
        go_wp2_with fail
        refine MC.out.mono ?_
        rintro e wZ ⟨rfl, hbZ⟩
        have BZ := hide (Br.out.trans ((Below.refl _ _).drew.trans hbZ))
        clear hbZ MC e1 e2 m1 m3
        go_wp2_with fail
        go_ret
        exact ⟨rfl, BZ.out⟩
end Go.Proofs.Ytonmojinijpneaa.PostedProbesW
