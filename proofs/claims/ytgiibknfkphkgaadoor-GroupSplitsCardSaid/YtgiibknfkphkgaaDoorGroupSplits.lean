/- The walk of the statement GroupSplits: of any group, any number, whatever is asked; without conditions. -/
import Derived.Test.YtgiibknfkphkgaaDoorRows
import Derived.Test.YtgiibknfkphkgaaDoorSpN
import Derived.Test.YtgiibknfkphkgaaDoorSpO
import Derived.Test.YtgiibknfkphkgaaDoorSpY
import Derived.Test.YtgiibknfkphkgaaDoorSpQ
import Derived.Test.YtgiibknfkphkgaaDoorQuietBelow
import Derived.Lib.AppendZeros
import Derived.LoopN
namespace Go.Proofs.YtgiibknfkphkgaaDoor.GroupSplitsW
open Go Go.Joins Go.ChangeShapes Go.WideShapes Go.RowKit Go.Deep Go.Proofs.YtgiibknfkphkgaaDoor Go.Proofs.YtgiibknfkphkgaaDoor.Grp Go.Proofs.YtgiibknfkphkgaaDoor.Sp
set_option linter.unusedVariables false
set_option linter.unusedSimpArgs false
theorem own_nrow2 {w : World} {B c : Nat} {A : Option Addr} {l : List Int} (h : w.ownsRow B 3 1 (.slice A l.length c) l.length (Sp.ints l)) : NRow w A l := Sp.own_nrow' h rfl
theorem blk_nrow {w : World} {g : Nat} {l : List Int} (h : Blk w g 3 (Grp.ints l).toArray) : NRow w (some ⟨g, 0, none⟩) l := fun h0 => by
  refine ⟨_, rfl, h.lt, fun i hi => ?_⟩
  rw [Go.Proofs.YtgiibknfkphkgaaDoor.add_lit, h.cell]
  show (Grp.ints l).toArray[i]? = _
  rw [List.getElem?_toArray]
  exact Grp.ints_at hi
theorem dup_gen {key : ByteArray} {l : List Int} {k : Int} {w w' : World} {e : Ending} (h : dupPost key l k w e w') : ∃ (ed : Int) (dk : ByteArray) (D : Option Addr) (dc : Nat) (dl : List Int), e = .returned (.tuple #[.agg #[.string dk, .slice D dl.length dc], .int .i64 ed]) ∧ (0 < dl.length → ∃ g, D = some ⟨g, 0, none⟩ ∧ w.heap.size ≤ g ∧ Blk w' g 3 (Grp.ints dl).toArray) ∧ (((¬ mayL l ∨ k < 0) ∧ ed = 2 ∧ dk = ⟨#[]⟩ ∧ dl = []) ∨ ((mayL l ∧ 0 ≤ k) ∧ ed = 0 ∧ dk = behindS key k ∧ dl = l)) := by
  rcases h.1 with ⟨hb, rfl⟩ | ⟨hg, g, rfl, h1, h2⟩
  · exact ⟨2, ⟨#[]⟩, none, 0, [], rfl, fun h0 => absurd h0 (Nat.lt_irrefl 0), .inl ⟨hb, rfl, rfl, rfl⟩⟩
  · exact ⟨0, _, _, _, l, rfl, fun _ => ⟨g, rfl, h1, h2⟩, .inr ⟨hg, rfl, rfl, rfl⟩⟩
theorem dupB_gen {key : ByteArray} {l : List Int} {k : Int} {w w' : World} {e : Ending} (h : dupPostB key l k w e w') : ∃ (ed : Int) (dk : ByteArray) (D : Option Addr) (dc : Nat) (dl : List Int), e = .returned (.tuple #[.agg #[.string dk, .slice D dl.length dc], .int .i64 ed]) ∧ NRow w' D dl ∧ (((¬ mayL l ∨ k < 0) ∧ ed = 2 ∧ dk = ⟨#[]⟩ ∧ dl = []) ∨ ((mayL l ∧ 0 ≤ k) ∧ ed = 0 ∧ dk = behindS key k ∧ dl = l)) := by
  rcases h.1 with ⟨hb, rfl⟩ | ⟨hg, A, c, rfl, h1⟩
  · exact ⟨2, ⟨#[]⟩, none, 0, [], rfl, fun h0 => absurd h0 (Nat.lt_irrefl 0), .inl ⟨hb, rfl, rfl, rfl⟩⟩
  · exact ⟨0, _, _, _, l, rfl, h1, .inr ⟨hg, rfl, rfl, rfl⟩⟩
def Gps (l : List Int) (k : Int) (q : List (Int × Int)) (ec : Int) (gs : List Gw) : Prop := (bad l k q ∧ ec = 2 ∧ gs = []) ∨ (¬ bad l k q ∧ ec = 0 ∧ ∃ P : List Ak, P.Pairwise ltA ∧ (∀ x, x ∈ P ↔ x ∈ askL q l q.length) ∧ gs.map Gw.p = grpN P P.length)
theorem split_gen {key : ByteArray} {l : List Int} {k : Int} {q : List (Int × Int)} {w w' : World} {e : Ending} (h : splitPost key l k q w e w') : ∃ (ec : Int) (O : Option Addr) (oc : Nat) (gs : List Gw) (B0 : Nat), e = .returned (.tuple #[.slice O gs.length oc, .int .i64 ec]) ∧ OutA (keyK key k) w' B0 O oc gs ∧ w.heap.size ≤ B0 ∧ Gps l k q ec gs ∧ gs.length ≤ q.length ∧ ∀ i (hi : i < gs.length), gs[i].rs.length ≤ q.length := by
  rcases h.1 with ⟨hb, rfl⟩ | ⟨hg, L', O, oc, gs, B0, rfl, hp, hs, hm, ho, hB⟩
  · exact ⟨2, none, 0, [], w.heap.size, rfl, OutA.nil _ _, Nat.le_refl _, .inl ⟨hb, rfl, rfl⟩, Nat.zero_le _, fun i hi => absurd hi (Nat.not_lt_zero i)⟩
  · have hl := gs_len hm (Nat.le_refl _)
    have h2 := hp.length_eq
    have h3 := askL_len q l q.length
    exact ⟨0, O, oc, gs, B0, rfl, ho, hB, .inr ⟨hg, rfl, L', ask_lt hp hs, fun x => hp.mem_iff, hm⟩, by have := hl.1; omega, fun i hi => by have := hl.2 i hi; omega⟩
theorem splitB_gen {key : ByteArray} {l : List Int} {k : Int} {q : List (Int × Int)} {w w' : World} {e : Ending} (h : splitPostB key l k q w e w') : ∃ (ec : Int) (O : Option Addr) (oc : Nat) (gs : List Gw) (B0 : Nat), e = .returned (.tuple #[.slice O gs.length oc, .int .i64 ec]) ∧ OutA (keyK key k) w' B0 O oc gs ∧ w.heap.size ≤ B0 ∧ Gps l k q ec gs := by
  rcases h.1 with ⟨hb, rfl⟩ | ⟨hg, P, O, oc, gs, B0, rfl, hp, hs, hm, ho, hB⟩
  · exact ⟨2, none, 0, [], w.heap.size, rfl, OutA.nil _ _, Nat.le_refl _, .inl ⟨hb, rfl, rfl⟩⟩
  · exact ⟨0, O, oc, gs, B0, rfl, ho, hB, .inr ⟨hg, rfl, P, hp, hs, hm⟩⟩
theorem gps_same {l : List Int} {k : Int} {q : List (Int × Int)} {e1 e2 : Int} {g1 g2 : List Gw} (h1 : Gps l k q e1 g1) (h2 : Gps l k q e2 g2) : e1 = e2 ∧ g1.map Gw.p = g2.map Gw.p := by
  rcases h1 with ⟨b1, rfl, rfl⟩ | ⟨b1, rfl, P1, p1, m1, e1⟩ <;> rcases h2 with ⟨b2, rfl, rfl⟩ | ⟨b2, rfl, P2, p2, m2, e2⟩
  · exact ⟨rfl, rfl⟩
  · exact absurd b1 b2
  · exact absurd b2 b1
  · refine ⟨rfl, ?_⟩
    rw [e1, e2, pw_eq p1 p2 fun x => (m1 x).trans (m2 x).symm]
theorem gps_at {gs gs2 : List Gw} (h : gs.map Gw.p = gs2.map Gw.p) {i : Nat} (hi : i < gs.length) (hi2 : i < gs2.length) : gs2[i].c = gs[i].c ∧ gs2[i].rs = gs[i].rs := by
  have h1 : (gs.map Gw.p)[i]? = (gs2.map Gw.p)[i]? := by rw [h]
  rw [List.getElem?_map, List.getElem?_map, List.getElem?_eq_getElem hi, List.getElem?_eq_getElem hi2] at h1
  have h2 : (gs[i].c, gs[i].rs) = (gs2[i].c, gs2[i].rs) := Option.some.inj h1
  exact ⟨(congrArg Prod.fst h2).symm, (congrArg Prod.snd h2).symm⟩
theorem own_emptyA (w : World) : (w.alloc (.cells #[] 40)).ownsRow w.heap.size 40 2 (.slice (some ⟨w.heap.size, 0, none⟩) 0 0) 0 [] :=
  ⟨rfl, .inr ⟨w.heap.size, 0, #[], rfl, Nat.le_refl _, heap_alloc_new w _, Nat.le_refl _, Nat.zero_le _, rfl, rfl⟩⟩
theorem aq_one (q : List (Int × Int)) : ∀ u ∈ Sp.aqC q, u.oneCell' = true := fun u hu => by
  obtain ⟨x, _, hu⟩ := List.mem_flatMap.1 hu
  simp only [List.mem_cons, List.not_mem_nil, or_false] at hu
  rcases hu with rfl | rfl <;> rfl
set_option maxRecDepth 100000 in
set_option maxHeartbeats 16000000 in
theorem walk {H : Type} {enc : TypeId × Value → H} {base : Nat} (W : World) (hP : Pow W) (v0 : Value) (d0 : DataW H) (p0 : List MemPlace) (o0 : Value.okWide Tryd.prog W .any base 24 v0) (r0 : DataW.Trod enc Tryd.prog W 0 (fun _ => true) true 24 v0 d0 p0) (k : Int) (w1 : (Lit.int .i64 k).wf = true) (v2 : Value) (d2 : DataW H) (p2 : List MemPlace) (o2 : Value.okWide Tryd.prog W .any base 25 v2) (r2 : DataW.Trod enc Tryd.prog W 0 (fun _ => true) true 25 v2 d2 p2) :
    Calls Tryd.prog 3 #[v0, .int .i64 k, v2] W fun e w' => e = .returned (.bool true) ∧ Below W.heap.size W w' := by
  obtain ⟨key, A, l, cap, rfl, hr⟩ := group_of o0 r0 (fun _ => rfl)
  obtain ⟨B, bc, q, rfl, hqr, hqm, hqf⟩ := asks_of o2 r2
  have hqr : AskR W B q := hqr
  have FK := hide (fit_wf w1)
  have FQ := hide (fun x hx => (hqf x hx).1.2)
  clear o0 r0 o2 r2 w1 hqf hqm
  have hb1 := (Below.refl W.heap.size W).alloc (Nat.le_refl _) (.cells #[.string key, .slice A l.length cap] 24)
  have b1 := Blk.new W 24 #[.string key, .slice A l.length cap]
  obtain ⟨W1, hW1⟩ : ∃ W1, W.alloc (.cells #[.string key, .slice A l.length cap] 24) = W1 := ⟨_, rfl⟩
  rw [hW1] at hb1 b1
  have HN := hide (hr.below hb1)
  have HQ := hide (hqr.below hb1)
  have HP := hide (hP.below hb1 (Nat.le_refl _))
  have HB1 := hide hb1
  have B1 := hide b1
  have GR := hide (Great_a key A l.length cap W1)
  have q0 : W1.cell? ⟨W.heap.size, 0, none⟩ = some (.string key) := b1.cell 0
  have q1 : W1.cell? ⟨W.heap.size, 1, none⟩ = some (.slice A l.length cap) := b1.cell 1
  clear hb1 b1 hr hP hqr
  go_enter Tryd.func3, Tryd.ntmps3
  go_wp2_with fail
  refine GR.out.mono ?_
  rintro e w2 ⟨rfl, hb2⟩
  have HB2 := hide hb2
  have b2 := B1.out.below hb2 B1.out.lt
  have x0 : w2.cell? ⟨W.heap.size, 0, none⟩ = some (.string key) := b2.cell 0
  have x1 : w2.cell? ⟨W.heap.size, 1, none⟩ = some (.slice A l.length cap) := b2.cell 1
  clear hb2 b2 q0 q1 GR
  cases hg : gt key l.length with
  | true =>
    clear hg
    go_wp2_with fail
    go_ret
    exact ⟨rfl, HB1.out.trans (HB2.out.mono HB1.out.size)⟩
  | false =>
  have hrl : l.length ≤ 80 ∧ key.size ≤ 200 := by
    unfold gt at hg
    simp at hg
    omega
  have HRL := hide hrl
  clear hg hrl
  by_cases hq100 : 100 < q.length
  · have hI : (100 : Int) < (q.length : Int) := by omega
    clear hq100
    go_wp2_with fail
    go_ret
    exact ⟨rfl, HB1.out.trans (HB2.out.mono HB1.out.size)⟩
  have hI : ¬ (100 : Int) < (q.length : Int) := by omega
  have HQL := hide (show q.length ≤ 100 by omega)
  have CC := hide (Copy_b key A cap l w2 (HN.out.below HB2.out) (by have := HRL.out.1; omega))
  clear hq100
  go_wp2_with fail
  clear hI
  refine CC.out.mono ?_
  rintro e w3 ⟨v, rfl, hown, hb3⟩
  obtain ⟨Ac, cc, rfl⟩ := own_form hown
  obtain ⟨hbk, hbx⟩ := box2 w3 24 (.string ⟨#[]⟩) (.slice none 0 0) (.string key) (.slice Ac l.length cc)
  have bz := Blk.new w3 24 #[.string ⟨#[]⟩, .slice none 0 0]
  obtain ⟨Wa, hWa⟩ : ∃ x, w3.alloc (.cells #[.string ⟨#[]⟩, .slice none 0 0] 24) = x := ⟨_, rfl⟩
  rw [hWa] at hbk hbx bz
  have z0 : Wa.cell? ⟨w3.heap.size, 0, none⟩ = some (.string ⟨#[]⟩) := bz.cell 0
  have z1 : Wa.cell? ⟨w3.heap.size, 1, none⟩ = some (.slice none 0 0) := bz.cell 1
  have f0 := bz.frozen 0
  have f1 := bz.frozen 1
  obtain ⟨w4, hw4⟩ : ∃ x, (Wa.setCell ⟨w3.heap.size, 0, none⟩ (.string key)).setCell ⟨w3.heap.size, 1, none⟩ (.slice Ac l.length cc) = x := ⟨_, rfl⟩
  rw [hw4] at hbk hbx
  have hb24 := hb3.trans (hbx.mono hb3.size)
  -- what is asked, in memory of its own
  have oe := own_emptyA w4
  have he5 := (Below.refl w4.heap.size w4).alloc (Nat.le_refl _) (.cells #[] 40)
  have hs5 : w4.heap.size ≤ (w4.alloc (.cells #[] 40)).heap.size := he5.size
  obtain ⟨i0, hi0, hz0, hz1, hz2⟩ := info_parts aq_info
  have hrd : Reads (w4.alloc (.cells #[] 40)) W1.heap.size 2 B q.length (Sp.aqC q) := Reads.below (Reads.below HQ.out (HB2.out.trans (hb24.mono HB2.out.size))) (he5.mono (HB2.out.trans (hb24.mono HB2.out.size)).size)
  obtain ⟨va, w6, hrun, hownA, hgr, _⟩ := run_append_any (P := Tryd.prog) (w4.alloc (.cells #[] 40)) w4.heap.size 25 25 40 i0 _ 2 16 Tryd.underlying25 hi0 hz0 hz1 hz2 (by rfl) (by omega) _ _ _ oe W1.heap.size B q.length bc _ hrd (aq_one q) (by have := HQL.out; unfold maxLen; omega) (by have := HQL.out; omega) hs5
  rw [Nat.zero_add, List.nil_append] at hownA
  obtain ⟨Oa, ca, rfl⟩ := own_form hownA
  have hb46 : Below w4.heap.size w4 w6 := he5.grown hgr hs5 (fun g e => (own_block oe e).1)
  have HB6 := hide (HB2.out.trans ((hb24.trans (hb46.mono hb24.size)).mono HB2.out.size))
  have HOWNQ : Hid (AskR w6 Oa q) := hide (Reads.of_own hownA)
  have HMINE := hide (own_belowR (own_belowR hown hbx) hb46)
  have HX7 := hide (hbk.below hb46 hbk.lt)
  have RUN := hide hrun
  have b6 := B1.out.below HB6.out B1.out.lt
  have q0 : w6.cell? ⟨W.heap.size, 0, none⟩ = some (.string key) := b6.cell 0
  have q1 : w6.cell? ⟨W.heap.size, 1, none⟩ = some (.slice A l.length cap) := b6.cell 1
  have m0 : w6.cell? ⟨w3.heap.size, 0, none⟩ = some (.string key) := HX7.out.cell 0
  have m1 : w6.cell? ⟨w3.heap.size, 1, none⟩ = some (.slice Ac l.length cc) := HX7.out.cell 1
  have HNM := hide (own_nrow' HMINE.out rfl)
  have DC := hide (Dup_c key Ac cc l k w6 HNM.out (by have := HRL.out.1; omega) (HP.out.below HB6.out (Nat.le_refl _)) (by have := HRL.out.2; omega) FK.out.2)
  clear hown hbk hbx bz hb24 hb3 oe he5 hs5 hi0 hz0 hz1 hz2 hrd hrun hownA hgr hb46 b6 CC
  go_wp2_with (at_builtin; refine Lib.wpList_append_run _ rfl _ _ 25 25 rfl _ _ rfl rfl _ _ RUN.out ?_)
  clear x0 x1 z0 z1 f0 f1 RUN
  refine DC.out.mono ?_
  rintro e w7 ⟨h7, hb7⟩
  obtain ⟨ed, dk, D, dc, dl, rfl, hD, hcd⟩ := dup_gen ⟨h7, hb7⟩
  obtain ⟨hbk, hbx⟩ := box2 w7 24 (.string ⟨#[]⟩) (.slice none 0 0) (.string dk) (.slice D dl.length dc)
  have bz := Blk.new w7 24 #[.string ⟨#[]⟩, .slice none 0 0]
  obtain ⟨Wb, hWb⟩ : ∃ x, w7.alloc (.cells #[.string ⟨#[]⟩, .slice none 0 0] 24) = x := ⟨_, rfl⟩
  rw [hWb] at hbk hbx bz
  have z0 : Wb.cell? ⟨w7.heap.size, 0, none⟩ = some (.string ⟨#[]⟩) := bz.cell 0
  have z1 : Wb.cell? ⟨w7.heap.size, 1, none⟩ = some (.slice none 0 0) := bz.cell 1
  have f0 := bz.frozen 0
  have f1 := bz.frozen 1
  obtain ⟨w8, hw8⟩ : ∃ x, (Wb.setCell ⟨w7.heap.size, 0, none⟩ (.string dk)).setCell ⟨w7.heap.size, 1, none⟩ (.slice D dl.length dc) = x := ⟨_, rfl⟩
  rw [hw8] at hbk hbx
  have hb68 := hb7.trans (hbx.mono hb7.size)
  have HD8 := hide (fun h0 => by
    obtain ⟨g, hg, h1, h2⟩ := hD h0
    exact (⟨g, hg, h1, h2.below hbx h2.lt⟩ : ∃ g, D = some ⟨g, 0, none⟩ ∧ w6.heap.size ≤ g ∧ Blk w8 g 3 (Grp.ints dl).toArray))
  have HX9 := hide hbk
  have HC8 := hide hb68
  have HB8 := hide (HB6.out.trans (hb68.mono HB6.out.size))
  have HCD := hide hcd
  have b8 := B1.out.below HB8.out B1.out.lt
  have x0 : w8.cell? ⟨W.heap.size, 0, none⟩ = some (.string key) := b8.cell 0
  have x1 : w8.cell? ⟨W.heap.size, 1, none⟩ = some (.slice A l.length cap) := b8.cell 1
  have DCB := hide (DupB_c key A cap l k w8 (HN.out.below HB8.out) (by have := HRL.out.1; omega) (by have := HRL.out.2; omega) FK.out.2)
  clear hbk hbx bz hb7 hb68 b8 h7 hD hcd q0 q1 m0 m1 DC
  go_wp2_with fail
  clear z0 z1 f0 f1
  refine DCB.out.mono ?_
  rintro e w9 ⟨h9, hb9⟩
  obtain ⟨ed2, dk2, D2, dc2, dl2, rfl, hD2, hcd2⟩ := dupB_gen ⟨h9, hb9⟩
  obtain ⟨rfl, rfl, rfl⟩ : ed2 = ed ∧ dk2 = dk ∧ dl2 = dl := by
    rcases HCD.out with ⟨h1, rfl, rfl, rfl⟩ | ⟨h1, rfl, rfl, rfl⟩ <;> rcases hcd2 with ⟨h2, rfl, rfl, rfl⟩ | ⟨h2, rfl, rfl, rfl⟩
    · exact ⟨rfl, rfl, rfl⟩
    · exact absurd h2.1 (fun hm => h1.elim (fun h => h hm) (fun h => by have := h2.2; omega))
    · exact absurd h1.1 (fun hm => h2.elim (fun h => h hm) (fun h => by have := h1.2; omega))
    · exact ⟨rfl, rfl, rfl⟩
  have HDL := hide (show dl2.length ≤ 100 by
    rcases HCD.out with ⟨_, _, _, rfl⟩ | ⟨_, _, _, rfl⟩
    · exact Nat.zero_le _
    · have := HRL.out.1; omega)
  obtain ⟨hbk, hbx⟩ := box2 w9 24 (.string ⟨#[]⟩) (.slice none 0 0) (.string dk2) (.slice D2 dl2.length dc2)
  have bz := Blk.new w9 24 #[.string ⟨#[]⟩, .slice none 0 0]
  obtain ⟨Wc, hWc⟩ : ∃ x, w9.alloc (.cells #[.string ⟨#[]⟩, .slice none 0 0] 24) = x := ⟨_, rfl⟩
  rw [hWc] at hbk hbx bz
  have z0 : Wc.cell? ⟨w9.heap.size, 0, none⟩ = some (.string ⟨#[]⟩) := bz.cell 0
  have z1 : Wc.cell? ⟨w9.heap.size, 1, none⟩ = some (.slice none 0 0) := bz.cell 1
  have f0 := bz.frozen 0
  have f1 := bz.frozen 1
  obtain ⟨w10, hw10⟩ : ∃ x, (Wc.setCell ⟨w9.heap.size, 0, none⟩ (.string dk2)).setCell ⟨w9.heap.size, 1, none⟩ (.slice D2 dl2.length dc2) = x := ⟨_, rfl⟩
  rw [hw10] at hbk hbx
  have hb810 := hb9.trans (hbx.mono hb9.size)
  have HX11 := hide hbk
  have HND2 := hide (hD2.below hbx)
  have HC10 := hide (HC8.out.trans (hb810.mono HC8.out.size))
  have HD10 := hide (fun h0 => by
    obtain ⟨g, hg, h1, h2⟩ := HD8.out h0
    exact (⟨g, hg, h1, h2.below hb810 h2.lt⟩ : ∃ g, D = some ⟨g, 0, none⟩ ∧ w6.heap.size ≤ g ∧ Blk w10 g 3 (Grp.ints dl2).toArray))
  have HX9b := hide (HX9.out.below hb810 HX9.out.lt)
  have HX7b := HX7.out.below HC10.out HX7.out.lt
  have q0 : w10.cell? ⟨w3.heap.size, 0, none⟩ = some (.string key) := HX7b.cell 0
  have q1 : w10.cell? ⟨w3.heap.size, 1, none⟩ = some (.slice Ac l.length cc) := HX7b.cell 1
  have SC := hide (Split_c key Ac cc l k Oa ca q w10 (HNM.out.below HC10.out) (HOWNQ.out.below HC10.out) (by have := HRL.out.1; omega) (by have := HQL.out; omega) (HP.out.below (HB6.out.trans (HC10.out.mono HB6.out.size)) (Nat.le_refl _)) (by have := HRL.out.2; omega) FK.out.2 FQ.out)
  clear hbk hbx bz hb9 hb810 h9 hD2 hcd2 x0 x1 HX7b DCB
  go_wp2_with fail
  clear z0 z1 f0 f1 q0 q1
  refine SC.out.mono ?_
  rintro e w11 ⟨h11, hb11⟩
  obtain ⟨ec, O, oc, gs, B0, rfl, hout, hB0, hgp, hgn, hgr⟩ := split_gen ⟨h11, hb11⟩
  have HGR := hide (fun i hi => Nat.le_trans (hgr i hi) HQL.out)
  have hgn1 : gs.length ≤ 100 := Nat.le_trans hgn HQL.out
  have HOUT := hide hout
  have HB0 := hide hB0
  have HGP := hide hgp
  have HC11 := hide (HC10.out.trans (hb11.mono HC10.out.size))
  have HX9c := hide (HX9b.out.below hb11 HX9b.out.lt)
  have HX11c := hide (HX11.out.below hb11 HX11.out.lt)
  have HND2c := hide (HND2.out.below hb11)
  have HD11 := hide (fun h0 => by
    obtain ⟨g, hg, h1, h2⟩ := HD10.out h0
    exact (⟨g, hg, h1, h2.lt, h2.below hb11 h2.lt⟩ : ∃ g, D = some ⟨g, 0, none⟩ ∧ w6.heap.size ≤ g ∧ g < w10.heap.size ∧ Blk w11 g 3 (Grp.ints dl2).toArray))
  have HB11 := hide (HB6.out.trans (HC11.out.mono HB6.out.size))
  have b11 := B1.out.below HB11.out B1.out.lt
  have x0 : w11.cell? ⟨W.heap.size, 0, none⟩ = some (.string key) := b11.cell 0
  have x1 : w11.cell? ⟨W.heap.size, 1, none⟩ = some (.slice A l.length cap) := b11.cell 1
  have SB := hide (SplitB_c key A cap l k B bc q w11 (HN.out.below HB11.out) (HQ.out.below HB11.out) (by have := HRL.out.1; omega) (by have := HQL.out; omega) (by have := HRL.out.2; omega) FK.out.2 FQ.out)
  clear h11 hb11 hout hB0 hgp hgn hgr b11 SC HX9 HX9b HX11 HND2 HD8 HD10
  go_wp2_with fail
  refine SB.out.mono ?_
  rintro e w12 ⟨h12, hb12⟩
  obtain ⟨ec2, O2, oc2, gs2, B2, rfl, hout2, hB2, hgp2⟩ := splitB_gen ⟨h12, hb12⟩
  obtain ⟨he, hgm⟩ := gps_same HGP.out hgp2
  subst he
  have hgl : gs2.length = gs.length := by
    have := congrArg List.length hgm
    simpa using this.symm
  rw [hgl]
  have HGL := hide hgl
  have HGM := hide hgm
  have HOUT2 := hide hout2
  have hB20 := hB2
  have HLT := hide (fun i (hi : i < gs.length) g (e : gs[i].v.ownBlock = some g) => show g < B2 from by
    have := (own_block (HOUT.out.rs i hi) e).2.1
    omega)
  have HOUT := hide (HOUT.out.below hb12)
  have HC12 := hide (HC11.out.trans (hb12.mono HC11.out.size))
  have HX9 := hide (HX9c.out.below hb12 HX9c.out.lt)
  have HX11 := hide (HX11c.out.below hb12 HX11c.out.lt)
  have HD12 := hide (fun h0 => by
    obtain ⟨g, hg, h1, h2, h3⟩ := HD11.out h0
    exact (⟨g, hg, h1, h2, h3.below hb12 h3.lt⟩ : ∃ g, D = some ⟨g, 0, none⟩ ∧ w6.heap.size ≤ g ∧ g < w10.heap.size ∧ Blk w12 g 3 (Grp.ints dl2).toArray))
  have hnd : NRow w12 D dl2 := fun h0 => by
    obtain ⟨g, hg, _, _, h3⟩ := HD12.out h0
    rw [hg]
    exact blk_nrow h3 h0
  have SM : Hid (Calls Tryd.prog 15 #[.agg #[.string dk2, .slice D dl2.length dc], .agg #[.string dk2, .slice D2 dl2.length dc2]] w12 fun e w' => e = .returned (.bool true) ∧ Below w12.heap.size w12 w') := hide ((Same_b dk2 dk2 D D2 dc dc2 dl2 dl2 w12 hnd (HND2c.out.below hb12) (by have := HDL.out; omega) (by have := HDL.out; omega)).mono fun e w' h => by simpa using h)
  have q0 : w12.cell? ⟨w7.heap.size, 0, none⟩ = some (.string dk2) := HX9.out.cell 0
  have q1 : w12.cell? ⟨w7.heap.size, 1, none⟩ = some (.slice D dl2.length dc) := HX9.out.cell 1
  have q2 : w12.cell? ⟨w9.heap.size, 0, none⟩ = some (.string dk2) := HX11.out.cell 0
  have q3 : w12.cell? ⟨w9.heap.size, 1, none⟩ = some (.slice D2 dl2.length dc2) := HX11.out.cell 1
  have hee : (ed2 != ed2) = false := by simp
  have hcc : (ec != ec) = false := by simp
  have hgg : ((gs.length : Int) != (gs.length : Int)) = false := by simp
  clear h12 hb12 hout2 hB2 hgp2 hgl hgm hnd x0 x1 SB HX9c HX11c HND2c HD11 hB20
  go_wp2_with fail
  clear q0 q1 q2 q3
  refine SM.out.mono ?_
  rintro e wz ⟨rfl, hbz⟩
  have HOUTz := hide (HOUT.out.below hbz)
  have HOUT2z := hide (HOUT2.out.below hbz)
  have HCz := hide (HC12.out.trans (hbz.mono HC12.out.size))
  have HX9z := hide (HX9.out.below hbz HX9.out.lt)
  have HDz := hide (fun h0 => by
    obtain ⟨g, hg, h1, h2, h3⟩ := HD12.out h0
    exact (⟨g, hg, h1, h2, h3.below hbz h3.lt⟩ : ∃ g, D = some ⟨g, 0, none⟩ ∧ w6.heap.size ≤ g ∧ g < w10.heap.size ∧ Blk wz g 3 (Grp.ints dl2).toArray))
  have h610 : w6.heap.size ≤ w10.heap.size := HC10.out.size
  have HB06 := hide (show w6.heap.size ≤ B0 by have := HB0.out; omega)
  clear hbz SM HOUT HOUT2 HD12 HX9
  go_wp2_with fail
  clear hee hcc hgg
  -- what the groups hold is written over
  go_loopw [17] (fun vn ws => ∃ (n : Nat), n ≤ gs.length ∧ vn = .int .i64 n ∧ Hid (Only (blks gs n) wz ws) ∧ Hid (Below w6.heap.size w6 ws)) (fun vn _ => gs.length - (RowKit.intOf vn).toNat)
  case atStart => exact ⟨0, Nat.zero_le _, rfl, hide (Only.of_below (Below.refl _ _)), HCz⟩
  case round =>
    obtain ⟨n, hn, rfl, HON, HBs⟩ := hrel
    rename World => ws
    by_cases hlt : n < gs.length
    · have hltI : (n : Int) < (gs.length : Int) := by omega
      have hn2 : n < gs2.length := by have := HGL.out; omega
      obtain ⟨hrow, hrs⟩ := HOUTz.out.after HON.out
      have hrsn := hrs n hlt (Nat.le_refl _)
      have ho2 := HOUTz.out.behind HOUT2z.out HLT.out HON.out
      have hrs2 := ho2.rs n hn2
      have hrow2 := ho2.row
      rw [HGL.out] at hrow2
      obtain ⟨o, hO, _, _, ⟨cso, hOb⟩, _, _, hOc⟩ := own_cell hrow (by omega)
      obtain ⟨o2, hO2, _, _, ⟨cso2, hOb2⟩, _, _, hOc2⟩ := own_cell hrow2 (by omega)
      obtain ⟨hg0, hg1⟩ := gwCs_at (keyK key k) gs n hlt
      obtain ⟨hh0, hh1⟩ := gwCs_at (keyK key k) gs2 n hn2
      have g0 := hOc _ _ hg0
      have g1 := hOc _ _ hg1
      have k0 := hOc2 _ _ hh0
      have k1 := hOc2 _ _ hh1
      obtain ⟨hsc, hsr⟩ := gps_at HGM.out hlt hn2
      have hlen := HGR.out n hlt
      have HMB := hide (fun g (e : gs[n].v.ownBlock = some g) => (mem_blks hlt (Nat.lt_succ_self n) e : g ∈ blks gs (n + 1)))
      have HGE := hide (fun g (e : gs[n].v.ownBlock = some g) => (own_block hrsn e).1)
      have hnr : NRow ws gs[n].A gs[n].rs := own_nrow2 hrsn
      have hnr2 : NRow ws gs2[n].A gs2[n].rs := own_nrow2 hrs2
      rw [hsc] at k0
      unfold Gw.v at g1 k1 hrsn
      rw [hsr] at k1 hnr2
      obtain ⟨gx, hgx⟩ : ∃ x, gs[n] = x := ⟨_, rfl⟩
      obtain ⟨A2, hA2⟩ : ∃ x, gs2[n].A = x := ⟨_, rfl⟩
      obtain ⟨cap2, hcap2⟩ : ∃ x, gs2[n].cap = x := ⟨_, rfl⟩
      rw [hgx] at g0 g1 k0 k1 hnr hnr2 hlen HMB HGE hrsn
      rw [hA2] at k1 hnr2
      rw [hcap2] at k1
      obtain ⟨gc, gA, gcap, grs⟩ := gx
      simp only at g0 g1 k0 k1 hnr hnr2 hlen hrsn
      have NE : Nonempty (BelowOf ws) := ⟨⟨ws, Below.refl _ _⟩⟩
      have u0 : ∀ p : BelowOf ws, p.world.cell? ⟨o, n * 2, none⟩ = some (.string (keyK key k gc)) := fun p => p.cell hOb.lt g0
      have u1 : ∀ p : BelowOf ws, p.world.cell? ⟨o, n * 2 + 1, none⟩ = some (.slice gA grs.length gcap) := fun p => p.cell hOb.lt g1
      have u2 : ∀ p : BelowOf ws, p.world.cell? ⟨o2, n * 2, none⟩ = some (.string (keyK key k gc)) := fun p => p.cell hOb2.lt k0
      have u3 : ∀ p : BelowOf ws, p.world.cell? ⟨o2, n * 2 + 1, none⟩ = some (.slice A2 grs.length cap2) := fun p => p.cell hOb2.lt k1
      have SMN : Hid (∀ p : BelowOf ws, Calls Tryd.prog 15 #[.agg #[.string (keyK key k gc), .slice gA grs.length gcap], .agg #[.string (keyK key k gc), .slice A2 grs.length cap2]] p.world fun e w' => e = .returned (.bool true) ∧ Below p.world.heap.size p.world w') := hide (fun p => (Same_b (keyK key k gc) (keyK key k gc) gA A2 gcap cap2 grs grs p.world (hnr.below p.below) (hnr2.below p.below) (by omega) (by omega)).mono fun e w' h => by simpa using h)
      have HRSN := hide hrsn
      have HG1 := hide g1
      have hOlt := hOb.lt
      have HOB := hide hOb
      subst hO hO2
      clear hrow hrs hrsn ho2 hrs2 hrow2 hOb hOc hOb2 hOc2 hg0 hg1 hh0 hh1 g0 g1 k0 k1 hsc hsr hnr hnr2 hgx hA2 hcap2
      generalize keyK key k gc = gk at *
      go_wp2_with fail
      refine wp_region_quiet_below (by kernel_rfl) (by kernel_rfl) ?_
      repeat (go_big_quiet_step (first
        | (go_at_call 15; exact calls_below (SMN.out _))))
      refine wpQuiet_nil ?_
      rintro Wq ⟨⟨_, hq⟩, rfl⟩
      have HBq := hide (HBs.out.trans (hq.mono HBs.out.size))
      have HOq := hide (Sp.Only.wide (HON.out.trans (Only.of_below hq)) (blks_mono (Nat.le_succ n)))
      have HRq := hide (own_belowR HRSN.out hq)
      have HGq := hide ((hq.cell (p := ⟨o, n * 2 + 1, none⟩) hOlt).trans HG1.out)
      have HOBq := hide (HOB.out.below hq hOlt)
      clear hq u0 u1 u2 u3 NE SMN hOlt HG1 HRSN HOB
      go_wp2_with fail
      go_loopw [18] (fun vj wt => ∃ (j : Nat), j ≤ grs.length ∧ vj = .int .i64 j ∧ Hid (wt.cell? ⟨o, n * 2 + 1, none⟩ = some (.slice gA grs.length gcap)) ∧ Hid (Blk wt o 24 cso) ∧ Hid (0 < grs.length → ∃ gb cs, gA = some ⟨gb, 0, none⟩ ∧ Blk wt gb 3 cs ∧ grs.length ≤ cs.size) ∧ Hid (Only (blks gs (n + 1)) wz wt) ∧ Hid (Below w6.heap.size w6 wt)) (fun vj _ => grs.length - (RowKit.intOf vj).toNat)
      case atStart =>
        refine ⟨0, Nat.zero_le _, rfl, HGq, HOBq, hide (fun h0 => ?_), HOq, HBq⟩
        rcases HRq.out.2 with ⟨_, h1⟩ | ⟨gb, c9, cur, hv, _, hh, hnc, _, hcs, _⟩
        · omega
        · injection hv with h1 h2 h3
          exact ⟨gb, cur, h1, hh, by omega⟩
      case round =>
        obtain ⟨j, hj, rfl, HGt, HOBt, HRt, HOt, HBt⟩ := hrel
        rename World => wt
        have g1 := HGt.out
        by_cases hjl : j < grs.length
        · have hjI : (j : Int) < (grs.length : Int) := by omega
          obtain ⟨gb, cs, rfl, hgb, hcs⟩ := HRt.out (by omega)
          have hje : cs[j]? = some (cs[j]'(by omega)) := Array.getElem?_eq_getElem _
          have cj : wt.cell? ⟨gb, j, none⟩ = some (cs[j]'(by omega)) := by rw [hgb.cell, hje]
          have fj := hgb.frozen j
          have hne : o ≠ gb := fun e => by
            have h8 := HOBt.out
            rw [e] at h8
            exact Blk.ne_ h8 hgb (by decide) rfl
          have hgbB : w6.heap.size ≤ gb := Nat.le_trans HB06.out (HGE.out gb rfl)
          have HGt2 : Hid ((wt.setCell ⟨gb, j, none⟩ (.int .i64 99)).cell? ⟨o, n * 2 + 1, none⟩ = some (.slice (some ⟨gb, 0, none⟩) grs.length gcap)) := hide (by
            rw [HOBt.out.cell] at g1
            rw [(HOBt.out.far (p := ⟨gb, j, none⟩) hne (.int .i64 99)).cell]
            exact g1)
          have HOBt2 := hide (HOBt.out.far (p := ⟨gb, j, none⟩) hne (.int .i64 99))
          have HRt2 : Hid (0 < grs.length → ∃ gb' cs, (some ⟨gb, 0, none⟩ : Option Addr) = some ⟨gb', 0, none⟩ ∧ Blk (wt.setCell ⟨gb, j, none⟩ (.int .i64 99)) gb' 3 cs ∧ grs.length ≤ cs.size) := hide (fun _ => ⟨gb, _, rfl, hgb.set_ j (.int .i64 99), by rw [Array.size_setIfInBounds]; exact hcs⟩)
          have HOt2 := hide (HOt.out.trans (Only.set_ wt (p := ⟨gb, j, none⟩) (.int .i64 99) (HMB.out gb rfl)))
          have HBt2 := hide (HBt.out.setCell (p := ⟨gb, j, none⟩) hgbB (.int .i64 99))
          obtain ⟨cv, hcv⟩ : ∃ x, cs[j]'(by omega) = x := ⟨_, rfl⟩
          rw [hcv] at cj
          clear hje hcv hgb hcs hne HGt HOBt HRt HOt HBt
          go_wp2_with fail
          go_roundw
          case rel => exact ⟨j + 1, by omega, by go_num, HGt2, HOBt2, HRt2, HOt2, HBt2⟩
          case measure => simp [RowKit.intOf] <;> omega
        · have hjI : ¬ (j : Int) < (grs.length : Int) := by omega
          go_wp2_with fail
          go_roundw
          case rel => exact ⟨n + 1, by omega, by go_num, HOt, HBt⟩
          case measure => simp [RowKit.intOf] <;> omega
    have hltI : ¬ (n : Int) < (gs.length : Int) := by omega
    have HX9s : Hid (Blk ws w7.heap.size 24 #[.string dk2, .slice D dl2.length dc]) := hide ((HON.out.2 _ HX9z.out.lt (fun hm => by
      obtain ⟨j, hj, _, e⟩ := blks_mem hm
      obtain ⟨_, _, cs, hb⟩ := own_block (HOUTz.out.rs j hj) e
      exact Blk.ne_ hb HX9z.out (by decide) rfl)).trans HX9z.out)
    have HDs : Hid (0 < dl2.length → ∃ g cs, D = some ⟨g, 0, none⟩ ∧ w6.heap.size ≤ g ∧ Blk ws g 3 cs ∧ dl2.length ≤ cs.size) := hide (fun h0 => by
      obtain ⟨g, hg, h1, h2, h3⟩ := HDz.out h0
      refine ⟨g, _, hg, h1, (HON.out.2 g h3.lt (fun hm => ?_)).trans h3, by simp [Grp.ints]⟩
      obtain ⟨j, hj, _, e⟩ := blks_mem hm
      have := (own_block (HOUTz.out.rs j hj) e).1
      have := HB0.out
      omega)
    have hdl := HDL.out
    clear hlt hn HON HX9z HDz HOUTz HOUT2z
    go_wp2_with fail
    clear hltI
    go_loopw [19] (fun vj wt => ∃ (j : Nat), j ≤ dl2.length ∧ vj = .int .i64 j ∧ Hid (Blk wt w7.heap.size 24 #[.string dk2, .slice D dl2.length dc]) ∧ Hid (0 < dl2.length → ∃ g cs, D = some ⟨g, 0, none⟩ ∧ w6.heap.size ≤ g ∧ Blk wt g 3 cs ∧ dl2.length ≤ cs.size) ∧ Hid (Below w6.heap.size w6 wt)) (fun vj _ => dl2.length - (RowKit.intOf vj).toNat)
    case atStart => exact ⟨0, Nat.zero_le _, rfl, HX9s, HDs, HBs⟩
    case round =>
      clear HX9s HDs HBs
      obtain ⟨j, hj, rfl, HXt, HDt, HBt⟩ := hrel
      rename World => wt
      have g1 : wt.cell? ⟨w7.heap.size, 1, none⟩ = some (.slice D dl2.length dc) := HXt.out.cell 1
      by_cases hjl : j < dl2.length
      · have hjI : (j : Int) < (dl2.length : Int) := by omega
        obtain ⟨gb, cs, rfl, hgbB, hgb, hcs⟩ := HDt.out (by omega)
        have hje : cs[j]? = some (cs[j]'(by omega)) := Array.getElem?_eq_getElem _
        have cj : wt.cell? ⟨gb, j, none⟩ = some (cs[j]'(by omega)) := by rw [hgb.cell, hje]
        have fj := hgb.frozen j
        have hne : w7.heap.size ≠ gb := fun e => by
          have h8 := HXt.out
          rw [e] at h8
          exact Blk.ne_ h8 hgb (by decide) rfl
        have HXt2 := hide (HXt.out.far (p := ⟨gb, j, none⟩) hne (.int .i64 99))
        have HDt2 : Hid (0 < dl2.length → ∃ g cs, (some ⟨gb, 0, none⟩ : Option Addr) = some ⟨g, 0, none⟩ ∧ w6.heap.size ≤ g ∧ Blk (wt.setCell ⟨gb, j, none⟩ (.int .i64 99)) g 3 cs ∧ dl2.length ≤ cs.size) := hide (fun _ => ⟨gb, _, rfl, hgbB, hgb.set_ j (.int .i64 99), by rw [Array.size_setIfInBounds]; exact hcs⟩)
        have HBt2 := hide (HBt.out.setCell (p := ⟨gb, j, none⟩) hgbB (.int .i64 99))
        obtain ⟨cv, hcv⟩ : ∃ x, cs[j]'(by omega) = x := ⟨_, rfl⟩
        rw [hcv] at cj
        clear hje hcv hgb hcs hne HXt HDt HBt
        go_wp2_with fail
        go_roundw
        case rel => exact ⟨j + 1, by omega, by go_num, HXt2, HDt2, HBt2⟩
        case measure => simp [RowKit.intOf] <;> omega
      have hjI : ¬ (j : Int) < (dl2.length : Int) := by omega
      have hqI := HQL.out
      clear hjl hj HXt HDt
      go_wp2_with fail
      clear hjI g1
      go_loopw [20] (fun vj wu => ∃ (j : Nat), j ≤ q.length ∧ vj = .int .i64 j ∧ Hid (Below w6.heap.size w6 wu)) (fun vj _ => q.length - (RowKit.intOf vj).toNat)
      case atStart => exact ⟨0, Nat.zero_le _, rfl, HBt⟩
      case round =>
        clear HBt
        obtain ⟨j, hj, rfl, HBu⟩ := hrel
        rename World => wu
        by_cases hjl : j < q.length
        · have hjI : (j : Int) < (q.length : Int) := by omega
          obtain ⟨aa, rfl, _, c0, c1⟩ := (HOWNQ.out.below HBu.out).at_ hjl
          obtain ⟨ab, rfl, _, e0, e1⟩ := (HQ.out.below (HB6.out.trans (HBu.out.mono HB6.out.size))).at_ hjl
          have NQ := neqAsk q[j].1 q[j].2
          have HDR := hide (fun n => below_drewN HBu.out n)
          generalize q[j].1 = xa at *
          generalize q[j].2 = xb at *
          go_wp2_with fail
          go_quiet (fail)
          rename Nat => nq
          go_wp2_with fail
          go_roundw
          case rel => exact ⟨j + 1, by omega, by go_num, hide (HDR.out nq)⟩
          case measure => simp [RowKit.intOf] <;> omega
        have hjI : ¬ (j : Int) < (q.length : Int) := by omega
        have hB1u := HB6.out.trans (HBu.out.mono HB6.out.size)
        have bu := B1.out.below hB1u B1.out.lt
        have mu := HX7.out.below HBu.out HX7.out.lt
        have x0 : wu.cell? ⟨W.heap.size, 0, none⟩ = some (.string key) := bu.cell 0
        have x1 : wu.cell? ⟨W.heap.size, 1, none⟩ = some (.slice A l.length cap) := bu.cell 1
        have m0 : wu.cell? ⟨w3.heap.size, 0, none⟩ = some (.string key) := mu.cell 0
        have m1 : wu.cell? ⟨w3.heap.size, 1, none⟩ = some (.slice Ac l.length cc) := mu.cell 1
        have SF : Hid (Calls Tryd.prog 15 #[.agg #[.string key, .slice Ac l.length cc], .agg #[.string key, .slice A l.length cap]] wu fun e w' => e = .returned (.bool true) ∧ Below wu.heap.size wu w') := hide ((Same_b key key Ac A cc cap l l wu (HNM.out.below HBu.out) (HN.out.below hB1u) (by have := HRL.out.1; omega) (by have := HRL.out.1; omega)).mono fun e w' h => by simpa using h)
        have HB1u := hide hB1u
        clear bu mu hB1u
        go_wp2_with fail
        refine SF.out.mono ?_
        rintro e wv ⟨rfl, hbv⟩
        have HBv := hide (HB1u.out.trans (hbv.mono HB1u.out.size))
        clear hbv
        go_wp2_with fail
        go_ret
        exact ⟨rfl, HB1.out.trans (HBv.out.mono HB1.out.size)⟩
end Go.Proofs.YtgiibknfkphkgaaDoor.GroupSplitsW
