/- A text read as a program: read. -/
import Derived.Test.YtegpimaakgledaaDoorRows
import Derived.Test.YtegpimaakgledaaDoorCodRi
import Derived.Test.YtegpimaakgledaaDoorCodW
namespace Go.Proofs.YtegpimaakgledaaDoor
open Go Go.RowKit
open Go.Lib (itoa atoiAll parseIntB trimPrefix hasPrefix)
set_option linter.unusedVariables false
set_option linter.unusedSimpArgs false
namespace Cod
/-- An instruction put behind a program's own row. -/
theorem push_in (w : World) (B : Nat) (A : Option Addr) (cap n : Nat) (l : List In) (x : In) (hn : l.length = n) (h : w.ownsRow B 47 2 (.slice A n cap) n (codeCs l)) (hB : B ≤ w.heap.size) (hl : n ≤ 100000) :
    ∃ A1 c1 w1, (Builtin.append_ #[22, 22] 22 #[.slice A n cap, .slice (some ⟨w.heap.size, 0, none⟩) 1 1]).run Tryd.prog (w.alloc (.cells #[.int .u8 x.op, .int .i64 x.n] 47)) = .ok (.slice A1 (n + 1) c1) w1 ∧
      w1.ownsRow B 47 2 (.slice A1 (n + 1) c1) (n + 1) (codeCs (l ++ [x])) ∧ Below B w w1 ∧ KeepsBut [47] w w1 := by
  have ba := (Below.refl w.heap.size w).alloc (Nat.le_refl _) (.cells #[.int .u8 x.op, .int .i64 x.n] 47)
  have kb := Blk.new w 47 #[.int .u8 x.op, .int .i64 x.n]
  have ow := own_belowR h ba
  have hs1 : (w.alloc (.cells #[.int .u8 x.op, .int .i64 x.n] 47)).heap.size = w.heap.size + 1 := by simp
  obtain ⟨Wz, hWz⟩ : ∃ x', w.alloc (.cells #[.int .u8 x.op, .int .i64 x.n] 47) = x' := ⟨_, rfl⟩
  rw [hWz] at ba kb ow hs1 ⊢
  have hrd : Reads Wz Wz.heap.size 2 (some ⟨w.heap.size, 0, none⟩) 1 [.int .u8 x.op, .int .i64 x.n] := ⟨rfl, fun _ => ⟨_, rfl, kb.lt, fun j u hu => by rw [add_lit, kb.cell]; simpa using hu⟩⟩
  obtain ⟨i0, hi0, hz0', hz1, hz2⟩ := info_parts instr_info
  obtain ⟨v11, w11, hrun, hown, hk11, hob⟩ := run_append_any (P := Tryd.prog) Wz B 22 22 47 i0 _ 2 16 Tryd.underlying22 hi0 hz0' hz1 hz2 (by rfl) (by omega) _ _ _ ow Wz.heap.size (some ⟨w.heap.size, 0, none⟩) 1 1 _ hrd (by
    intro u hu
    simp only [List.mem_cons, List.not_mem_nil, or_false] at hu
    rcases hu with rfl | rfl <;> rfl) (by unfold maxLen; omega) (by omega) (by omega)
  obtain ⟨A11, c11, rfl⟩ := slice_of_own hown
  exact ⟨A11, c11, w11, hrun, by rw [show codeCs (l ++ [x]) = codeCs l ++ [.int .u8 x.op, .int .i64 x.n] by simp [codeCs]]; exact hown, (ba.mono hB).grown hk11 (by omega) (fun g e => (own_block h e).1), (KeepsBut.of_below ba).trans (grown_keeps ow hk11)⟩
def RdPost (s : List UInt8) (w : World) (e : Ending) (w' : World) : Prop :=
  (∃ r, RdR s r ∧ ((r = none ∧ e = .returned (.tuple #[.agg #[.slice none 0 0, .int .i64 0, .slice none 0 0], .bool false])) ∨
    ∃ v arrs cs C cc A ca, r = some (v, arrs, cs) ∧ ((-9223372036854775808 ≤ v ∧ v ≤ 9223372036854775807) ∧ (∀ x ∈ arrs, -9223372036854775808 ≤ x ∧ x ≤ 9223372036854775807) ∧ (∀ x ∈ cs, x.ok) ∧ arrs.length ≤ s.length ∧ cs.length ≤ 4001) ∧
      e = .returned (.tuple #[PrV C cs.length cc v A arrs.length ca, .bool true]) ∧ Own w' w.heap.size C cc cs A ca arrs)) ∧ Below w.heap.size w w'
def sLen : Value → Nat
  | .string s => s.size
  | _ => 0
theorem bytes_nil (t : List UInt8) : ((bytes t).toList == []) = decide (t = []) := by
  have := bytes_eq t []
  rwa [show (bytes []).toList = [] by rw [ByteArray.toList_eq]; rfl] at this
set_option maxRecDepth 100000 in
set_option maxHeartbeats 16000000 in
theorem read_c (s : List UInt8) (w : World) (H : Ops w) (hE : Env w) (hl : s.length ≤ 90000) :
    Calls Tryd.prog 34 #[.string (bytes s)] w (RdPost s w) := by
  have hb1 := (Below.refl w.heap.size w).alloc (Nat.le_refl _) (.cells #[.slice none 0 0, .int .i64 0, .slice none 0 0] 25)
  have k1 := Blk.new w 25 #[.slice none 0 0, .int .i64 0, .slice none 0 0]
  have HO := hide H
  have HE := hide hE
  go_enter Tryd.func34, Tryd.ntmps34
  go_upto_region 1 with (fail)
  obtain ⟨w1, hw1⟩ : ∃ z, w.alloc (.cells #[.slice none 0 0, .int .i64 0, .slice none 0 0] 25) = z := ⟨_, rfl⟩
  rw [hw1] at hb1 k1 ⊢
  obtain ⟨X, hX⟩ : ∃ X, w.heap.size = X := ⟨_, rfl⟩
  rw [hX] at k1 hb1 ⊢
  have HX := hide hX
  have HB1 := hide (And.intro hb1 (show X ≤ w1.heap.size by have := k1.lt; omega))
  have K1 := hide k1
  have HOB := hide (fun (w' : World) (h : Below X w w') => HO.out.below h (by rw [hX]; exact Nat.le_refl _))
  have HEB := hide (fun (w' : World) (h : Below X w w') => HE.out.below h (by rw [hX]; exact Nat.le_refl _))
  have CL1 := cut1_len 10 s
  have CL2 := cut1_len 10 (cut1 10 s).2.1
  have TL1 := trim_len (cut1 10 s).1 [118, 97, 114, 115, 32]
  have TL2 := trim_len (cut1 10 (cut1 10 s).2.1).1 [97, 114, 114, 97, 121, 115]
  have HV1 : Hid (trimPrefix (cut1 10 s).1 (⟨#[118, 97, 114, 115, 32]⟩ : ByteArray).data.toList = hdV s) := hide rfl
  have HA1 : Hid (trimPrefix (cut1 10 (cut1 10 s).2.1).1 (⟨#[97, 114, 114, 97, 121, 115]⟩ : ByteArray).data.toList = plA s) := hide rfl
  have HC1 : Hid ((cut1 10 (cut1 10 s).2.1).2.1 = rsC s) := hide rfl
  have hlv : (hdV s).length ≤ s.length := by unfold hdV; omega
  have hla : (plA s).length ≤ s.length := by unfold plA; omega
  have hlr : (rsC s).length ≤ s.length := by unfold rsC; omega
  have C1 := hide (cut_c 10 s w1 (HEB.out w1 hb1) (by omega))
  have C2 := hide (fun w' (h : Below X w w') => cut_c 10 (cut1 10 s).2.1 w' (HEB.out w' h) (by omega))
  have T1 := hide (fun w' => trim_c ⟨#[118, 97, 114, 115, 32]⟩ (cut1 10 s).1 w')
  have T2 := hide (fun w' => trim_c ⟨#[97, 114, 114, 97, 121, 115]⟩ (cut1 10 (cut1 10 s).2.1).1 w')
  rw [HV1.out] at T1
  rw [HA1.out] at T2
  simp only [HC1.out] at C2
  have HLV := hide (And.intro hlv (And.intro hla hlr))
  have RY := hide (fun v arrs cs h1 h2 h3 => RdR.yes (s := s) v arrs cs h1 h2 h3)
  have RV := hide (fun h => RdR.noV (s := s) h)
  have RA := hide (fun v h1 h2 => RdR.noA (s := s) v h1 h2)
  have RC := hide (fun v arrs h1 h2 h3 => RdR.noC (s := s) v arrs h1 h2 h3)
  generalize (cut1 10 s).2.1 = r1 at *
  generalize (cut1 10 s).1 = h1 at *
  generalize (cut1 10 s).2.2 = g1 at *
  generalize (cut1 10 r1).1 = p1 at *
  generalize (cut1 10 r1).2.2 = g2 at *
  generalize hdV s = hv at *
  generalize plA s = pa at *
  generalize rsC s = rc at *
  clear hb1 k1 hw1 hX hE H CL1 CL2 TL1 TL2 HV1 HA1 HC1 hlv hla hlr HO HE
  go_wp2_with fail
  refine C1.out.mono ?_
  rintro e w2 ⟨rfl, hb2⟩
  have HB2 := hide (And.intro (HB1.out.1.trans (hb2.mono HB1.out.2)) (Nat.le_trans HB1.out.2 hb2.size))
  have K2 := hide (K1.out.below hb2 K1.out.lt)
  have CC2 := hide (C2.out w2 HB2.out.1)
  clear hb2 C1 C2 HB1 K1
  go_wp2_with fail
  refine CC2.out.mono ?_
  rintro e w3 ⟨rfl, hb3⟩
  have HB3 := hide (And.intro (HB2.out.1.trans (hb3.mono HB2.out.2)) (Nat.le_trans HB2.out.2 hb3.size))
  have K3 := hide (K2.out.below hb3 K2.out.lt)
  clear hb3 CC2 HB2 K2
  go_wp2_with fail
  refine (T1.out w3).mono ?_
  rintro e w3' ⟨rfl, rfl⟩
  clear T1
  by_cases hok : ∃ v, atoiAll hv = .ok v
  rotate_left
  · have hno : ∀ v, atoiAll hv ≠ .ok v := fun v h => hok ⟨v, h⟩
    have AT := hide (atoi_no hv (by have := HLV.out.1; omega) hno w3 (HEB.out w3 HB3.out.1))
    have RN := hide (RV.out hno)
    clear hok hno
    go_wp2_with fail
    refine AT.out.mono ?_
    rintro e w4 ⟨x, t, p, rfl, hb4⟩
    have hb4' := HB3.out.1.trans (hb4.mono HB3.out.2)
    have kz := K3.out.below hb4 K3.out.lt
    have z0 : w4.cell? ⟨X, 0, none⟩ = some (.slice none 0 0) := kz.cell 0
    have z1 : w4.cell? ⟨X, 1, none⟩ = some (.int .i64 0) := kz.cell 1
    have z2 : w4.cell? ⟨X, 2, none⟩ = some (.slice none 0 0) := kz.cell 2
    have f0 := kz.frozen 0
    have f1 := kz.frozen 1
    have f2 := kz.frozen 2
    have k9 := ((kz.set_ 0 (.slice none 0 0)).set_ 1 (.int .i64 0)).set_ 2 (.slice none 0 0)
    have HB9 := hide (((hb4'.setCell (p := ⟨X, 0, none⟩) (Nat.le_refl _) (.slice none 0 0)).setCell (p := ⟨X, 1, none⟩) (Nat.le_refl _) (.int .i64 0)).setCell (p := ⟨X, 2, none⟩) (Nat.le_refl _) (.slice none 0 0))
    obtain ⟨w9, hw9⟩ : ∃ z, ((w4.setCell ⟨X, 0, none⟩ (.slice none 0 0)).setCell ⟨X, 1, none⟩ (.int .i64 0)).setCell ⟨X, 2, none⟩ (.slice none 0 0) = z := ⟨_, rfl⟩
    rw [hw9] at k9 HB9
    have u0 : w9.cell? ⟨X, 0, none⟩ = some (.slice none 0 0) := k9.cell 0
    have u1 : w9.cell? ⟨X, 1, none⟩ = some (.int .i64 0) := k9.cell 1
    have u2 : w9.cell? ⟨X, 2, none⟩ = some (.slice none 0 0) := k9.cell 2
    clear kz k9 hb4 hb4' AT
    go_wp2_with fail
    exact bodyPost_ret (v := .tuple #[.agg #[.slice none 0 0, .int .i64 0, .slice none 0 0], .bool false]) (by simp [results, Tryd.results34, go_sem, u0, u1, u2]) rfl ⟨⟨none, RN.out, .inl ⟨rfl, rfl⟩⟩, by rw [HX.out]; exact HB9.out⟩
  obtain ⟨v, hv1⟩ := hok
  have AT := hide (atoi_ok hv (by have := HLV.out.1; omega) v hv1 w3)
  have HFV := hide (atoi_fit hv1)
  have HV1 := hide hv1
  clear hv1
  go_wp2_with fail
  refine AT.out.mono ?_
  rintro e w4 ⟨rfl, hb4⟩
  have k4 := K3.out.below hb4 K3.out.lt
  have x1 : w4.cell? ⟨X, 1, none⟩ = some (.int .i64 0) := k4.cell 1
  have f1 := k4.frozen 1
  have K5 := hide (k4.set_ 1 (.int .i64 v))
  have HB5 := hide (And.intro ((HB3.out.1.trans (hb4.mono HB3.out.2)).setCell (p := ⟨X, 1, none⟩) (Nat.le_refl _) (.int .i64 v)) (show X ≤ (w4.setCell ⟨X, 1, none⟩ (.int .i64 v)).heap.size by have := Nat.le_trans HB3.out.2 hb4.size; simpa [World.setCell] using this))
  obtain ⟨w5, hw5⟩ : ∃ z, w4.setCell ⟨X, 1, none⟩ (.int .i64 v) = z := ⟨_, rfl⟩
  rw [hw5] at K5 HB5
  have T22 := hide (T2.out w5)
  clear hb4 k4 AT HB3 K3 T2
  go_wp2_with fail
  refine T22.out.mono ?_
  rintro e w5' ⟨rfl, rfl⟩
  clear T22 x1 f1 hw5
  go_wp2_with fail
  go_loopw [7] (fun v7 wr => ∃ (t : List UInt8) (acc : List Int) (A : Option Addr) (ca : Nat), v7 = .string (bytes t) ∧ Hid (t.length + acc.length ≤ s.length) ∧ Hid (∀ r, ArR t acc r → ArR pa [] r) ∧ Hid (∀ x ∈ acc, -9223372036854775808 ≤ x ∧ x ≤ 9223372036854775807) ∧ Hid (Blk wr X 25 #[.slice none 0 0, .int .i64 v, .slice A acc.length ca]) ∧ Hid (wr.ownsRow X 3 1 (.slice A acc.length ca) acc.length (intCs acc)) ∧ Hid (Below X w wr ∧ X ≤ wr.heap.size)) (fun v7 _ => sLen v7)
  case atStart => exact ⟨pa, [], none, 0, rfl, hide (by have := HLV.out.2.1; simpa using this), hide (fun r h => h), hide (fun x hx => absurd hx List.not_mem_nil), K5, hide ⟨rfl, .inl ⟨rfl, rfl⟩⟩, HB5⟩
  case round =>
    obtain ⟨t, acc, A, ca, rfl, HTL, HAR, HFI, HK, HOW, HBr⟩ := hrel
    rename World => wr
    have EQ := bytes_nil t
    by_cases ht : t = []
    rotate_left
    · rw [decide_eq_false ht] at EQ
      have TR := hide (trim_c ⟨#[32]⟩ t wr)
      have e32 : trimPrefix t (⟨#[32]⟩ : ByteArray).data.toList = trimPrefix t [32] := rfl
      rw [e32] at TR
      have TLT := trim_len t [32]
      have CLT := cut1_len 32 (trimPrefix t [32])
      have hlt2 : (cut1 32 (trimPrefix t [32])).2.1.length < t.length := by
        rcases Nat.eq_zero_or_pos (trimPrefix t [32]).length with h | h
        · have := CLT.2.1
          have : 0 < t.length := List.length_pos_iff.2 ht
          omega
        · have := CLT.2.2 (List.length_pos_iff.1 h)
          omega
      have CU := hide (cut_c 32 (trimPrefix t [32]) wr (HEB.out wr HBr.out.1) (by have := HTL.out; omega))
      have HGO := hide (fun v r h1 h2 => HAR.out r (ArR.go t acc v r ht h1 h2))
      have HBD := hide (fun h1 => HAR.out none (ArR.bad t acc ht h1))
      have hlo : (cut1 32 (trimPrefix t [32])).1.length ≤ 1000000 := by have := HTL.out; have := CLT.1; omega
      have HT2 := hide hlt2
      have hts : 0 < (bytes t).size := by rw [bytes_size]; exact List.length_pos_iff.2 ht
      have HTS := hide (bytes_size t)
      generalize trimPrefix t [32] = tt at *
      generalize (cut1 32 tt).1 = one at *
      generalize (cut1 32 tt).2.1 = rest at *
      generalize (cut1 32 tt).2.2 = gg at *
      clear ht TLT CLT hlt2 e32
      go_wp2_with fail
      refine TR.out.mono ?_
      rintro e wr' ⟨rfl, rfl⟩
      go_wp2_with fail
      refine CU.out.mono ?_
      rintro e wx ⟨rfl, hbx⟩
      have HBx := hide (And.intro (HBr.out.1.trans (hbx.mono HBr.out.2)) (Nat.le_trans HBr.out.2 hbx.size))
      have HKx := hide (HK.out.below hbx HK.out.lt)
      have HOx := hide (own_belowR HOW.out hbx)
      clear hbx CU TR HK HOW HBr
      by_cases hok : ∃ n, atoiAll one = .ok n
      rotate_left
      · have hno : ∀ n, atoiAll one ≠ .ok n := fun n h => hok ⟨n, h⟩
        have AT := hide (atoi_no one hlo hno wx (HEB.out wx HBx.out.1))
        have RN := hide (RA.out v HV1.out (HBD.out hno))
        clear hok hno
        go_wp2_with fail
        refine AT.out.mono ?_
        rintro e wy ⟨x, t', p, rfl, hby⟩
        have hby' := HBx.out.1.trans (hby.mono HBx.out.2)
        have kz := HKx.out.below hby HKx.out.lt
        have z0 : wy.cell? ⟨X, 0, none⟩ = some (.slice none 0 0) := kz.cell 0
        have z1 : wy.cell? ⟨X, 1, none⟩ = some (.int .i64 v) := kz.cell 1
        have z2 : wy.cell? ⟨X, 2, none⟩ = some (.slice A acc.length ca) := kz.cell 2
        have f0 := kz.frozen 0
        have f1 := kz.frozen 1
        have f2 := kz.frozen 2
        have k9 := ((kz.set_ 0 (.slice none 0 0)).set_ 1 (.int .i64 0)).set_ 2 (.slice none 0 0)
        have HB9 := hide (((hby'.setCell (p := ⟨X, 0, none⟩) (Nat.le_refl _) (.slice none 0 0)).setCell (p := ⟨X, 1, none⟩) (Nat.le_refl _) (.int .i64 0)).setCell (p := ⟨X, 2, none⟩) (Nat.le_refl _) (.slice none 0 0))
        obtain ⟨w9, hw9⟩ : ∃ z, ((wy.setCell ⟨X, 0, none⟩ (.slice none 0 0)).setCell ⟨X, 1, none⟩ (.int .i64 0)).setCell ⟨X, 2, none⟩ (.slice none 0 0) = z := ⟨_, rfl⟩
        rw [hw9] at k9 HB9
        have u0 : w9.cell? ⟨X, 0, none⟩ = some (.slice none 0 0) := k9.cell 0
        have u1 : w9.cell? ⟨X, 1, none⟩ = some (.int .i64 0) := k9.cell 1
        have u2 : w9.cell? ⟨X, 2, none⟩ = some (.slice none 0 0) := k9.cell 2
        clear kz k9 hby hby' AT
        go_wp2_with fail
        exact bodyPost_ret (v := .tuple #[.agg #[.slice none 0 0, .int .i64 0, .slice none 0 0], .bool false]) (by simp [results, Tryd.results34, go_sem, u0, u1, u2]) rfl ⟨⟨none, RN.out, .inl ⟨rfl, rfl⟩⟩, by rw [HX.out]; exact HB9.out⟩
      obtain ⟨n, hn1⟩ := hok
      have AT := hide (atoi_ok one hlo n hn1 wx)
      have HFN := hide (atoi_fit hn1)
      have HN1 := hide hn1
      clear hn1
      go_wp2_with fail
      refine AT.out.mono ?_
      rintro e wy ⟨rfl, hby⟩
      have HBy := hide (And.intro (HBx.out.1.trans (hby.mono HBx.out.2)) (Nat.le_trans HBx.out.2 hby.size))
      have HKy := hide (HKx.out.below hby HKx.out.lt)
      have HOy := hide (own_belowR HOx.out hby)
      clear hby AT HBx HKx HOx
      obtain ⟨A4, c4, wz, hrun, hown, hbl, hky⟩ := push_int wy X A ca acc.length acc n rfl HOy.out HBy.out.2 (by have := HTL.out; omega)
      have y2 : wy.cell? ⟨X, 2, none⟩ = some (.slice A acc.length ca) := HKy.out.cell 2
      have HKz := hide (KeepsBut.blk hky HKy.out (by decide))
      have y3 : wz.cell? ⟨X, 2, none⟩ = some (.slice A acc.length ca) := HKz.out.cell 2
      have f2 := HKz.out.frozen 2
      have HOz := hide (own_setCell (p := ⟨X, 2, none⟩) hown (own_blk_ne hown HKz.out (by decide)) (.slice A4 (acc.length + 1) c4))
      have HKf := hide (HKz.out.set_ 2 (.slice A4 (acc.length + 1) c4))
      have HBz := hide (And.intro ((HBy.out.1.trans hbl).setCell (p := ⟨X, 2, none⟩) (Nat.le_refl _) (.slice A4 (acc.length + 1) c4)) (show X ≤ (wz.setCell ⟨X, 2, none⟩ (.slice A4 (acc.length + 1) c4)).heap.size by have := Nat.le_trans HBy.out.2 hky.1; simpa [World.setCell] using this))
      have RUN := hide hrun
      have hXl := HKy.out.lt
      obtain ⟨wf, hwf⟩ : ∃ z, wz.setCell ⟨X, 2, none⟩ (.slice A4 (acc.length + 1) c4) = z := ⟨_, rfl⟩
      rw [hwf] at HOz HKf HBz
      clear hrun hown hbl hky
      go_wp2_with (at_builtin; refine Lib.wpList_append_run _ rfl _ _ 23 23 rfl _ _ rfl rfl _ _ RUN.out ?_)
      go_roundw
      case rel => exact ⟨rest, acc ++ [n], A4, c4, rfl, hide (by rw [List.length_append, List.length_singleton]; have := HTL.out; have := HT2.out; omega), hide (fun r h => HGO.out n r HN1.out h), hide (fun x hx => by
        rcases List.mem_append.1 hx with h | h
        · exact HFI.out x h
        · rw [List.mem_singleton.1 h]; exact HFN.out), hide (by rw [List.length_append, List.length_singleton]; exact HKf.out), hide (by rw [List.length_append, List.length_singleton]; exact HOz.out), HBz⟩
      case measure =>
        show (bytes rest).size < (bytes t).size
        rw [bytes_size, bytes_size]
        exact HT2.out
    rw [decide_eq_true ht] at EQ
    subst ht
    have HAD := hide (HAR.out _ (ArR.done acc))
    have HAL : Hid (acc.length ≤ s.length) := hide (by have := HTL.out; simpa using this)
    obtain ⟨arrs, ha⟩ : ∃ z, acc = z := ⟨_, rfl⟩
    obtain ⟨M, hM⟩ : ∃ M, acc.length = M := ⟨_, rfl⟩
    rw [hM] at HK HOW
    rw [ha] at HFI HAD HAL HOW hM
    have HM := hide hM
    clear ha hM HTL HAR acc
    have c0 : wr.cell? ⟨X, 0, none⟩ = some (.slice none 0 0) := HK.out.cell 0
    clear c0
    obtain ⟨w6, hw6⟩ : ∃ z, wr = z := ⟨_, rfl⟩
    rw [hw6] at HK HOW HBr ⊢
    clear hw6
    go_wp2_with fail
    go_loopw [5] (fun v5 wr => ∃ (t : List UInt8) (acc : List In) (C : Option Addr) (cc : Nat), v5 = .string (bytes t) ∧ Hid (t.length ≤ s.length) ∧ Hid (acc.length ≤ 4001) ∧ Hid (∀ r, CoR t acc r → CoR rc [] r) ∧ Hid (∀ x ∈ acc, x.ok) ∧ Hid (Blk wr X 25 #[.slice C acc.length cc, .int .i64 v, .slice A M ca]) ∧ Hid (wr.ownsRow X 47 2 (.slice C acc.length cc) acc.length (codeCs acc)) ∧ Hid (wr.ownsRow X 3 1 (.slice A M ca) M (intCs arrs)) ∧ Hid (Below X w wr ∧ X ≤ wr.heap.size)) (fun v5 _ => sLen v5)
    case atStart => exact ⟨rc, [], none, 0, rfl, hide HLV.out.2.2, hide (Nat.zero_le _), hide (fun r h => h), hide (fun x hx => absurd hx List.not_mem_nil), HK, hide ⟨rfl, .inl ⟨rfl, rfl⟩⟩, HOW, HBr⟩
    case round =>
      obtain ⟨t, acc, C, cc, rfl, HTL, HLA, HCR, HOK, HKr, HCO, HAO, HB6⟩ := hrel
      rename World => wr
      have EQ := bytes_nil t
      have r0 : wr.cell? ⟨X, 0, none⟩ = some (.slice C acc.length cc) := HKr.out.cell 0
      obtain ⟨K, hK⟩ : ∃ K, acc.length = K := ⟨_, rfl⟩
      rw [hK] at r0 HKr HCO HLA
      have HKL := hide hK
      have hend : (t = [] ∨ 4000 < K) ∨ (t ≠ [] ∧ K ≤ 4000) := by
        by_cases h : t = []
        · exact .inl (.inl h)
        · by_cases h2 : K ≤ 4000
          · exact .inr ⟨h, h2⟩
          · exact .inl (.inr (by omega))
      clear hK
      rcases hend with hend | ⟨ht, hK4⟩
      · have HCD := hide (HCR.out _ (CoR.done t acc (by rw [HKL.out]; exact hend)))
        have HRY := hide (RY.out v arrs acc HV1.out HAD.out HCD.out)
        have r1 : wr.cell? ⟨X, 1, none⟩ = some (.int .i64 v) := HKr.out.cell 1
        have r2 : wr.cell? ⟨X, 2, none⟩ = some (.slice A M ca) := HKr.out.cell 2
        have f0 := HKr.out.frozen 0
        have f1 := HKr.out.frozen 1
        have f2 := HKr.out.frozen 2
        have k9 := ((HKr.out.set_ 0 (.slice C K cc)).set_ 1 (.int .i64 v)).set_ 2 (.slice A M ca)
        have HB9 := hide (((HB6.out.1.setCell (p := ⟨X, 0, none⟩) (Nat.le_refl _) (.slice C K cc)).setCell (p := ⟨X, 1, none⟩) (Nat.le_refl _) (.int .i64 v)).setCell (p := ⟨X, 2, none⟩) (Nat.le_refl _) (.slice A M ca))
        have nc := own_blk_ne HCO.out HKr.out (by decide)
        have na := own_blk_ne HAO.out HKr.out (by decide)
        have oc := own_setCell (p := ⟨X, 2, none⟩) (own_setCell (p := ⟨X, 1, none⟩) (own_setCell (p := ⟨X, 0, none⟩) HCO.out nc (.slice C K cc)) nc (.int .i64 v)) nc (.slice A M ca)
        have oa := own_setCell (p := ⟨X, 2, none⟩) (own_setCell (p := ⟨X, 1, none⟩) (own_setCell (p := ⟨X, 0, none⟩) HAO.out na (.slice C K cc)) na (.int .i64 v)) na (.slice A M ca)
        obtain ⟨w9, hw9⟩ : ∃ z, ((wr.setCell ⟨X, 0, none⟩ (.slice C K cc)).setCell ⟨X, 1, none⟩ (.int .i64 v)).setCell ⟨X, 2, none⟩ (.slice A M ca) = z := ⟨_, rfl⟩
        rw [hw9] at k9 HB9 oc oa
        have OWN := hide (show Own w9 X C cc acc A ca arrs from ⟨by rw [HKL.out]; exact oc, by rw [HM.out]; exact oa⟩)
        have u0 : w9.cell? ⟨X, 0, none⟩ = some (.slice C K cc) := k9.cell 0
        have u1 : w9.cell? ⟨X, 1, none⟩ = some (.int .i64 v) := k9.cell 1
        have u2 : w9.cell? ⟨X, 2, none⟩ = some (.slice A M ca) := k9.cell 2
        clear k9 nc na oc oa HCR
        have FIN : Hid (RdPost s w (.returned (.tuple #[.agg #[.slice C K cc, .int .i64 v, .slice A M ca], .bool true])) w9) := hide ⟨⟨_, HRY.out, .inr ⟨v, arrs, acc, C, cc, A, ca, rfl, ⟨HFV.out, HFI.out, HOK.out, HAL.out, by rw [HKL.out]; exact HLA.out⟩, by rw [HKL.out, HM.out]; rfl, by rw [HX.out]; exact OWN.out⟩⟩, by rw [HX.out]; exact HB9.out⟩
        rcases hend with hend | hend
        · rw [decide_eq_true hend] at EQ
          clear hend
          go_wp2_with fail
          exact bodyPost_ret (v := .tuple #[.agg #[.slice C K cc, .int .i64 v, .slice A M ca], .bool true]) (by simp [results, Tryd.results34, go_sem, u0, u1, u2]) rfl FIN.out
        · have g1 : ¬ (K : Int) ≤ 4000 := by omega
          by_cases ht : t = []
          · rw [decide_eq_true ht] at EQ
            clear ht
            go_wp2_with fail
            exact bodyPost_ret (v := .tuple #[.agg #[.slice C K cc, .int .i64 v, .slice A M ca], .bool true]) (by simp [results, Tryd.results34, go_sem, u0, u1, u2]) rfl FIN.out
          · rw [decide_eq_false ht] at EQ
            clear ht
            go_wp2_with fail
            exact bodyPost_ret (v := .tuple #[.agg #[.slice C K cc, .int .i64 v, .slice A M ca], .bool true]) (by simp [results, Tryd.results34, go_sem, u0, u1, u2]) rfl FIN.out
      rw [decide_eq_false ht] at EQ
      have g1 : (K : Int) ≤ 4000 := by omega
      have CLT := cut1_len 10 t
      have CU := hide (cut_c 10 t wr (HEB.out wr HB6.out.1) (by have := HTL.out; omega))
      have HT2 := hide (CLT.2.2 ht)
      have HGO := hide (fun x r h1 h2 => HCR.out r (CoR.go t acc x r ht (by rw [HKL.out]; exact hK4) h1 h2))
      have HBD := hide (fun h1 => HCR.out none (CoR.bad t acc ht (by rw [HKL.out]; exact hK4) h1))
      have hll : (cut1 10 t).1.length ≤ 1000000 := by have := HTL.out; have := CLT.1; omega
      have RI := hide (fun w' (h : Below X w w') => readInstr_c (cut1 10 t).1 w' (HOB.out w' h) (HEB.out w' h) hll)
      generalize (cut1 10 t).1 = line at *
      generalize (cut1 10 t).2.1 = rest at *
      generalize (cut1 10 t).2.2 = gg at *
      clear ht CLT
      go_wp2_with fail
      refine CU.out.mono ?_
      rintro e wx ⟨rfl, hbx⟩
      have HBx := hide (And.intro (HB6.out.1.trans (hbx.mono HB6.out.2)) (Nat.le_trans HB6.out.2 hbx.size))
      have HKx := hide (HKr.out.below hbx HKr.out.lt)
      have HCx := hide (own_belowR HCO.out hbx)
      have HAx := hide (own_belowR HAO.out hbx)
      clear hbx CU HKr HCO HAO HB6 r0
      go_wp2_with fail
      refine (RI.out wx HBx.out.1).mono ?_
      rintro e wy ⟨⟨r, hr, hh⟩, hby⟩
      have HBy := hide (And.intro (HBx.out.1.trans (hby.mono HBx.out.2)) (Nat.le_trans HBx.out.2 hby.size))
      have HKy := hide (HKx.out.below hby HKx.out.lt)
      have HCy := hide (own_belowR HCx.out hby)
      have HAy := hide (own_belowR HAx.out hby)
      have HRR := hide hr
      clear hby HBx HKx HCx HAx RI hr
      rcases hh with ⟨rfl, rfl⟩ | ⟨x, rfl, hxok, _, _, rfl⟩
      · have RN := hide (RC.out v arrs HV1.out HAD.out (HBD.out HRR.out))
        have hb8 := HBy.out.1.alloc HBy.out.2 (.cells #[.int .u8 0, .int .i64 0] 47)
        have k8 := HKy.out.alloc (.cells #[.int .u8 0, .int .i64 0] 47)
        go_upto_region 19 with (fail)
        obtain ⟨w8, hw8⟩ : ∃ z, wy.alloc (.cells #[.int .u8 0, .int .i64 0] 47) = z := ⟨_, rfl⟩
        rw [hw8] at hb8 k8 ⊢
        have kz := k8
        have z0 : w8.cell? ⟨X, 0, none⟩ = some (.slice C K cc) := kz.cell 0
        have z1 : w8.cell? ⟨X, 1, none⟩ = some (.int .i64 v) := kz.cell 1
        have z2 : w8.cell? ⟨X, 2, none⟩ = some (.slice A M ca) := kz.cell 2
        have f0 := kz.frozen 0
        have f1 := kz.frozen 1
        have f2 := kz.frozen 2
        have k9 := ((kz.set_ 0 (.slice none 0 0)).set_ 1 (.int .i64 0)).set_ 2 (.slice none 0 0)
        have HB9 := hide (((hb8.setCell (p := ⟨X, 0, none⟩) (Nat.le_refl _) (.slice none 0 0)).setCell (p := ⟨X, 1, none⟩) (Nat.le_refl _) (.int .i64 0)).setCell (p := ⟨X, 2, none⟩) (Nat.le_refl _) (.slice none 0 0))
        obtain ⟨w9, hw9⟩ : ∃ z, ((w8.setCell ⟨X, 0, none⟩ (.slice none 0 0)).setCell ⟨X, 1, none⟩ (.int .i64 0)).setCell ⟨X, 2, none⟩ (.slice none 0 0) = z := ⟨_, rfl⟩
        rw [hw9] at k9 HB9
        have u0 : w9.cell? ⟨X, 0, none⟩ = some (.slice none 0 0) := k9.cell 0
        have u1 : w9.cell? ⟨X, 1, none⟩ = some (.int .i64 0) := k9.cell 1
        have u2 : w9.cell? ⟨X, 2, none⟩ = some (.slice none 0 0) := k9.cell 2
        clear kz k9 hb8 k8 hw8
        go_wp2_with fail
        exact bodyPost_ret (v := .tuple #[.agg #[.slice none 0 0, .int .i64 0, .slice none 0 0], .bool false]) (by simp [results, Tryd.results34, go_sem, u0, u1, u2]) rfl ⟨⟨none, RN.out, .inl ⟨rfl, rfl⟩⟩, by rw [HX.out]; exact HB9.out⟩
      have HXO := hide hxok
      obtain ⟨xo, xn⟩ := x
      unfold In.val
      dsimp only
      have hb8 := HBy.out.1.alloc HBy.out.2 (.cells #[.int .u8 xo, .int .i64 xn] 47)
      have ha8 := (Below.refl wy.heap.size wy).alloc (Nat.le_refl _) (.cells #[.int .u8 xo, .int .i64 xn] 47)
      have k8 := HKy.out.below ha8 HKy.out.lt
      have i8 := Blk.new wy 47 #[.int .u8 xo, .int .i64 xn]
      have c8 := own_belowR HCy.out ha8
      have a8 := own_belowR HAy.out ha8
      have hs8 : X ≤ (wy.alloc (.cells #[.int .u8 xo, .int .i64 xn] 47)).heap.size := Nat.le_trans HBy.out.2 ha8.size
      go_upto_region 19 with (fail)
      obtain ⟨w8, hw8⟩ : ∃ z, wy.alloc (.cells #[.int .u8 xo, .int .i64 xn] 47) = z := ⟨_, rfl⟩
      rw [hw8] at hb8 k8 i8 c8 a8 hs8 ⊢
      obtain ⟨Y, hY⟩ : ∃ Y, wy.heap.size = Y := ⟨_, rfl⟩
      rw [hY] at i8 ⊢
      have j0 : w8.cell? ⟨Y, 0, none⟩ = some (.int .u8 xo) := i8.cell 0
      have j1 : w8.cell? ⟨Y, 1, none⟩ = some (.int .i64 xn) := i8.cell 1
      have y0 : w8.cell? ⟨X, 0, none⟩ = some (.slice C K cc) := k8.cell 0
      obtain ⟨C4, c4, wz, hrun, hown, hbl, hky⟩ := push_in w8 X C cc K acc ⟨xo, xn⟩ HKL.out c8 hs8 (by omega)
      dsimp only at hrun
      have HKz := hide (KeepsBut.blk hky k8 (by decide))
      have y3 : wz.cell? ⟨X, 0, none⟩ = some (.slice C K cc) := HKz.out.cell 0
      have f0 := HKz.out.frozen 0
      have aoz := KeepsBut.own hky a8 (by decide)
      have HCz := hide (own_setCell (p := ⟨X, 0, none⟩) hown (own_blk_ne hown HKz.out (by decide)) (.slice C4 (K + 1) c4))
      have HAz := hide (own_setCell (p := ⟨X, 0, none⟩) aoz (own_blk_ne aoz HKz.out (by decide)) (.slice C4 (K + 1) c4))
      have HKf := hide (HKz.out.set_ 0 (.slice C4 (K + 1) c4))
      have HBz := hide (And.intro ((hb8.trans hbl).setCell (p := ⟨X, 0, none⟩) (Nat.le_refl _) (.slice C4 (K + 1) c4)) (show X ≤ (wz.setCell ⟨X, 0, none⟩ (.slice C4 (K + 1) c4)).heap.size by have := Nat.le_trans hs8 hky.1; simpa [World.setCell] using this))
      have RUN := hide hrun
      have hXl := k8.lt
      have hYl := i8.lt
      obtain ⟨wf, hwf⟩ : ∃ z, wz.setCell ⟨X, 0, none⟩ (.slice C4 (K + 1) c4) = z := ⟨_, rfl⟩
      rw [hwf] at HCz HAz HKf HBz
      clear hrun hown hbl hky hb8 ha8 k8 i8 c8 a8 hs8 hw8 hY aoz
      go_wp2_with (at_builtin; refine Lib.wpList_append_run _ rfl _ _ 22 22 rfl _ _ rfl rfl _ _ RUN.out ?_)
      go_roundw
      case rel => exact ⟨rest, acc ++ [⟨xo, xn⟩], C4, c4, rfl, hide (by have := HTL.out; have := HT2.out; omega), hide (by rw [List.length_append, List.length_singleton, HKL.out]; omega), hide (fun r h => HGO.out _ r HRR.out h), hide (fun x hx => by
        rcases List.mem_append.1 hx with h | h
        · exact HOK.out x h
        · rw [List.mem_singleton.1 h]; exact HXO.out), hide (by rw [List.length_append, List.length_singleton, HKL.out]; exact HKf.out), hide (by rw [List.length_append, List.length_singleton, HKL.out]; exact HCz.out), HAz, HBz⟩
      case measure =>
        show (bytes rest).size < (bytes t).size
        rw [bytes_size, bytes_size]
        exact HT2.out
end Cod
end Go.Proofs.YtegpimaakgledaaDoor
