/- What is left of a queue: the program. -/
import Derived.Test.YtomladbdebfikaaRows
import Derived.Test.YtomladbdebfikaaQuXc
import Derived.Test.YtomladbdebfikaaQuH
import Derived.Test.YtomladbdebfikaaQuE
import Derived.Test.YtomladbdebfikaaSMapR
import Derived.Test.YtomladbdebfikaaRelT
namespace Go.Proofs.Ytomladbdebfikaa
open Go Go.RowKit Go.Lib
set_option linter.unusedVariables false
set_option linter.unusedSimpArgs false
namespace Qu
theorem chan_info : (Try.prog.info? 63).map (fun i => (i.zero, i.size, i.bytes)) = some (some (.agg #[.string ⟨#[]⟩, .int .i64 0, .int .i64 0]), 3, 32) := by kernel_rfl
set_option maxRecDepth 100000 in
/-- A channel put behind a row of one's own. -/
theorem push_k (w : World) (B : Nat) (A : Option Addr) (cap n : Nat) (xs : List Value) (m : Chan) (h : w.ownsRow B 63 3 (.slice A n cap) n xs) (hB : B ≤ w.heap.size) (hl : n ≤ 100000) :
    ∃ A1 c1 w1, (Builtin.append_ #[79, 79] 79 #[.slice A n cap, .slice (some ⟨w.heap.size, 0, none⟩) 1 1]).run Try.prog (w.alloc (.cells #[.string m.key, .int .i64 m.fr, .int .i64 m.to] 63)) = .ok (.slice A1 (n + 1) c1) w1 ∧
      w1.ownsRow B 63 3 (.slice A1 (n + 1) c1) (n + 1) (xs ++ ckC m) ∧ w.grownBy w1 (Value.slice A n cap).ownBlock := by
  have ba := (Below.refl w.heap.size w).alloc (Nat.le_refl _) (.cells #[.string m.key, .int .i64 m.fr, .int .i64 m.to] 63)
  have kb := Blk.new w 63 #[.string m.key, .int .i64 m.fr, .int .i64 m.to]
  have ow := own_belowR h ba
  have hs1 : (w.alloc (.cells #[.string m.key, .int .i64 m.fr, .int .i64 m.to] 63)).heap.size = w.heap.size + 1 := by simp
  obtain ⟨Wz, hWz⟩ : ∃ x', w.alloc (.cells #[.string m.key, .int .i64 m.fr, .int .i64 m.to] 63) = x' := ⟨_, rfl⟩
  rw [hWz] at ba kb ow hs1 ⊢
  have hrd : Reads Wz Wz.heap.size 3 (some ⟨w.heap.size, 0, none⟩) 1 (ckC m) := ⟨rfl, fun _ => ⟨_, rfl, kb.lt, fun j u hu => by rw [add_lit, kb.cell]; simpa [ckC] using hu⟩⟩
  obtain ⟨i0, hi0, hz0', hz1, hz2⟩ := info_parts chan_info
  obtain ⟨v11, w11, hrun, hown, hk11, hob⟩ := run_append_any (P := Try.prog) Wz B 79 79 63 i0 _ 3 32 Try.underlying79 hi0 hz0' hz1 hz2 (by rfl) (by omega) _ _ _ ow Wz.heap.size (some ⟨w.heap.size, 0, none⟩) 1 1 _ hrd (by intro u hu; unfold ckC at hu; simp only [List.mem_cons, List.not_mem_nil, or_false] at hu; rcases hu with rfl | rfl | rfl <;> rfl) (by unfold maxLen; omega) (by omega) (by omega)
  obtain ⟨A11, c11, rfl⟩ := own_form hown
  exact ⟨A11, c11, w11, hrun, hown, gtrans (grown_of_below ba) hk11⟩
set_option maxRecDepth 100000 in
/-- A row of messages put behind a row of one's own. -/
theorem push_ms (w : World) (B : Nat) (A : Option Addr) (cap n : Nat) (xs : List Value) (A2 : Option Addr) (c2 m : Nat) (k : List Msg) (hm : k.length = m) (h : w.ownsRow B 31 8 (.slice A n cap) n xs) (hr : Reads w w.heap.size 8 A2 m (msgCs k)) (hB : B ≤ w.heap.size) (hl : n ≤ 100000) (hl2 : m ≤ 100000) :
    ∃ A1 c1 w1, (Builtin.append_ #[27, 27] 27 #[.slice A n cap, .slice A2 m c2]).run Try.prog w = .ok (.slice A1 (n + m) c1) w1 ∧
      w1.ownsRow B 31 8 (.slice A1 (n + m) c1) (n + m) (xs ++ msgCs k) ∧ w.grownBy w1 (Value.slice A n cap).ownBlock := by
  obtain ⟨i0, hi0, hz0', hz1, hz2⟩ := info_parts msg_info
  obtain ⟨v11, w11, hrun, hown, hk11, hob⟩ := run_append_any (P := Try.prog) w B 27 27 31 i0 _ 8 72 Try.underlying27 hi0 hz0' hz1 hz2 (by rfl) (by omega) _ _ _ h w.heap.size A2 m c2 _ hr (fun u hu => by
    clear hr
    clear hm
    induction k with
    | nil => cases hu
    | cons x k ih =>
      rw [msgCs] at hu
      rcases List.mem_append.1 hu with hu | hu
      · unfold msgC at hu
        simp only [List.mem_cons, List.not_mem_nil, or_false] at hu
        rcases hu with rfl | rfl | rfl | rfl | rfl | rfl | rfl | rfl <;> rfl
      · exact ih hu) (by unfold maxLen; omega) (by omega) (by omega)
  obtain ⟨A11, c11, rfl⟩ := own_form hown
  exact ⟨A11, c11, w11, hrun, hown, hk11⟩
theorem sub_len {α : Type} [DecidableEq α] : ∀ {a b : List α}, a.Nodup → (∀ x ∈ a, x ∈ b) → a.length ≤ b.length
  | [], b, _, _ => Nat.zero_le _
  | x :: a, b, h, hs => by
    have h' := List.nodup_cons.1 h
    have hx := hs x List.mem_cons_self
    have ih := sub_len (a := a) (b := b.erase x) h'.2 fun y hy => (List.mem_erase_of_ne (fun (e : y = x) => h'.1 (by rw [← e]; exact hy))).2 (hs y (List.mem_cons_of_mem _ hy))
    rw [List.length_erase_of_mem hx] at ih
    have : 0 < b.length := List.length_pos_of_mem hx
    rw [List.length_cons]
    omega
theorem QSt.many {w : World} {q : Nat} {L : QL} {l : List Msg} (h : QSt w q L l) : L.cl.length ≤ l.length := by
  have h1 := sub_len (a := L.cl.map (·.1)) (b := l.map (·.ch)) h.kc fun c hc => by
    obtain ⟨m, hm, e⟩ := rowsOf_ne.1 ((h.cin c).1 hc)
    exact List.mem_map.2 ⟨m, hm, e⟩
  simpa using h1
/-- The program's row at a channel. -/
theorem QSt.rowv {w : World} {q : Nat} {L : QL} {l : List Msg} (h : QSt w q L l) {c : Chan} (hc : rowsOf l c ≠ []) :
    ∃ (g cap fi : Nat), (SMap.look (L.cl.map fun p => (p.1, rowV (rowsOf l p.1) p.2)) c).getD (.agg #[.slice none 0 0, .int .i64 0]) = .agg #[.slice (some ⟨g, 0, none⟩) (rowsOf l c).length cap, .int .i64 fi] ∧ ∀ w', QSt w' q L l → MRow w' (some ⟨g, 0, none⟩) (rowsOf l c) := by
  obtain ⟨x, hx, e⟩ := h.row hc
  rw [e]
  exact ⟨x.g, x.cap, x.fi, rfl, fun w' h' => MRow.of_own (h'.crow _ hx) rfl⟩
theorem own_at {w w' : World} {B n c size : Nat} {A : Option Addr} {e : TypeId} {xs : List Value} {r : Nat} (h : w.ownsRow B e size (.slice A n c) n xs) (hg : w.grownBy w' (some r)) (hr : r < B) : w'.ownsRow B e size (.slice A n c) n xs := by
  refine ⟨h.1, h.2.imp id ?_⟩
  rintro ⟨g', cap, cur, hv, hge, hh, rr⟩
  exact ⟨g', cap, cur, hv, hge, (hg.block g' (Array.getElem?_eq_some_iff.1 hh).1 (fun e => by injection e with e; omega)).trans hh, rr⟩
set_option maxRecDepth 100000 in
set_option maxHeartbeats 16000000 in
theorem Left_c {w : World} {q : Nat} {L : QL} {l : List Msg} (h : QSt w q L l) (hl : l.length ≤ 1000) :
    Calls Try.prog 16 #[.pointer (some ⟨q, 0, none⟩)] w fun e w' => ∃ A1 c1 K, e = .returned (.slice A1 K.length c1) ∧ IsLeft l K ∧ w'.ownsRow w.heap.size 31 8 (.slice A1 K.length c1) K.length (msgCs K) ∧ Below w.heap.size w w' := by
  have HQ0 := hide h
  have MC := hide (made_c h)
  have c0 : w.cell? ⟨q, 0, none⟩ = some (.map (some L.cm)) := h.blk.cell 0
  have hcn := h.many
  have HKC := hide h.kc
  have HCI := hide h.cin
  obtain ⟨hrg, hit⟩ := SMap.run_range (P := Try.prog) Try.underlying57 _ L.cm w h.mc
  have hlen : (L.cl.map fun p => (p.1, rowV (rowsOf l p.1) p.2)).length = L.cl.length := List.length_map _
  have hkeys : (L.cl.map fun p => (p.1, rowV (rowsOf l p.1) p.2)).map (·.1) = L.cl.map (·.1) := by rw [List.map_map]; rfl
  have hmb := h.mc
  have hcm := h.mc.lt
  have bi := (Below.refl w.heap.size w).alloc (Nat.le_refl _) (.mapIter (some L.cm) (L.cl.map fun p => (p.1, rowV (rowsOf l p.1) p.2)).length #[] (L.cl.map fun p => (p.1, rowV (rowsOf l p.1) p.2)).length)
  have si : (w.alloc (.mapIter (some L.cm) (L.cl.map fun p => (p.1, rowV (rowsOf l p.1) p.2)).length #[] (L.cl.map fun p => (p.1, rowV (rowsOf l p.1) p.2)).length)).heap.size = w.heap.size + 1 := by simp
  obtain ⟨W1, hW1⟩ : ∃ z, w.alloc (.mapIter (some L.cm) (L.cl.map fun p => (p.1, rowV (rowsOf l p.1) p.2)).length #[] (L.cl.map fun p => (p.1, rowV (rowsOf l p.1) p.2)).length) = z := ⟨_, rfl⟩
  rw [hW1] at hrg hit bi si
  obtain ⟨cl, hcl⟩ : ∃ z, (L.cl.map fun p => (p.1, rowV (rowsOf l p.1) p.2)) = z := ⟨_, rfl⟩
  rw [hcl] at hit hlen hkeys hmb
  obtain ⟨r, hr⟩ : ∃ z, w.heap.size = z := ⟨_, rfl⟩
  rw [hr] at hrg hit bi si hcm
  have HIT := hide hit
  have HLEN := hide hlen
  have HKEYS := hide hkeys
  have HMB := hide hmb
  have HCM := hide hcm
  have HBI := hide bi
  have HSI := hide si
  have HR := hide hr
  have HCL := hide hcl
  have HCN := hide hcn
  have HW1 := hide hW1
  have RNG := hide (SMap.Rng.start cl)
  have OW0 := hide (show W1.ownsRow (r + 1) 63 3 (.slice none 0 0) 0 (ckCs []) from ⟨rfl, .inl ⟨rfl, rfl⟩⟩)
  clear h hit hlen hkeys hmb hcm bi si hr hcl hcn hW1
  go_enter Try.func16, Try.ntmps16
  go_wp2_with fail
  refine MC.out.mono ?_
  rintro e wb ⟨rfl, hwb⟩
  obtain rfl : w = wb := hwb
  clear MC
  go_wp2_with fail
  clear hrg c0
  go_loopw [3, 4] (fun v3 _ wr => ∃ (seen : Array Nat) (ks : List (Chan × Value)) (cs : List Chan) (A1 : Option Addr) (c1 : Nat), v3 = .slice A1 cs.length c1 ∧ Hid (cs = ks.map (·.1)) ∧ Hid (SMap.It wr r L.cm cl.length seen) ∧ Hid (SMap.Rng cl seen ks) ∧ Hid (wr.ownsRow (r + 1) 63 3 (.slice A1 cs.length c1) cs.length (ckCs cs)) ∧ Hid (Below r w wr ∧ r + 1 ≤ wr.heap.size)) (fun _ _ wr => (leftOf (SMap.ent chV 0 cl).toArray (wr.iterSeen r)).size)
  case atStart => exact ⟨#[], [], [], none, 0, rfl, hide rfl, HIT, RNG, OW0, hide ⟨HBI.out, Nat.le_of_eq HSI.out.symm⟩⟩
  case round =>
    obtain ⟨seen, ks, cs, A1, c1, rfl, HCS, HITr, HRG, HOW, HBR⟩ := hrel
    rename World => wr
    have hkl := HRG.out.len
    have hcs : cs.length ≤ 1000 := by rw [HCS.out, List.length_map]; have := HLEN.out; have := HCN.out; omega
    have HCSL := hide hcs
    have mbr := HMB.out.below HBR.out.1 HCM.out
    rcases SMap.run_next (P := Try.prog) wr r L.cm HITr.out mbr HRG.out (by have := HCM.out; omega) with ⟨hperm, hnx⟩ | ⟨⟨⟨ck, cf, ct⟩, pv⟩, e0, wn, hp, he0, hrg1, hnx, hen, hit1, hgr1, hsz1⟩
    · have SRT := hide (sort_row A1 c1 cs wr (r + 1) HOW.out hcs)
      have HPM := hide (show cs.Perm (L.cl.map (·.1)) by rw [HCS.out, ← HKEYS.out]; exact hperm.map _)
      clear hperm mbr hkl hcs
      go_wp2_with fail
      refine SRT.out.mono ?_
      rintro e w2 ⟨L', rfl, hpm, hso, hck, hgr⟩
      have hn : L'.length = cs.length := hpm.length_eq
      obtain ⟨n, hn'⟩ : ∃ z, cs.length = z := ⟨_, rfl⟩
      have hb2 := HBR.out.1.grown hgr (by have := HBR.out.2; omega) (fun g hg => by have := (own_block HOW.out hg).1; omega)
      have HB2 := hide hb2
      have HS2 := hide (show w.heap.size ≤ w2.heap.size from by have := hb2.size; exact this)
      rw [hn'] at hn
      have HN := hide hn
      have HNL := hide (show n ≤ 1000 by have := HCSL.out; omega)
      have HCK := hide hck
      have hkp : L'.Perm (L.cl.map (·.1)) := hpm.trans HPM.out
      have HKS := hide (sorted_keys hkp HKC.out hso)
      have HKM := hide (show ∀ c, c ∈ L' ↔ rowsOf l c ≠ [] from fun c => (hkp.mem_iff).trans (HCI.out c))
      have HISL := hide (isLeft_by HKS.out HKM.out)
      have OW2 := hide (show w2.ownsRow w2.heap.size 31 8 (.slice none 0 0) (leftBy l (L'.take 0)).length (msgCs (leftBy l (L'.take 0))) from ⟨rfl, .inl ⟨rfl, rfl⟩⟩)
      rw [hn']
      clear hnx hpm hso hck hgr hb2 hn hn' hkp SRT HOW HITr HRG HCS HCSL HPM
      go_wp2_with fail
      go_loopw [5, 7, 28] (fun v5 _ v28 wr => ∃ (j : Nat) (O : Option Addr) (oc : Nat), j ≤ n ∧ v28 = .int .i64 j ∧ v5 = .slice O (leftBy l (L'.take j)).length oc ∧ Hid (wr.ownsRow w2.heap.size 31 8 (.slice O (leftBy l (L'.take j)).length oc) (leftBy l (L'.take j)).length (msgCs (leftBy l (L'.take j)))) ∧ Hid (Below w2.heap.size w2 wr)) (fun _ _ v28 _ => n - (RowKit.intOf v28).toNat)
      case atStart => exact ⟨0, none, 0, Nat.zero_le _, rfl, rfl, OW2, hide (Below.refl _ _)⟩
      case round =>
        obtain ⟨j, O, oc, hj, rfl, rfl, HOWj, HBRj⟩ := hrel
        rename World => wz
        have hn1 := HNL.out
        by_cases hlt : j < n
        rotate_left
        · have hltI : ¬ (j : Int) < (n : Int) := by omega
          obtain rfl : n = j := by omega
          have e : L'.take n = L' := by rw [← HN.out, List.take_length]
          rw [e] at HOWj
          rw [e]
          clear hlt e
          go_wp2_with fail
          go_ret
          exact ⟨O, oc, leftBy l L', rfl, HISL.out, own_more HOWj.out HS2.out, by rw [HR.out]; exact HB2.out.trans (HBRj.out.mono (by have := HS2.out; rw [HR.out] at this; exact this))⟩
        have hltI : (j : Int) < (n : Int) := by omega
        obtain ⟨g, hA, hg, d0, d1, d2⟩ := (HCK.out.below HBRj.out) j (by rw [HN.out]; exact hlt)
        have hin : L'[j]'(by rw [HN.out]; exact hlt) ∈ L' := List.getElem_mem _
        have hts : L'.take (j + 1) = L'.take j ++ [L'[j]'(by rw [HN.out]; exact hlt)] := List.take_succ_eq_append_getElem (by rw [HN.out]; exact hlt)
        obtain ⟨⟨kk, kf, kt⟩, hkk⟩ : ∃ z, L'[j]'(by rw [HN.out]; exact hlt) = z := ⟨_, rfl⟩
        rw [hkk] at d0 d1 d2 hin hts
        simp only at d0 d1 d2
        obtain ⟨gr, rc, fi, hv, hrow⟩ := (show QSt wz q L l from HQ0.out.below (by rw [HR.out]; exact HB2.out.trans (HBRj.out.mono (by have := HS2.out; rw [HR.out] at this; exact this)))).rowv ((HKM.out _).1 hin)
        have HV := hide hv
        have HROW := hide hrow
        have HSTEP := hide (show leftBy l (L'.take (j + 1)) = leftBy l (L'.take j) ++ untaken (rowsOf l ⟨kk, kf, kt⟩) by rw [hts, leftBy_app]; congr 1; simp [leftBy])
        have HLT := hide hlt
        have HPL := hide (show (leftBy l (L'.take j)).length ≤ 1000 by have := leftBy_pre (l := l) (ks := L') j; have := isLeft_len HISL.out; omega)
        have HUL := hide (show (untaken (rowsOf l ⟨kk, kf, kt⟩)).length ≤ 1000 by have := untaken_len (rowsOf l ⟨kk, kf, kt⟩); have := rowsOf_len l ⟨kk, kf, kt⟩; omega)
        have HRL := hide (show (rowsOf l ⟨kk, kf, kt⟩).length ≤ 1000 by have := rowsOf_len l ⟨kk, kf, kt⟩; omega)
        have bs := (Below.refl wz.heap.size wz).alloc (Nat.le_refl _) (.cells #[.string kk, .int .i64 kf, .int .i64 kt] 63)
        have ky := Blk.new wz 63 #[.string kk, .int .i64 kf, .int .i64 kt]
        obtain ⟨ws, hws⟩ : ∃ z, wz.alloc (.cells #[.string kk, .int .i64 kf, .int .i64 kt] 63) = z := ⟨_, rfl⟩
        obtain ⟨Y, hY⟩ : ∃ z, wz.heap.size = z := ⟨_, rfl⟩
        rw [hws] at bs ky
        rw [hY] at ky
        have hbs := HBRj.out.trans (bs.mono HBRj.out.size)
        have HBS := hide hbs
        have OWS := hide (own_belowR HOWj.out bs)
        have HQS := hide (show QSt ws q L l from HQ0.out.below (by rw [HR.out]; exact HB2.out.trans (hbs.mono (by have := HS2.out; rw [HR.out] at this; exact this))))
        have HWS := hide hws
        have HY := hide hY
        have KY := hide ky
        obtain ⟨m, hm⟩ : ∃ z, (leftBy l (L'.take j)).length = z := ⟨_, rfl⟩
        have HM := hide hm
        rw [hm] at OWS HPL
        rw [hm, hA]
        clear hin hts hkk hv hrow bs ky hws hY hbs hlt hm hg
        go_upto_region 13 with (fail)
        rw [HWS.out, HY.out]
        clear HWS HY d0 d1 d2
        let R : Nat → Value → World → Prop := fun sl u w1 => match sl with
          | 32 => u = .slice O m oc
          | 33 => u = .pointer (some ⟨q, 0, none⟩)
          | 34 => u = .pointer (some ⟨q, 0, none⟩)
          | 35 => u = .pointer (some ⟨q, 0, none⟩)
          | 36 => u = .map (some L.cm)
          | 37 => u = .agg #[.string kk, .int .i64 kf, .int .i64 kt]
          | 38 => u = .agg #[.slice (some ⟨gr, 0, none⟩) (rowsOf l ⟨kk, kf, kt⟩).length rc, .int .i64 fi]
          | 39 => u = .slice (some ⟨gr, 0, none⟩) (rowsOf l ⟨kk, kf, kt⟩).length rc
          | 40 => ∃ (A3 : Option Addr) (c3 : Nat), u = .slice A3 (untaken (rowsOf l ⟨kk, kf, kt⟩)).length c3 ∧ w1.ownsRow 0 31 8 (.slice A3 (untaken (rowsOf l ⟨kk, kf, kt⟩)).length c3) (untaken (rowsOf l ⟨kk, kf, kt⟩)).length (msgCs (untaken (rowsOf l ⟨kk, kf, kt⟩)))
          | _ => True
        refine wp_region_relT 9 R (by kernel_rfl) (by kernel_rfl) (by kernel_rfl) (by kernel_rfl) ?mono ?step ?fin
        case mono =>
          intro t u w1 w2 h hb
          match t with
          | 40 =>
            obtain ⟨A3, c3, h1, h2⟩ := h
            exact ⟨A3, c3, h1, own_belowR h2 hb⟩
          | 32 | 33 | 34 | 35 | 36 | 37 | 38 | 39 => exact h
          | 0 | 1 | 2 | 3 | 4 | 5 | 6 | 7 | 8 | 9 | 10 | 11 | 12 | 13 | 14 | 15 | 16 | 17 | 18 | 19 | 20 | 21 | 22 | 23 | 24 | 25 | 26 | 27 | 28 | 29 | 30 | 31 => trivial
          | _ + 41 => trivial
        case fin =>
          intro ff w5 hb hr
          have f32 : ff 32 = .slice O m oc := hr 32 (by decide)
          have f40 : ∃ (A3 : Option Addr) (c3 : Nat), ff 40 = .slice A3 (untaken (rowsOf l ⟨kk, kf, kt⟩)).length c3 ∧ w5.ownsRow 0 31 8 (.slice A3 (untaken (rowsOf l ⟨kk, kf, kt⟩)).length c3) (untaken (rowsOf l ⟨kk, kf, kt⟩)).length (msgCs (untaken (rowsOf l ⟨kk, kf, kt⟩))) := hr 40 (by decide)
          obtain ⟨A3, c3, f40, hown3⟩ := f40
          have hb5 := HBS.out.trans (hb.mono HBS.out.size)
          obtain ⟨O2, oc2, w6, hrun, hown6, hgr6⟩ := push_ms w5 w2.heap.size O oc m _ A3 c3 _ (untaken (rowsOf l ⟨kk, kf, kt⟩)) rfl (own_belowR OWS.out hb) (Reads.of_own hown3) hb5.size (by have := HPL.out; omega) (by have := HUL.out; omega)
          have HB6 := hide (hb5.grown hgr6 hb5.size fun g hg => (own_block (own_belowR OWS.out hb) hg).1)
          have HLN := hide (show (leftBy l (L'.take (j + 1))).length = m + (untaken (rowsOf l ⟨kk, kf, kt⟩)).length by rw [HSTEP.out, List.length_append, HM.out])
          have OW6 := hide (show w6.ownsRow w2.heap.size 31 8 (.slice O2 (m + (untaken (rowsOf l ⟨kk, kf, kt⟩)).length) oc2) (m + (untaken (rowsOf l ⟨kk, kf, kt⟩)).length) (msgCs (leftBy l (L'.take (j + 1)))) by
            rw [HSTEP.out, msgCs_app]
            exact hown6)
          have RUN := hide hrun
          clear hrun hown6 hgr6 hb5 hown3 hb hr
          simp only [putAll, slotsOf, List.take_succ_cons, List.take_zero, List.drop_succ_cons, List.drop_zero, List.filterMap_cons, List.filterMap_nil, List.foldl_cons, List.foldl_nil, Act.put, f32, f40]
          simp only [List.setIfInBounds_toArray, List.set_cons_succ, List.set_cons_zero]
          clear f32 f40
          go_wp2_with (at_builtin; refine Lib.wpList_append_run _ rfl _ _ 27 27 rfl _ _ rfl rfl _ _ RUN.out ?_)
          go_roundw
          case rel => exact ⟨j + 1, O2, oc2, HLT.out, by go_num, by rw [HLN.out], by rw [HLN.out]; exact OW6, HB6⟩
          case measure => have := HLT.out; simp [RowKit.intOf] <;> omega
        case step =>
          intro o ho
          simp only [List.take_succ_cons, List.take_zero, List.mem_cons, List.not_mem_nil, or_false] at ho
          rcases ho with rfl | rfl | rfl | rfl | rfl | rfl | rfl | rfl | rfl
          · intro a w1 hb hs hr
            have e5 : a.tmps.getD 5 undef = .slice O m oc := hs 5 (by decide)
            rw [Array.getD_eq_getD_getElem?] at e5
            unfold Oper.wp
            simp only [execOp, Act.eval, Array.getD_eq_getD_getElem?, e5]
            go_simp
            exact ⟨_, rfl, rfl, Below.refl _ _⟩
          · intro a w1 hb hs hr
            have e0 : a.tmps.getD 0 undef = .pointer (some ⟨q, 0, none⟩) := hs 0 (by decide)
            rw [Array.getD_eq_getD_getElem?] at e0
            unfold Oper.wp
            simp only [execOp, Act.eval, Array.getD_eq_getD_getElem?, e0]
            go_simp
            exact ⟨_, rfl, rfl, Below.refl _ _⟩
          · intro a w1 hb hs hr
            have e33 : a.tmps.getD 33 undef = .pointer (some ⟨q, 0, none⟩) := hr 33 (by decide) (by apply Array.mem_toList_iff.1; repeat (first | exact List.Mem.head _ | apply List.Mem.tail))
            rw [Array.getD_eq_getD_getElem?] at e33
            unfold Oper.wp
            simp only [execOp, Act.eval, Array.getD_eq_getD_getElem?, e33]
            go_simp
            exact ⟨_, rfl, rfl, Below.refl _ _⟩
          · intro a w1 hb hs hr
            have e34 : a.tmps.getD 34 undef = .pointer (some ⟨q, 0, none⟩) := hr 34 (by decide) (by apply Array.mem_toList_iff.1; repeat (first | exact List.Mem.head _ | apply List.Mem.tail))
            rw [Array.getD_eq_getD_getElem?] at e34
            unfold Oper.wp
            simp only [execOp, Act.eval, Array.getD_eq_getD_getElem?, e34]
            go_simp
            exact ⟨_, rfl, rfl, Below.refl _ _⟩
          · intro a w1 hb hs hr
            have e35 : a.tmps.getD 35 undef = .pointer (some ⟨q, 0, none⟩) := hr 35 (by decide) (by apply Array.mem_toList_iff.1; repeat (first | exact List.Mem.head _ | apply List.Mem.tail))
            have hc0 : w1.cell? ⟨q, 0, none⟩ = some (.map (some L.cm)) := (HQS.out.below hb).blk.cell 0
            rw [Array.getD_eq_getD_getElem?] at e35
            unfold Oper.wp
            simp only [execOp, Act.eval, Array.getD_eq_getD_getElem?, e35]
            go_simp
            exact ⟨_, rfl, rfl, Below.refl _ _⟩
          · intro a w1 hb hs hr
            have e7 : a.tmps.getD 7 undef = .pointer (some ⟨Y, 0, none⟩) := hs 7 (by decide)
            have ky1 := KY.out.below hb KY.out.lt
            have y0 : w1.cell? ⟨Y, 0, none⟩ = some (.string kk) := ky1.cell 0
            have y1 : w1.cell? ⟨Y, 1, none⟩ = some (.int .i64 kf) := ky1.cell 1
            have y2 : w1.cell? ⟨Y, 2, none⟩ = some (.int .i64 kt) := ky1.cell 2
            clear ky1
            rw [Array.getD_eq_getD_getElem?] at e7
            unfold Oper.wp
            simp only [execOp, Act.eval, Array.getD_eq_getD_getElem?, e7]
            go_simp
            exact ⟨_, rfl, rfl, Below.refl _ _⟩
          · intro a w1 hb hs hr
            have e36 : a.tmps.getD 36 undef = .map (some L.cm) := hr 36 (by decide) (by apply Array.mem_toList_iff.1; repeat (first | exact List.Mem.head _ | apply List.Mem.tail))
            have e37 : a.tmps.getD 37 undef = .agg #[.string kk, .int .i64 kf, .int .i64 kt] := hr 37 (by decide) (by apply Array.mem_toList_iff.1; repeat (first | exact List.Mem.head _ | apply List.Mem.tail))
            have lk := SMap.run_lookup (P := Try.prog) keyChan Try.underlying57 zero_row ⟨kk, kf, kt⟩ L.cm _ w1 (HQS.out.below hb).mc
            rw [HV.out] at lk
            unfold chV at lk
            rw [Array.getD_eq_getD_getElem?] at e36
            rw [Array.getD_eq_getD_getElem?] at e37
            unfold Oper.wp
            simp only [execOp, Act.eval, Array.getD_eq_getD_getElem?, e36, e37]
            go_simp
            exact ⟨_, rfl, rfl, Below.refl _ _⟩
          · intro a w1 hb hs hr
            have e38 : a.tmps.getD 38 undef = .agg #[.slice (some ⟨gr, 0, none⟩) (rowsOf l ⟨kk, kf, kt⟩).length rc, .int .i64 fi] := hr 38 (by decide) (by apply Array.mem_toList_iff.1; repeat (first | exact List.Mem.head _ | apply List.Mem.tail))
            have fd := run_field0 (some ⟨gr, 0, none⟩) (rowsOf l ⟨kk, kf, kt⟩).length rc fi w1
            rw [Array.getD_eq_getD_getElem?] at e38
            unfold Oper.wp
            simp only [execOp, Act.eval, Array.getD_eq_getD_getElem?, e38]
            go_simp
            exact ⟨_, rfl, rfl, Below.refl _ _⟩
          · intro a w1 hb hs hr
            have e39 : a.tmps.getD 39 undef = .slice (some ⟨gr, 0, none⟩) (rowsOf l ⟨kk, kf, kt⟩).length rc := hr 39 (by decide) (by apply Array.mem_toList_iff.1; repeat (first | exact List.Mem.head _ | apply List.Mem.tail))
            have LC := hide (left_c (w := w1) (some ⟨gr, 0, none⟩) rc (rowsOf l ⟨kk, kf, kt⟩).length (rowsOf l ⟨kk, kf, kt⟩) (HROW.out w1 (HQS.out.below hb)) rfl HRL.out)
            rw [Array.getD_eq_getD_getElem?] at e39
            unfold Oper.wp
            simp only [execOp, Act.eval, Array.getD_eq_getD_getElem?, e39]
            go_simp
            refine LC.out.mono ?_
            rintro e w9 ⟨A3, c3, rfl, h3, hb3⟩
            exact ⟨_, rfl, ⟨A3, c3, rfl, own_more h3 (Nat.zero_le _)⟩, hb3⟩
    · have hb1 := HBR.out.1.grown hgr1 (by have := HBR.out.2; omega) (fun g hg => by injection hg with e; omega)
      have OWn := own_at HOW.out hgr1 (by omega)
      obtain ⟨A2, c2, w7, hrun, hown, hgr7⟩ := push_k (wn.alloc (.cells #[.string ck, .int .i64 cf, .int .i64 ct] 63)) (r + 1) A1 c1 _ _ ⟨ck, cf, ct⟩ (own_belowR OWn ((Below.refl wn.heap.size wn).alloc (Nat.le_refl _) _)) (by have := HBR.out.2; simp; omega) (by have := HCSL.out; omega)
      have hba := (Below.refl wn.heap.size wn).alloc (Nat.le_refl _) (.cells #[.string ck, .int .i64 cf, .int .i64 ct] 63)
      have ky := Blk.new wn 63 #[.string ck, .int .i64 cf, .int .i64 ct]
      obtain ⟨ws, hws⟩ : ∃ z, wn.alloc (.cells #[.string ck, .int .i64 cf, .int .i64 ct] 63) = z := ⟨_, rfl⟩
      obtain ⟨Y, hY⟩ : ∃ z, wn.heap.size = z := ⟨_, rfl⟩
      rw [hws] at hba ky hrun hgr7
      rw [hY] at ky hba
      have hsz : r + 1 ≤ Y := by have := HBR.out.2; omega
      have hsw : Y ≤ ws.heap.size := by have := hba.size; omega
      have hsf : ws.heap.size ≤ w7.heap.size := hgr7.size
      have own1 := own_belowR OWn (by rw [hY]; exact hba)
      have HB7 := hide (show Below r w w7 ∧ r + 1 ≤ w7.heap.size from ⟨(hb1.trans (hba.mono (by omega))).grown hgr7 (by omega) (fun g hg => by have := (own_block own1 hg).1; omega), by omega⟩)
      have hitr : w7.heap[r]? = wn.heap[r]? := (hgr7.block r (by omega) (fun e => by have := (own_block own1 e.symm).1; omega)).trans (hba.block r (by omega))
      have HIT7 := hide (show SMap.It w7 r L.cm cl.length (seen.push e0.born) from hitr.trans hit1)
      have HRG7 := hide hrg1
      have HCS7 := hide (show cs ++ [⟨ck, cf, ct⟩] = (ks ++ [((⟨ck, cf, ct⟩ : Chan), pv)]).map (·.1) by rw [HCS.out, List.map_append]; rfl)
      have HOW7 := hide (show w7.ownsRow (r + 1) 63 3 (.slice A2 (cs.length + 1) c2) (cs.length + 1) (ckCs (cs ++ [⟨ck, cf, ct⟩])) by
        rw [ckCs_app]
        simpa [ckCs] using hown)
      have HLN := hide (show (cs ++ [(⟨ck, cf, ct⟩ : Chan)]).length = cs.length + 1 by simp)
      have HWS := hide hws
      have HY := hide hY
      have KY := hide ky
      have RUN := hide hrun
      have HE0 := hide he0
      unfold chV at hnx hen
      clear hp he0 hrg1 hit1 hgr1 hsz1 mbr hkl hcs hb1 OWn hrun hown hgr7 hba ky hws hY hsz hsw hsf own1 hitr
      go_upto_region 7 with (fail)
      rw [HWS.out, HY.out]
      clear HWS HY hnx hen
      have y0 : ws.cell? ⟨Y, 0, none⟩ = some (.string ck) := KY.out.cell 0
      have y1 : ws.cell? ⟨Y, 1, none⟩ = some (.int .i64 cf) := KY.out.cell 1
      have y2 : ws.cell? ⟨Y, 2, none⟩ = some (.int .i64 ct) := KY.out.cell 2
      go_wp2_with (at_builtin; refine Lib.wpList_append_run _ rfl _ _ 79 79 rfl _ _ rfl rfl _ _ RUN.out ?_)
      go_roundw
      case rel => exact ⟨seen.push e0.born, ks ++ [(⟨ck, cf, ct⟩, pv)], cs ++ [⟨ck, cf, ct⟩], A2, c2, by rw [HLN.out], HCS7, HIT7, HRG7, by rw [HLN.out]; exact HOW7, HB7⟩
      case measure =>
        rw [SMap.iter_seen HIT7.out, SMap.iter_seen HITr.out]
        exact left_shrinks _ seen e0 HE0.out
end Qu
end Go.Proofs.Ytomladbdebfikaa
