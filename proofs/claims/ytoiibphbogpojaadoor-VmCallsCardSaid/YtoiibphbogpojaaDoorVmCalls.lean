/- The walk of the statement VmCalls. -/
import Derived.Test.YtoiibphbogpojaaDoorRows
import Derived.Test.YtoiibphbogpojaaDoorVmAf
import Derived.Test.YtoiibphbogpojaaDoorVmO
import Derived.Test.YtoiibphbogpojaaDoorCodX
namespace Go.Proofs.YtoiibphbogpojaaDoor.VmCallsW
open Go Go.RowKit Go.Lib Go.Proofs.YtoiibphbogpojaaDoor Go.Proofs.YtoiibphbogpojaaDoor.Cod Go.Proofs.YtoiibphbogpojaaDoor.Vm
set_option linter.unusedVariables false
set_option linter.unusedSimpArgs false
theorem i64_of {n : Int} (h : (Lit.int .i64 n).wf = true) : I64 n := by
  simp [Lit.wf] at h
  have h1 : IntKind.i64.min = -9223372036854775808 := rfl
  have h2 : IntKind.i64.max = 9223372036854775807 := rfl
  unfold I64
  omega
theorem u8_ofC {n : Int} (h : (Lit.int .u8 n).wf = true) : 0 ≤ n ∧ n ≤ 255 := by
  simp [Lit.wf] at h
  have h1 : IntKind.u8.min = 0 := rfl
  have h2 : IntKind.u8.max = 255 := rfl
  omega
theorem instr_infoC : (Tryd.prog.info? 23).map (fun i => (i.zero, i.size, i.bytes)) = some (some (.agg #[.int .u8 0, .int .i64 0]), 2, 16) := by kernel_rfl
/-- The row that came in, as a list of numbers. -/
theorem row_in {W : World} {a : Option Addr} {len cap : Nat} {zs : List Int} (h : IsRow .i64 W a len cap zs) : ∃ l : List Int, l.length = len ∧ len ≤ maxLen ∧ (∀ z ∈ l, I64 z) ∧ (0 < len → ∃ ad, a = some ad ∧ IRow W ad l) := by
  rcases h with ⟨rfl, rfl, rfl, rfl⟩ | ⟨x, rfl, hl, hm, hz, hc, hw⟩
  · exact ⟨[], rfl, Nat.zero_le _, by simp, fun h => absurd h (Nat.lt_irrefl 0)⟩
  · have hlen : (zs.take len).length = len := by simp; omega
    refine ⟨zs.take len, hlen, by omega, fun z hz => i64_of (hw z (List.mem_of_mem_take hz)), fun h0 => ⟨x, rfl, ?_, fun j hj => ?_⟩⟩
    · have := block_lt_of_cell (hc 0 (by omega))
      rwa [block_of_add] at this
    · rw [hc j (by omega)]
      rw [List.getD_eq_getElem?_getD, List.getD_eq_getElem?_getD, List.getElem?_take, if_pos (by omega)]
/-- The code in the making. -/
structure PgSt (w wr : World) (A : Option Addr) (c : Nat) (cs : List In) : Prop where
  box : Blk wr w.heap.size 27 #[.slice A cs.length c, .int .i64 0, .slice none 0 0]
  own : wr.ownsRow (w.heap.size + 1) 23 2 (.slice A cs.length c) cs.length (cdCs cs)
  bl : Below w.heap.size w wr
  le : w.heap.size + 1 ≤ wr.heap.size
section
variable {w wr w1 : World} {A : Option Addr} {c : Nat} {cs : List In}
theorem PgSt.below (s : PgSt w wr A c cs) (h : Below wr.heap.size wr w1) : PgSt w w1 A c cs :=
  ⟨s.box.below h s.box.lt, ⟨s.own.1, s.own.2.imp id (by
    rintro ⟨g, cap, cur, h0, hge, hh, q⟩
    exact ⟨g, cap, cur, h0, hge, (h.block g (Array.getElem?_eq_some_iff.1 hh).1).trans hh, q⟩)⟩, s.bl.trans (h.mono s.bl.size), Nat.le_trans s.le h.size⟩
theorem PgSt.push (s : PgSt w wr A c cs) (news : List In) (k : Nat) (hk : news.length = k) (g : Nat) (arr : Array Value) (hg : Blk wr g 23 arr) (harr : arr.toList = cdCs news) (hk0 : k ≤ 1000) (hl : cs.length ≤ 100000) : ∃ A1 c1 w11, (Builtin.append_ #[24, 24] 24 #[.slice A cs.length c, .slice (some ⟨g, 0, none⟩) k k]).run Tryd.prog wr = .ok (.slice A1 (cs.length + k) c1) w11 ∧
    w11.cell? ⟨w.heap.size, 0, none⟩ = some (.slice A cs.length c) ∧ w11.frozen? ⟨w.heap.size, 0, none⟩ = false ∧ Hid (PgSt w (w11.setCell ⟨w.heap.size, 0, none⟩ (.slice A1 (cs.length + k) c1)) A1 c1 (cs ++ news)) := by
  obtain ⟨i0, hi0, hz0', hz1, hz2⟩ := info_parts instr_infoC
  have hrd : Reads wr wr.heap.size 2 (some ⟨g, 0, none⟩) k (cdCs news) := ⟨by rw [cdCs_len, hk], fun _ => ⟨_, rfl, hg.lt, fun j u hu => by rw [add_lit, hg.cell, ← Array.getElem?_toList, harr]; exact hu⟩⟩
  obtain ⟨v11, w11, hrun, hown, hk11, _⟩ := run_append_any (P := Tryd.prog) wr (w.heap.size + 1) 24 24 23 i0 _ 2 16 Tryd.underlying24 hi0 hz0' hz1 hz2 (by rfl) (by omega) _ _ _ s.own _ (some ⟨g, 0, none⟩) k k _ hrd (cdCs_one news) (by unfold maxLen; omega) (by omega) s.le
  obtain ⟨A1, c1, rfl⟩ := form_of hown
  have hob : ∀ g, (Value.slice A cs.length c).ownBlock = some g → w.heap.size + 1 ≤ g := fun g h => (own_block s.own h).1
  have kp : ∀ j, j < w.heap.size + 1 → w11.heap[j]? = wr.heap[j]? := fun j h1 => hk11.block j (Nat.lt_of_lt_of_le h1 s.le) (fun e => by have := hob j e.symm; omega)
  have bx : Blk w11 w.heap.size 27 #[.slice A cs.length c, .int .i64 0, .slice none 0 0] := (kp _ (by omega)).trans s.box
  have bl : Below w.heap.size w w11 := s.bl.grown hk11 s.bl.size (fun g h => by have := hob g h; omega)
  have hlen : (cs ++ news).length = cs.length + k := by rw [List.length_append, hk]
  refine ⟨A1, c1, w11, hrun, bx.cell 0, bx.frozen 0, hide ⟨?_, ?_, bl.setCell (p := ⟨w.heap.size, 0, none⟩) (Nat.le_refl _) _, ?_⟩⟩
  · rw [hlen]; exact bx.set_ 0 _
  · rw [hlen, cdCs_app]; exact own_set_far (p := ⟨w.heap.size, 0, none⟩) hown (Nat.lt_succ_self _) _
  · simpa [World.setCell] using Nat.le_trans s.le hk11.size
end
theorem ok_call (l : List Int) (n : Int) (hl : ∀ z ∈ l, I64 z) (h0 : 0 ≤ n) (h1 : n ≤ 100000) : ∀ x ∈ callCs l n, x.ok := by
  intro x hx
  unfold callCs at hx
  rw [List.mem_append] at hx
  rcases hx with hx | hx
  · obtain ⟨z, hz, rfl⟩ := List.mem_map.1 hx
    have := hl z hz
    unfold I64 at this
    exact ⟨by show (0 : Int) ≤ 1; decide, by show (1 : Int) ≤ 255; decide, this.1, this.2⟩
  · simp only [List.mem_cons, List.not_mem_nil, or_false] at hx
    rcases hx with rfl | rfl
    · exact ⟨by show (0 : Int) ≤ 28; decide, by show (28 : Int) ≤ 255; decide, by show (-9223372036854775808 : Int) ≤ n; omega, by show n ≤ 9223372036854775807; omega⟩
    · exact ⟨by show (0 : Int) ≤ 29; decide, by show (29 : Int) ≤ 255; decide, by show (-9223372036854775808 : Int) ≤ 0; decide, by show (0 : Int) ≤ 9223372036854775807; decide⟩
def nums (l : List Int) : List In := l.map fun z => ⟨1, z⟩
theorem nums_take (l : List Int) (k : Nat) (h : k < l.length) : nums (l.take k) ++ [⟨1, l.getD k 0⟩] = nums (l.take (k + 1)) := by
  rw [take_sn l k h]
  unfold nums
  simp
set_option maxRecDepth 100000 in
set_option maxHeartbeats 8000000 in
theorem walk (W : World) (HOPS : Ops W) (a0 : Int) (w0 : (Lit.int .u8 a0).wf = true) (a1 : Int) (w1 : (Lit.int .u8 a1).wf = true) (a2 : Option Addr) (len2 cap2 : Nat) (z2 : List Int) (w2 : IsRow .i64 W a2 len2 cap2 z2) :
    Calls Tryd.prog 4 #[.int .u8 a0, .int .u8 a1, .slice a2 len2 cap2] W fun e w' => e = .returned (.bool true) ∧ Below W.heap.size W w' := by
  obtain ⟨l, hll, hlm, hli, hlr⟩ := row_in w2
  obtain ⟨h00, h01⟩ := u8_ofC w0
  obtain ⟨h10, h11⟩ := u8_ofC w1
  obtain ⟨p, hp⟩ : ∃ p, Int.tmod a1 3 = p := ⟨_, rfl⟩
  have hp' := hp
  rw [Int.tmod_eq_emod_of_nonneg h10] at hp'
  have hp0 : 0 ≤ p := by omega
  have hp2 : p ≤ 2 := by omega
  have s1 : IntKind.i64.wrap a0 = a0 := by rw [IntKind.wrap_i64]; omega
  have s2 : IntKind.i64.wrap p = p := by rw [IntKind.wrap_i64]; omega
  obtain ⟨q, hq⟩ : ∃ q, 1024 * p = q := ⟨_, rfl⟩
  have s3 : IntKind.i64.wrap (1024 * p) = q := by rw [IntKind.wrap_i64]; omega
  obtain ⟨x1, s4⟩ : ∃ x, IntKind.i64.wrap (32 * (len2 : Int)) = x := ⟨_, rfl⟩
  obtain ⟨x2, s5⟩ : ∃ x, IntKind.i64.wrap (a0 + x1) = x := ⟨_, rfl⟩
  obtain ⟨n, s6⟩ : ∃ x, IntKind.i64.wrap (x2 + q) = x := ⟨_, rfl⟩
  have HNN : Hid (len2 ≤ 8 → a0 ≤ 31 → n = a0 + 32 * (len2 : Int) + 1024 * p) := hide (fun h8 h31 => by
    have e4 : x1 = 32 * (len2 : Int) := by rw [← s4, IntKind.wrap_i64]; omega
    have e5 : x2 = a0 + 32 * (len2 : Int) := by rw [← s5, IntKind.wrap_i64, e4]; omega
    rw [← s6, IntKind.wrap_i64, e5, ← hq]
    omega)
  have CALLB := hide (call_b n W)
  have HLL := hide hll
  have HLI := hide hli
  have HLR := hide hlr
  have HP := hide (And.intro hp0 hp2)
  have H0 := hide h00
  have HO := hide HOPS
  clear w0 w1 w2 h10 h11 hp' hp0 hp2 hq hll hlm hli hlr h00 h01 HOPS
  go_enter Tryd.func4, Tryd.ntmps4
  go_wp2_with fail
  refine CALLB.out.mono ?_
  rintro e w' ⟨rfl, rfl⟩
  clear s1 s2 s3 s4 s5 s6 hp CALLB
  unfold callV
  cases hM : mayCl n with
  | false =>
    rw [if_neg (by decide)]
    go_wp2_with fail
    go_ret
    exact ⟨rfl, Below.refl _ _⟩
  | true =>
    rw [if_pos rfl]
    have HM := hide hM
    clear hM
    by_cases h8 : 8 < len2
    · have h8I : (8 : Int) < (len2 : Int) := by omega
      go_wp2_with fail
      go_ret
      exact ⟨rfl, Below.refl _ _⟩
    have h8I : ¬ (8 : Int) < (len2 : Int) := by omega
    by_cases h31 : 31 < a0
    · go_wp2_with fail
      go_ret
      exact ⟨rfl, Below.refl _ _⟩
    have hn := HNN.out (by omega) (by omega)
    obtain ⟨hp0, hp2⟩ := HP.out
    have h00 := H0.out
    have e1 : n % 32 = a0 := by omega
    have e2 : n % 1024 / 32 = (len2 : Int) := by omega
    have e3 : n / 1024 = p := by omega
    rw [e1, e2, e3]
    have HMAY := hide (may_of hn h00 (by omega) (by omega) hp0 hp2 HM.out)
    have h0 : 0 < len2 := by
      have := HMAY.out
      unfold CMay at this
      omega
    obtain ⟨ad, rfl, hrow⟩ := HLR.out h0
    have HROW := hide hrow
    have H8 := hide h8
    have H31 := hide h31
    have HA0 := hide h00
    have HN := hide hn
    have HE2 := hide e2
    have HPP := hide (And.intro hp0 hp2)
    have HL0 := hide h0
    have PG0 : Hid (PgSt W (W.alloc (.cells #[.slice none 0 0, .int .i64 0, .slice none 0 0] 27)) none 0 (nums (l.take 0))) := hide ⟨Blk.new W 27 #[.slice none 0 0, .int .i64 0, .slice none 0 0], ⟨rfl, .inl ⟨rfl, rfl⟩⟩, (Below.refl _ _).alloc (Nat.le_refl _) _, by simp⟩
    have hnl : ∀ i, i ≤ len2 → (nums (l.take i)).length = i := fun i hi => by
      unfold nums
      rw [List.length_map, List.length_take, HLL.out]
      omega
    have HNL := hide hnl
    clear hn e1 e2 e3 hrow h8 hp0 hp2 h00 h0 hnl HNN HP H0 HLR
    go_wp2_with fail
    go_loopw [13] (fun vi wr => ∃ (i : Nat) (A : Option Addr) (c : Nat), i ≤ len2 ∧ vi = .int .i64 i ∧ Hid (PgSt W wr A c (nums (l.take i)))) (fun vi _ => len2 - (RowKit.intOf vi).toNat)
    case atStart => exact ⟨0, none, 0, Nat.zero_le _, rfl, PG0⟩
    case round =>
      obtain ⟨i, A, c, hi, rfl, HS⟩ := hrel
      have hti := HNL.out i hi
      by_cases hlt : i < len2
      rotate_left
      · have hltI : ¬ (i : Int) < (len2 : Int) := by omega
        obtain rfl : i = len2 := by omega
        have htl : l.take i = l := List.take_of_length_le (Nat.le_of_eq HLL.out)
        have HS1 := HS.out
        rw [htl] at HS1 hti
        have e := HLL.out
        clear HS htl
        subst e
        have ba := (Below.refl wr.heap.size wr).alloc (Nat.le_refl _) (.cells #[.int .u8 28, .int .i64 n, .int .u8 29, .int .i64 0] 23)
        obtain ⟨A1, c1, w11, hrun, hc0, hf0, hst⟩ := (HS1.below ba).push [⟨28, n⟩, ⟨29, 0⟩] 2 rfl wr.heap.size _ (Blk.new wr 23 #[.int .u8 28, .int .i64 n, .int .u8 29, .int .i64 0]) rfl (by omega) (by rw [hti]; have := H8.out; omega)
        have x0 : wr.cell? ⟨W.heap.size, 0, none⟩ = some (.slice A l.length c) := by rw [← hti]; exact HS1.box.cell 0
        rw [hti] at hrun hc0 hst
        have hcc : nums l ++ [⟨28, n⟩, ⟨29, 0⟩] = callCs l n := rfl
        rw [hcc] at hst
        have hlc : (callCs l n).length = l.length + 2 := callCs_len l n
        have PG := hst.out
        obtain ⟨g, hA1, hBg, _, _, _, hnc, hce⟩ := own_cell PG.own (by omega)
        subst hA1
        have p0 : (w11.setCell ⟨W.heap.size, 0, none⟩ (.slice (some ⟨g, 0, none⟩) (l.length + 2) c1)).cell? ⟨W.heap.size, 0, none⟩ = some (.slice (some ⟨g, 0, none⟩) (l.length + 2) c1) := by have e := PG.box.cell 0; rw [hlc] at e; exact e
        have p1 : (w11.setCell ⟨W.heap.size, 0, none⟩ (.slice (some ⟨g, 0, none⟩) (l.length + 2) c1)).cell? ⟨W.heap.size, 1, none⟩ = some (.int .i64 0) := PG.box.cell 1
        have p2 : (w11.setCell ⟨W.heap.size, 0, none⟩ (.slice (some ⟨g, 0, none⟩) (l.length + 2) c1)).cell? ⟨W.heap.size, 2, none⟩ = some (.slice none 0 0) := PG.box.cell 2
        obtain ⟨hp0, hp2⟩ := HPP.out
        have hmt := hide (call_may l n (by have := H8.out; omega) HM.out HE2.out)
        have hglt : g < (w11.setCell ⟨W.heap.size, 0, none⟩ (.slice (some ⟨g, 0, none⟩) (l.length + 2) c1)).heap.size := block_lt_of_cell (hce 0 _ (cdCs_at (callCs l n) 0 (by omega)).1)
        have NEW0 := New_c g (l.length + 2) c1 0 (callCs l n) [] _ hlc (by have := H8.out; omega) (by omega) (by omega) (fun _ => ⟨⟨g, 0, none⟩, rfl, hglt, fun j hj => ⟨ok_call l n HLI.out (by have := HN.out; have := H8.out; have := H31.out; have := HA0.out; omega) (by have := HN.out; have := H8.out; have := H31.out; have := HA0.out; omega) _ (List.getElem_mem hj), by rw [add_lit]; exact hce _ _ (cdCs_at (callCs l n) j hj).1, by rw [add_lit]; exact hce _ _ (cdCs_at (callCs l n) j hj).2⟩⟩) (HO.out.below PG.bl (Nat.le_refl _))
          (cdCs (callCs l n)) (by rw [cdCs_len, hlc]) (cdCs_one _) hglt hce (fun r hr => by obtain ⟨hs, h⟩ := hmt.out; rw [hr.det h]; rfl)
        have NEW : Hid (Calls Tryd.prog 5 #[.agg #[.slice (some ⟨g, 0, none⟩) (l.length + 2) c1, .int .i64 0, .slice none 0 0], .int .i64 0, .int .i64 1] (w11.setCell ⟨W.heap.size, 0, none⟩ (.slice (some ⟨g, 0, none⟩) (l.length + 2) c1)) fun e w' => NewPost (w11.setCell ⟨W.heap.size, 0, none⟩ (.slice (some ⟨g, 0, none⟩) (l.length + 2) c1)) (cdCs (callCs l n)) (l.length + 2) 0 e w') := hide NEW0
        have HB3 := hide PG.bl
        have RUN := hide hrun
        clear HS1 ba hrun hst hcc hlc PG NEW0 hnc hce hglt hmt hp0 hp2 hBg hti HO PG0
        go_wp2_with (at_builtin; refine Lib.wpList_append_run _ rfl _ _ 24 24 rfl _ _ rfl rfl _ _ RUN.out ?_)
        refine NEW.out.mono ?_
        rintro e w5 ⟨r, h, sb, vb, cur, ce, rfl, hr, hh, hsb, hv, hWr, hWv, hb5⟩
        have hb6 := HB3.out.trans (hb5.mono HB3.out.size)
        have hRUN := run_call (W := W) (wn := w5) l n a0 p HL0.out (by have := H8.out; omega) HN.out HA0.out (by have := H31.out; omega) HPP.out.1 HPP.out.2 HMAY.out hr cur hh.1 hh.2 (Nat.le_trans HB3.out.size hWr) hb6
        have hCD := fun (w9 : World) (hb : Below W.heap.size W w9) => callD_c a0 p l HMAY.out ad cap2 w9 (HROW.out.below hb)
        have hrq := clOf_rq a0 p l (by have := H8.out; omega)
        obtain ⟨C, hC⟩ : ∃ C, clOf a0 p l = C := ⟨_, rfl⟩
        unfold ClPost at hCD
        rw [hC] at hRUN hrq
        rw [hC] at hCD
        have RUN1 := hide hRUN
        have CALLD := hide hCD
        have HRQ := hide hrq
        clear hRUN hCD hrq hC hr hh hsb hv hWr hWv hb5 hb6 NEW HB3 RUN p0 p1 p2 hc0 hf0 x0
        go_wp2_with fail
        refine RUN1.out.mono ?_
        rintro e w6 ⟨⟨rb, rd, rfl, hq6⟩, hwt, hb6⟩
        have bz := (Below.refl w6.heap.size w6).alloc (Nat.le_refl _) (.cells #[.int .u8 1, .int .u8 C.k, .int .i64 C.co, .int .i64 C.pe, .int .i64 C.tg, .int .i64 C.va, .int .i64 C.sz, .int .i64 C.ro, .int .u8 C.op, .slice rb C.rq.length rd, .int .i64 C.cl, .int .i64 C.ky, .int .u8 0] 35)
        have kb := Blk.new w6 35 #[.int .u8 1, .int .u8 C.k, .int .i64 C.co, .int .i64 C.pe, .int .i64 C.tg, .int .i64 C.va, .int .i64 C.sz, .int .i64 C.ro, .int .u8 C.op, .slice rb C.rq.length rd, .int .i64 C.cl, .int .i64 C.ky, .int .u8 0]
        obtain ⟨w7, hw7⟩ : ∃ y, w6.alloc (.cells #[.int .u8 1, .int .u8 C.k, .int .i64 C.co, .int .i64 C.pe, .int .i64 C.tg, .int .i64 C.va, .int .i64 C.sz, .int .i64 C.ro, .int .u8 C.op, .slice rb C.rq.length rd, .int .i64 C.cl, .int .i64 C.ky, .int .u8 0] 35) = y := ⟨_, rfl⟩
        rw [hw7] at bz kb
        have K7 := hide kb
        have Q7 := hide (hq6.below bz)
        have WT7 := hide (hwt.below bz)
        have B7 := hide (hb6.trans (bz.mono hb6.size))
        have HW7 := hide hw7
        obtain ⟨b1, hb1⟩ : ∃ b, w6.heap.size = b := ⟨_, rfl⟩
        rw [hb1] at K7
        have HB1 := hide hb1
        clear hw7 hq6 hwt hb6 bz kb hb1 RUN1
        unfold Cl.O
        go_wp2_with fail
        rw [HW7.out, HB1.out]
        refine (run_again ⟨sb, 0, none⟩ C WT7.out HRQ.out).mono ?_
        rintro e w8 ⟨⟨rb2, rd2, rfl, hq8⟩, hb8⟩
        have B8 := B7.out.trans (hb8.mono B7.out.size)
        have bz := (Below.refl w8.heap.size w8).alloc (Nat.le_refl _) (.cells #[.int .u8 1, .int .u8 C.k, .int .i64 C.co, .int .i64 C.pe, .int .i64 C.tg, .int .i64 C.va, .int .i64 C.sz, .int .i64 C.ro, .int .u8 C.op, .slice rb2 C.rq.length rd2, .int .i64 C.cl, .int .i64 C.ky, .int .u8 0] 35)
        have kb := Blk.new w8 35 #[.int .u8 1, .int .u8 C.k, .int .i64 C.co, .int .i64 C.pe, .int .i64 C.tg, .int .i64 C.va, .int .i64 C.sz, .int .i64 C.ro, .int .u8 C.op, .slice rb2 C.rq.length rd2, .int .i64 C.cl, .int .i64 C.ky, .int .u8 0]
        obtain ⟨w9, hw9⟩ : ∃ y, w8.alloc (.cells #[.int .u8 1, .int .u8 C.k, .int .i64 C.co, .int .i64 C.pe, .int .i64 C.tg, .int .i64 C.va, .int .i64 C.sz, .int .i64 C.ro, .int .u8 C.op, .slice rb2 C.rq.length rd2, .int .i64 C.cl, .int .i64 C.ky, .int .u8 0] 35) = y := ⟨_, rfl⟩
        have K89 := (K7.out.below hb8 K7.out.lt).below bz (K7.out.below hb8 K7.out.lt).lt
        have Q89 := (Q7.out.below hb8).below bz
        rw [hw9] at bz kb K89 Q89
        have K9 := hide K89
        have Q9 := hide Q89
        have K9b := hide kb
        have Q9b := hide (hq8.below bz)
        have B9 := hide (B8.trans (bz.mono B8.size))
        have HW9 := hide hw9
        obtain ⟨b2, hb2⟩ : ∃ b, w8.heap.size = b := ⟨_, rfl⟩
        rw [hb2] at K9b
        have HB2 := hide hb2
        clear hw9 hq8 hb8 bz kb hb2 B8 K89 Q89 K7 Q7 WT7 B7 HW7 HB1
        unfold Cl.O
        go_wp2_with fail
        rw [HW9.out, HB2.out]
        refine (CALLD.out w9 B9.out).mono ?_
        rintro e wd ⟨ra3, rc3, rfl, hq3, hbd⟩
        have B10 := B9.out.trans (hbd.mono B9.out.size)
        have bz := (Below.refl wd.heap.size wd).alloc (Nat.le_refl _) (.cells #[.int .u8 1, .int .u8 C.k, .int .i64 C.co, .int .i64 C.pe, .int .i64 C.tg, .int .i64 C.va, .int .i64 C.sz, .int .i64 C.ro, .int .u8 C.op, .slice ra3 C.rq.length rc3, .int .i64 C.cl, .int .i64 C.ky, .int .u8 0] 35)
        have kb := Blk.new wd 35 #[.int .u8 1, .int .u8 C.k, .int .i64 C.co, .int .i64 C.pe, .int .i64 C.tg, .int .i64 C.va, .int .i64 C.sz, .int .i64 C.ro, .int .u8 C.op, .slice ra3 C.rq.length rc3, .int .i64 C.cl, .int .i64 C.ky, .int .u8 0]
        have K1 := (K9.out.below hbd K9.out.lt).below bz (K9.out.below hbd K9.out.lt).lt
        have K2 := (K9b.out.below hbd K9b.out.lt).below bz (K9b.out.below hbd K9b.out.lt).lt
        have Q1 := (Q9.out.below hbd).below bz
        have Q2 := (Q9b.out.below hbd).below bz
        have Q3 := hq3.below bz
        have HB10 := hide (B10.trans (bz.mono B10.size))
        have HQ1 := hide Q1
        have HQ2 := hide Q2
        have HQ3 := hide Q3
        have HK2 := hide K2
        have HK3 := hide kb
        have u0 := K1.cell 0
        have v0 := kb.cell 0
        have u1 := K1.cell 1
        have v1 := kb.cell 1
        have u2 := K1.cell 2
        have v2 := kb.cell 2
        have u3 := K1.cell 3
        have v3 := kb.cell 3
        have u4 := K1.cell 4
        have v4 := kb.cell 4
        have u5 := K1.cell 5
        have v5 := kb.cell 5
        have u6 := K1.cell 6
        have v6 := kb.cell 6
        have u7 := K1.cell 7
        have v7 := kb.cell 7
        have u8 := K1.cell 8
        have v8 := kb.cell 8
        have u9 := K1.cell 9
        have v9 := kb.cell 9
        have u10 := K1.cell 10
        have v10 := kb.cell 10
        have u11 := K1.cell 11
        have v11 := kb.cell 11
        have u12 := K1.cell 12
        have v12 := kb.cell 12
        have hsW : IntKind.i64.wrap ((l.length : Int) + 1) = (l.length : Int) + 1 := by rw [IntKind.wrap_i64]; have := H8.out; omega
        clear K1 K2 Q1 Q2 Q3 kb bz B10 hbd hq3 CALLD K9 K9b Q9 Q9b B9 HW9 HB2
        unfold Cl.A clA
        go_wp2_with fail
        refine (sameOut_c C rb ra3 rd rc3 0 _ _ HQ1.out HQ3.out HRQ.out).mono ?_
        rintro e w12 ⟨rfl, hb12⟩
        have K2 := HK2.out.below hb12 HK2.out.lt
        have K3 := HK3.out.below hb12 HK3.out.lt
        have HQ2b := hide (HQ2.out.below hb12)
        have HQ3b := hide (HQ3.out.below hb12)
        have HB12 := hide (HB10.out.trans (hb12.mono HB10.out.size))
        clear u0 v0 u1 v1 u2 v2 u3 v3 u4 v4 u5 v5 u6 v6 u7 v7 u8 v8 u9 v9 u10 v10 u11 v11 u12 v12 HQ1 HQ2 HQ3 HK2 HK3 HB10 hb12
        have u0 := K2.cell 0
        have v0 := K3.cell 0
        have u1 := K2.cell 1
        have v1 := K3.cell 1
        have u2 := K2.cell 2
        have v2 := K3.cell 2
        have u3 := K2.cell 3
        have v3 := K3.cell 3
        have u4 := K2.cell 4
        have v4 := K3.cell 4
        have u5 := K2.cell 5
        have v5 := K3.cell 5
        have u6 := K2.cell 6
        have v6 := K3.cell 6
        have u7 := K2.cell 7
        have v7 := K3.cell 7
        have u8 := K2.cell 8
        have v8 := K3.cell 8
        have u9 := K2.cell 9
        have v9 := K3.cell 9
        have u10 := K2.cell 10
        have v10 := K3.cell 10
        have u11 := K2.cell 11
        have v11 := K3.cell 11
        have u12 := K2.cell 12
        have v12 := K3.cell 12
        clear K2 K3
        go_wp2_with fail
        refine (sameOut_c C rb2 ra3 rd2 rc3 0 _ _ HQ2b.out HQ3b.out HRQ.out).mono ?_
        rintro e w13 ⟨rfl, hb13⟩
        have FIN := hide (HB12.out.trans (hb13.mono HB12.out.size))
        clear hb13
        go_wp2_with fail
        go_ret
        exact ⟨rfl, FIN.out⟩
      · have hltI : (i : Int) < (len2 : Int) := by omega
        have hs1 : IntKind.i64.wrap ((i : Int) + 1) = (i : Int) + 1 := by rw [IntKind.wrap_i64]; have := H8.out; omega
        obtain ⟨z, hz⟩ : ∃ z, l.getD i 0 = z := ⟨_, rfl⟩
        have HTI := hide hti
        have HZ := hide hz
        have HTK : Hid (nums (l.take i) ++ [⟨1, z⟩] = nums (l.take (i + 1))) := hide (by rw [← hz]; exact nums_take l i (by rw [HLL.out]; exact hlt))
        have HR2 := hide (HROW.out.below HS.out.bl)
        clear hti hz
        go_wp2_with fail
        let R : Nat → Value → World → Prop := fun sl u w1 => match sl with
          | 57 => u = .pointer (some ⟨W.heap.size, 0, none⟩)
          | 58 => u = .slice A i c
          | 59 => u = .slice (some ad) len2 cap2
          | 60 => u = .int .i64 i
          | 61 => u = .pointer (some (ad.add i))
          | 62 => u = .int .i64 z
          | 63 => u = .agg #[.int .u8 1, .int .i64 z]
          | 64 => ∃ g, u = .slice (some ⟨g, 0, none⟩) 1 1 ∧ Blk w1 g 23 #[.int .u8 1, .int .i64 z]
          | _ => True
        refine wp_region_relT 8 R (by kernel_rfl) (by kernel_rfl) (by kernel_rfl) (by kernel_rfl) ?mono ?step ?fin
        case mono =>
          intro sl u w1 w2 h hb
          match sl with
          | 64 =>
            obtain ⟨g, h1, h2⟩ := h
            exact ⟨g, h1, h2.below hb h2.lt⟩
          | 0 | 1 | 2 | 3 | 4 | 5 | 6 | 7 | 8 | 9 | 10 | 11 | 12 | 13 | 14 | 15 | 16 | 17 | 18 | 19 | 20 | 21 | 22 | 23 | 24 | 25 | 26 | 27 | 28 | 29 | 30 | 31 | 32 | 33 | 34 | 35 | 36 | 37 | 38 | 39 | 40 | 41 | 42 | 43 | 44 | 45 | 46 | 47 | 48 | 49 | 50 | 51 | 52 | 53 | 54 | 55 | 56 | 57 | 58 | 59 | 60 | 61 | 62 | 63 | _ + 65 => exact h
        case step =>
          intro o ho
          simp only [List.take, List.mem_cons, List.not_mem_nil, or_false] at ho
          rcases ho with rfl | rfl | rfl | rfl | rfl | rfl | rfl | rfl
          · intro a w1 hb hs hr
            have e12 : a.tmps.getD 12 undef = .pointer (some ⟨W.heap.size, 0, none⟩) := hs 12 (by decide)
            rw [Array.getD_eq_getD_getElem?] at e12
            unfold Oper.wp
            simp only [execOp, Act.eval, Array.getD_eq_getD_getElem?, e12]
            go_simp
            exact ⟨_, rfl, rfl, Below.refl _ _⟩
          · intro a w1 hb hs hr
            have e57 : a.tmps.getD 57 undef = .pointer (some ⟨W.heap.size, 0, none⟩) := hr 57 (by decide) (by apply Array.mem_toList_iff.1; repeat (first | exact List.Mem.head _ | apply List.Mem.tail))
            have cc0 : w1.cell? ⟨W.heap.size, 0, none⟩ = some (.slice A i c) := by rw [← HTI.out]; exact (HS.out.below hb).box.cell 0
            rw [Array.getD_eq_getD_getElem?] at e57
            unfold Oper.wp
            simp only [execOp, Act.eval, Array.getD_eq_getD_getElem?, e57]
            go_simp
            exact ⟨_, rfl, rfl, Below.refl _ _⟩
          · intro a w1 hb hs hr
            have e2 : a.tmps.getD 2 undef = .slice (some ad) len2 cap2 := hs 2 (by decide)
            rw [Array.getD_eq_getD_getElem?] at e2
            unfold Oper.wp
            simp only [execOp, Act.eval, Array.getD_eq_getD_getElem?, e2]
            go_simp
            exact ⟨_, rfl, rfl, Below.refl _ _⟩
          · intro a w1 hb hs hr
            have e13 : a.tmps.getD 13 undef = .int .i64 i := hs 13 (by decide)
            rw [Array.getD_eq_getD_getElem?] at e13
            unfold Oper.wp
            simp only [execOp, Act.eval, Array.getD_eq_getD_getElem?, e13]
            go_simp
            exact ⟨_, rfl, rfl, Below.refl _ _⟩
          · intro a w1 hb hs hr
            have e59 : a.tmps.getD 59 undef = .slice (some ad) len2 cap2 := hr 59 (by decide) (by apply Array.mem_toList_iff.1; repeat (first | exact List.Mem.head _ | apply List.Mem.tail))
            have e60 : a.tmps.getD 60 undef = .int .i64 i := hr 60 (by decide) (by apply Array.mem_toList_iff.1; repeat (first | exact List.Mem.head _ | apply List.Mem.tail))
            rw [Array.getD_eq_getD_getElem?] at e59
            rw [Array.getD_eq_getD_getElem?] at e60
            unfold Oper.wp
            simp only [execOp, Act.eval, Array.getD_eq_getD_getElem?, e59, e60]
            go_simp
            exact ⟨_, rfl, rfl, Below.refl _ _⟩
          · intro a w1 hb hs hr
            have e61 : a.tmps.getD 61 undef = .pointer (some (ad.add i)) := hr 61 (by decide) (by apply Array.mem_toList_iff.1; repeat (first | exact List.Mem.head _ | apply List.Mem.tail))
            have cz : w1.cell? (ad.add i) = some (.int .i64 z) := by rw [← HZ.out]; exact (HR2.out.below hb).2 i (by rw [HLL.out]; exact hlt)
            rw [Array.getD_eq_getD_getElem?] at e61
            unfold Oper.wp
            simp only [execOp, Act.eval, Array.getD_eq_getD_getElem?, e61]
            go_simp
            exact ⟨_, rfl, rfl, Below.refl _ _⟩
          · intro a w1 hb hs hr
            have e62 : a.tmps.getD 62 undef = .int .i64 z := hr 62 (by decide) (by apply Array.mem_toList_iff.1; repeat (first | exact List.Mem.head _ | apply List.Mem.tail))
            rw [Array.getD_eq_getD_getElem?] at e62
            unfold Oper.wp
            simp only [execOp, Act.eval, Array.getD_eq_getD_getElem?, e62]
            go_simp
            exact ⟨_, rfl, rfl, Below.refl _ _⟩
          · intro a w1 hb hs hr
            have e63 : a.tmps.getD 63 undef = .agg #[.int .u8 1, .int .i64 z] := hr 63 (by decide) (by apply Array.mem_toList_iff.1; repeat (first | exact List.Mem.head _ | apply List.Mem.tail))
            rw [Array.getD_eq_getD_getElem?] at e63
            unfold Oper.wp
            simp only [execOp, Act.eval, Array.getD_eq_getD_getElem?, e63]
            go_simp
            exact ⟨_, rfl, ⟨w1.heap.size, rfl, Blk.new w1 23 #[.int .u8 1, .int .i64 z]⟩, (Below.refl _ _).alloc (Nat.le_refl _) _⟩
        case fin =>
          intro ff w9 hb hr
          obtain ⟨g, e64, hgb⟩ := hr 64 (by decide)
          have e58 : ff 58 = .slice A i c := hr 58 (by decide)
          obtain ⟨A1, c1, w11, hrun, hc0, hf0, hst⟩ := (HS.out.below hb).push [⟨1, z⟩] 1 rfl g _ hgb rfl (by omega) (by rw [HTI.out]; have := H8.out; omega)
          rw [HTI.out] at hrun hc0 hst
          rw [HTK.out] at hst
          have RUN := hide hrun
          clear hr hb hgb hrun
          simp only [putAll, slotsOf, List.take, List.drop, List.filterMap_cons, List.filterMap_nil, List.foldl_cons, List.foldl_nil, Act.put, e58, e64]
          simp only [List.setIfInBounds_toArray, List.set_cons_succ, List.set_cons_zero]
          go_wp2_with (at_builtin; refine Lib.wpList_append_run _ rfl (.tmp 58) (.tmp 64) 24 24 rfl _ _ rfl rfl _ _ RUN.out ?_)
          go_roundw
          case rel => exact ⟨i + 1, A1, c1, by omega, by go_num, hst⟩
          case measure => simp [RowKit.intOf] <;> omega
end Go.Proofs.YtoiibphbogpojaaDoor.VmCallsW
