/- Messages and receives behind acts: made; the chapter's example. -/
import Derived.Test.YtonmojinijpneaaRows
import Derived.Test.YtonmojinijpneaaPoY
namespace Go.Proofs.Ytonmojinijpneaa
open Go Go.Joins Go.ChangeShapes Go.WideShapes Go.RowKit Go.Deep Go.Lib Go.Proofs.Ytonmojinijpneaa.Qu
set_option linter.unusedVariables false
set_option linter.unusedSimpArgs false
namespace Po
/-- Receives and a queue, from a block on. -/
structure P1 (w : World) (B p q : Nat) (L : Nat → Option Addr × Nat) (K : QL) (ls : Nat → List Rc) (l : List Msg) : Prop where
  pq : PQ w p q L K ls l
  fb : ∀ b ∈ foot2 p q L K, B ≤ b
theorem P1.below {w w' : World} {B p q : Nat} {L : Nat → Option Addr × Nat} {K : QL} {ls : Nat → List Rc} {l : List Msg} (h : P1 w B p q L K ls l) (hb : Below w.heap.size w w') : P1 w' B p q L K ls l := ⟨h.pq.below hb, h.fb⟩
/-- A block that is no queue's and no table's. -/
def Away (w : World) (p q : Nat) (L : Nat → Option Addr × Nat) (K : QL) (g : Nat) : Prop := g < w.heap.size ∧ ¬ g ∈ foot2 p q L K
theorem P1.go {w w' : World} {B p q : Nat} {L : Nat → Option Addr × Nat} {K : QL} {ls ls' : Nat → List Rc} {l l' : List Msg} (h : P1 w B p q L K ls l) (hB : B ≤ w.heap.size) (hg : GoesPQ w p q L K ls' l' w') : ∃ L' K', P1 w' B p q L' K' ls' l' ∧ Below B w w' ∧ ∀ g, Away w p q L K g → Away w' p q L' K' g ∧ w'.heap[g]? = w.heap[g]? := by
  obtain ⟨L', K', h1, h2, h3⟩ := hg
  refine ⟨L', K', ⟨h1, fun b hb => ?_⟩, h2.below h.fb hB, fun g hg => ⟨⟨Nat.lt_of_lt_of_le hg.1 h2.size, fun hm => ?_⟩, h2.block g hg.1 hg.2⟩⟩
  · rcases h3 b hb with e | e
    · exact h.fb b e
    · omega
  · rcases h3 g hm with e | e
    · exact hg.2 e
    · have := hg.1
      omega
theorem P1.new {w w1 w2 : World} {p q : Nat} {L : Nat → Option Addr × Nat} {K : QL} (hq : QSt w1 q K []) (hqf : ∀ b ∈ K.foot q, w.heap.size ≤ b) (hb1 : Below w.heap.size w w1) (hp : PSt w2 p L ls0) (hpf : ∀ b ∈ pfoot p L, w1.heap.size ≤ b) (hb2 : Below w1.heap.size w1 w2) : P1 w2 w.heap.size p q L K ls0 [] :=
  ⟨⟨hp, hq.below hb2, fun b h1 h2 => by have := hpf b h1; have := hq.lt b h2; omega⟩, fun b hb => by
    rcases List.mem_append.1 hb with hb | hb
    · have := hpf b hb; have := hb1.size; omega
    · exact hqf b hb⟩
set_option maxRecDepth 100000 in
set_option maxHeartbeats 8000000 in
theorem made_c14 {w : World} (A : Option Addr) (n cap : Nat) (F : Nat → Ac) (hF : Acts w A n F) (hn : n ≤ 120) :
    Calls Try.prog 34 #[.slice A n cap] w fun e w' => ∃ p q L K ls l, e = .returned (.tuple #[.pointer (some ⟨q, 0, none⟩), .pointer (some ⟨p, 0, none⟩)]) ∧ P1 w' w.heap.size p q L K ls l ∧ (∀ k, (ls k).length ≤ 120) ∧ l.length ≤ 120 ∧ Below w.heap.size w w' := by
  have HF := hide hF
  have HNL := hide hn
  have NC := hide (Qu.New_c w)
  have NP := hide (fun w' => Po.New_c w')
  clear hF hn
  go_enter Try.func34, Try.ntmps34
  go_wp2_with fail
  refine NC.out.mono ?_
  rintro e w1 ⟨q, K0, rfl, hq, hqf, hb1⟩
  have HQ := hide (And.intro hq (And.intro hqf hb1))
  clear hq hqf hb1 NC
  go_wp2_with fail
  refine (NP.out _).mono ?_
  rintro e w2 ⟨p, L0, rfl, hp, hpf, hb2⟩
  have H0 := hide (P1.new HQ.out.1 HQ.out.2.1 HQ.out.2.2 hp hpf hb2)
  have B0 := hide (HQ.out.2.2.trans (hb2.mono HQ.out.2.2.size))
  clear hp hpf hb2 NP HQ
  go_wp2_with fail
  go_loopw [6] (fun v6 wr => ∃ (i : Nat) (L : Nat → Option Addr × Nat) (K : QL) (ls : Nat → List Rc) (l : List Msg), i ≤ n ∧ v6 = .int .i64 i ∧ Hid ((∀ k, (ls k).length ≤ i) ∧ l.length ≤ i) ∧ Hid (P1 wr w.heap.size p q L K ls l) ∧ Hid (Below w.heap.size w wr)) (fun v6 _ => n - (RowKit.intOf v6).toNat)
  case atStart => exact ⟨0, L0, K0, ls0, [], Nat.zero_le _, rfl, hide ⟨fun _ => Nat.le_refl _, Nat.le_refl _⟩, H0, B0⟩
  case round =>
    obtain ⟨i, L, K, ls, l, hi, rfl, HLL, HP, HB⟩ := hrel
    rename World => wr
    have hn1 := HNL.out
    by_cases hlt : i < n
    rotate_left
    · have hltI : ¬ (i : Int) < (n : Int) := by omega
      clear hlt
      go_wp2_with fail
      exact bodyPost_ret (v := .tuple #[.pointer (some ⟨q, 0, none⟩), .pointer (some ⟨p, 0, none⟩)]) (by simp [results, Try.results34, go_sem]) rfl ⟨p, q, rfl, L, K, ls, l, HP.out, fun k => by have := HLL.out.1 k; omega, by have := HLL.out.2; omega, HB.out⟩
    have hltI : (i : Int) < (n : Int) := by omega
    obtain ⟨a, rfl, k0, k1, hc⟩ := (HF.out.below HB.out).load hlt
    obtain ⟨x, hx⟩ : ∃ z, F i = z := ⟨_, rfl⟩
    rw [hx] at k0 k1 hc
    obtain ⟨kd, ⟨xk, xf, xt, xc, xg, xv, xz, xb⟩, ⟨yk, yr, yc, yp, yt, yq, yd, yf, ys⟩⟩ := x
    simp only at k0 k1
    have HC := hide (show ∀ j v, (#[.int .u8 kd, .string xk, .int .i64 xf, .int .i64 xt, .int .i64 xc, .int .i64 xg, .int .i64 xv, .int .i64 xz, .bool xb, .string yk, .int .i64 yr, .int .i64 yc, .int .i64 yp, .int .i64 yt, .int .i64 yq, .bool yd, .int .i64 yf, .int .i64 ys] : Array Value).toList[j]? = some v → wr.cell? ((a.add (i * 18)).add j) = some v from hc)
    have AC := hide (act_c HP.out.pq (fun k _ => by have := HLL.out.1 k; omega) (by have := HLL.out.2; omega) kd k0 k1 xk xf xt xc xg xv xz xb yk yr yc yp yt yq yd yf ys)
    have HLT := hide hlt
    clear hc hx hlt k0 k1
    go_wp2_with (refine wpList_load_cells rfl 37 _ rfl (a.add (i * 18)) rfl _ _ HC.out Try.underlying37 rfl act_size ?_)
    refine AC.out.mono ?_
    rintro e w5 ⟨⟨v, rfl⟩, ls', l', hst, hgo⟩
    obtain ⟨L', K', h1, h2, _⟩ := HP.out.go HB.out.size hgo
    have HP1 := hide h1
    have HB1 := hide (HB.out.trans h2)
    have HL1 : Hid ((∀ k, (ls' k).length ≤ i + 1) ∧ l'.length ≤ i + 1) := hide ⟨fun k => Nat.le_trans (hst.len.1 k) (Nat.succ_le_succ (HLL.out.1 k)), Nat.le_trans hst.len.2 (Nat.succ_le_succ HLL.out.2)⟩
    clear hgo h1 h2 hst AC HC
    go_wp2_with fail
    go_roundw
    case rel => exact ⟨i + 1, L', K', ls', l', HLT.out, by go_num, HL1, HP1, HB1⟩
    case measure => have := HLT.out; simp [RowKit.intOf] <;> omega
def RA0 : Rc := ⟨⟨#[]⟩, 0, 0, -1, 5, -1, false, 0, 0⟩
def RA1 : Rc := ⟨⟨#[]⟩, 0, 1, 1, -1, -1, false, 0, 0⟩
def RA2 : Rc := ⟨⟨#[]⟩, 0, 1, 1, 1, -1, false, 0, 0⟩
def RA9 : Rc := ⟨⟨#[]⟩, 0, 9, 1, 6, -1, false, 0, 0⟩
def MA0 : Msg := ⟨⟨#[]⟩, 1, 0, 0, 5, 0, 1, false⟩
def MA1 : Msg := ⟨⟨#[]⟩, 1, 0, 1, 6, 0, 1, false⟩
def LS1 : Nat → List Rc := postL ls0 RA0
def LS2 : Nat → List Rc := postL LS1 RA1
def LS3 : Nat → List Rc := updF LS2 0 (setD (LS2 0) 0 1 0)
def LM2 : List Msg := takeL [MA0, MA1] ⟨1, 0⟩
theorem ls1_len (k : Nat) : (LS1 k).length ≤ 1 := postL_len ls0 RA0 k
theorem ls2_len (k : Nat) : (LS2 k).length ≤ 2 := Nat.le_trans (postL_len LS1 RA1 k) (Nat.succ_le_succ (ls1_len k))
theorem ls3_len (k : Nat) : (LS3 k).length ≤ 2 := by
  unfold LS3
  by_cases e : k = 0
  · subst e; rw [updF_at, setD_len]; exact ls2_len 0
  · rw [updF_ne LS2 0 _ e]; exact ls2_len k
theorem post2 : postE LS2 RA2 = 2 ∧ postL LS2 RA2 = LS2 := by
  have h : ¬ postOk LS2 RA2 := by decide +kernel
  exact ⟨by unfold postE; rw [if_neg h], by unfold postL; rw [if_neg h]⟩
theorem match2 : matchE [MA0, MA1] (LS2 0) 1 1 1 = 2 ∧ matchP [MA0, MA1] LS2 0 1 1 1 = LS2 ∧ matchQ [MA0, MA1] (LS2 0) 1 1 1 = [MA0, MA1] := by
  have h : hasB (mayL [MA0, MA1] (LS2 0) 1) 1 1 = false := by decide +kernel
  unfold matchE matchP matchQ
  rw [h]
  exact ⟨rfl, rfl, rfl⟩
theorem match3 : matchE [MA0, MA1] (LS2 0) 0 1 0 = 0 ∧ matchP [MA0, MA1] LS2 0 0 1 0 = LS3 ∧ matchQ [MA0, MA1] (LS2 0) 0 1 0 = LM2 := by
  have h : hasB (mayL [MA0, MA1] (LS2 0) 0) 1 0 = true := by decide +kernel
  unfold matchE matchP matchQ
  rw [h]
  exact ⟨rfl, rfl, rfl⟩
/-- A row with one message lies away from all. -/
theorem one_row {w w' : World} {p q : Nat} {L : Nat → Option Addr × Nat} {K : QL} {A : Option Addr} {c : Nat} {m : Msg} (h : w'.ownsRow w.heap.size 33 8 (.slice A 1 c) 1 (msgCs [m])) (hl : ∀ b ∈ foot2 p q L K, b < w.heap.size) : ∃ g, A = some ⟨g, 0, none⟩ ∧ Away w' p q L K g ∧ 1 ≤ c ∧ w'.cell? ⟨g, 3, none⟩ = some (.int .i64 m.ca) := by
  obtain ⟨g, hA, hge, _, ⟨cs, hb⟩, _, hc1, hc⟩ := own_cell h (by omega)
  exact ⟨g, hA, ⟨hb.lt, fun hm => by have := hl g hm; omega⟩, hc1, hc 3 _ rfl⟩
set_option maxRecDepth 100000 in
set_option maxHeartbeats 16000000 in
theorem awake_c (W : World) : Calls Try.prog 33 #[] W fun e w' => e = .returned (.bool true) ∧ Below W.heap.size W w' := by
  have NC := hide (Qu.New_c W)
  have NP := hide (fun w' => Po.New_c w')
  go_enter Try.func33, Try.ntmps33
  go_wp2_with fail
  refine NC.out.mono ?_
  rintro e w1 ⟨q, K0, rfl, hq, hqf, hb1⟩
  have HQ := hide (And.intro hq (And.intro hqf hb1))
  clear hq hqf hb1 NC
  go_wp2_with fail
  refine (NP.out _).mono ?_
  rintro e u0 ⟨p, L0, rfl, hp, hpf, hb2⟩
  have H0 := hide (P1.new HQ.out.1 HQ.out.2.1 HQ.out.2.2 hp hpf hb2)
  have B0 := hide (HQ.out.2.2.trans (hb2.mono HQ.out.2.2.size))
  clear hp hpf hb2 NP HQ
  have CC := hide (receive_c 0 (-1) 5 u0)
  go_wp2_with fail
  refine CC.out.mono ?_
  rintro e u1 ⟨rfl, hb⟩
  have H1 := hide (H0.out.below hb)
  have B1 := hide (B0.out.trans (hb.mono B0.out.size))
  clear hb CC
  have CC : Hid (Calls Try.prog 29 #[.pointer (some ⟨p, 0, none⟩), .agg #[.string ⟨#[]⟩, .int .i64 0, .int .i64 0, .int .i64 (-1), .int .i64 5, .int .i64 (-1), .bool false, .int .i64 0, .int .i64 0]] u1 fun e w' => e = .returned (.int .i64 0) ∧ GoesPQ u1 p q L0 K0 (LS1) ([]) w') := hide (by
    have h := Post_c H1.out.pq.hp (fun k _ => Nat.zero_le _) ⟨#[]⟩ 0 0 (-1) 5 (-1) false 0 0
    exact h.mono fun e w' h => ⟨h.1.trans (congrArg (fun z => Ending.returned (Value.int .i64 z)) (show postE ls0 RA0 = 0 from by decide +kernel)), GoesPQ.of_p H1.out.pq h.2⟩)
  go_wp2_with fail
  refine CC.out.mono ?_
  rintro e u2 ⟨rfl, hg⟩
  obtain ⟨L2, K2, hp, hb, hw⟩ := H1.out.go B1.out.size hg
  have H2 := hide hp
  have B2 := hide (B1.out.trans hb)
  clear hg hp hb hw CC
  have CC := hide (receive_c 1 1 (-1) u2)
  go_wp2_with fail
  refine CC.out.mono ?_
  rintro e u3 ⟨rfl, hb⟩
  have H3 := hide (H2.out.below hb)
  have B3 := hide (B2.out.trans (hb.mono B2.out.size))
  clear hb CC
  have CC : Hid (Calls Try.prog 29 #[.pointer (some ⟨p, 0, none⟩), .agg #[.string ⟨#[]⟩, .int .i64 0, .int .i64 1, .int .i64 1, .int .i64 (-1), .int .i64 (-1), .bool false, .int .i64 0, .int .i64 0]] u3 fun e w' => e = .returned (.int .i64 0) ∧ GoesPQ u3 p q L2 K2 (LS2) ([]) w') := hide (by
    have h := Post_c H3.out.pq.hp (fun k _ => Nat.le_trans (ls1_len k) (by omega)) ⟨#[]⟩ 0 1 1 (-1) (-1) false 0 0
    exact h.mono fun e w' h => ⟨h.1.trans (congrArg (fun z => Ending.returned (Value.int .i64 z)) (show postE LS1 RA1 = 0 from by decide +kernel)), GoesPQ.of_p H3.out.pq h.2⟩)
  go_wp2_with fail
  refine CC.out.mono ?_
  rintro e u4 ⟨rfl, hg⟩
  obtain ⟨L4, K4, hp, hb, hw⟩ := H3.out.go B3.out.size hg
  have H4 := hide hp
  have B4 := hide (B3.out.trans hb)
  clear hg hp hb hw CC
  have CC := hide (receive_c 1 1 1 u4)
  go_wp2_with fail
  refine CC.out.mono ?_
  rintro e u5 ⟨rfl, hb⟩
  have H5 := hide (H4.out.below hb)
  have B5 := hide (B4.out.trans (hb.mono B4.out.size))
  clear hb CC
  have CC : Hid (Calls Try.prog 29 #[.pointer (some ⟨p, 0, none⟩), .agg #[.string ⟨#[]⟩, .int .i64 0, .int .i64 1, .int .i64 1, .int .i64 1, .int .i64 (-1), .bool false, .int .i64 0, .int .i64 0]] u5 fun e w' => e = .returned (.int .i64 2) ∧ GoesPQ u5 p q L4 K4 (LS2) ([]) w') := hide (by
    have h := Post_c H5.out.pq.hp (fun k _ => Nat.le_trans (ls2_len k) (by omega)) ⟨#[]⟩ 0 1 1 1 (-1) false 0 0
    change Calls _ _ _ _ fun e w' => e = .returned (.int .i64 (postE LS2 RA2)) ∧ GoesP _ _ _ (postL LS2 RA2) w' at h
    rw [post2.1, post2.2] at h
    exact h.mono fun e w' h => ⟨h.1, GoesPQ.of_p H5.out.pq h.2⟩)
  go_wp2_with fail
  refine CC.out.mono ?_
  rintro e u6 ⟨rfl, hg⟩
  obtain ⟨L6, K6, hp, hb, hw⟩ := H5.out.go B5.out.size hg
  have H6 := hide hp
  have B6 := hide (B5.out.trans hb)
  clear hg hp hb hw CC
  have CC := hide (message_c 0 5 u6)
  go_wp2_with fail
  refine CC.out.mono ?_
  rintro e u7 ⟨rfl, hb⟩
  have H7 := hide (H6.out.below hb)
  have B7 := hide (B6.out.trans (hb.mono B6.out.size))
  clear hb CC
  have CC : Hid (Calls Try.prog 28 #[.pointer (some ⟨q, 0, none⟩), .agg #[.string ⟨#[]⟩, .int .i64 1, .int .i64 0, .int .i64 0, .int .i64 5, .int .i64 0, .int .i64 1, .bool false]] u7 fun e w' => e = .returned (.int .i64 0) ∧ GoesPQ u7 p q L6 K6 (LS2) ([MA0]) w') := hide (by
    have h := Send_c H7.out.pq.hq MA0 (by decide)
    rw [show sendE [] MA0 = 0 from by decide +kernel, show sendL [] MA0 = [MA0] from by decide +kernel] at h
    exact h.mono fun e w' h => ⟨h.1, GoesPQ.of_q H7.out.pq h.2⟩)
  go_wp2_with fail
  refine CC.out.mono ?_
  rintro e u8 ⟨rfl, hg⟩
  obtain ⟨L8, K8, hp, hb, hw⟩ := H7.out.go B7.out.size hg
  have H8 := hide hp
  have B8 := hide (B7.out.trans hb)
  clear hg hp hb hw CC
  have CC := hide (message_c 1 6 u8)
  go_wp2_with fail
  refine CC.out.mono ?_
  rintro e u9 ⟨rfl, hb⟩
  have H9 := hide (H8.out.below hb)
  have B9 := hide (B8.out.trans (hb.mono B8.out.size))
  clear hb CC
  have CC : Hid (Calls Try.prog 28 #[.pointer (some ⟨q, 0, none⟩), .agg #[.string ⟨#[]⟩, .int .i64 1, .int .i64 0, .int .i64 1, .int .i64 6, .int .i64 0, .int .i64 1, .bool false]] u9 fun e w' => e = .returned (.int .i64 0) ∧ GoesPQ u9 p q L8 K8 (LS2) ([MA0, MA1]) w') := hide (by
    have h := Send_c H9.out.pq.hq MA1 (by decide)
    rw [show sendE [MA0] MA1 = 0 from by decide +kernel, show sendL [MA0] MA1 = [MA0, MA1] from by decide +kernel] at h
    exact h.mono fun e w' h => ⟨h.1, GoesPQ.of_q H9.out.pq h.2⟩)
  go_wp2_with fail
  refine CC.out.mono ?_
  rintro e u10 ⟨rfl, hg⟩
  obtain ⟨L10, K10, hp, hb, hw⟩ := H9.out.go B9.out.size hg
  have H10 := hide hp
  have B10 := hide (B9.out.trans hb)
  clear hg hp hb hw CC
  have HE : Hid (mayL [MA0, MA1] (LS2 0) 0 = [MA0]) := hide (by decide +kernel)
  have CC := hide (may_c H10.out.pq.hp (fun k _ => Nat.le_trans (ls2_len k) (by omega)) H10.out.pq.hq (by decide +kernel) 0 (by decide) 0)
  rw [HE.out] at CC
  go_wp2_with fail
  refine CC.out.mono ?_
  rintro e u11 ⟨Aa, ca, rfl, ho, hb⟩
  have H11 := hide (H10.out.below hb)
  have B11 := hide (B10.out.trans (hb.mono B10.out.size))
  obtain ⟨ga, rfl, haw, hca, hcc⟩ := one_row (p := p) (q := q) (L := L10) (K := K10) ho H10.out.pq.lt
  have Ra11 : Hid (Away u11 p q L10 K10 ga ∧ u11.cell? ⟨ga, 3, none⟩ = some (.int .i64 0)) := hide ⟨haw, hcc⟩
  clear haw hcc
  clear ho hb CC HE
  have HE : Hid (mayL [MA0, MA1] (LS2 0) 1 = []) := hide (by decide +kernel)
  have CC := hide (may_c H11.out.pq.hp (fun k _ => Nat.le_trans (ls2_len k) (by omega)) H11.out.pq.hq (by decide +kernel) 0 (by decide) 1)
  rw [HE.out] at CC
  go_wp2_with fail
  refine CC.out.mono ?_
  rintro e u12 ⟨Ab, cb, rfl, ho, hb⟩
  have H12 := hide (H11.out.below hb)
  have B12 := hide (B11.out.trans (hb.mono B11.out.size))
  have Ra12 : Hid (Away u12 p q L10 K10 ga ∧ u12.cell? ⟨ga, 3, none⟩ = some (.int .i64 0)) := hide ⟨⟨Nat.lt_of_lt_of_le Ra11.out.1.1 hb.size, Ra11.out.1.2⟩, (hb.cell (p := ⟨ga, 3, none⟩) Ra11.out.1.1).trans Ra11.out.2⟩
  clear ho hb CC HE
  have CC := hide (receive_c 9 1 6 u12)
  go_wp2_with fail
  refine CC.out.mono ?_
  rintro e u13 ⟨rfl, hb⟩
  have H13 := hide (H12.out.below hb)
  have B13 := hide (B12.out.trans (hb.mono B12.out.size))
  have Ra13 : Hid (Away u13 p q L10 K10 ga ∧ u13.cell? ⟨ga, 3, none⟩ = some (.int .i64 0)) := hide ⟨⟨Nat.lt_of_lt_of_le Ra12.out.1.1 hb.size, Ra12.out.1.2⟩, (hb.cell (p := ⟨ga, 3, none⟩) Ra12.out.1.1).trans Ra12.out.2⟩
  clear hb CC
  have HE : Hid (freeL [MA0, MA1] ⟨⟨#[]⟩, 0, 9, 1, 6, -1, false, 0, 0⟩ (rowL LS2 0) = []) := hide (by decide +kernel)
  have CC := hide (probe_c H13.out.pq.hp (fun k _ => Nat.le_trans (ls2_len k) (by omega)) H13.out.pq.hq (by decide +kernel) ⟨#[]⟩ 0 9 1 6 (-1) false 0 0)
  rw [HE.out] at CC
  go_wp2_with fail
  refine CC.out.mono ?_
  rintro e u14 ⟨Ap, cp, rfl, ho, hb⟩
  have H14 := hide (H13.out.below hb)
  have B14 := hide (B13.out.trans (hb.mono B13.out.size))
  have Ra14 : Hid (Away u14 p q L10 K10 ga ∧ u14.cell? ⟨ga, 3, none⟩ = some (.int .i64 0)) := hide ⟨⟨Nat.lt_of_lt_of_le Ra13.out.1.1 hb.size, Ra13.out.1.2⟩, (hb.cell (p := ⟨ga, 3, none⟩) Ra13.out.1.1).trans Ra13.out.2⟩
  clear ho hb CC HE
  have CC : Hid (Calls Try.prog 30 #[.pointer (some ⟨p, 0, none⟩), .pointer (some ⟨q, 0, none⟩), .int .i64 0, .int .i64 1, .int .i64 1, .int .i64 1] u14 fun e w' => e = .returned (.int .i64 2) ∧ GoesPQ u14 p q L10 K10 (LS2) ([MA0, MA1]) w') := hide (by
    have h := Match_c H14.out.pq (fun k _ => Nat.le_trans (ls2_len k) (by omega)) (by decide +kernel) 0 (by decide) 1 1 1
    rw [match2.1, match2.2.1, match2.2.2] at h
    exact h)
  go_wp2_with fail
  refine CC.out.mono ?_
  rintro e u15 ⟨rfl, hg⟩
  obtain ⟨L15, K15, hp, hb, hw⟩ := H14.out.go B14.out.size hg
  have H15 := hide hp
  have B15 := hide (B14.out.trans hb)
  have Ra15 : Hid (Away u15 p q L15 K15 ga ∧ u15.cell? ⟨ga, 3, none⟩ = some (.int .i64 0)) := hide ⟨(hw ga Ra14.out.1).1, (World.cell?_of_block (w := u14) (w' := u15) (a := ⟨ga, 3, none⟩) (hw ga Ra14.out.1).2).trans Ra14.out.2⟩
  clear hg hp hb hw CC
  have CC : Hid (Calls Try.prog 30 #[.pointer (some ⟨p, 0, none⟩), .pointer (some ⟨q, 0, none⟩), .int .i64 0, .int .i64 0, .int .i64 1, .int .i64 0] u15 fun e w' => e = .returned (.int .i64 0) ∧ GoesPQ u15 p q L15 K15 (LS3) (LM2) w') := hide (by
    have h := Match_c H15.out.pq (fun k _ => Nat.le_trans (ls2_len k) (by omega)) (by decide +kernel) 0 (by decide) 0 1 0
    rw [match3.1, match3.2.1, match3.2.2] at h
    exact h)
  go_wp2_with fail
  refine CC.out.mono ?_
  rintro e u16 ⟨rfl, hg⟩
  obtain ⟨L16, K16, hp, hb, hw⟩ := H15.out.go B15.out.size hg
  have H16 := hide hp
  have B16 := hide (B15.out.trans hb)
  have Ra16 : Hid (Away u16 p q L16 K16 ga ∧ u16.cell? ⟨ga, 3, none⟩ = some (.int .i64 0)) := hide ⟨(hw ga Ra15.out.1).1, (World.cell?_of_block (w := u15) (w' := u16) (a := ⟨ga, 3, none⟩) (hw ga Ra15.out.1).2).trans Ra15.out.2⟩
  clear hg hp hb hw CC
  have HE : Hid (mayL LM2 (LS3 0) 1 = [MA1]) := hide (by decide +kernel)
  have CC := hide (may_c H16.out.pq.hp (fun k _ => Nat.le_trans (ls3_len k) (by omega)) H16.out.pq.hq (by decide +kernel) 0 (by decide) 1)
  rw [HE.out] at CC
  go_wp2_with fail
  refine CC.out.mono ?_
  rintro e u17 ⟨Ac, cc, rfl, ho, hb⟩
  have H17 := hide (H16.out.below hb)
  have B17 := hide (B16.out.trans (hb.mono B16.out.size))
  have Ra17 : Hid (Away u17 p q L16 K16 ga ∧ u17.cell? ⟨ga, 3, none⟩ = some (.int .i64 0)) := hide ⟨⟨Nat.lt_of_lt_of_le Ra16.out.1.1 hb.size, Ra16.out.1.2⟩, (hb.cell (p := ⟨ga, 3, none⟩) Ra16.out.1.1).trans Ra16.out.2⟩
  obtain ⟨gc, rfl, haw, hcc, hcc⟩ := one_row (p := p) (q := q) (L := L16) (K := K16) ho H16.out.pq.lt
  have Rc17 : Hid (Away u17 p q L16 K16 gc ∧ u17.cell? ⟨gc, 3, none⟩ = some (.int .i64 1)) := hide ⟨haw, hcc⟩
  clear haw hcc
  clear ho hb CC HE
  have WE : Hid ((wts (rowL LS3 0)).length = 1) := hide (by decide +kernel)
  have CC := hide (waiting_c H17.out.pq.hp (fun k _ => Nat.le_trans (ls3_len k) (by omega)) 0)
  rw [WE.out] at CC
  have ra := Ra17.out.2
  have rc := Rc17.out.2
  go_wp2_with fail
  refine CC.out.mono ?_
  rintro e u18 ⟨Aw, cw, rfl, ho, hb⟩
  have BE := hide (B17.out.trans (hb.mono B17.out.size))
  clear ho hb CC
  go_wp2_with fail
  go_ret
  exact ⟨rfl, BE.out⟩
end Po
end Go.Proofs.Ytonmojinijpneaa
