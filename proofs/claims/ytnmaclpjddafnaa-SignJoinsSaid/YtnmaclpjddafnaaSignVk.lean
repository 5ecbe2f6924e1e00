/- A choice put in: the reference's Put. -/
import Derived.Test.YtnmaclpjddafnaaRows
import Derived.Test.YtnmaclpjddafnaaSignVj
import Derived.Test.YtnmaclpjddafnaaSignC
import Derived.Test.YtnmaclpjddafnaaSignEb
import Derived.Test.YtnmaclpjddafnaaSignRw
import Derived.Test.YtnmaclpjddafnaaQuietBelow
namespace Go.Proofs.Ytnmaclpjddafnaa
open Go Go.RowKit
set_option linter.unusedVariables false
set_option linter.unusedSimpArgs false
namespace Jn
/-- A choice appended to a row that the call owns. -/
theorem push_ch (w : World) (B : Nat) (v : Value) (l : List Ch) (r c f s z : Int) (h : w.ownsRow B 24 5 v l.length (chs l)) (hB : B ≤ w.heap.size) (hl : l.length ≤ 1000000) :
    ∃ v1 w1, (Builtin.append_ #[22, 22] 22 #[v, .slice (some ⟨w.heap.size, 0, none⟩) 1 1]).run Try.prog (w.alloc (.cells #[.int .i64 r, .int .i64 c, .int .i64 f, .int .i64 s, .int .i64 z] 24)) = .ok v1 w1 ∧
      w1.ownsRow B 24 5 v1 (l ++ [(⟨r, c, f, s, z⟩ : Ch)]).length (chs (l ++ [(⟨r, c, f, s, z⟩ : Ch)])) ∧ Below B w w1 := by
  have ba := (Below.refl w.heap.size w).alloc (Nat.le_refl _) (.cells #[.int .i64 r, .int .i64 c, .int .i64 f, .int .i64 s, .int .i64 z] 24)
  have kb := Blk.new w 24 #[.int .i64 r, .int .i64 c, .int .i64 f, .int .i64 s, .int .i64 z]
  have ow := own_belowR h ba
  have hs1 : (w.alloc (.cells #[.int .i64 r, .int .i64 c, .int .i64 f, .int .i64 s, .int .i64 z] 24)).heap.size = w.heap.size + 1 := by simp
  obtain ⟨Wz, hWz⟩ : ∃ x', w.alloc (.cells #[.int .i64 r, .int .i64 c, .int .i64 f, .int .i64 s, .int .i64 z] 24) = x' := ⟨_, rfl⟩
  rw [hWz] at ba kb ow hs1 ⊢
  have hrd : Reads Wz Wz.heap.size 5 (some ⟨w.heap.size, 0, none⟩) 1 [.int .i64 r, .int .i64 c, .int .i64 f, .int .i64 s, .int .i64 z] := ⟨rfl, fun _ => ⟨_, rfl, kb.lt, fun j u hu => by rw [add_lit, kb.cell]; simpa using hu⟩⟩
  obtain ⟨i0, hi0, hz0, hz1, hz2⟩ := info_parts ch_info
  obtain ⟨v1, w1, hrun, hown, hg, _⟩ := run_append_any (P := Try.prog) Wz B 22 22 24 i0 _ 5 40 Try.underlying22 hi0 hz0 hz1 hz2 (by rfl) (by omega) v l.length (chs l) ow Wz.heap.size (some ⟨w.heap.size, 0, none⟩) 1 1 _ hrd (by intro u hu; simp at hu; rcases hu with rfl | rfl | rfl | rfl | rfl <;> rfl) (by unfold maxLen; omega) (by omega) (by omega)
  refine ⟨v1, w1, hrun, ?_, (ba.mono hB).grown hg (by omega) (fun g e => ?_)⟩
  · rw [chs_app, chs_one, List.length_append, List.length_singleton]
    exact hown
  · rcases ow.2 with ⟨rfl, _⟩ | ⟨g1, cap, cur, rfl, hge, _⟩
    · simp [Value.ownBlock] at e
    · simp [Value.ownBlock] at e
      omega
def PutB (l : List Ch) (x : Ch) (w : World) (e : Ending) (w' : World) : Prop :=
  ((putL l x = none ∧ e = .returned (.tuple #[.slice none 0 0, .int .i64 2])) ∨ (putL l x = some (putR l x) ∧ ∃ v, e = .returned (.tuple #[v, .int .i64 0]) ∧ w'.ownsRow w.heap.size 24 5 v (putR l x).length (chs (putR l x)))) ∧ Below w.heap.size w w'
/-- What stands in a round: the row so far, and what was ahead of the loop. -/
def PSt (W4 wr : World) (v : Value) (o : List Ch) : Prop := wr.ownsRow W4.heap.size 24 5 v o.length (chs o) ∧ Below W4.heap.size W4 wr
set_option maxRecDepth 100000 in
set_option maxHeartbeats 8000000 in
theorem Put_b (A : Option Addr) (cap : Nat) (l : List Ch) (x : Ch) (w : World) (h : CRow w A l) (hl : l.length ≤ 1000) :
    Calls Try.prog 5 #[.slice A l.length cap, x.val] w (PutB l x w) := by
  have PA := hide (fun hm hx hf => putL_some (l := l) (x := x) hm hx hf)
  have PN := hide (fun h => putL_none (l := l) (x := x) h)
  have PF := hide (fun hm hf => put_flt (l := l) (x := x) hm hf)
  have AF := hide (fun hm => at_fnd (l := l) (x := x) hm)
  have AT := hide (fun (w' : World) (h' : Below w.heap.size w w') => At_b A cap l x.r x.c w' (h.below h') hl)
  have MB := hide (fun (w' : World) (h' : Below w.heap.size w w') => May_b A cap l w' (h.below h') hl)
  have OB := hide (fun (w' : World) => one_b x w')
  have LT := hide (fun (t : Ch) (w' : World) => less_b t x w')
  have GT := hide (fun (t : Ch) (w' : World) => less_b x t w')
  have HR := hide h
  have bx := Blk.new w 24 #[.int .i64 x.r, .int .i64 x.c, .int .i64 x.f, .int .i64 x.s, .int .i64 x.v]
  have hb0 := (Below.refl w.heap.size w).alloc (Nat.le_refl _) (.cells #[.int .i64 x.r, .int .i64 x.c, .int .i64 x.f, .int .i64 x.s, .int .i64 x.v] 24)
  clear h
  obtain ⟨y, hy⟩ : ∃ y, (atR l x.r x.c).1 = y := ⟨_, rfl⟩
  obtain ⟨fd, hfd⟩ : ∃ y, (atR l x.r x.c).2 = y := ⟨_, rfl⟩
  rw [hy, hfd] at AT
  rw [hfd] at AF
  clear hy hfd
  obtain ⟨yr, yc, yf, ys, yv⟩ := y
  obtain ⟨r, c, f, s, v⟩ := x
  unfold Ch.val at OB LT GT AT ⊢
  simp only at bx hb0 AT OB LT GT ⊢
  have HB0 := hide hb0
  have BX := hide bx
  clear bx hb0
  go_enter Try.func5, Try.ntmps5
  go_wp2_with fail
  generalize w.alloc (.cells #[.int .i64 r, .int .i64 c, .int .i64 f, .int .i64 s, .int .i64 v] 24) = w1 at *
  refine (AT.out w1 HB0.out).mono ?_
  rintro e w2 ⟨rfl, hb2⟩
  have HB2 := hide ((HB0.out.trans (hb2.mono HB0.out.size)).alloc (Nat.le_trans HB0.out.size hb2.size) (.cells #[.int .i64 yr, .int .i64 yc, .int .i64 yf, .int .i64 ys, .int .i64 yv] 24))
  have BX2 := hide ((BX.out.below hb2 BX.out.lt).alloc (.cells #[.int .i64 yr, .int .i64 yc, .int .i64 yf, .int .i64 ys, .int .i64 yv] 24))
  clear hb2 BX HB0
  go_wp2_with fail
  generalize w2.alloc (.cells #[.int .i64 yr, .int .i64 yc, .int .i64 yf, .int .i64 ys, .int .i64 yv] 24) = w3 at *
  refine (MB.out w3 HB2.out).mono ?_
  rintro e w4 ⟨rfl, hb4⟩
  have HB4 := hide (HB2.out.trans (hb4.mono HB2.out.size))
  have BX4 := hide (BX2.out.below hb4 BX2.out.lt)
  clear hb4 BX2 HB2
  rcases hm : mayL l with _ | _
  · have NO := hide (PN.out fun h => by rw [hm] at h; exact absurd h.1 (by decide))
    clear hm
    go_wp2_with fail
    exact bodyPost_ret (v := .tuple #[.slice none 0 0, .int .i64 2]) (by simp [results, Try.results5, go_sem]) rfl ⟨.inl ⟨NO.out, rfl⟩, HB4.out⟩
  have HM := hide hm
  have y0 : w4.cell? ⟨w.heap.size, 0, none⟩ = some (.int .i64 r) := BX4.out.cell 0
  have y1 : w4.cell? ⟨w.heap.size, 1, none⟩ = some (.int .i64 c) := BX4.out.cell 1
  have y2 : w4.cell? ⟨w.heap.size, 2, none⟩ = some (.int .i64 f) := BX4.out.cell 2
  have y3 : w4.cell? ⟨w.heap.size, 3, none⟩ = some (.int .i64 s) := BX4.out.cell 3
  have y4 : w4.cell? ⟨w.heap.size, 4, none⟩ = some (.int .i64 v) := BX4.out.cell 4
  clear hm
  go_wp2_with fail
  clear y0 y1 y2 y3 y4
  refine (OB.out w4).mono ?_
  rintro e w5 ⟨rfl, hb5⟩
  have HB5 := hide (HB4.out.trans (hb5.mono HB4.out.size))
  have BX5 := hide (BX4.out.below hb5 BX4.out.lt)
  clear hb5 BX4 HB4
  rcases hmx : mayC ⟨r, c, f, s, v⟩ with _ | _
  · have NO := hide (PN.out fun h => by rw [hmx] at h; exact absurd h.2.1 (by decide))
    clear hmx
    go_wp2_with fail
    exact bodyPost_ret (v := .tuple #[.slice none 0 0, .int .i64 2]) (by simp [results, Try.results5, go_sem]) rfl ⟨.inl ⟨NO.out, rfl⟩, HB5.out⟩
  have HMX := hide hmx
  clear hmx
  rcases fd with _ | _
  rotate_left
  · have NO := hide (PN.out fun h => by rw [← AF.out h.1] at h; exact absurd h.2.2 (by decide))
    go_wp2_with fail
    exact bodyPost_ret (v := .tuple #[.slice none 0 0, .int .i64 2]) (by simp [results, Try.results5, go_sem]) rfl ⟨.inl ⟨NO.out, rfl⟩, HB5.out⟩
  have HF := hide (AF.out HM.out).symm
  have HR5 := hide (HR.out.below HB5.out)
  have OK := hide (PA.out HM.out HMX.out HF.out)
  have FIN := hide (PF.out HM.out HF.out)
  have ST1 : Hid (PSt w5 w5 (.slice none 0 0) (fltN (fun t => ltP t ⟨r, c, f, s, v⟩) l 0)) := hide ⟨⟨rfl, .inl ⟨rfl, rfl⟩⟩, Below.refl _ _⟩
  clear HM HMX HF PA PN PF AF AT MB OB
  go_wp2_with fail
  go_loopw [8, 9] (fun v8 vi wr => ∃ (i : Nat) (vo : Value), vo = v8 ∧ i ≤ l.length ∧ vi = .int .i64 i ∧ Hid (PSt w5 wr vo (fltN (fun t => ltP t ⟨r, c, f, s, v⟩) l i))) (fun _ vi _ => l.length - (intOf vi).toNat)
  case atStart => exact ⟨0, _, rfl, Nat.zero_le _, rfl, ST1⟩
  case round =>
    obtain ⟨i, vo, rfl, hi, rfl, HS⟩ := hrel
    rename World => wr
    clear ST1
    by_cases hlt : i < l.length
    · have ltI : (i : Int) < (l.length : Int) := by omega
      have hBr := HS.out.2
      obtain ⟨p, rfl, hp, hok, h0, h1, h2, h3, h4⟩ := (HR5.out.below hBr).at_ hlt
      have hpb : (p.add (i * 5)).block < wr.heap.size := by rw [block_of_add]; exact hp
      have BXr := BX5.out.below hBr BX5.out.lt
      have SUC := hide (fltN_succ (fun t => ltP t ⟨r, c, f, s, v⟩) l i hlt)
      have LC0 := hide (fun (w' : World) => LT.out l[i] w')
      have OLEN := hide (fltN_len (fun t => ltP t ⟨r, c, f, s, v⟩) l i)
      obtain ⟨tk, htk⟩ : ∃ t, l[i] = t := ⟨_, rfl⟩
      rw [htk] at h0 h1 h2 h3 h4 SUC LC0
      obtain ⟨tr, tc, tf, ts, tv⟩ := tk
      simp only at h0 h1 h2 h3 h4 LC0 SUC
      clear hok htk
      have NE : Nonempty (BelowOf wr) := ⟨⟨wr, Below.refl _ _⟩⟩
      have q0 : ∀ p9 : BelowOf wr, p9.world.cell? (p.add (i * 5)) = some (.int .i64 tr) := fun p9 => (p9.below.cell hpb).trans h0
      have q1 : ∀ p9 : BelowOf wr, p9.world.cell? ⟨(p.add (i * 5)).block, (p.add (i * 5)).off + 1, none⟩ = some (.int .i64 tc) := fun p9 => (p9.below.cell (p := ⟨_, _, none⟩) hpb).trans h1
      have q2 : ∀ p9 : BelowOf wr, p9.world.cell? ⟨(p.add (i * 5)).block, (p.add (i * 5)).off + 2, none⟩ = some (.int .i64 tf) := fun p9 => (p9.below.cell (p := ⟨_, _, none⟩) hpb).trans h2
      have q3 : ∀ p9 : BelowOf wr, p9.world.cell? ⟨(p.add (i * 5)).block, (p.add (i * 5)).off + 3, none⟩ = some (.int .i64 ts) := fun p9 => (p9.below.cell (p := ⟨_, _, none⟩) hpb).trans h3
      have q4 : ∀ p9 : BelowOf wr, p9.world.cell? ⟨(p.add (i * 5)).block, (p.add (i * 5)).off + 4, none⟩ = some (.int .i64 tv) := fun p9 => (p9.below.cell (p := ⟨_, _, none⟩) hpb).trans h4
      have z0 : ∀ p9 : BelowOf wr, p9.world.cell? ⟨w.heap.size, 0, none⟩ = some (.int .i64 r) := fun p9 => (p9.below.cell (p := ⟨_, _, none⟩) BXr.lt).trans (BXr.cell 0)
      have z1 : ∀ p9 : BelowOf wr, p9.world.cell? ⟨w.heap.size, 1, none⟩ = some (.int .i64 c) := fun p9 => (p9.below.cell (p := ⟨_, _, none⟩) BXr.lt).trans (BXr.cell 1)
      have z2 : ∀ p9 : BelowOf wr, p9.world.cell? ⟨w.heap.size, 2, none⟩ = some (.int .i64 f) := fun p9 => (p9.below.cell (p := ⟨_, _, none⟩) BXr.lt).trans (BXr.cell 2)
      have z3 : ∀ p9 : BelowOf wr, p9.world.cell? ⟨w.heap.size, 3, none⟩ = some (.int .i64 s) := fun p9 => (p9.below.cell (p := ⟨_, _, none⟩) BXr.lt).trans (BXr.cell 3)
      have z4 : ∀ p9 : BelowOf wr, p9.world.cell? ⟨w.heap.size, 4, none⟩ = some (.int .i64 v) := fun p9 => (p9.below.cell (p := ⟨_, _, none⟩) BXr.lt).trans (BXr.cell 4)
      have LC := hide (fun p9 : BelowOf wr => LC0.out p9.world)
      clear LC0 h0 h1 h2 h3 h4 hBr BXr
      by_cases hlp : ltP ⟨tr, tc, tf, ts, tv⟩ ⟨r, c, f, s, v⟩ = true
      · rw [hlp] at LC
        have SU := hide (SUC.out.trans (by rw [if_pos hlp]))
        clear SUC
        go_wp2_with fail
        refine wp_region_quiet_below (by kernel_rfl) (by kernel_rfl) ?_
        repeat (go_big_quiet_step (first
          | (go_at_call 13; refine calls_below (LC.out _))))
        refine wpQuiet_nil ?_
        rintro Wq ⟨⟨_, hq⟩, rfl⟩
        have q0 := q0 ⟨Wq, hq⟩
        have q1 := q1 ⟨Wq, hq⟩
        have q2 := q2 ⟨Wq, hq⟩
        have q3 := q3 ⟨Wq, hq⟩
        have q4 := q4 ⟨Wq, hq⟩
        dsimp only at q0 q1 q2 q3 q4
        have HBq := hide (HS.out.2.trans (hq.mono HS.out.2.size))
        obtain ⟨v1, wz, hrun, hown, hbel⟩ := push_ch Wq w5.heap.size vo (fltN (fun t => ltP t ⟨r, c, f, s, v⟩) l i) tr tc tf ts tv (own_belowR HS.out.1 hq) HBq.out.size (by have := OLEN.out; omega)
        have RUN := hide hrun
        have HS2 : Hid (PSt w5 wz v1 (fltN (fun t => ltP t ⟨r, c, f, s, v⟩) l (i + 1))) := hide ⟨by rw [SU.out]; exact hown, HBq.out.trans hbel⟩
        clear hrun hown hbel hq HS HBq SU LC NE z0 z1 z2 z3 z4
        go_wp2_with (at_builtin; refine Lib.wpList_append_run _ rfl _ _ _ _ rfl _ _ rfl rfl _ _ RUN.out ?_)
        go_roundw
        case rel => exact ⟨i + 1, _, rfl, by omega, by go_num, HS2⟩
        case measure => simp [intOf]; omega
      · have hlf : ltP ⟨tr, tc, tf, ts, tv⟩ ⟨r, c, f, s, v⟩ = false := by simpa using hlp
        rw [hlf] at LC
        have SU := hide (SUC.out.trans (by rw [if_neg hlp, List.append_nil]))
        clear SUC
        go_wp2_with fail
        refine wp_region_quiet_below (by kernel_rfl) (by kernel_rfl) ?_
        repeat (go_big_quiet_step (first
          | (go_at_call 13; refine calls_below (LC.out _))))
        refine wpQuiet_nil ?_
        rintro Wq ⟨⟨_, hq⟩, rfl⟩
        have HS2 : Hid (PSt w5 Wq vo (fltN (fun t => ltP t ⟨r, c, f, s, v⟩) l (i + 1))) := hide ⟨by rw [SU.out]; exact own_belowR HS.out.1 hq, HS.out.2.trans (hq.mono HS.out.2.size)⟩
        clear hq HS SU LC NE q0 q1 q2 q3 q4 z0 z1 z2 z3 z4
        go_wp2_with fail
        go_roundw
        case rel => exact ⟨i + 1, _, rfl, by omega, by first | trivial | go_num, HS2⟩
        case measure => simp [intOf]; omega
    obtain rfl : i = l.length := by omega
    have ltI : ¬ (l.length : Int) < (l.length : Int) := by omega
    have FL1 := hide (fltN_len (fun t => ltP t ⟨r, c, f, s, v⟩) l l.length)
    generalize fltN (fun t => ltP t ⟨r, c, f, s, v⟩) l l.length = o1 at *
    have BXr := BX5.out.below HS.out.2 BX5.out.lt
    have y0 : wr.cell? ⟨w.heap.size, 0, none⟩ = some (.int .i64 r) := BXr.cell 0
    have y1 : wr.cell? ⟨w.heap.size, 1, none⟩ = some (.int .i64 c) := BXr.cell 1
    have y2 : wr.cell? ⟨w.heap.size, 2, none⟩ = some (.int .i64 f) := BXr.cell 2
    have y3 : wr.cell? ⟨w.heap.size, 3, none⟩ = some (.int .i64 s) := BXr.cell 3
    have y4 : wr.cell? ⟨w.heap.size, 4, none⟩ = some (.int .i64 v) := BXr.cell 4
    obtain ⟨v1, wz, hrun, hown, hbel⟩ := push_ch wr w5.heap.size vo o1 r c f s v HS.out.1 HS.out.2.size (by have := FL1.out; omega)
    have RUN := hide hrun
    have ST2 : Hid (PSt w5 wz v1 (o1 ++ [(⟨r, c, f, s, v⟩ : Ch)] ++ fltN (fun t => ltP ⟨r, c, f, s, v⟩ t) l 0)) := hide ⟨by rw [show fltN (fun t => ltP ⟨r, c, f, s, v⟩ t) l 0 = [] from rfl, List.append_nil]; exact hown, HS.out.2.trans hbel⟩
    clear hrun hown hbel HS BXr
    go_wp2_with (at_builtin; refine Lib.wpList_append_run _ rfl _ _ _ _ rfl _ _ rfl rfl _ _ RUN.out ?_)
    clear RUN y0 y1 y2 y3 y4 ltI
    go_loopw [8, 10] (fun v8 vi wr => ∃ (i : Nat) (vo : Value), vo = v8 ∧ i ≤ l.length ∧ vi = .int .i64 i ∧ Hid (PSt w5 wr vo (o1 ++ [(⟨r, c, f, s, v⟩ : Ch)] ++ fltN (fun t => ltP ⟨r, c, f, s, v⟩ t) l i))) (fun _ vi _ => l.length - (intOf vi).toNat)
    case atStart => exact ⟨0, _, rfl, Nat.zero_le _, rfl, ST2⟩
    case round =>
      obtain ⟨i, vo, rfl, hi, rfl, HS⟩ := hrel
      rename World => wr
      clear ST2
      by_cases hlt : i < l.length
      · have ltI : (i : Int) < (l.length : Int) := by omega
        have hBr := HS.out.2
        obtain ⟨p, rfl, hp, hok, h0, h1, h2, h3, h4⟩ := (HR5.out.below hBr).at_ hlt
        have hpb : (p.add (i * 5)).block < wr.heap.size := by rw [block_of_add]; exact hp
        have BXr := BX5.out.below hBr BX5.out.lt
        have SUC := hide (fltN_succ (fun t => ltP ⟨r, c, f, s, v⟩ t) l i hlt)
        have LC0 := hide (fun (w' : World) => GT.out l[i] w')
        have OLEN := hide (fltN_len (fun t => ltP ⟨r, c, f, s, v⟩ t) l i)
        obtain ⟨tk, htk⟩ : ∃ t, l[i] = t := ⟨_, rfl⟩
        rw [htk] at h0 h1 h2 h3 h4 SUC LC0
        obtain ⟨tr, tc, tf, ts, tv⟩ := tk
        simp only at h0 h1 h2 h3 h4 LC0 SUC
        clear hok htk
        have NE : Nonempty (BelowOf wr) := ⟨⟨wr, Below.refl _ _⟩⟩
        have q0 : ∀ p9 : BelowOf wr, p9.world.cell? (p.add (i * 5)) = some (.int .i64 tr) := fun p9 => (p9.below.cell hpb).trans h0
        have q1 : ∀ p9 : BelowOf wr, p9.world.cell? ⟨(p.add (i * 5)).block, (p.add (i * 5)).off + 1, none⟩ = some (.int .i64 tc) := fun p9 => (p9.below.cell (p := ⟨_, _, none⟩) hpb).trans h1
        have q2 : ∀ p9 : BelowOf wr, p9.world.cell? ⟨(p.add (i * 5)).block, (p.add (i * 5)).off + 2, none⟩ = some (.int .i64 tf) := fun p9 => (p9.below.cell (p := ⟨_, _, none⟩) hpb).trans h2
        have q3 : ∀ p9 : BelowOf wr, p9.world.cell? ⟨(p.add (i * 5)).block, (p.add (i * 5)).off + 3, none⟩ = some (.int .i64 ts) := fun p9 => (p9.below.cell (p := ⟨_, _, none⟩) hpb).trans h3
        have q4 : ∀ p9 : BelowOf wr, p9.world.cell? ⟨(p.add (i * 5)).block, (p.add (i * 5)).off + 4, none⟩ = some (.int .i64 tv) := fun p9 => (p9.below.cell (p := ⟨_, _, none⟩) hpb).trans h4
        have z0 : ∀ p9 : BelowOf wr, p9.world.cell? ⟨w.heap.size, 0, none⟩ = some (.int .i64 r) := fun p9 => (p9.below.cell (p := ⟨_, _, none⟩) BXr.lt).trans (BXr.cell 0)
        have z1 : ∀ p9 : BelowOf wr, p9.world.cell? ⟨w.heap.size, 1, none⟩ = some (.int .i64 c) := fun p9 => (p9.below.cell (p := ⟨_, _, none⟩) BXr.lt).trans (BXr.cell 1)
        have z2 : ∀ p9 : BelowOf wr, p9.world.cell? ⟨w.heap.size, 2, none⟩ = some (.int .i64 f) := fun p9 => (p9.below.cell (p := ⟨_, _, none⟩) BXr.lt).trans (BXr.cell 2)
        have z3 : ∀ p9 : BelowOf wr, p9.world.cell? ⟨w.heap.size, 3, none⟩ = some (.int .i64 s) := fun p9 => (p9.below.cell (p := ⟨_, _, none⟩) BXr.lt).trans (BXr.cell 3)
        have z4 : ∀ p9 : BelowOf wr, p9.world.cell? ⟨w.heap.size, 4, none⟩ = some (.int .i64 v) := fun p9 => (p9.below.cell (p := ⟨_, _, none⟩) BXr.lt).trans (BXr.cell 4)
        have LC := hide (fun p9 : BelowOf wr => LC0.out p9.world)
        clear LC0 h0 h1 h2 h3 h4 hBr BXr
        by_cases hlp : ltP ⟨r, c, f, s, v⟩ ⟨tr, tc, tf, ts, tv⟩ = true
        · rw [hlp] at LC
          have SU := hide (SUC.out.trans (by rw [if_pos hlp]))
          clear SUC
          go_wp2_with fail
          refine wp_region_quiet_below (by kernel_rfl) (by kernel_rfl) ?_
          repeat (go_big_quiet_step (first
            | (go_at_call 13; refine calls_below (LC.out _))))
          refine wpQuiet_nil ?_
          rintro Wq ⟨⟨_, hq⟩, rfl⟩
          have q0 := q0 ⟨Wq, hq⟩
          have q1 := q1 ⟨Wq, hq⟩
          have q2 := q2 ⟨Wq, hq⟩
          have q3 := q3 ⟨Wq, hq⟩
          have q4 := q4 ⟨Wq, hq⟩
          dsimp only at q0 q1 q2 q3 q4
          have HBq := hide (HS.out.2.trans (hq.mono HS.out.2.size))
          obtain ⟨v1, wz, hrun, hown, hbel⟩ := push_ch Wq w5.heap.size vo (o1 ++ [(⟨r, c, f, s, v⟩ : Ch)] ++ fltN (fun t => ltP ⟨r, c, f, s, v⟩ t) l i) tr tc tf ts tv (own_belowR HS.out.1 hq) HBq.out.size (by have := OLEN.out; have := FL1.out; simp only [List.length_append, List.length_singleton]; omega)
          have RUN := hide hrun
          have HS2 : Hid (PSt w5 wz v1 (o1 ++ [(⟨r, c, f, s, v⟩ : Ch)] ++ fltN (fun t => ltP ⟨r, c, f, s, v⟩ t) l (i + 1))) := hide ⟨by rw [SU.out, ← List.append_assoc]; exact hown, HBq.out.trans hbel⟩
          clear hrun hown hbel hq HS HBq SU LC NE z0 z1 z2 z3 z4
          go_wp2_with (at_builtin; refine Lib.wpList_append_run _ rfl _ _ _ _ rfl _ _ rfl rfl _ _ RUN.out ?_)
          go_roundw
          case rel => exact ⟨i + 1, _, rfl, by omega, by go_num, HS2⟩
          case measure => simp [intOf]; omega
        · have hlf : ltP ⟨r, c, f, s, v⟩ ⟨tr, tc, tf, ts, tv⟩ = false := by simpa using hlp
          rw [hlf] at LC
          have SU := hide (SUC.out.trans (by rw [if_neg hlp, List.append_nil]))
          clear SUC
          go_wp2_with fail
          refine wp_region_quiet_below (by kernel_rfl) (by kernel_rfl) ?_
          repeat (go_big_quiet_step (first
            | (go_at_call 13; refine calls_below (LC.out _))))
          refine wpQuiet_nil ?_
          rintro Wq ⟨⟨_, hq⟩, rfl⟩
          have HS2 : Hid (PSt w5 Wq vo (o1 ++ [(⟨r, c, f, s, v⟩ : Ch)] ++ fltN (fun t => ltP ⟨r, c, f, s, v⟩ t) l (i + 1))) := hide ⟨by rw [SU.out]; exact own_belowR HS.out.1 hq, HS.out.2.trans (hq.mono HS.out.2.size)⟩
          clear hq HS SU LC NE q0 q1 q2 q3 q4 z0 z1 z2 z3 z4
          go_wp2_with fail
          go_roundw
          case rel => exact ⟨i + 1, _, rfl, by omega, by first | trivial | go_num, HS2⟩
          case measure => simp [intOf]; omega
      obtain rfl : i = l.length := by omega
      have ltI : ¬ (l.length : Int) < (l.length : Int) := by omega
      have HS2 := hide (by have h9 := HS.out.1; rw [FIN.out] at h9; exact own_base h9 HB5.out.size)
      have HB6 := hide (HB5.out.trans (HS.out.2.mono HB5.out.size))
      clear HS
      go_wp2_with fail
      exact bodyPost_ret (v := .tuple #[vo, .int .i64 0]) (by simp [results, Try.results5, go_sem]) rfl ⟨.inr ⟨OK.out, _, rfl, HS2.out⟩, HB6.out⟩
end Jn
end Go.Proofs.Ytnmaclpjddafnaa
