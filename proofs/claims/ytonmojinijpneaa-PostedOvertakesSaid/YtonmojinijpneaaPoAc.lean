/- What may be a receive's only becomes more, till it is matched (no program); messages compared; within. -/
import Derived.Test.YtonmojinijpneaaRows
import Derived.Test.YtonmojinijpneaaPoAa
import Derived.BigQuiet
namespace Go.Proofs.Ytonmojinijpneaa
open Go Go.Joins Go.ChangeShapes Go.WideShapes Go.RowKit Go.Deep Go.Lib Go.Proofs.Ytonmojinijpneaa.Qu
set_option linter.unusedVariables false
set_option linter.unusedSimpArgs false
namespace Po
theorem mayL_at {l : List Msg} {rs : List Rc} (hup : rs.Pairwise fun a b => a.ca < b.ca) {x : Rc} (hx : x ∈ rs) : mayL l rs x.ca = if x.dn then [] else freeL l x (rs.filter fun y => decide (y.ca < x.ca)) := by
  obtain ⟨i, hi⟩ := List.getElem?_of_mem hx
  unfold mayL
  rw [rise_find rs i x hup hi]
theorem mem_free_iff {l : List Msg} {r : Rc} {ah : List Rc} {m : Msg} : m ∈ freeL l r ah ↔ leaveB ah m = true ∧ ∃ f ∈ sndL l r.key r.rk r.pe, firstL l ⟨r.key, f, r.rk⟩ r.tg = some m := by
  unfold freeL
  rw [mem_flt, mem_fsts, and_comm]
theorem first_app {l : List Msg} {c : Chan} {tag : Int} {m m0 : Msg} (h : firstL l c tag = some m) : firstL (l ++ [m0]) c tag = some m := by
  unfold firstL at h ⊢
  rw [List.find?_append, h]
  rfl
theorem snd_more {l l' : List Msg} {key : ByteArray} {rk pe f : Int} (hf : f ∈ sndL l key rk pe) (h : pe = -1 → (firstL l ⟨key, f, rk⟩ (-1)).isSome = true → (firstL l' ⟨key, f, rk⟩ (-1)).isSome = true) : f ∈ sndL l' key rk pe := by
  unfold sndL at hf ⊢
  split
  · rename_i hp
    rw [if_pos hp] at hf
    unfold sendersL at hf ⊢
    have := List.mem_filter.1 hf
    exact List.mem_filter.2 ⟨this.1, h hp this.2⟩
  · rename_i hp
    rwa [if_neg hp] at hf
theorem find_modify {α : Type} {P : α → Bool} {f : α → α} (hf : ∀ y, P (f y) = false) : ∀ (l : List α) (i : Nat) (m : α), l.find? P = some m → l[i]? ≠ some m → (l.modify i f).find? P = some m
  | [], i, m, h, _ => by cases h
  | y :: t, 0, m, h, hne => by
    show (f y :: t).find? P = some m
    rw [List.find?_cons] at h
    rw [List.find?_cons, hf]
    cases hp : P y with
    | true => rw [hp] at h; injection h with h; exact absurd (by simp [h]) hne
    | false => rw [hp] at h; exact h
  | y :: t, i + 1, m, h, hne => by
    show (y :: t.modify i f).find? P = some m
    rw [List.find?_cons]
    rw [List.find?_cons] at h
    cases hp : P y with
    | true => rw [hp] at h; exact h
    | false => rw [hp] at h; exact find_modify hf t i m h (by simpa using hne)
theorem first_take {l : List Msg} {v : Who} {c : Chan} {tag : Int} {m : Msg} (h : firstL l c tag = some m) (hne : m.who ≠ v) : firstL (takeL l v) c tag = some m := by
  unfold takeL
  cases hp : plc l v with
  | none => exact h
  | some i =>
    obtain ⟨m', hm', hw⟩ := plc_some hp
    exact find_modify (f := Msg.took) (fun y => by simp [isM, Msg.took]) l i m h (fun e => hne (by rw [hm'] at e; injection e with e; rw [← e]; exact hw))
theorem first_some {l : List Msg} {c : Chan} {m : Msg} {tag : Int} (h : firstL l c tag = some m) : (firstL l c (-1)).isSome = true := by
  obtain ⟨h1, h2, _⟩ := first_mem h
  unfold firstL
  rw [List.find?_isSome]
  exact ⟨m, h1, by rw [h2]; simp [tagged]⟩
theorem leave_more {ah ah' : List Rc} {m : Msg} (h : leaveB ah m = true) (hs : ∀ y ∈ ah', y ∈ ah ∨ y.dn = true) : leaveB ah' m = true := by
  unfold leaveB at h ⊢
  rw [List.all_eq_true] at h ⊢
  intro y hy
  rcases hs y hy with e | e
  · exact h y e
  · rw [e]; rfl
/-- What may be a receive's only becomes more, till it is matched. -/
theorem grows_step {ls ls' : Nat → List Rc} {l l' : List Msg} (hst : Step ls l ls' l') (hu : Uniq l) (hup : ∀ k, k < 64 → (ls k).Pairwise fun a b => a.ca < b.ca) (hup' : ∀ k, k < 64 → (ls' k).Pairwise fun a b => a.ca < b.ca) (hok : ∀ k, k < 64 → ∀ r ∈ ls k, mayR r ∧ r.rk = k)
    (r : Nat) (hr : r < 64) {x : Rc} (hx : x ∈ ls r) : ∃ x' ∈ ls' r, x'.ca = x.ca ∧ (x'.dn = false → x.dn = false ∧ ∀ m ∈ mayL l (ls r) x.ca, m ∈ mayL l' (ls' r) x.ca) := by
  cases hst with
  | none_ => exact ⟨x, hx, rfl, fun h => ⟨h, fun m hm => hm⟩⟩
  | send m0 =>
    refine ⟨x, hx, rfl, fun h => ⟨h, fun m hm => ?_⟩⟩
    rw [mayL_at (hup r hr) hx, h] at hm ⊢
    simp only [Bool.false_eq_true, if_false] at hm ⊢
    unfold sendL
    split
    · rw [mem_free_iff] at hm ⊢
      obtain ⟨h1, f, hf, h2⟩ := hm
      refine ⟨h1, f, snd_more hf fun _ hs => ?_, first_app h2⟩
      obtain ⟨y, hy⟩ := Option.isSome_iff_exists.1 hs
      rw [first_app hy]
      rfl
    · exact hm
  | post r0 =>
    unfold postL
    by_cases hp : postOk ls r0
    · have hup2 := hup' r hr
      unfold postL at hup2
      rw [if_pos hp] at hup2 ⊢
      by_cases e : r = r0.rk.toNat
      · subst e
        rw [updF_at] at hup2 ⊢
        have hx' : x ∈ ls r0.rk.toNat ++ [fresh r0] := List.mem_append_left _ hx
        refine ⟨x, hx', rfl, fun h => ⟨h, fun m hm => ?_⟩⟩
        rw [mayL_at (hup _ hr) hx, h] at hm
        rw [mayL_at hup2 hx', h]
        have hlt : ¬ (fresh r0).ca < x.ca := by have := hp.2 x hx; unfold fresh; simp only; omega
        rw [List.filter_append, List.filter_cons_of_neg (by simpa using hlt), List.filter_nil, List.append_nil]
        exact hm
      · rw [updF_ne ls _ _ e]
        exact ⟨x, hx, rfl, fun h => ⟨h, fun m hm => hm⟩⟩
    · rw [if_neg hp]
      exact ⟨x, hx, rfl, fun h => ⟨h, fun m hm => hm⟩⟩
  | match_ k hk ca m0 hm0 =>
    by_cases hsame : r = k ∧ x.ca = ca
    · obtain ⟨rfl, rfl⟩ := hsame
      rw [updF_at]
      refine ⟨_, List.mem_map_of_mem hx, ?_, fun h => ?_⟩
      · rw [if_pos rfl]
      · rw [if_pos rfl] at h
        cases h
    have hx' : x ∈ updF ls k (setD (ls k) ca m0.fr m0.ca) r := by
      by_cases e : r = k
      · subst e
        rw [updF_at]
        have hca : ¬ x.ca = ca := fun h => hsame ⟨rfl, h⟩
        unfold setD
        refine List.mem_map.2 ⟨x, hx, ?_⟩
        rw [if_neg hca]
      · rw [updF_ne ls k _ e]; exact hx
    refine ⟨x, hx', rfl, fun h => ⟨h, fun m hm => ?_⟩⟩
    have hup2 := hup' r hr
    have hmm := hm
    rw [mayL_at (hup r hr) hx, h] at hm
    rw [mayL_at hup2 hx', h]
    simp only [Bool.false_eq_true, if_false] at hm ⊢
    have hpm := mem_freeL hm
    have hne : m.who ≠ ⟨m0.fr, m0.ca⟩ := fun e => by
      have e1 : m.fr = m0.fr ∧ m.ca = m0.ca := by
        unfold Msg.who at e
        injection e with e1 e2
        exact ⟨e1, e2⟩
      obtain ⟨y, hy, hyc, hyd, hyf⟩ := mayL_mem hm0
      have hp0 := mem_freeL hyf
      have heq : m = m0 := nodup_inj (fun m : Msg => m.who) hu hpm.1 hp0.1 e
      subst heq
      have hrk : r = k := by
        have h1 := hpm.2.2.1
        have h2 := hp0.2.2.1
        unfold fitsB at h1 h2
        have h3 := (of_decide_eq_true h1).2.1
        have h4 := (of_decide_eq_true h2).2.1
        have h5 := (hok r hr x hx).2
        have h6 := (hok k hk y hy).2
        omega
      subst hrk
      exact hsame ⟨rfl, may_one hu (hup r hr) hmm hm0 e1⟩
    rw [mem_free_iff] at hm ⊢
    obtain ⟨h1, f, hf, h2⟩ := hm
    refine ⟨leave_more h1 fun y hy => ?_, f, snd_more hf fun _ _ => first_some (first_take h2 hne), first_take h2 hne⟩
    have hy := List.mem_filter.1 hy
    by_cases e : r = k
    · subst e
      rw [updF_at] at hy
      obtain ⟨z, hz, rfl⟩ := List.mem_map.1 hy.1
      by_cases hzc : z.ca = ca
      · rw [if_pos hzc]; exact .inr rfl
      · rw [if_neg hzc] at hy ⊢
        exact .inl (List.mem_filter.2 ⟨hz, hy.2⟩)
    · rw [updF_ne ls k _ e] at hy
      exact .inl (List.mem_filter.2 hy)
set_option maxRecDepth 100000 in
set_option maxHeartbeats 4000000 in
theorem eqMsg (x y : Msg) (w : World) : (binOp .eql 33 (.agg #[.string x.key, .int .i64 x.fr, .int .i64 x.to, .int .i64 x.ca, .int .i64 x.tg, .int .i64 x.va, .int .i64 x.sz, .bool x.tk]) (.agg #[.string y.key, .int .i64 y.fr, .int .i64 y.to, .int .i64 y.ca, .int .i64 y.tg, .int .i64 y.va, .int .i64 y.sz, .bool y.tk])).run Try.prog w = .ok (.bool (decide (x = y))) w := by
  have u_int := Try.underlying3
  have a_int := Try.isAgg3
  have z_int := Try.sizeOf3
  have u_i64 := Try.underlying2
  have a_i64 := Try.isAgg2
  have z_i64 := Try.sizeOf2
  have u_bool := Try.underlying4
  have a_bool := Try.isAgg4
  have z_bool := Try.sizeOf4
  have u_str := Try.underlying9
  have a_str := Try.isAgg9
  have z_str := Try.sizeOf9
  have hS : Try.prog.underlying 33 = some (.struct (Try.prog.fieldsOf 33)) := by kernel_rfl
  have hp : Try.prog.stoodInHeld 33 = false := by kernel_rfl
  obtain ⟨xkey, xfr, xto, xca, xtg, xva, xsz, xtk⟩ := x
  obtain ⟨ykey, yfr, yto, yca, ytg, yva, ysz, ytk⟩ := y
  rw [run_eql_struct, show (10000 : Nat) = 9999 + 1 from rfl, run_equalIn_agg w 9999 33 _ _ hS hp]
  simp only [Program.fieldsOf, Try.underlying33]
  clear hS hp
  by_cases hkey : xkey = ykey
  rotate_left
  · have e : decide ((⟨xkey, xfr, xto, xca, xtg, xva, xsz, xtk⟩ : Msg) = ⟨ykey, yfr, yto, yca, ytg, yva, ysz, ytk⟩) = false := decide_eq_false fun h => hkey (by injection h)
    rw [e]
    have hs := str_ne hkey
    go_simp
  by_cases hfr : xfr = yfr
  rotate_left
  · have e : decide ((⟨xkey, xfr, xto, xca, xtg, xva, xsz, xtk⟩ : Msg) = ⟨ykey, yfr, yto, yca, ytg, yva, ysz, ytk⟩) = false := decide_eq_false fun h => hfr (by injection h)
    rw [e]
    go_simp
  by_cases hto : xto = yto
  rotate_left
  · have e : decide ((⟨xkey, xfr, xto, xca, xtg, xva, xsz, xtk⟩ : Msg) = ⟨ykey, yfr, yto, yca, ytg, yva, ysz, ytk⟩) = false := decide_eq_false fun h => hto (by injection h)
    rw [e]
    go_simp
  by_cases hca : xca = yca
  rotate_left
  · have e : decide ((⟨xkey, xfr, xto, xca, xtg, xva, xsz, xtk⟩ : Msg) = ⟨ykey, yfr, yto, yca, ytg, yva, ysz, ytk⟩) = false := decide_eq_false fun h => hca (by injection h)
    rw [e]
    go_simp
  by_cases htg : xtg = ytg
  rotate_left
  · have e : decide ((⟨xkey, xfr, xto, xca, xtg, xva, xsz, xtk⟩ : Msg) = ⟨ykey, yfr, yto, yca, ytg, yva, ysz, ytk⟩) = false := decide_eq_false fun h => htg (by injection h)
    rw [e]
    go_simp
  by_cases hva : xva = yva
  rotate_left
  · have e : decide ((⟨xkey, xfr, xto, xca, xtg, xva, xsz, xtk⟩ : Msg) = ⟨ykey, yfr, yto, yca, ytg, yva, ysz, ytk⟩) = false := decide_eq_false fun h => hva (by injection h)
    rw [e]
    go_simp
  by_cases hsz : xsz = ysz
  rotate_left
  · have e : decide ((⟨xkey, xfr, xto, xca, xtg, xva, xsz, xtk⟩ : Msg) = ⟨ykey, yfr, yto, yca, ytg, yva, ysz, ytk⟩) = false := decide_eq_false fun h => hsz (by injection h)
    rw [e]
    go_simp
  by_cases htk : xtk = ytk
  rotate_left
  · have e : decide ((⟨xkey, xfr, xto, xca, xtg, xva, xsz, xtk⟩ : Msg) = ⟨ykey, yfr, yto, yca, ytg, yva, ysz, ytk⟩) = false := decide_eq_false fun h => htk (by injection h)
    rw [e]
    cases xtk <;> cases ytk <;> first | exact absurd rfl htk | go_simp
  subst hkey hfr hto hca htg hva hsz htk
  have e : decide ((⟨xkey, xfr, xto, xca, xtg, xva, xsz, xtk⟩ : Msg) = ⟨xkey, xfr, xto, xca, xtg, xva, xsz, xtk⟩) = true := decide_eq_true rfl
  rw [e]
  have hs := str_eq xkey
  cases xtk <;> go_simp
set_option maxRecDepth 100000 in
set_option maxHeartbeats 16000000 in
/-- Messages that are all among others. -/
theorem within_c {w : World} (A B : Option Addr) (ca cb n m : Nat) (r s : List Msg) (hA : MRow w A r) (hB : MRow w B s) (hn : r.length = n) (hm : s.length = m) (hn1 : n ≤ 1000) (hm1 : m ≤ 1000) (hs : ∀ x ∈ r, x ∈ s) :
    Calls Try.prog 36 #[.slice A n ca, .slice B m cb] w fun e w' => e = .returned (.bool true) ∧ Below w.heap.size w w' := by
  have HA := hide hA
  have HB := hide hB
  have HN := hide hn
  have HM := hide hm
  have HN1 := hide hn1
  have HM1 := hide hm1
  have HS := hide hs
  have b0 := hide (Below.refl w.heap.size w)
  clear hA hB hn hm hs hn1 hm1
  have hq : Try.prog.eqGuardType Try.prog.depth 33 = false := by kernel_rfl
  go_enter Try.func36, Try.ntmps36
  go_wp2_with fail
  go_loopw [5, 6, 7] (fun v5 _ _ wr => ∃ i : Nat, i ≤ n ∧ v5 = .int .i64 i ∧ Hid (Below w.heap.size w wr)) (fun v5 _ _ _ => n - (RowKit.intOf v5).toNat)
  case atStart => exact ⟨0, Nat.zero_le _, rfl, b0⟩
  case round =>
    obtain ⟨i, hi, rfl, HBR⟩ := hrel
    rename World => wr
    have hn1 := HN1.out
    have hm1 := HM1.out
    by_cases hlt : i < n
    rotate_left
    · have hltI : ¬ (i : Int) < (n : Int) := by omega
      go_wp2_with fail
      go_ret
      exact ⟨rfl, HBR.out⟩
    have hltI : (i : Int) < (n : Int) := by omega
    obtain ⟨x, hx⟩ : ∃ m, r[i]? = some m := ⟨_, List.getElem?_eq_getElem (by rw [HN.out]; exact hlt)⟩
    have HX := hide hx
    have HXS := hide (HS.out x (List.mem_of_getElem? hx))
    have HLT := hide hlt
    clear hx hlt
    go_wp2_with fail
    go_loopw [6, 7] (fun v6 v7 wt => ∃ k : Nat, k ≤ m ∧ v7 = .int .i64 k ∧ v6 = .bool ((s.take k).any fun y => decide (x = y)) ∧ Hid (Below w.heap.size w wt)) (fun _ v7 _ => m - (RowKit.intOf v7).toNat)
    case atStart => exact ⟨0, Nat.zero_le _, rfl, rfl, HBR⟩
    case round =>
      obtain ⟨k, hk, rfl, rfl, HBT⟩ := hrel
      rename World => wt
      by_cases hltk : k < m
      rotate_left
      · have hltkI : ¬ (k : Int) < (m : Int) := by omega
        have hall : ((s.take k).any fun y => decide (x = y)) = true := by
          rw [List.take_of_length_le (by rw [HM.out]; omega)]
          exact List.any_eq_true.2 ⟨x, HXS.out, decide_eq_true rfl⟩
        rw [hall]
        clear hall
        go_wp2_with fail
        go_roundw
        case rel => exact ⟨i + 1, HLT.out, by go_num, HBT⟩
        case measure => have := HLT.out; simp [RowKit.intOf] <;> omega
      have hltkI : (k : Int) < (m : Int) := by omega
      obtain ⟨y, hy⟩ : ∃ z, s[k]? = some z := ⟨_, List.getElem?_eq_getElem (by rw [HM.out]; exact hltk)⟩
      have HST : Hid (((s.take (k + 1)).any fun z => decide (x = z)) = (((s.take k).any fun z => decide (x = z)) || decide (x = y))) := hide (by
        obtain ⟨h1, e1⟩ := List.getElem?_eq_some_iff.1 hy
        rw [List.take_succ_eq_append_getElem h1, List.any_append, e1]
        simp)
      have HLK := hide hltk
      obtain ⟨fb, hfb⟩ : ∃ z, ((s.take k).any fun z => decide (x = z)) = z := ⟨_, rfl⟩
      rw [hfb] at HST ⊢
      clear hfb hltk
      cases fb with
      | true =>
        clear hy
        go_upto_region 8 with (fail)
        go_quiet (fail)
        go_wp2_with fail
        go_roundw
        case rel => exact ⟨k + 1, HLK.out, by go_num, by rw [HST.out]; rfl, hide (HBT.out.trans ((below_draws _ _ _).mono HBT.out.size))⟩
        case measure => have := HLK.out; simp [RowKit.intOf] <;> omega
      | false =>
        obtain ⟨g, rfl, hg, hit⟩ := (HA.out.below HBT.out).it i _ HX.out
        obtain ⟨g2, rfl, hg2, hit2⟩ := (HB.out.below HBT.out).it k _ hy
        have EQ := eqMsg x y
        obtain ⟨dd, hdd⟩ : ∃ z, decide (x = y) = z := ⟨_, rfl⟩
        rw [hdd] at EQ HST
        have hit := fun k => hit k
        obtain ⟨xkey, xfr, xto, xca, xtg, xva, xsz, xtk⟩ := x
        obtain ⟨ykey, yfr, yto, yca, ytg, yva, ysz, ytk⟩ := y
        simp only at EQ
        have n0 : wt.cell? ⟨g, i * 8, none⟩ = some (.string xkey) := hit 0 _ rfl
        have n1 : wt.cell? ⟨g, i * 8 + 1, none⟩ = some (.int .i64 xfr) := hit 1 _ rfl
        have n2 : wt.cell? ⟨g, i * 8 + 2, none⟩ = some (.int .i64 xto) := hit 2 _ rfl
        have n3 : wt.cell? ⟨g, i * 8 + 3, none⟩ = some (.int .i64 xca) := hit 3 _ rfl
        have n4 : wt.cell? ⟨g, i * 8 + 4, none⟩ = some (.int .i64 xtg) := hit 4 _ rfl
        have n5 : wt.cell? ⟨g, i * 8 + 5, none⟩ = some (.int .i64 xva) := hit 5 _ rfl
        have n6 : wt.cell? ⟨g, i * 8 + 6, none⟩ = some (.int .i64 xsz) := hit 6 _ rfl
        have n7 : wt.cell? ⟨g, i * 8 + 7, none⟩ = some (.bool xtk) := hit 7 _ rfl
        have o0 : wt.cell? ⟨g2, k * 8, none⟩ = some (.string ykey) := hit2 0 _ rfl
        have o1 : wt.cell? ⟨g2, k * 8 + 1, none⟩ = some (.int .i64 yfr) := hit2 1 _ rfl
        have o2 : wt.cell? ⟨g2, k * 8 + 2, none⟩ = some (.int .i64 yto) := hit2 2 _ rfl
        have o3 : wt.cell? ⟨g2, k * 8 + 3, none⟩ = some (.int .i64 yca) := hit2 3 _ rfl
        have o4 : wt.cell? ⟨g2, k * 8 + 4, none⟩ = some (.int .i64 ytg) := hit2 4 _ rfl
        have o5 : wt.cell? ⟨g2, k * 8 + 5, none⟩ = some (.int .i64 yva) := hit2 5 _ rfl
        have o6 : wt.cell? ⟨g2, k * 8 + 6, none⟩ = some (.int .i64 ysz) := hit2 6 _ rfl
        have o7 : wt.cell? ⟨g2, k * 8 + 7, none⟩ = some (.bool ytk) := hit2 7 _ rfl
        clear hit hit2 hg hg2 hy hdd
        go_upto_region 8 with (fail)
        go_quiet (fail)
        go_wp2_with fail
        go_roundw
        case rel => exact ⟨k + 1, HLK.out, by go_num, by rw [HST.out]; rfl, hide (HBT.out.trans ((below_draws _ _ _).mono HBT.out.size))⟩
        case measure => have := HLK.out; simp [RowKit.intOf] <;> omega
end Po
end Go.Proofs.Ytonmojinijpneaa
