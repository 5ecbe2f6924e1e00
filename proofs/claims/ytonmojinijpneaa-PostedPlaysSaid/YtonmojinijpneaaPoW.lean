/- Receives and a queue beside each other; a receive that is matched, as it lies. No walk. -/
import Derived.Test.YtonmojinijpneaaRows
import Derived.Test.YtonmojinijpneaaPoV
namespace Go.Proofs.Ytonmojinijpneaa
open Go Go.RowKit Go.Lib Go.Joins Go.Proofs.Ytonmojinijpneaa.Qu
set_option linter.unusedVariables false
set_option linter.unusedSimpArgs false
namespace Po
/-- The receive of a call is matched. -/
def setD (rs : List Rc) (ca fr sq : Int) : List Rc := rs.map fun x => if x.ca = ca then { x with dn := true, fr := fr, sq := sq } else x
theorem setD_len (rs : List Rc) (ca fr sq : Int) : (setD rs ca fr sq).length = rs.length := by simp [setD]
theorem setD_off : ∀ (rs : List Rc) (ca fr sq : Int), (∀ m ∈ rs, m.ca ≠ ca) → setD rs ca fr sq = rs
  | [], _, _, _, _ => rfl
  | x :: t, ca, fr, sq, h => by
    have h1 := h x List.mem_cons_self
    unfold setD
    rw [List.map_cons, if_neg h1]
    exact congrArg (x :: ·) (setD_off t ca fr sq fun m hm => h m (List.mem_cons_of_mem _ hm))
theorem setD_set : ∀ (rs : List Rc) (i : Nat) (m : Rc) (fr sq : Int), (rs.Pairwise fun a b => a.ca < b.ca) → rs[i]? = some m → setD rs m.ca fr sq = rs.set i { m with dn := true, fr := fr, sq := sq }
  | x :: t, 0, m, fr, sq, hp, h => by
    have e : x = m := by simpa using h
    subst e
    have h1 := (List.pairwise_cons.1 hp).1
    unfold setD
    rw [List.map_cons, if_pos rfl, List.set_cons_zero]
    exact congrArg (_ :: ·) (setD_off t _ fr sq fun a ha => by have := h1 a ha; omega)
  | x :: t, i + 1, m, fr, sq, hp, h => by
    have h2 : t[i]? = some m := by simpa using h
    have h1 := (List.pairwise_cons.1 hp).1 m (List.mem_of_getElem? h2)
    unfold setD
    rw [List.map_cons, if_neg (by omega), List.set_cons_succ]
    exact congrArg (x :: ·) (setD_set t i m fr sq (List.pairwise_cons.1 hp).2 h2)
theorem rcCs_set : ∀ (rs : List Rc) (i : Nat) (m : Rc) (fr sq : Int), rs[i]? = some m → rcCs (rs.set i { m with dn := true, fr := fr, sq := sq }) = (((rcCs rs).set (i * 9 + 6) (.bool true)).set (i * 9 + 7) (.int .i64 fr)).set (i * 9 + 8) (.int .i64 sq)
  | x :: t, 0, m, fr, sq, h => by
    have e : x = m := by simpa using h
    subst e
    rw [List.set_cons_zero, rcCs, rcCs, List.set_append_left (h := by rw [rcC_len]; omega), List.set_append_left (h := by rw [List.length_set, rcC_len]; omega), List.set_append_left (h := by rw [List.length_set, List.length_set, rcC_len]; omega)]
    rfl
  | x :: t, i + 1, m, fr, sq, h => by
    rw [List.set_cons_succ, rcCs, rcCs, rcCs_set t i m fr sq (by simpa using h), List.set_append_right (h := by rw [rcC_len]; omega), rcC_len, List.set_append_right (h := by rw [rcC_len]; omega), rcC_len, List.set_append_right (h := by rw [rcC_len]; omega), rcC_len, show (i + 1) * 9 + 6 - 9 = i * 9 + 6 by omega, show (i + 1) * 9 + 7 - 9 = i * 9 + 7 by omega, show (i + 1) * 9 + 8 - 9 = i * 9 + 8 by omega]
theorem setD_ca (rs : List Rc) (ca fr sq : Int) : (setD rs ca fr sq).map (·.ca) = rs.map (·.ca) := by
  unfold setD
  rw [List.map_map]
  refine List.map_congr_left fun x _ => ?_
  show (if x.ca = ca then { x with dn := true, fr := fr, sq := sq } else x : Rc).ca = x.ca
  split <;> rfl
theorem setD_mem {rs : List Rc} {ca fr sq : Int} {y : Rc} (h : y ∈ setD rs ca fr sq) : ∃ x ∈ rs, y.key = x.key ∧ y.rk = x.rk ∧ y.ca = x.ca ∧ y.pe = x.pe ∧ y.tg = x.tg ∧ y.rq = x.rq ∧ (y = x ∨ y.dn = true) := by
  obtain ⟨x, hx, rfl⟩ := List.mem_map.1 h
  refine ⟨x, hx, ?_⟩
  split
  · exact ⟨rfl, rfl, rfl, rfl, rfl, rfl, .inr rfl⟩
  · exact ⟨rfl, rfl, rfl, rfl, rfl, rfl, .inl rfl⟩
theorem pair_map {α β : Type} {R : β → β → Prop} {f : α → β} {l : List α} : (l.map f).Pairwise R ↔ l.Pairwise fun a b => R (f a) (f b) := List.pairwise_map
theorem setD_rise {rs : List Rc} {ca fr sq : Int} (h : rs.Pairwise fun a b => a.ca < b.ca) : (setD rs ca fr sq).Pairwise fun a b => a.ca < b.ca := by
  have h1 : (rs.map (·.ca)).Pairwise (· < ·) := pair_map.2 h
  rw [← setD_ca rs ca fr sq] at h1
  exact pair_map.1 h1
/-- A receive's three cells are written. -/
theorem match_set {w w5 : World} {p g i j k : Nat} {L : Nat → Option Addr × Nat} {ls : Nat → List Rc} {m : Rc} {fr sq : Int} (h : PSt w p L ls) (hk : k < 64) (hm : (ls k)[i]? = some m) (hA : (L k).1 = some ⟨g, 0, none⟩)
    (he : ((((w.drewN j).setCell ⟨g, i * 9 + 6, none⟩ (.bool true)).setCell ⟨g, i * 9 + 7, none⟩ (.int .i64 fr)).setCell ⟨g, i * 9 + 8, none⟩ (.int .i64 sq)) = w5) :
    PSt w5 p L (updF ls k (setD (ls k) m.ca fr sq)) ∧ Qu.Ch [g] w w5 := by
  subst he
  have hin : i < (ls k).length := (List.getElem?_eq_some_iff.1 hm).1
  have hob : (slR L ls k).ownBlock = some g := own_sl.2 ⟨_, hA, rfl⟩
  have hh : ∀ b, b ≠ g → ((((w.drewN j).setCell ⟨g, i * 9 + 6, none⟩ (.bool true)).setCell ⟨g, i * 9 + 7, none⟩ (.int .i64 fr)).setCell ⟨g, i * 9 + 8, none⟩ (.int .i64 sq)).heap[b]? = w.heap[b]? := fun b hb => by
    rw [Below.heap_setCell _ _ _ _ hb, Below.heap_setCell _ _ _ _ hb, Below.heap_setCell _ _ _ _ hb]
    rfl
  have c0 : Qu.Ch [g] w (w.drewN j) := Qu.Ch.of_below (below_draws _ _ j)
  have hc : Qu.Ch [g] w ((((w.drewN j).setCell ⟨g, i * 9 + 6, none⟩ (.bool true)).setCell ⟨g, i * 9 + 7, none⟩ (.int .i64 fr)).setCell ⟨g, i * 9 + 8, none⟩ (.int .i64 sq)) := ((c0.trans (Qu.Ch.set_ _ _ List.mem_cons_self)).trans (Qu.Ch.set_ _ _ List.mem_cons_self)).trans (Qu.Ch.set_ _ _ List.mem_cons_self)
  have hsl : ∀ q, slR L (updF ls k (setD (ls k) m.ca fr sq)) q = slR L ls q := fun q => by
    unfold slR
    by_cases e : q = k
    · subst e; rw [updF_at, setD_len]
    · rw [updF_ne ls k _ e]
  have hpc : pCs L (updF ls k (setD (ls k) m.ca fr sq)) = pCs L ls := by
    unfold pCs
    rw [show slR L (updF ls k (setD (ls k) m.ca fr sq)) = slR L ls from funext hsl]
  refine ⟨⟨?_, fun q hq => ?_, fun a b ha hb hab => ?_, fun a ha => ?_, fun q hq => ?_, fun q hq x hx => ?_⟩, hc⟩
  · rw [hpc]
    exact (hh p (fun e => h.pp k hk (by rw [e]; exact hob))).trans h.blk
  · rw [hsl]
    by_cases e : q = k
    · subst e
      rw [updF_at, setD_len, setD_set _ _ _ _ _ (h.up q hq) hm, rcCs_set _ _ _ _ _ hm]
      have h1 : (w.drewN j).ownsRow 0 35 9 (slR L ls q) (ls q).length (rcCs (ls q)) := own_belowR (h.row q hq) (below_draws _ _ j)
      unfold slR at h1 ⊢
      rw [hA] at h1 ⊢
      exact own_set (own_set (own_set h1 _) _) _
    · rw [updF_ne ls k _ e]
      exact own_keepV (h.row q hq) fun g' hg' => hh g' fun e2 => h.ap q k hq hk e g' hg' (by rw [e2]; exact hob)
  · rw [hsl, hsl]; exact h.ap a b ha hb hab
  · rw [hsl]; exact h.pp a ha
  · by_cases e : q = k
    · subst e; rw [updF_at]; exact setD_rise (h.up q hq)
    · rw [updF_ne ls k _ e]; exact h.up q hq
  · by_cases e : q = k
    · subst e
      rw [updF_at] at hx
      obtain ⟨y, hy, e1, e2, e3, e4, e5, e6, _⟩ := setD_mem hx
      have := h.ok q hq y hy
      unfold mayR at this ⊢
      rw [e2, e3, e4, e5, e6]
      exact this
    · rw [updF_ne ls k _ e] at hx; exact h.ok q hq x hx
/-- Receives and a queue. -/
structure PQ (w : World) (p q : Nat) (L : Nat → Option Addr × Nat) (K : QL) (ls : Nat → List Rc) (l : List Msg) : Prop where
  hp : PSt w p L ls
  hq : QSt w q K l
  ap : ∀ b ∈ pfoot p L, ¬ b ∈ K.foot q
def foot2 (p q : Nat) (L : Nat → Option Addr × Nat) (K : QL) : List Nat := pfoot p L ++ K.foot q
def GoesPQ (w : World) (p q : Nat) (L : Nat → Option Addr × Nat) (K : QL) (ls : Nat → List Rc) (l : List Msg) (w' : World) : Prop :=
  ∃ L' K', PQ w' p q L' K' ls l ∧ Ch (foot2 p q L K) w w' ∧ ∀ b ∈ foot2 p q L' K', b ∈ foot2 p q L K ∨ w.heap.size ≤ b
variable {w w' w2 : World} {p q : Nat} {L : Nat → Option Addr × Nat} {K : QL} {ls ls' ls2 : Nat → List Rc} {l l' l2 : List Msg}
theorem PQ.below (h : PQ w p q L K ls l) (hb : Below w.heap.size w w') : PQ w' p q L K ls l := ⟨h.hp.below hb, h.hq.below hb, h.ap⟩
theorem PQ.lt (h : PQ w p q L K ls l) : ∀ b ∈ foot2 p q L K, b < w.heap.size := fun b hb => by
  rcases List.mem_append.1 hb with hb | hb
  · exact h.hp.lt b hb
  · exact h.hq.lt b hb
theorem GoesPQ.same (h : PQ w p q L K ls l) (hb : Below w.heap.size w w') : GoesPQ w p q L K ls l w' := ⟨L, K, h.below hb, Ch.of_below hb, fun b hb => .inl hb⟩
theorem GoesPQ.of_p (h : PQ w p q L K ls l) (hg : GoesP w p L ls' w') : GoesPQ w p q L K ls' l w' := by
  obtain ⟨L', h1, h2, h3⟩ := hg
  refine ⟨L', K, ⟨h1, h.hq.ch h2 h.ap, fun b hb => ?_⟩, h2.more fun j hj => .inl (List.mem_append_left _ hj), fun b hb => ?_⟩
  · rcases h3 b hb with e | e
    · exact h.ap b e
    · exact fun e2 => by have := h.hq.lt b e2; omega
  · rcases List.mem_append.1 hb with hb | hb
    · exact (h3 b hb).imp (fun e => List.mem_append_left _ e) id
    · exact .inl (List.mem_append_right _ hb)
theorem PSt.ch {S : List Nat} (h : PSt w p L ls) (hb : Ch S w w') (hS : ∀ b ∈ pfoot p L, ¬ b ∈ S) : PSt w' p L ls := h.heap fun b hm => hb.block b (h.lt b hm) (hS b hm)
theorem GoesPQ.of_q (h : PQ w p q L K ls l) (hg : Goes w q K l' w') : GoesPQ w p q L K ls l' w' := by
  obtain ⟨K', h1, h2, h3⟩ := hg
  refine ⟨L, K', ⟨h.hp.ch h2 h.ap, h1, fun b hb hk => ?_⟩, h2.more fun j hj => .inl (List.mem_append_right _ hj), fun b hb => ?_⟩
  · rcases h3 b hk with e | e
    · exact h.ap b hb e
    · have := h.hp.lt b hb
      omega
  · rcases List.mem_append.1 hb with hb | hb
    · exact .inl (List.mem_append_left _ hb)
    · exact (h3 b hb).imp (fun e => List.mem_append_right _ e) id
theorem ch_trans2 {S T : List Nat} {a b c : World} (h : Ch S a b) (k : Ch T b c) (hs : ∀ j ∈ T, j ∈ S ∨ a.heap.size ≤ j) : Ch S a c :=
  ⟨k.os.trans h.os, k.tape.trans h.tape, k.output.trans h.output, Nat.le_trans h.size k.size, fun j hj hn => (k.block j (Nat.lt_of_lt_of_le hj h.size) fun hm => (hs j hm).elim hn fun e => by omega).trans (h.block j hj hn)⟩
theorem GoesPQ.then_ (hg : GoesPQ w p q L K ls l w') (h2 : ∀ L' K', PQ w' p q L' K' ls l → GoesPQ w' p q L' K' ls2 l2 w2) : GoesPQ w p q L K ls2 l2 w2 := by
  obtain ⟨L', K', h1, h3, h4⟩ := hg
  obtain ⟨L2, K2, h5, h6, h7⟩ := h2 L' K' h1
  refine ⟨L2, K2, h5, ch_trans2 h3 h6 h4, fun b hb => ?_⟩
  rcases h7 b hb with e | e
  · exact h4 b e
  · exact .inr (Nat.le_trans h3.size e)
/-- Behind what only lays blocks. -/
theorem GoesPQ.after (hb : Below w.heap.size w w') (hg : GoesPQ w' p q L K ls l w2) : GoesPQ w p q L K ls l w2 := by
  obtain ⟨L', K', h1, h3, h4⟩ := hg
  exact ⟨L', K', h1, (Ch.of_below hb).trans h3, fun b hm => (h4 b hm).imp id fun e => Nat.le_trans hb.size e⟩
/-- Behind what changes only where they lie. -/
theorem GoesPQ.step (hb : Ch (foot2 p q L K) w w') (hg : GoesPQ w' p q L K ls l w2) : GoesPQ w p q L K ls l w2 := by
  obtain ⟨L', K', h1, h3, h4⟩ := hg
  exact ⟨L', K', h1, hb.trans h3, fun b hm => (h4 b hm).imp id fun e => Nat.le_trans hb.size e⟩
/-- What a match answers, and what becomes of receives and messages. -/
def matchE (l : List Msg) (rs : List Rc) (ca fr sq : Int) : Int := if hasB (mayL l rs ca) fr sq then 0 else 2
def matchP (l : List Msg) (ls : Nat → List Rc) (k : Nat) (ca fr sq : Int) : Nat → List Rc := if hasB (mayL l (ls k) ca) fr sq then updF ls k (setD (ls k) ca fr sq) else ls
def matchQ (l : List Msg) (rs : List Rc) (ca fr sq : Int) : List Msg := if hasB (mayL l rs ca) fr sq then takeL l ⟨fr, sq⟩ else l
theorem hasB_mem {r : List Msg} {fr sq : Int} (h : hasB r fr sq = true) : ∃ m ∈ r, m.fr = fr ∧ m.ca = sq := by
  unfold hasB at h
  obtain ⟨m, hm, h2⟩ := List.any_eq_true.1 h
  exact ⟨m, hm, of_decide_eq_true h2⟩
theorem mayL_mem {l : List Msg} {rs : List Rc} {ca : Int} {m : Msg} (h : m ∈ mayL l rs ca) : ∃ r ∈ rs, r.ca = ca ∧ r.dn = false ∧ m ∈ freeL l r (rs.filter fun x => decide (x.ca < ca)) := by
  unfold mayL at h
  cases hf : rs.find? (fun x => decide (x.ca = ca)) with
  | none => rw [hf] at h; exact absurd h List.not_mem_nil
  | some r =>
    rw [hf] at h
    simp only at h
    have h1 := List.mem_of_find?_eq_some hf
    have h2 : r.ca = ca := by simpa using List.find?_some hf
    cases hd : r.dn with
    | true => rw [hd, if_pos rfl] at h; exact absurd h List.not_mem_nil
    | false => rw [hd] at h; exact ⟨r, h1, h2, hd, by simpa using h⟩
/-- One that may be a receive's can be taken. -/
theorem take_may {l : List Msg} {rs : List Rc} {ca fr sq : Int} (hu : Uniq l) (h : hasB (mayL l rs ca) fr sq = true) : takeE l ⟨fr, sq⟩ = 0 := by
  obtain ⟨m, hm, rfl, rfl⟩ := hasB_mem h
  obtain ⟨r, _, _, _, hf⟩ := mayL_mem hm
  obtain ⟨h1, h2, _⟩ := mem_freeL hf
  obtain ⟨i, hi⟩ := List.getElem?_of_mem h1
  have hp : plc l ⟨m.fr, m.ca⟩ = some i := plc_uniq hu hi
  unfold takeE findL
  rw [hp]
  simp [hi, h2]
end Po
end Go.Proofs.Ytonmojinijpneaa
