/- All messages that may be a rank's: no two of one sender and call. A row of messages put behind another one. -/
import Derived.Test.YtonmojinijpneaaRows
import Derived.Test.YtonmojinijpneaaPoZ
namespace Go.Proofs.Ytonmojinijpneaa
open Go Go.RowKit Go.Lib Go.Joins Go.Proofs.Ytonmojinijpneaa.Qu
set_option linter.unusedVariables false
set_option linter.unusedSimpArgs false
namespace Po
theorem grt_small {n : Nat} {F : Nat → Ac} (h : grt n F = false) : n ≤ 120 := by
  unfold grt at h
  rw [Bool.or_eq_false_iff] at h
  have := of_decide_eq_false h.1
  omega
/-- What may be the first of some receives'. -/
def allM (l : List Msg) (rs : List Rc) (xs : List Rc) : List Msg := xs.flatMap fun x => mayL l rs x.ca
theorem allM_step {l : List Msg} {rs xs : List Rc} {i : Nat} {x : Rc} (h : xs[i]? = some x) : allM l rs (xs.take (i + 1)) = allM l rs (xs.take i) ++ mayL l rs x.ca := by
  obtain ⟨hl, he⟩ := List.getElem?_eq_some_iff.1 h
  unfold allM
  rw [List.take_succ_eq_append_getElem hl, he, List.flatMap_append, List.flatMap_singleton]
theorem allM_len {l : List Msg} {rs : List Rc} : ∀ (xs : List Rc), (allM l rs xs).length ≤ 64 * xs.length
  | [] => Nat.zero_le _
  | x :: xs => by
    have h := allM_len (l := l) (rs := rs) xs
    have h2 := mayL_len l rs x.ca
    unfold allM at h ⊢
    rw [List.flatMap_cons, List.length_append, List.length_cons]
    omega
theorem rise_one {rs : List Rc} (hup : rs.Pairwise fun a b => a.ca < b.ca) {a b : Rc} (ha : a ∈ rs) (hb : b ∈ rs) (e : a.ca = b.ca) : a = b := by
  obtain ⟨i, hi⟩ := List.getElem?_of_mem ha
  have h1 := rise_find rs i a hup hi
  obtain ⟨j, hj⟩ := List.getElem?_of_mem hb
  have h2 := rise_find rs j b hup hj
  rw [e] at h1
  have := h1.symm.trans h2
  injection this
theorem may_rise (l : List Msg) (rs : List Rc) (ca : Int) : (mayL l rs ca).Pairwise fun a b => a.fr < b.fr := by
  unfold mayL
  split
  · exact List.Pairwise.nil
  · split
    · exact List.Pairwise.nil
    · exact free_rise _ _ _
/-- The same message may be of one waiting receive alone. -/
theorem may_one {l : List Msg} {rs : List Rc} (hu : Uniq l) (hup : rs.Pairwise fun a b => a.ca < b.ca) {c1 c2 : Int} {a b : Msg} (ha : a ∈ mayL l rs c1) (hb : b ∈ mayL l rs c2) (he : a.fr = b.fr ∧ a.ca = b.ca) : c1 = c2 := by
  obtain ⟨ra, hra, hca, hda, hfa⟩ := mayL_mem ha
  obtain ⟨rb, hrb, hcb, hdb, hfb⟩ := mayL_mem hb
  have hla := mem_freeL hfa
  have hlb := mem_freeL hfb
  have hab : a = b := nodup_inj (fun m : Msg => m.who) hu hla.1 hlb.1 (by show (⟨a.fr, a.ca⟩ : Who) = ⟨b.fr, b.ca⟩; rw [he.1, he.2])
  subst hab
  rcases Int.lt_trichotomy c1 c2 with h | h | h
  · have := may_apart (b := rb) hra hda (by omega) (by rw [hcb]; exact hfb)
    rw [hla.2.2.1] at this
    cases this
  · exact h
  · have := may_apart (b := ra) hrb hdb (by omega) (by rw [hca]; exact hfa)
    rw [hlb.2.2.1] at this
    cases this
theorem all_apart {l : List Msg} {rs xs : List Rc} (hu : Uniq l) (hup : rs.Pairwise fun a b => a.ca < b.ca) (hx : xs.Pairwise fun a b => a.ca < b.ca) : (allM l rs xs).Pairwise fun a b => ¬ (a.fr = b.fr ∧ a.ca = b.ca) := by
  unfold allM
  rw [List.pairwise_flatMap]
  refine ⟨fun x _ => (may_rise l rs x.ca).imp fun {a b} h e => by omega, hx.imp fun {x y} h a ha b hb e => ?_⟩
  have := may_one hu hup ha hb e
  omega
theorem wts_rise {rs : List Rc} (h : rs.Pairwise fun a b => a.ca < b.ca) : (wts rs).Pairwise fun a b => a.ca < b.ca := h.filter _
theorem wts_mem {rs : List Rc} {x : Rc} (h : x ∈ wts rs) : x ∈ rs ∧ x.dn = false := by
  unfold wts at h
  have := List.mem_filter.1 h
  exact ⟨this.1, by simpa using this.2⟩
/-- One of a waiting receive's: it fits, it isn't taken. -/
theorem may_of_wait {l : List Msg} {rs : List Rc} (hup : rs.Pairwise fun a b => a.ca < b.ca) {x : Rc} (hx : x ∈ wts rs) {m : Msg} (hm : m ∈ mayL l rs x.ca) : m.tk = false ∧ fitsB x m = true := by
  obtain ⟨r, hr, hc, hd, hf⟩ := mayL_mem hm
  have e := rise_one hup hr (wts_mem hx).1 hc
  subst e
  have := mem_freeL hf
  exact ⟨this.2.1, this.2.2.1⟩
theorem ms_info : (Try.prog.info? 33).map (fun i => (i.zero, i.size, i.bytes)) = some (some (.agg #[.string ⟨#[]⟩, .int .i64 0, .int .i64 0, .int .i64 0, .int .i64 0, .int .i64 0, .int .i64 0, .bool false]), 8, 72) := by kernel_rfl
theorem msgCs_one : ∀ (r : List Msg), ∀ u ∈ msgCs r, u.oneCell' = true
  | [], u, h => absurd h List.not_mem_nil
  | m :: r, u, h => by
    rw [msgCs] at h
    rcases List.mem_append.1 h with h | h
    · unfold msgC at h
      simp only [List.mem_cons, List.not_mem_nil, or_false] at h
      rcases h with rfl | rfl | rfl | rfl | rfl | rfl | rfl | rfl <;> rfl
    · exact msgCs_one r u h
theorem reads_own {w : World} {B n c : Nat} {e : TypeId} {A : Option Addr} {size : Nat} {xs : List Value} (h : w.ownsRow B e size (.slice A n c) n xs) : Reads w w.heap.size size A n xs := by
  refine ⟨h.1, fun hn => ?_⟩
  obtain ⟨g, hA, _, _, ⟨cs, hb⟩, _, _, hc⟩ := own_cell h hn
  exact ⟨_, hA, hb.lt, fun j u hu => by rw [add_lit]; exact hc j u hu⟩
/-- A row of messages put behind a row of one's own. -/
theorem push_ms (w : World) (B : Nat) (A : Option Addr) (cap n : Nat) (xs : List Value) (h : w.ownsRow B 33 8 (.slice A n cap) n xs) (hB : B ≤ w.heap.size) {B2 : Nat} (A2 : Option Addr) (c2 m : Nat) (r : List Msg) (ho : w.ownsRow B2 33 8 (.slice A2 m c2) m (msgCs r)) (hl : n + m ≤ 100000) :
    ∃ A1 c1 w1, (Builtin.append_ #[45, 45] 45 #[.slice A n cap, .slice A2 m c2]).run Try.prog w = .ok (.slice A1 (n + m) c1) w1 ∧
      w1.ownsRow B 33 8 (.slice A1 (n + m) c1) (n + m) (xs ++ msgCs r) ∧ w.grownBy w1 (Value.slice A n cap).ownBlock := by
  obtain ⟨i0, hi0, hz0', hz1, hz2⟩ := info_parts ms_info
  obtain ⟨v11, w11, hrun, hown, hk11, hob⟩ := run_append_any (P := Try.prog) w B 45 45 33 i0 _ 8 72 Try.underlying45 hi0 hz0' hz1 hz2 (by rfl) (by omega) _ _ _ h w.heap.size A2 m c2 _ (reads_own ho) (msgCs_one r) (by unfold maxLen; omega) (by omega) (by omega)
  obtain ⟨A11, c11, rfl⟩ := own_form hown
  exact ⟨A11, c11, w11, hrun, hown, hk11⟩
end Po
end Go.Proofs.Ytonmojinijpneaa
