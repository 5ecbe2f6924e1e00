/- The walk of the statement CodeParses. -/
import Derived.Test.YtegpimaakgledaaDoorRows
import Derived.Test.YtegpimaakgledaaDoorCodPb
import Derived.Test.YtegpimaakgledaaDoorCodSm
import Derived.Test.YtegpimaakgledaaDoorCodEnv
namespace Go.Proofs.YtegpimaakgledaaDoor.CodeParsesW
open Go Go.RowKit Go.Proofs.YtegpimaakgledaaDoor Go.Proofs.YtegpimaakgledaaDoor.Cod
set_option linter.unusedVariables false
set_option linter.unusedSimpArgs false
theorem wayF_inv {n : Nat} {b : Int} (hb : 0 ≤ b ∧ b ≤ 200) : ∀ (ws : List Nat) (h : List Int) (t : List Nat) (h' : List Int) (t' : List Nat), (∀ k ∈ ws, k < n) → GInv n h t → wayF b ws h t = some (h', t') → GInv n h' t' ∧ meas h' t' ≤ meas h t
  | [], h, t, h', t', _, I, e => by
    unfold wayF at e
    cases e
    exact ⟨I, Nat.le_refl _⟩
  | k :: l, h, t, h', t', hk, I, e => by
    unfold wayF at e
    have hkn := hk k List.mem_cons_self
    split at e
    · rename_i h1
      obtain ⟨g1, g2⟩ := wayF_inv hb l _ _ _ _ (fun j hj => hk j (List.mem_cons_of_mem _ hj)) (I.push hkn hb h1) e
      have := meas_push (t := t) (b := b) (by rw [I.len]; exact hkn) h1 (by omega)
      exact ⟨g1, by omega⟩
    · split at e
      · exact wayF_inv hb l _ _ _ _ (fun j hj => hk j (List.mem_cons_of_mem _ hj)) I e
      · cases e
theorem Goes.total {cs : List In} (ok : CsOk cs) : ∀ (m : Nat) (h : List Int) (t : List Nat), meas h t ≤ m → GInv cs.length h t → ∃ r, Goes cs h t r := by
  intro m
  induction m with
  | zero =>
    intro h t hm I
    rcases List.eq_nil_or_concat t with rfl | ⟨t0, a, rfl⟩
    · exact ⟨_, .stop h⟩
    · unfold meas at hm
      rw [List.concat_eq_append, List.length_append, List.length_singleton] at hm
      omega
  | succ m ih =>
    intro h t hm I
    rcases List.eq_nil_or_concat t with rfl | ⟨t0, a, rfl⟩
    · exact ⟨_, .stop h⟩
    rw [List.concat_eq_append] at hm I ⊢
    obtain ⟨I0, ha, _⟩ := I.pop
    cases hg : goF cs h t0 a with
    | none => exact ⟨_, .bad h t0 a hg⟩
    | some p =>
      obtain ⟨h', t'⟩ := p
      have hg2 := hg
      unfold goF at hg2
      obtain ⟨b, e1, e2⟩ := Option.bind_eq_some_iff.1 hg2
      obtain ⟨I', hm'⟩ := wayF_inv (stepI_bnd e1) _ _ _ _ _ (ways_lt ok ha) I0 e2
      have : meas h (t0 ++ [a]) = meas h t0 + 1 := by
        unfold meas
        rw [List.length_append, List.length_singleton]
        omega
      obtain ⟨r, hr⟩ := ih h' t' (by omega) I'
      exact ⟨r, .go h t0 a h' t' r hg hr⟩
theorem HtR.total {cs : List In} {v : Int} {arrs : List Int} (hm : mayNs cs v arrs = true) : ∃ r, HtR cs v arrs r := by
  have ok := mayNs_csok hm
  obtain ⟨r, hr⟩ := Goes.total ok _ _ _ (Nat.le_refl _) (GInv.start ok.pos)
  exact ⟨r, .inr ⟨hm, hr⟩⟩
theorem HrR.ht {cs : List In} {v : Int} {arrs hs : List Int} (h : HrR cs v arrs (some hs)) : HtR cs v arrs (some hs) := by
  have hm : mayNs cs v arrs = true := by
    rcases h with ⟨_, h⟩ | ⟨h, _⟩
    · cases h
    · exact h
  obtain ⟨r, hr⟩ := HtR.total hm
  have := hr.same h
  subst this
  exact hr
theorem both {s : List UInt8} {cs cs' : List In} {v v' : Int} {l l' : List Int} {hs hs' : List Int} (h : HtR cs v l (some hs)) (w : Well cs v l) (e : txP v l cs = s) (h' : HtR cs' v' l' (some hs')) (w' : Well cs' v' l') (e' : txP v' l' cs' = s) : cs = cs' ∧ v = v' ∧ l = l' := by
  have a := RdR.text h.mays w.cd w.ar
  have b := RdR.text h'.mays w'.cd w'.ar
  rw [e] at a
  rw [e'] at b
  have c := a.det b
  injection c with c
  injection c with c1 c2
  injection c2 with c3 c4
  exact ⟨c4, c1, c3⟩
set_option maxRecDepth 100000 in
set_option maxHeartbeats 8000000 in
theorem walk (W : World) (hAll : Ops W ∧ Pow W ∧ Env W) (a0 : ByteArray) (w0 : a0.size ≤ maxLen) :
    Calls Tryd.prog 4 #[.string a0] W fun e w' => e = .returned (.bool true) ∧ Below W.heap.size W w' := by
  obtain ⟨hO, hP, hE⟩ := hAll
  obtain ⟨s, rfl⟩ : ∃ s, a0 = bytes s := ⟨a0.data.toList, by cases a0; simp [bytes]⟩
  clear w0
  have hsz := bytes_size s
  by_cases hbig : 6000 < s.length
  · have g1 : (6000 : Int) < ((bytes s).size : Int) := by rw [hsz]; omega
    clear hsz hO hP hE
    go_enter Tryd.func4, Tryd.ntmps4
    go_wp2_with fail
    go_ret
    exact ⟨rfl, Below.refl _ _⟩
  have g1 : ¬ (6000 : Int) < ((bytes s).size : Int) := by rw [hsz]; omega
  have PC := hide (Parse_c s W hO hP hE (by omega))
  have PB := hide (fun w' => Parse_b s w' (by omega))
  clear hsz hbig hO hP hE
  go_enter Tryd.func4, Tryd.ntmps4
  go_wp2_with fail
  refine PC.out.mono ?_
  rintro e w1 ⟨hpp, hb1⟩
  have HB1 := hide hb1
  clear hb1 PC
  rcases hpp with ⟨v, arrs, cs, hs, C, cc, A, ca, hh, hte, hwl, hla, hlc, rfl, hown⟩ | ⟨rfl, hno⟩
  · have ha2 := (Below.refl w1.heap.size w1).alloc (Nat.le_refl _) (.cells #[.slice C cs.length cc, .int .i64 v, .slice A arrs.length ca] 25)
    have HB2 := hide (HB1.out.trans (ha2.mono HB1.out.size))
    have p2 := Blk.new w1 25 #[.slice C cs.length cc, .int .i64 v, .slice A arrs.length ca]
    have oc2 := own_belowR hown.code ha2
    have oa2 := own_belowR hown.arrs ha2
    unfold PrV
    go_upto_region 4 with (fail)
    obtain ⟨w2, hw2⟩ : ∃ z, w1.alloc (.cells #[.slice C cs.length cc, .int .i64 v, .slice A arrs.length ca] 25) = z := ⟨_, rfl⟩
    rw [hw2] at HB2 p2 oc2 oa2 ⊢
    obtain ⟨X, hX⟩ : ∃ X, w1.heap.size = X := ⟨_, rfl⟩
    rw [hX] at p2 ⊢
    have P2 := hide p2
    have OC2 := hide oc2
    have OA2 := hide oa2
    have WL := hide hwl
    have HH := hide hh
    have HT := hide hte
    have HLL := hide (And.intro hla hlc)
    clear ha2 p2 oc2 oa2 hw2 hX hown hwl hh hte hla hlc
    go_wp2_with fail
    refine (PB.out w2).mono ?_
    rintro e w3 ⟨hqq, hb3⟩
    rcases hqq with ⟨v', arrs', cs', hs', C3, cc3, A3, ca3, hh3, hte3, hwl3, hla3, hlc3, rfl, hown3⟩ | ⟨_, hnp⟩
    rotate_left
    · exact absurd HT.out (hnp v arrs cs hs HH.out WL.out)
    obtain ⟨e1, e2, e3⟩ := both HH.out WL.out HT.out (HrR.ht hh3) hwl3 hte3
    subst e1 e2 e3
    have HB3 := hide (HB2.out.trans (hb3.mono HB2.out.size))
    have P3 := P2.out.below hb3 P2.out.lt
    have OC3 := own_belowR OC2.out hb3
    have OA3 := own_belowR OA2.out hb3
    have ha4 := (Below.refl w3.heap.size w3).alloc (Nat.le_refl _) (.cells #[.slice C3 cs.length cc3, .int .i64 v, .slice A3 arrs.length ca3] 25)
    have HB4 := hide (HB3.out.trans (ha4.mono HB3.out.size))
    have P4 := P3.below ha4 P3.lt
    have OC4 := own_belowR OC3 ha4
    have OA4 := own_belowR OA3 ha4
    have q4 := Blk.new w3 25 #[.slice C3 cs.length cc3, .int .i64 v, .slice A3 arrs.length ca3]
    have qc4 := own_belowR hown3.code ha4
    have qa4 := own_belowR hown3.arrs ha4
    unfold PrV
    go_upto_region 5 with (fail)
    obtain ⟨w4, hw4⟩ : ∃ z, w3.alloc (.cells #[.slice C3 cs.length cc3, .int .i64 v, .slice A3 arrs.length ca3] 25) = z := ⟨_, rfl⟩
    rw [hw4] at HB4 P4 OC4 OA4 q4 qc4 qa4 ⊢
    obtain ⟨Y, hY⟩ : ∃ Y, w3.heap.size = Y := ⟨_, rfl⟩
    rw [hY] at q4 ⊢
    have SM := Same_b C cc cs v A ca arrs C3 cc3 cs v A3 ca3 arrs w4 (CodeAt.of_own OC4 WL.out.cd) (IntAt.of_own OA4 WL.out.ar) (CodeAt.of_own qc4 WL.out.cd) (IntAt.of_own qa4 WL.out.ar) (by have := HLL.out.2; omega) (by have := HLL.out.1; omega)
    rw [decide_eq_true (show cs = cs ∧ v = v ∧ arrs = arrs from ⟨rfl, rfl, rfl⟩)] at SM
    unfold PrV at SM
    have SM2 := hide SM
    have x0 : w4.cell? ⟨X, 0, none⟩ = some (.slice C cs.length cc) := P4.cell 0
    have x1 : w4.cell? ⟨X, 1, none⟩ = some (.int .i64 v) := P4.cell 1
    have x2 : w4.cell? ⟨X, 2, none⟩ = some (.slice A arrs.length ca) := P4.cell 2
    have y0 : w4.cell? ⟨Y, 0, none⟩ = some (.slice C3 cs.length cc3) := q4.cell 0
    have y1 : w4.cell? ⟨Y, 1, none⟩ = some (.int .i64 v) := q4.cell 1
    have y2 : w4.cell? ⟨Y, 2, none⟩ = some (.slice A3 arrs.length ca3) := q4.cell 2
    clear SM hb3 P3 OC3 OA3 ha4 P4 OC4 OA4 q4 qc4 qa4 hw4 hY hown3 hte3 hwl3 hh3 hla3 hlc3
    go_wp2_with fail
    refine SM2.out.mono ?_
    rintro e w5 ⟨rfl, hb5⟩
    have HB5 := hide (HB4.out.trans (hb5.mono HB4.out.size))
    clear hb5
    go_wp2_with fail
    go_ret
    exact ⟨rfl, HB5.out⟩
  · have ha2 := (Below.refl w1.heap.size w1).alloc (Nat.le_refl _) (.cells #[.slice none 0 0, .int .i64 0, .slice none 0 0] 25)
    have HB2 := hide (HB1.out.trans (ha2.mono HB1.out.size))
    have p2 := Blk.new w1 25 #[.slice none 0 0, .int .i64 0, .slice none 0 0]
    go_upto_region 4 with (fail)
    obtain ⟨w2, hw2⟩ : ∃ z, w1.alloc (.cells #[.slice none 0 0, .int .i64 0, .slice none 0 0] 25) = z := ⟨_, rfl⟩
    rw [hw2] at HB2 p2 ⊢
    obtain ⟨X, hX⟩ : ∃ X, w1.heap.size = X := ⟨_, rfl⟩
    rw [hX] at p2 ⊢
    have P2 := hide p2
    have HNO := hide hno
    clear ha2 p2 hw2 hX hno
    go_wp2_with fail
    refine (PB.out w2).mono ?_
    rintro e w3 ⟨hqq, hb3⟩
    rcases hqq with ⟨v', arrs', cs', hs', C3, cc3, A3, ca3, hh3, hte3, hwl3, hla3, hlc3, rfl, hown3⟩ | ⟨rfl, _⟩
    · exact absurd hte3 (HNO.out v' arrs' cs' hs' (HrR.ht hh3) hwl3)
    have HB3 := hide (HB2.out.trans (hb3.mono HB2.out.size))
    have P3 := P2.out.below hb3 P2.out.lt
    have ha4 := (Below.refl w3.heap.size w3).alloc (Nat.le_refl _) (.cells #[.slice none 0 0, .int .i64 0, .slice none 0 0] 25)
    have HB4 := hide (HB3.out.trans (ha4.mono HB3.out.size))
    have P4 := P3.below ha4 P3.lt
    have q4 := Blk.new w3 25 #[.slice none 0 0, .int .i64 0, .slice none 0 0]
    go_upto_region 5 with (fail)
    obtain ⟨w4, hw4⟩ : ∃ z, w3.alloc (.cells #[.slice none 0 0, .int .i64 0, .slice none 0 0] 25) = z := ⟨_, rfl⟩
    rw [hw4] at HB4 P4 q4 ⊢
    obtain ⟨Y, hY⟩ : ∃ Y, w3.heap.size = Y := ⟨_, rfl⟩
    rw [hY] at q4 ⊢
    have SM := Same_b none 0 [] 0 none 0 [] none 0 [] 0 none 0 [] w4 (fun h => absurd h (Nat.lt_irrefl 0)) (fun h => absurd h (Nat.lt_irrefl 0)) (fun h => absurd h (Nat.lt_irrefl 0)) (fun h => absurd h (Nat.lt_irrefl 0)) (by simp) (by simp)
    rw [decide_eq_true (show ([] : List In) = [] ∧ (0 : Int) = 0 ∧ ([] : List Int) = [] from ⟨rfl, rfl, rfl⟩)] at SM
    unfold PrV at SM
    simp only [List.length_nil] at SM
    have SM2 := hide SM
    have x0 : w4.cell? ⟨X, 0, none⟩ = some (.slice none 0 0) := P4.cell 0
    have x1 : w4.cell? ⟨X, 1, none⟩ = some (.int .i64 0) := P4.cell 1
    have x2 : w4.cell? ⟨X, 2, none⟩ = some (.slice none 0 0) := P4.cell 2
    have y0 : w4.cell? ⟨Y, 0, none⟩ = some (.slice none 0 0) := q4.cell 0
    have y1 : w4.cell? ⟨Y, 1, none⟩ = some (.int .i64 0) := q4.cell 1
    have y2 : w4.cell? ⟨Y, 2, none⟩ = some (.slice none 0 0) := q4.cell 2
    clear SM hb3 P3 ha4 P4 q4 hw4 hY
    go_wp2_with fail
    refine SM2.out.mono ?_
    rintro e w5 ⟨rfl, hb5⟩
    have HB5 := hide (HB4.out.trans (hb5.mono HB4.out.size))
    clear hb5
    go_wp2_with fail
    go_ret
    exact ⟨rfl, HB5.out⟩
end Go.Proofs.YtegpimaakgledaaDoor.CodeParsesW
