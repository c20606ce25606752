/- Each act, done to the document's lists and to the Web: the same error, and both go on together. -/
import Derived.Test.YtdmkbcbgjdmgdaaGreatDoorDc14
namespace Go.Proofs.YtdmkbcbgjdmgdaaGreatDoor
open Go.RowKit
set_option linter.unusedVariables false

/-- One step: what the document answers, and what the program does. -/
def Step (lo : Nat) (w : World) (wb n m : Nat) (sq : Nat → List Nat) (tt : Nat → Option (Nat × Nat)) (ky : Nat → Int) (w0 : World) (xv : Value) (R P : FuncId) (ra pa : List Value) (sq' : Nat → List Nat) (tt' : Nat → Option (Nat × Nat)) (ky' : Nat → Int) (er : Int) : Prop :=
  (∀ y, Below w0.heap.size w0 y → Calls Tryz.prog R (xv :: ra).toArray y fun x w' => ∃ xv', x = .returned (.tuple #[xv', .int .i64 er]) ∧ Dc n m sq' tt' ky' w' xv' ∧ Below y.heap.size y w') ∧
  (∀ y, WQ lo w wb n m sq tt ky y → Calls Tryz.prog P (.pointer (some ⟨wb, 0, none⟩) :: pa).toArray y fun e w' => e = .returned (erV er) ∧ WQ lo w wb n m sq' tt' ky' w' ∧ KeepW y w')

section
variable {lo wb n m : Nat} {w w0 w' : World} {sq : Nat → List Nat} {tt : Nat → Option (Nat × Nat)} {ky : Nat → Int} {ls : List (List Nat)} {ts : List Wd.Ti} {xv : Value}

theorem nat_of {n : Nat} {a : Int} (h : 0 ≤ a ∧ a < (n : Int)) : ∃ A : Nat, a = (A : Int) ∧ A < n := ⟨a.toNat, by omega, by omega⟩

theorem split_step (h : WQ lo w wb n m sq tt ky w0) (d : Dc n m sq tt ky w0 xv) (hn : n ≤ 1000) (a b : Int) : ∃ sq' er, Step lo w wb n m sq tt ky w0 xv 32 20 [.int .i64 a, .int .i64 b] [.int .i64 a, .int .i64 b] sq' tt ky er := by
  have p := h.part
  obtain ⟨fv, tv, ls, ts, rfl, hR, t, hT, hts⟩ := d
  obtain ⟨fb, fcap, _, _, rfl, _⟩ := id hR
  have doc : ∀ (sq' : Nat → List Nat) (er : Int), (¬ Wd.InW n a b → sq' = sq ∧ er = 12) → (Wd.InW n a b → ∀ y, Below w0.heap.size w0 y → Calls Tryz.prog 64 #[.slice (some ⟨fb, 0, none⟩) ls.length fcap, .int .i64 a, .int .i64 b] y fun e w' => ∃ x' ls', e = .returned (.tuple #[x', .int .i64 er]) ∧ Rf w' x' ls' ∧ Tie n ls' sq' ∧ Below y.heap.size y w') →
      ∀ y, Below w0.heap.size w0 y → Calls Tryz.prog 32 #[.agg #[.int .i64 (n : Int), .int .i64 (m : Int), .slice (some ⟨fb, 0, none⟩) ls.length fcap, tv], .int .i64 a, .int .i64 b] y fun x w' => ∃ xv', x = .returned (.tuple #[xv', .int .i64 er]) ∧ Dc n m sq' tt ky w' xv' ∧ Below y.heap.size y w' := fun sq' er h1 h2 y hy => by
    refine (Wd.rsplit14_ok n m (some ⟨fb, 0, none⟩) ls.length fcap tv ts a b y (hT.below hy) (fun y v e => ∃ ls', Rf y v ls' ∧ Tie n ls' sq' ∧ e = er) (fun y y' v e k ⟨ls', q1, q2, q3⟩ => ⟨ls', q1.keepD (.ofKw k), q2, q3⟩) (fun hi y' hy' => ?_)).mono ?_
    · refine (h2 hi y' (hy.trans (hy'.mono hy.size))).mono ?_
      rintro e w' ⟨x', ls', rfl, q1, q2, q3⟩
      obtain ⟨b', c', _, _, rfl, _⟩ := id q1
      exact ⟨_, _, _, er, rfl, ⟨ls', q1, q2, rfl⟩, q3⟩
    · rintro x w' ⟨fv', er', rfl, hc, hT', hb'⟩
      rcases hc with ⟨q1, rfl, rfl⟩ | ⟨q1, ls', q2, q3, rfl⟩
      · obtain ⟨rfl, rfl⟩ := h1 q1
        exact ⟨_, rfl, ⟨_, _, ls, ts, rfl, (hR.below hy).below hb', t, hT', hts⟩, hb'⟩
      · exact ⟨_, rfl, ⟨_, _, ls', ts, rfl, q2, q3, hT', hts⟩, hb'⟩
  by_cases hi : Wd.InW n a b
  · obtain ⟨A, rfl, hA⟩ := nat_of ⟨hi.1, hi.2.1⟩
    obtain ⟨B, rfl, hB⟩ := nat_of ⟨hi.2.2.1, hi.2.2.2⟩
    by_cases hAB : A = B
    · subst hAB
      refine ⟨sq, 20, doc sq 20 (fun q => absurd hi q) (fun _ y hy => ?_), fun y hy => ?_⟩
      · refine (rsplit_self _ A y (hR.below hy) t p hn hA).mono ?_
        rintro e w' ⟨rfl, rfl⟩
        exact ⟨_, ls, rfl, hR.below hy, t, Below.refl _ _⟩
      · exact hy.splitN A A hA hA 20 (.inl ⟨rfl, rfl⟩)
    · by_cases hin : B + 1 ∈ sq (A + 1)
      · refine ⟨splS sq (A + 1) (B + 1), 0, doc _ 0 (fun q => absurd hi q) (fun _ y hy => ?_), fun y hy => ?_⟩
        · exact rsplit_ok _ A B y (hR.below hy) t p hn hA hB hAB hin
        · refine (hy.split A B hA hB hAB hin).mono ?_
          rintro e w' ⟨rfl, g, k, _⟩
          exact ⟨rfl, g, k⟩
      · refine ⟨sq, 21, doc sq 21 (fun q => absurd hi q) (fun _ y hy => ?_), fun y hy => ?_⟩
        · refine (rsplit_apart _ A B y (hR.below hy) t p hn hA hB hin).mono ?_
          rintro e w' ⟨rfl, rfl⟩
          exact ⟨_, ls, rfl, hR.below hy, t, Below.refl _ _⟩
        · exact hy.splitN A B hA hB 21 (.inr ⟨hin, rfl⟩)
  · refine ⟨sq, 12, doc sq 12 (fun _ => ⟨rfl, rfl⟩) (fun q => absurd q hi), fun y hy => ?_⟩
    exact hy.split_bad a b (fun ⟨⟨q1, q2⟩, q3, q4⟩ => hi ⟨q1, q2, q3, q4⟩)

theorem apart_step (h : WQ lo w wb n m sq tt ky w0) (d : Dc n m sq tt ky w0 xv) (hn : n ≤ 1000) (a : Int) : ∃ sq' er, Step lo w wb n m sq tt ky w0 xv 33 22 [.int .i64 a] [.int .i64 a] sq' tt ky er := by
  have p := h.part
  obtain ⟨fv, tv, ls, ts, rfl, hR, t, hT, hts⟩ := d
  obtain ⟨fb, fcap, _, _, rfl, _⟩ := id hR
  have doc : ∀ (sq' : Nat → List Nat) (er : Int), (¬ Wd.InW n a a → sq' = sq ∧ er = 12) → (Wd.InW n a a → ∀ y, Below w0.heap.size w0 y → Calls Tryz.prog 65 #[.slice (some ⟨fb, 0, none⟩) ls.length fcap, .int .i64 a] y fun e w' => ∃ x' ls', e = .returned (.tuple #[x', .int .i64 er]) ∧ Rf w' x' ls' ∧ Tie n ls' sq' ∧ Below y.heap.size y w') →
      ∀ y, Below w0.heap.size w0 y → Calls Tryz.prog 33 #[.agg #[.int .i64 (n : Int), .int .i64 (m : Int), .slice (some ⟨fb, 0, none⟩) ls.length fcap, tv], .int .i64 a] y fun x w' => ∃ xv', x = .returned (.tuple #[xv', .int .i64 er]) ∧ Dc n m sq' tt ky w' xv' ∧ Below y.heap.size y w' := fun sq' er h1 h2 y hy => by
    refine (Wd.rapart14_ok n m (some ⟨fb, 0, none⟩) ls.length fcap tv ts a y (hT.below hy) (fun y v e => ∃ ls', Rf y v ls' ∧ Tie n ls' sq' ∧ e = er) (fun y y' v e k ⟨ls', q1, q2, q3⟩ => ⟨ls', q1.keepD (.ofKw k), q2, q3⟩) (fun hi y' hy' => ?_)).mono ?_
    · refine (h2 hi y' (hy.trans (hy'.mono hy.size))).mono ?_
      rintro e w' ⟨x', ls', rfl, q1, q2, q3⟩
      obtain ⟨b', c', _, _, rfl, _⟩ := id q1
      exact ⟨_, _, _, er, rfl, ⟨ls', q1, q2, rfl⟩, q3⟩
    · rintro x w' ⟨fv', er', rfl, hc, hT', hb'⟩
      rcases hc with ⟨q1, rfl, rfl⟩ | ⟨q1, ls', q2, q3, rfl⟩
      · obtain ⟨rfl, rfl⟩ := h1 q1
        exact ⟨_, rfl, ⟨_, _, ls, ts, rfl, (hR.below hy).below hb', t, hT', hts⟩, hb'⟩
      · exact ⟨_, rfl, ⟨_, _, ls', ts, rfl, q2, q3, hT', hts⟩, hb'⟩
  by_cases hi : Wd.InW n a a
  · obtain ⟨A, rfl, hA⟩ := nat_of ⟨hi.1, hi.2.1⟩
    have hX : A + 1 ≠ 0 := by omega
    by_cases h2 : 2 ≤ (sq (A + 1)).length
    · obtain ⟨D, hD⟩ : ∃ D, (rot (sq (A + 1)) (A + 1))[1]? = some (D + 1) := by
        have hl : 1 < (rot (sq (A + 1)) (A + 1)).length := by rw [rot_len]; omega
        have hm := rot_mem.1 (List.getElem_mem hl)
        have h0 := (p.mem _ _ hX hm).2
        refine ⟨(rot (sq (A + 1)) (A + 1))[1] - 1, ?_⟩
        rw [List.getElem?_eq_getElem hl]
        congr 1
        omega
      refine ⟨splS sq (A + 1) (D + 1), 0, doc _ 0 (fun q => absurd hi q) (fun _ y hy => ?_), fun y hy => ?_⟩
      · exact rapart_ok _ A D y (hR.below hy) t p hn hA h2 hD
      · refine (hy.apart A hA h2).mono ?_
        rintro e w' ⟨D', hD', rfl, g, k⟩
        rw [hD] at hD'
        injection hD' with hD'
        obtain rfl : D = D' := by omega
        exact ⟨rfl, g, k⟩
    · have h1 : (sq (A + 1)).length = 1 := by
        have := List.length_pos_of_mem (p.self (A + 1) hX)
        omega
      refine ⟨sq, 20, doc sq 20 (fun q => absurd hi q) (fun _ y hy => ?_), fun y hy => ?_⟩
      · refine (rapart_alone _ A y (hR.below hy) t p hn hA h1).mono ?_
        rintro e w' ⟨rfl, rfl⟩
        exact ⟨_, ls, rfl, hR.below hy, t, Below.refl _ _⟩
      · exact hy.apart_alone A hA h1
  · refine ⟨sq, 12, doc sq 12 (fun _ => ⟨rfl, rfl⟩) (fun q => absurd q hi), fun y hy => ?_⟩
    exact hy.apart_bad a (fun ⟨q1, q2⟩ => hi ⟨q1, q2, q1, q2⟩)

theorem merge_step (h : WQ lo w wb n m sq tt ky w0) (d : Dc n m sq tt ky w0 xv) (hn : n ≤ 1000) (hm : m ≤ 1000) (a b : Int) : ∃ sq' er, Step lo w wb n m sq tt ky w0 xv 36 21 [.int .i64 a, .int .i64 b] [.int .i64 a, .int .i64 b] sq' tt ky er := by
  have p := h.part
  obtain ⟨fv, tv, ls, ts, rfl, hR, t, hT, hts⟩ := d
  obtain ⟨fb, fcap, _, _, rfl, _⟩ := id hR
  have hF := t.len
  have htl := h.few hts
  have doc : ∀ (sq' : Nat → List Nat) (er : Int), (¬ Wd.InW n a b → sq' = sq ∧ er = 12) → (Wd.InW n a b → Lkd n sq tt a.toNat b.toNat → sq' = sq ∧ er = 20) → (Wd.InW n a b → ¬ Lkd n sq tt a.toNat b.toNat → er = 0 ∧ ∀ y, Below w0.heap.size w0 y → Calls Tryz.prog 67 #[.slice (some ⟨fb, 0, none⟩) ls.length fcap, .int .i64 a, .int .i64 b] y fun e w' => ∃ x' ls', e = .returned (.tuple #[x', .int .i64 0]) ∧ Rf w' x' ls' ∧ Tie n ls' sq' ∧ Below y.heap.size y w') →
      ∀ y, Below w0.heap.size w0 y → Calls Tryz.prog 36 #[.agg #[.int .i64 (n : Int), .int .i64 (m : Int), .slice (some ⟨fb, 0, none⟩) ls.length fcap, tv], .int .i64 a, .int .i64 b] y fun x w' => ∃ xv', x = .returned (.tuple #[xv', .int .i64 er]) ∧ Dc n m sq' tt ky w' xv' ∧ Below y.heap.size y w' := fun sq' er h1 h2 h3 y hy => by
    refine (Wd.rmerge14_ok n m (some ⟨fb, 0, none⟩) ls.length fcap tv ts (fiD ls sq) (fun d => d < n) a b y (hT.below hy) (by omega) (by omega) (h.itD hts) (fun d hd => fiD_lt t hd) (fun d hd => by omega) (doc_find (hR.below hy) t p hn) (fun y v e => ∃ ls', Rf y v ls' ∧ Tie n ls' sq') (fun y y' v e k ⟨ls', q1, q2⟩ => ⟨ls', q1.keepD (.ofKw k), q2⟩) (fun hi hl y' hy' => ?_)).mono ?_
    · refine ((h3 hi (fun q => hl ((h.doc_lnk t hts hi).2 q))).2 y' (hy.trans (hy'.mono hy.size))).mono ?_
      rintro e w' ⟨x', ls', rfl, q1, q2, q3⟩
      obtain ⟨b', c', _, _, rfl, _⟩ := id q1
      exact ⟨_, _, _, 0, rfl, ⟨ls', q1, q2⟩, q3⟩
    · rintro x w' ⟨fv', er', rfl, hc, hT', hb'⟩
      rcases hc with ⟨q1, rfl, rfl⟩ | ⟨q1, q2, rfl, rfl⟩ | ⟨q1, q2, rfl, _, ls', q3, q4⟩
      · obtain ⟨rfl, rfl⟩ := h1 q1
        exact ⟨_, rfl, ⟨_, _, ls, ts, rfl, (hR.below hy).below hb', t, hT', hts⟩, hb'⟩
      · obtain ⟨rfl, rfl⟩ := h2 q1 ((h.doc_lnk t hts q1).1 q2)
        exact ⟨_, rfl, ⟨_, _, ls, ts, rfl, (hR.below hy).below hb', t, hT', hts⟩, hb'⟩
      · obtain ⟨rfl, _⟩ := h3 q1 (fun q => q2 ((h.doc_lnk t hts q1).2 q))
        exact ⟨_, rfl, ⟨_, _, ls', ts, rfl, q3, q4, hT', hts⟩, hb'⟩
  by_cases hi : Wd.InW n a b
  · by_cases hl : Lkd n sq tt a.toNat b.toNat
    · refine ⟨sq, 20, doc sq 20 (fun q => absurd hi q) (fun _ _ => ⟨rfl, rfl⟩) (fun _ q => absurd hl q), fun y hy => ?_⟩
      obtain ⟨A, rfl, hA⟩ := nat_of ⟨hi.1, hi.2.1⟩
      obtain ⟨B, rfl, hB⟩ := nat_of ⟨hi.2.2.1, hi.2.2.2⟩
      exact hy.merge_same A B hA hB hl
    · obtain ⟨A, rfl, hA⟩ := nat_of ⟨hi.1, hi.2.1⟩
      obtain ⟨B, rfl, hB⟩ := nat_of ⟨hi.2.2.1, hi.2.2.2⟩
      have hl' : ¬ Lkd n sq tt A B := hl
      have hout : B + 1 ∉ sq (A + 1) := fun q => hl' (face_cn p hA q)
      refine ⟨mrgS sq (A + 1) (B + 1), 0, doc _ 0 (fun q => absurd hi q) (fun _ q => absurd q hl) (fun _ _ => ⟨rfl, fun y hy => ?_⟩), fun y hy => ?_⟩
      · exact rmerge_ok _ A B y (hR.below hy) t p hn hA hB hout
      · exact hy.merge A B hA hB hl'
  · refine ⟨sq, 12, doc sq 12 (fun _ => ⟨rfl, rfl⟩) (fun q => absurd q hi) (fun q => absurd q hi), fun y hy => ?_⟩
    exact hy.merge_bad a b (fun ⟨⟨q1, q2⟩, q3, q4⟩ => hi ⟨q1, q2, q3, q4⟩)

/-- A tie more in the list. -/
theorem Ts.add (h : Ts tt ky ts) {e a b : Nat} {key : Int} (hc : tt e = none) : Ts (updT tt e (some (a, b))) (setK ky e key) (ts ++ [⟨e, a, b, key⟩]) := by
  have hne : ∀ t, t ∈ ts → t.e ≠ e := fun t ht q => by
    have := (h.into t ht).1
    rw [q, hc] at this
    cases this
  refine ⟨fun t ht => ?_, fun k c d q => ?_, ?_⟩
  · rcases List.mem_append.1 ht with ht | ht
    · rw [updT_ne _ (hne t ht), setK_ne _ (hne t ht)]; exact h.into t ht
    · rw [List.mem_singleton.1 ht]
      exact ⟨updT_self _ _ _, setK_self _ _ _⟩
  · by_cases hk : k = e
    · exact ⟨⟨e, a, b, key⟩, List.mem_append.2 (.inr (List.mem_singleton.2 rfl)), hk.symm⟩
    · rw [updT_ne _ hk] at q
      obtain ⟨t, h1, h2⟩ := h.out k c d q
      exact ⟨t, List.mem_append.2 (.inl h1), h2⟩
  · rw [List.map_append]
    refine List.nodup_append.2 ⟨h.nd, by simp, fun x hx y hy q => ?_⟩
    obtain ⟨t, h1, h2⟩ := List.mem_map.1 hx
    simp at hy
    exact hne t h1 (by rw [h2, q, hy])

theorem nodup_out {α : Type} {l : List α} {f : α → Nat} (hn : (l.map f).Nodup) {j : Nat} {t u : α} (hj : l[j]? = some t) (hu : u ∈ l.take j ++ l.drop (j + 1)) : f u ≠ f t := fun q => by
  rcases List.mem_append.1 hu with h | h
  · obtain ⟨i, hi⟩ := List.mem_iff_getElem?.1 h
    have h1 := (List.getElem?_eq_some_iff.1 hi).1
    rw [List.length_take] at h1
    rw [List.getElem?_take, if_pos (by omega)] at hi
    have := nb_at hn (i := i) (j := j) (by rw [List.getElem?_map, hi]; exact congrArg some q) (by rw [List.getElem?_map, hj]; rfl)
    omega
  · obtain ⟨i, hi⟩ := List.mem_iff_getElem?.1 h
    rw [List.getElem?_drop] at hi
    have := nb_at hn (i := j + 1 + i) (j := j) (by rw [List.getElem?_map, hi]; exact congrArg some q) (by rw [List.getElem?_map, hj]; rfl)
    omega

theorem Ts.drop (h : Ts tt ky ts) {j : Nat} {t : Wd.Ti} (hj : ts[j]? = some t) : Ts (updT tt t.e none) ky (ts.take j ++ ts.drop (j + 1)) := by
  have hsub : ∀ u, u ∈ ts.take j ++ ts.drop (j + 1) → u ∈ ts := fun u hu => by
    rcases List.mem_append.1 hu with q | q
    · exact List.mem_of_mem_take q
    · exact List.mem_of_mem_drop q
  refine ⟨fun u hu => ?_, fun k c d q => ?_, ?_⟩
  · rw [updT_ne _ (nodup_out (f := fun t : Wd.Ti => t.e) h.nd hj hu)]
    exact h.into u (hsub u hu)
  · by_cases hk : k = t.e
    · subst hk; rw [updT_self] at q; cases q
    · rw [updT_ne _ hk] at q
      obtain ⟨u, h1, h2⟩ := h.out k c d q
      obtain ⟨i, hi⟩ := List.mem_iff_getElem?.1 h1
      refine ⟨u, ?_, h2⟩
      rcases Nat.lt_trichotomy i j with hij | hij | hij
      · exact List.mem_append.2 (.inl (List.mem_of_getElem? (i := i) (by rw [List.getElem?_take, if_pos hij]; exact hi)))
      · subst hij; rw [hj] at hi; injection hi with hi; exact absurd (by rw [hi]; exact h2.symm) hk
      · exact List.mem_append.2 (.inr (List.mem_of_getElem? (i := i - (j + 1)) (by rw [List.getElem?_drop, show j + 1 + (i - (j + 1)) = i by omega]; exact hi)))
  · have hs : (ts.take j ++ ts.drop (j + 1)).Sublist ts := by
      have h1 : (ts.take j ++ ts.drop (j + 1)).Sublist (ts.take j ++ ts.drop j) := List.Sublist.append_left (List.drop_sublist_drop_left ts (by omega)) _
      rw [List.take_append_drop] at h1
      exact h1
    exact (hs.map (fun t => t.e)).nodup h.nd

theorem tie_step (h : WQ lo w wb n m sq tt ky w0) (d : Dc n m sq tt ky w0 xv) (hn : n ≤ 1000) (hm : m ≤ 1000) (e a b key : Int) (hk1 : -9223372036854775808 ≤ key) (hk2 : key ≤ 9223372036854775807) :
    ∃ tt' ky' er, Step lo w wb n m sq tt ky w0 xv 34 23 [.agg #[.int .i64 e, .int .i64 a, .int .i64 b, .int .i64 key]] [.int .i64 e, .int .i64 a, .int .i64 b, .int .i64 key] sq tt' ky' er := by
  have p := h.part
  obtain ⟨fv, tv, ls, ts, rfl, hR, t, hT, hts⟩ := d
  obtain ⟨fb, fcap, _, _, rfl, _⟩ := id hR
  have hF := t.len
  have htl := h.few hts
  have hdoc : ∀ y, Below w0.heap.size w0 y → Calls Tryz.prog 34 #[.agg #[.int .i64 (n : Int), .int .i64 (m : Int), .slice (some ⟨fb, 0, none⟩) ls.length fcap, tv], .agg #[.int .i64 e, .int .i64 a, .int .i64 b, .int .i64 key]] y fun x w' => ∃ tv' er ts', x = .returned (.tuple #[.agg #[.int .i64 (n : Int), .int .i64 (m : Int), .slice (some ⟨fb, 0, none⟩) ls.length fcap, tv'], .int .i64 er]) ∧ Wd.AdIs n m ts (fiD ls sq) e a b key er ts' ∧ Wd.TV w' tv' ts' ∧ Below y.heap.size y w' := fun y hy =>
    Wd.radd14_ok n m (some ⟨fb, 0, none⟩) ls.length fcap tv ts (fiD ls sq) (fun d => d < n) e a b key y (hT.below hy) (by omega) (by omega) (h.itD hts) (fun d hd => fiD_lt t hd) (fun d hd => by omega) (doc_find (hR.below hy) t p hn)
  have same : ∀ er : Int, (∀ er' ts', Wd.AdIs n m ts (fiD ls sq) e a b key er' ts' → er' = er ∧ ts' = ts) → ∀ y, Below w0.heap.size w0 y → Calls Tryz.prog 34 #[.agg #[.int .i64 (n : Int), .int .i64 (m : Int), .slice (some ⟨fb, 0, none⟩) ls.length fcap, tv], .agg #[.int .i64 e, .int .i64 a, .int .i64 b, .int .i64 key]] y fun x w' => ∃ xv', x = .returned (.tuple #[xv', .int .i64 er]) ∧ Dc n m sq tt ky w' xv' ∧ Below y.heap.size y w' := fun er hs y hy => by
    refine (hdoc y hy).mono ?_
    rintro x w' ⟨tv', er', ts', rfl, had, hT', hb'⟩
    obtain ⟨rfl, rfl⟩ := hs er' ts' had
    exact ⟨_, rfl, ⟨_, _, ls, _, rfl, (hR.below hy).below hb', t, hT', hts⟩, hb'⟩
  by_cases hin : 0 ≤ e ∧ e < (m : Int) ∧ Wd.InW n a b
  · obtain ⟨E, rfl, hE⟩ := nat_of ⟨hin.1, hin.2.1⟩
    have hi := hin.2.2
    obtain ⟨A, rfl, hA⟩ := nat_of ⟨hi.1, hi.2.1⟩
    obtain ⟨B, rfl, hB⟩ := nat_of ⟨hi.2.2.1, hi.2.2.2⟩
    by_cases hk : key = 9223372036854775807
    · refine ⟨tt, ky, 1, same 1 (fun er' ts' had => ?_), fun y hy => ?_⟩
      · rcases had with ⟨q, _⟩ | ⟨_, ⟨_, q1, q2⟩ | ⟨q, _⟩ | ⟨q, _⟩⟩
        · exact absurd hin q
        · exact ⟨q1, q2⟩
        · exact absurd hk q
        · exact absurd hk q
      · exact hy.tieN E A B key 1 (.inr ⟨⟨⟨hin.1, hin.2.1⟩, ⟨hi.1, hi.2.1⟩, hi.2.2⟩, .inl ⟨hk, rfl⟩⟩)
    · by_cases hq : Td tt E ∨ Lkd n sq tt A B
      · refine ⟨tt, ky, 20, same 20 (fun er' ts' had => ?_), fun y hy => ?_⟩
        · rcases had with ⟨q, _⟩ | ⟨_, ⟨q, _⟩ | ⟨_, _, q1, q2⟩ | ⟨_, q1, q2, _⟩⟩
          · exact absurd hin q
          · exact absurd q hk
          · exact ⟨q1, q2⟩
          · exfalso
            rcases hq with ⟨x, y, q⟩ | q
            · obtain ⟨u, h1, h2⟩ := hts.out E x y q
              exact q2 u h1 (by rw [h2])
            · exact q1 ((h.doc_lnk t hts hi).2 q)
        · exact hy.tieN E A B key 20 (.inr ⟨⟨⟨hin.1, hin.2.1⟩, ⟨hi.1, hi.2.1⟩, hi.2.2⟩, .inr ⟨hk, hq, rfl⟩⟩)
      · have hc : tt E = none := by
          cases hx : tt E with
          | none => rfl
          | some z => obtain ⟨x, y⟩ := z; exact absurd (.inl ⟨x, y, hx⟩) hq
        have hl : ¬ Lkd n sq tt A B := fun q => hq (.inr q)
        refine ⟨updT tt E (some (A, B)), setK ky E key, 0, fun y hy => ?_, fun y hy => ?_⟩
        · refine (hdoc y hy).mono ?_
          rintro x w' ⟨tv', er', ts', rfl, had, hT', hb'⟩
          rcases had with ⟨q, _⟩ | ⟨_, ⟨q, _⟩ | ⟨_, q, _⟩ | ⟨_, _, _, rfl, rfl⟩⟩
          · exact absurd hin q
          · exact absurd q hk
          · exfalso
            rcases q with q | ⟨u, h1, h2⟩
            · exact hl ((h.doc_lnk t hts hi).1 q)
            · have h3 := (hts.into u h1).1
              have h4 : u.e = E := by omega
              rw [h4, hc] at h3
              cases h3
          · exact ⟨_, rfl, ⟨_, _, ls, _, rfl, (hR.below hy).below hb', t, hT', hts.add hc⟩, hb'⟩
        · exact hy.tie E A B key hE hA hB hk1 (by omega) hc hl
  · refine ⟨tt, ky, 12, same 12 (fun er' ts' had => ?_), fun y hy => ?_⟩
    · rcases had with ⟨_, q1, q2⟩ | ⟨q, _⟩
      · exact ⟨q1, q2⟩
      · exact absurd q hin
    · exact hy.tieN e a b key 12 (.inl ⟨fun ⟨⟨q1, q2⟩, ⟨q3, q4⟩, q5, q6⟩ => hin ⟨q1, q2, q3, q4, q5, q6⟩, rfl⟩)

theorem untie_step (h : WQ lo w wb n m sq tt ky w0) (d : Dc n m sq tt ky w0 xv) (hm : m ≤ 1000) (e : Int) : ∃ tt' er, Step lo w wb n m sq tt ky w0 xv 35 24 [.int .i64 e] [.int .i64 e] sq tt' ky er := by
  have p := h.part
  obtain ⟨fv, tv, ls, ts, rfl, hR, t, hT, hts⟩ := d
  obtain ⟨fb, fcap, _, _, rfl, _⟩ := id hR
  have htl := h.few hts
  have hdoc : ∀ y, Below w0.heap.size w0 y → Calls Tryz.prog 35 #[.agg #[.int .i64 (n : Int), .int .i64 (m : Int), .slice (some ⟨fb, 0, none⟩) ls.length fcap, tv], .int .i64 e] y fun x w' => ∃ tv' er ts', x = .returned (.tuple #[.agg #[.int .i64 (n : Int), .int .i64 (m : Int), .slice (some ⟨fb, 0, none⟩) ls.length fcap, tv'], .int .i64 er]) ∧ Wd.DrIs m ts e er ts' ∧ Wd.TV w' tv' ts' ∧ Below y.heap.size y w' := fun y hy =>
    Wd.rdrop14_ok n m (some ⟨fb, 0, none⟩) ls.length fcap tv ts e y (hT.below hy) (by omega)
  by_cases hin : 0 ≤ e ∧ e < (m : Int)
  · obtain ⟨E, rfl, hE⟩ := nat_of hin
    cases hc : tt E with
    | none =>
      refine ⟨tt, 21, fun y hy => ?_, fun y hy => hy.untieN E hE hc⟩
      refine (hdoc y hy).mono ?_
      rintro x w' ⟨tv', er', ts', rfl, had, hT', hb'⟩
      rcases had with ⟨q, _⟩ | ⟨_, _, rfl, rfl⟩ | ⟨_, _, j, u, h1, h2, _⟩
      · exact absurd hin q
      · exact ⟨_, rfl, ⟨_, _, ls, _, rfl, (hR.below hy).below hb', t, hT', hts⟩, hb'⟩
      · exfalso
        have h3 := (hts.into u (List.mem_of_getElem? h1)).1
        have h4 : u.e = E := by omega
        rw [h4, hc] at h3
        cases h3
    | some z =>
      obtain ⟨A, B⟩ := z
      refine ⟨updT tt E none, 0, fun y hy => ?_, fun y hy => hy.untie E A B hc⟩
      refine (hdoc y hy).mono ?_
      rintro x w' ⟨tv', er', ts', rfl, had, hT', hb'⟩
      rcases had with ⟨q, _⟩ | ⟨_, q, _⟩ | ⟨_, rfl, j, u, h1, h2, rfl⟩
      · exact absurd hin q
      · exfalso
        obtain ⟨u, h1, h2⟩ := hts.out E A B hc
        exact q u h1 (by rw [h2])
      · have h4 : u.e = E := by omega
        have h5 := hts.drop h1
        rw [h4] at h5
        exact ⟨_, rfl, ⟨_, _, ls, _, rfl, (hR.below hy).below hb', t, hT', h5⟩, hb'⟩
  · refine ⟨tt, 12, fun y hy => ?_, fun y hy => hy.untie_bad e hin⟩
    refine (hdoc y hy).mono ?_
    rintro x w' ⟨tv', er', ts', rfl, had, hT', hb'⟩
    rcases had with ⟨_, rfl, rfl⟩ | ⟨q, _⟩ | ⟨q, _⟩
    · exact ⟨_, rfl, ⟨_, _, ls, _, rfl, (hR.below hy).below hb', t, hT', hts⟩, hb'⟩
    · exact absurd q hin
    · exact absurd q hin
end
end Go.Proofs.YtdmkbcbgjdmgdaaGreatDoor
