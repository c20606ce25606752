/- Least trees: their sums; edges left out, or made the least: plain mathematics. -/
import Derived.Test.YtnlbpjppkfenkaaPure9
namespace Go.Proofs.Ytnlbpjppkfenkaa
set_option linter.unusedVariables false

theorem isum_perm {X Y : List Int} (p : X.Perm Y) : X.sum = Y.sum := by
  induction p with
  | nil => rfl
  | cons x _ ih => simp [ih]
  | swap x y l => simp; omega
  | trans _ _ h1 h2 => exact h1.trans h2

theorem imax : ∀ (X : List Int), X ≠ [] → ∃ a, a ∈ X ∧ ∀ x, x ∈ X → x ≤ a
  | [], h => absurd rfl h
  | [a], _ => ⟨a, by simp, fun x hx => by simp at hx; omega⟩
  | a :: b :: X, _ => by
    obtain ⟨c, h1, h2⟩ := imax (b :: X) (by simp)
    by_cases h : a ≤ c
    · exact ⟨c, List.mem_cons_of_mem _ h1, fun x hx => by
        rcases List.mem_cons.1 hx with rfl | hx
        · exact h
        · exact h2 x hx⟩
    · exact ⟨a, List.mem_cons_self, fun x hx => by
        rcases List.mem_cons.1 hx with rfl | hx
        · exact Int.le_refl _
        · have := h2 x hx; omega⟩

def below (t : Int) (X : List Int) : Nat := X.countP (fun x => decide (x ≤ t))

/-- As many numbers, and of each size at least as many up to it: not more together. -/
theorem sum_dom : ∀ (n : Nat) (X Y : List Int), X.length = n → Y.length = n → (∀ t, below t Y ≤ below t X) → X.sum ≤ Y.sum
  | 0, X, Y, hx, hy, _ => by
    rw [List.eq_nil_of_length_eq_zero hx, List.eq_nil_of_length_eq_zero hy]
    exact Int.le_refl _
  | n + 1, X, Y, hx, hy, h => by
    obtain ⟨a, ha, hA⟩ := imax X (fun e => by rw [e] at hx; simp at hx)
    obtain ⟨b, hb, hB⟩ := imax Y (fun e => by rw [e] at hy; simp at hy)
    have px := List.perm_cons_erase ha
    have py := List.perm_cons_erase hb
    have lx := List.length_erase_of_mem ha
    have ly := List.length_erase_of_mem hb
    have cx : ∀ t, below t X = below t (X.erase a) + (if a ≤ t then 1 else 0) := fun t => by
      unfold below
      rw [px.countP_eq, List.countP_cons]
      simp
    have cy : ∀ t, below t Y = below t (Y.erase b) + (if b ≤ t then 1 else 0) := fun t => by
      unfold below
      rw [py.countP_eq, List.countP_cons]
      simp
    have hfx : ∀ t, a ≤ t → below t X = n + 1 := fun t ht => by
      unfold below
      rw [← hx]
      exact List.countP_eq_length.2 (fun x hx => by have := hA x hx; simp; omega)
    have hfy : ∀ t, below t Y ≤ n + 1 := fun t => by
      unfold below
      rw [← hy]
      exact List.countP_le_length
    have hab : a ≤ b := by
      have h1 : below b Y = n + 1 := by
        unfold below
        rw [← hy]
        exact List.countP_eq_length.2 (fun x hx => by have := hB x hx; simp; omega)
      have h2 := h b
      have h3 : below b X = X.length := by
        have : below b X ≤ X.length := List.countP_le_length
        omega
      have h4 := List.countP_eq_length.1 h3 a ha
      simpa using h4
    have ih := sum_dom n (X.erase a) (Y.erase b) (by omega) (by omega) (fun t => by
      have h1 := cx t
      have h2 := cy t
      have h3 := h t
      have h4 : below t (Y.erase b) ≤ (Y.erase b).length := List.countP_le_length
      by_cases e1 : b ≤ t
      · rw [if_pos e1] at h2
        rw [if_pos (by omega)] at h1
        omega
      · rw [if_neg e1] at h2
        by_cases e2 : a ≤ t
        · have := hfx t e2
          rw [if_pos e2] at h1
          omega
        · rw [if_neg e2] at h1
          omega)
    have s1 := isum_perm px
    have s2 := isum_perm py
    rw [List.sum_cons] at s1 s2
    omega

/-- The weights of some edges together. -/
def wsum (W : Nat → Int) (is : List Nat) : Int := (is.map W).sum

theorem split_low {W : Nat → Int} (t : Int) : ∀ (so : List Nat), so.Pairwise (fun i j => W i ≤ W j) → so = so.filter (fun i => decide (W i ≤ t)) ++ so.filter (fun i => !decide (W i ≤ t))
  | [], _ => rfl
  | i :: so, h => by
    obtain ⟨h1, h2⟩ := List.pairwise_cons.1 h
    have ih := split_low t so h2
    by_cases e : W i ≤ t
    · simp only [List.filter_cons, e, decide_true, if_true, Bool.not_true, Bool.false_eq_true, if_false, List.cons_append]
      rw [← ih]
    · have hno : so.filter (fun i => decide (W i ≤ t)) = [] := List.filter_eq_nil_iff.2 (fun j hj => by have := h1 j hj; simp; omega)
      have hall : so.filter (fun i => !decide (W i ≤ t)) = so := List.filter_eq_self.2 (fun j hj => by have := h1 j hj; simp; omega)
      simp only [List.filter_cons, e, decide_false, if_false, Bool.false_eq_true, Bool.not_false, if_true]
      rw [hno, hall]
      rfl

section
variable {A B : Nat → Nat} {m : Nat} {L : Nat → Nat → Prop}

/-- Of edges taken in order the ones that join weigh not more than those of any other order. -/
theorem So.least {so ks : List Nat} {n : Nat} {W : Nat → Int} (l : Lin m L) (h : So m L so) (hw : ∀ i j, L i j → W i ≤ W j) (hk : ∀ i, i ∈ ks ↔ i < m) (hn : ∀ i, i < m → A i < n ∧ B i < n) :
    wsum W (kr A B (fun x => x) so) ≤ wsum W (kr A B (fun x => x) ks) := by
  have hns : ∀ i, i ∈ so → A i < n ∧ B i < n := fun i hi => hn i ((h.mem i).1 hi)
  have hnk : ∀ i, i ∈ ks → A i < n ∧ B i < n := fun i hi => hn i ((hk i).1 hi)
  have hlen := kr_many (A := A) (B := B) (is := so) (ks := ks) (fun i => (h.mem i).trans (hk i).symm) hns
  refine sum_dom (kr A B (fun x => x) so).length _ _ (by simp) (by simp [hlen]) (fun t => ?_)
  have hord : so.Pairwise (fun i j => W i ≤ W j) := h.ord.imp (fun hl => hw _ _ hl)
  have hsp := split_low t so hord
  have hcnt : ∀ (is : List Nat), below t (is.map W) = (is.filter (fun i => decide (W i ≤ t))).length := fun is => by
    unfold below
    rw [List.countP_map, List.countP_eq_length_filter]
    rfl
  rw [hcnt, hcnt]
  have hF := (kr_forest (A := A) (B := B) hnk).filter (fun i hi => hnk i ((kr_sub _ ks).subset hi)) (fun i => decide (W i ≤ t))
  have h1 := hF.le (is := so.filter (fun i => decide (W i ≤ t))) (fun i hi => by
    obtain ⟨h2, h3⟩ := List.mem_filter.1 hi
    exact List.mem_filter.2 ⟨(h.mem i).2 ((hk i).1 ((kr_sub _ ks).subset h2)), h3⟩) (fun i hi => hns i (List.mem_filter.1 hi).1)
  have h2 : (kr A B (fun x => x) so).filter (fun i => decide (W i ≤ t)) = kr A B (fun x => x) (so.filter (fun i => decide (W i ≤ t))) := by
    have q1 : (kr A B (fun x => x) (so.filter (fun i => decide (W i ≤ t)))).filter (fun i => decide (W i ≤ t)) = kr A B (fun x => x) (so.filter (fun i => decide (W i ≤ t))) :=
      List.filter_eq_self.2 (fun i hi => (List.mem_filter.1 ((kr_sub _ _).subset hi)).2)
    have q2 : (kr A B (jl A B (fun x => x) (so.filter (fun i => decide (W i ≤ t)))) (so.filter (fun i => !decide (W i ≤ t)))).filter (fun i => decide (W i ≤ t)) = [] :=
      List.filter_eq_nil_iff.2 (fun i hi => by
        have := (List.mem_filter.1 ((kr_sub _ _).subset hi)).2
        simpa using this)
    have q3 : kr A B (fun x => x) so = kr A B (fun x => x) (so.filter (fun i => decide (W i ≤ t)) ++ so.filter (fun i => !decide (W i ≤ t))) := congrArg _ hsp
    rw [q3, kr_append, List.filter_append, q1, q2, List.append_nil]
  rw [h2]
  exact h1

theorem So.nodup {so : List Nat} (l : Lin m L) (h : So m L so) : so.Nodup := h.ord.imp (fun {a b} hl e => by subst e; exact l.irr a hl)

open Classical in
/-- The marked ones' weights together, by their places. -/
theorem So.sum {so : List Nat} {W : Nat → Int} (l : Lin m L) (h : So m L so) : wsum W (kr A B (fun x => x) so) = wsum W ((List.range m).filter (fun i => decide (Mkd A B m L i))) := by
  refine isum_perm (List.Perm.map W ?_)
  have hn : (kr A B (fun x => x) so).Nodup := (kr_sub _ so).nodup (h.nodup l)
  have hn2 : ((List.range m).filter (fun i => decide (Mkd A B m L i))).Nodup := List.Nodup.sublist (List.filter_sublist) List.nodup_range
  refine (List.perm_ext_iff_of_nodup hn hn2).2 (fun i => ?_)
  rw [h.kr_mem l, List.mem_filter, List.mem_range]
  simp

open Classical in
/-- There is such an order. -/
theorem Lin.so (l : Lin m L) : ∃ so, So m L so := by
  have hk : ∀ k, k ≤ m → ∃ so : List Nat, (∀ i, i ∈ so ↔ i < k) ∧ so.Pairwise L := by
    intro k
    induction k with
    | zero => intro _; exact ⟨[], by simp, List.Pairwise.nil⟩
    | succ k ih =>
      intro hk
      obtain ⟨so, h1, h2⟩ := ih (by omega)
      refine ⟨so.filter (fun j => decide (L j k)) ++ k :: so.filter (fun j => !decide (L j k)), fun i => ?_, ?_⟩
      · simp only [List.mem_append, List.mem_cons, List.mem_filter, h1]
        constructor
        · rintro (⟨h, _⟩ | rfl | ⟨h, _⟩) <;> omega
        · intro h
          by_cases e : i = k
          · exact .inr (.inl e)
          · by_cases e2 : L i k
            · exact .inl ⟨by omega, by simpa using e2⟩
            · exact .inr (.inr ⟨by omega, by simpa using e2⟩)
      · have hback : ∀ j, j ∈ so → ¬ L j k → L k j := fun j hj hn => by
          have := (h1 j).1 hj
          exact (l.tot j k (by omega) (by omega) (by omega)).resolve_left hn
        rw [List.pairwise_append]
        refine ⟨h2.filter _, List.pairwise_cons.2 ⟨fun j hj => ?_, h2.filter _⟩, fun i hi j hj => ?_⟩
        · obtain ⟨h3, h4⟩ := List.mem_filter.1 hj
          exact hback j h3 (by simpa using h4)
        · have h3 : L i k := by simpa using (List.mem_filter.1 hi).2
          rcases List.mem_cons.1 hj with rfl | hj
          · exact h3
          · obtain ⟨h4, h5⟩ := List.mem_filter.1 hj
            exact l.tr _ _ _ h3 (hback j h4 (by simpa using h5))
  obtain ⟨so, h1, h2⟩ := hk m (Nat.le_refl _)
  exact ⟨so, h1, h2⟩
end

/-- One edge is less than another one. -/
def Lw (W : Nat → Int) (i j : Nat) : Prop := W i < W j ∨ (W i = W j ∧ i < j)
/-- And the other way. -/
def Gt (W : Nat → Int) (i j : Nat) : Prop := Lw W j i

theorem Lw.lin (W : Nat → Int) (m : Nat) : Lin m (Lw W) where
  irr := fun i h => by unfold Lw at h; omega
  tr := fun i j k h1 h2 => by unfold Lw at *; omega
  tot := fun i j _ _ hne => by unfold Lw; omega

theorem Gt.lin (W : Nat → Int) (m : Nat) : Lin m (Gt W) where
  irr := fun i h => (Lw.lin W m).irr i h
  tr := fun i j k h1 h2 => (Lw.lin W m).tr k j i h2 h1
  tot := fun i j hi hj hne => (Lw.lin W m).tot j i hj hi (Ne.symm hne)

theorem Lw.le {W : Nat → Int} {i j : Nat} (h : Lw W i j) : W i ≤ W j := by unfold Lw at h; omega

/-- Places, one of them left out. -/
def sh (k i : Nat) : Nat := if i < k then i else i + 1

/-- An edge that is not marked, left out, changes no mark. -/
theorem out_mark {A B : Nat → Nat} {W : Nat → Int} {m k : Nat} (hk : k < m) (hn : ¬ Mkd A B m (Lw W) k) {i : Nat} (hi : i < m - 1) :
    Mkd (fun i => A (sh k i)) (fun i => B (sh k i)) (m - 1) (Lw (fun i => W (sh k i))) i ↔ Mkd A B m (Lw W) (sh k i) := by
  have hsh : ∀ a b, Lw (fun i => W (sh k i)) a b ↔ Lw W (sh k a) (sh k b) := fun a b => by
    unfold Lw
    have : a < b ↔ sh k a < sh k b := by unfold sh; split <;> split <;> omega
    simp only [this]
  unfold Mkd at hn
  rw [Classical.not_not] at hn
  have hto : ∀ x y, Con (fun i => A (sh k i)) (fun i => B (sh k i)) (fun j => j < m - 1 ∧ Lw (fun i => W (sh k i)) j i) x y → Con A B (fun j => j < m ∧ Lw W j (sh k i)) x y := fun x y c => by
    induction c with
    | refl x => exact .refl x
    | edge j h => exact .edge (A := A) (B := B) (sh k j) ⟨by have := h.1; unfold sh; split <;> omega, (hsh j i).1 h.2⟩
    | symm _ ih => exact .symm ih
    | trans _ _ h1 h2 => exact .trans h1 h2
  have hone : ∀ j, j < m → j ≠ k → Lw W j (sh k i) → Con (fun i => A (sh k i)) (fun i => B (sh k i)) (fun j => j < m - 1 ∧ Lw (fun i => W (sh k i)) j i) (A j) (B j) := fun j hj hne hl => by
    obtain ⟨j', hj', e⟩ : ∃ j', j' < m - 1 ∧ sh k j' = j := by
      by_cases h : j < k
      · exact ⟨j, by omega, by unfold sh; rw [if_pos h]⟩
      · exact ⟨j - 1, by omega, by unfold sh; rw [if_neg (by omega)]; omega⟩
    have := Con.edge (A := fun i => A (sh k i)) (B := fun i => B (sh k i)) (P := fun j => j < m - 1 ∧ Lw (fun i => W (sh k i)) j i) j' ⟨hj', (hsh j' i).2 (by rw [e]; exact hl)⟩
    simp only [e] at this
    exact this
  have hfrom : ∀ x y, Con A B (fun j => j < m ∧ Lw W j (sh k i)) x y → Con (fun i => A (sh k i)) (fun i => B (sh k i)) (fun j => j < m - 1 ∧ Lw (fun i => W (sh k i)) j i) x y := fun x y c => by
    induction c with
    | refl x => exact .refl x
    | symm _ ih => exact .symm ih
    | trans _ _ h1 h2 => exact .trans h1 h2
    | edge j h =>
      by_cases e : j = k
      · subst e
        have hin : ∀ x y, Con A B (fun j' => j' < m ∧ Lw W j' j) x y → Con (fun i => A (sh j i)) (fun i => B (sh j i)) (fun j' => j' < m - 1 ∧ Lw (fun i => W (sh j i)) j' i) x y := fun x y c => by
          induction c with
          | refl x => exact .refl x
          | symm _ ih => exact .symm ih
          | trans _ _ h1 h2 => exact .trans h1 h2
          | edge j' h' => exact hone j' h'.1 (fun e => (Lw.lin W m).irr j (e ▸ h'.2)) ((Lw.lin W m).tr _ _ _ h'.2 h.2)
        exact hin _ _ hn
      · exact hone j h.1 e h.2
  unfold Mkd
  exact not_congr ⟨hto _ _, hfrom _ _⟩

theorem wsum_append (W : Nat → Int) (a b : List Nat) : wsum W (a ++ b) = wsum W a + wsum W b := by unfold wsum; rw [List.map_append, List.sum_append]

open Classical in
/-- Nor their sum. -/
theorem out_sum {W : Nat → Int} {p : Nat → Prop} {k : Nat} (hn : ¬ p k) : ∀ (m : Nat), k < m →
    wsum (fun i => W (sh k i)) ((List.range (m - 1)).filter (fun i => decide (p (sh k i)))) = wsum W ((List.range m).filter (fun i => decide (p i)))
  | 0, h => by omega
  | m + 1, h => by
    rw [Nat.add_sub_cancel, List.range_succ, List.filter_append, wsum_append]
    by_cases e : k = m
    · subst e
      have h1 : (List.range k).filter (fun i => decide (p (sh k i))) = (List.range k).filter (fun i => decide (p i)) := List.filter_congr (fun i hi => by
        have := List.mem_range.1 hi
        unfold sh; rw [if_pos this])
      rw [h1]
      have h2 : [k].filter (fun i => decide (p i)) = [] := by simp [hn]
      rw [h2]
      unfold wsum
      rw [List.map_congr_left (fun i hi => by
        have := List.mem_range.1 (List.mem_filter.1 hi).1
        show W (sh k i) = W i
        unfold sh; rw [if_pos this])]
      simp
    · obtain ⟨q, rfl⟩ : ∃ q, m = q + 1 := ⟨m - 1, by omega⟩
      have ih := out_sum (W := W) hn (q + 1) (by omega)
      rw [Nat.add_sub_cancel] at ih
      rw [← ih]
      conv => lhs; rw [List.range_succ, List.filter_append, wsum_append]
      congr 1
      have hq : sh k q = q + 1 := by unfold sh; rw [if_neg (by omega)]
      by_cases hp : p (q + 1)
      · simp [wsum, hq, hp]
      · simp [wsum, hq, hp]

/-- An edge that is marked, made the least of all, stays marked. -/
theorem less_mark {A B : Nat → Nat} {W : Nat → Int} {m k : Nat} {z : Int} (hz : ∀ i, i < m → z ≤ W i) (hk : k < m) (h : Mkd A B m (Lw W) k) : Mkd A B m (Lw (fun i => if i = k then z else W i)) k := by
  unfold Mkd at *
  refine fun c => h (c.mono (fun j hj => ⟨hj.1, ?_⟩))
  have h1 := hz j hj.1
  have h2 := hz k hk
  have h3 := hj.2
  unfold Lw at h3 ⊢
  by_cases e : j = k
  · subst e; simp at h3
  · simp only [if_neg e, if_true] at h3
    omega

end Go.Proofs.Ytnlbpjppkfenkaa
