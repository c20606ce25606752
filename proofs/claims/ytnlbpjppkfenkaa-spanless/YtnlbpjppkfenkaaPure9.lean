/- Least trees: plain mathematics. Edges are numbers i with ends A i, B i. -/
import Derived.Test.YtnlbpjppkfenkaaPure7
namespace Go.Proofs.Ytnlbpjppkfenkaa
set_option linter.unusedVariables false

/-- Labels: each one's class's least. -/
structure Lab (f : Nat → Nat) : Prop where
  le : ∀ x, f x ≤ x
  ff : ∀ x, f (f x) = f x

theorem Lab.start : Lab (fun x => x) := ⟨fun _ => Nat.le_refl _, fun _ => rfl⟩

theorem jn_same {f : Nat → Nat} {a b : Nat} (h : f a = f b) : jn f a b = f := by
  funext x
  unfold jn
  rw [h, Nat.max_self, Nat.min_self]
  split <;> omega

theorem jn_iff (f : Nat → Nat) (a b x y : Nat) : jn f a b x = jn f a b y ↔ f x = f y ∨ ((f x = f a ∨ f x = f b) ∧ (f y = f a ∨ f y = f b)) := by
  by_cases h : f a = f b
  · rw [jn_same h]
    constructor
    · exact Or.inl
    · rintro (e | ⟨e1, e2⟩)
      · exact e
      · omega
  · unfold jn
    exact pickF h

theorem Lab.jn {f : Nat → Nat} (h : Lab f) (a b : Nat) : Lab (jn f a b) := by
  have hm : f (min (f a) (f b)) = min (f a) (f b) := by
    rcases Nat.le_total (f a) (f b) with k | k
    · rw [Nat.min_eq_left k, h.ff]
    · rw [Nat.min_eq_right k, h.ff]
  refine ⟨fun x => ?_, fun x => ?_⟩
  · have := h.le x
    unfold Go.Proofs.Ytnlbpjppkfenkaa.jn
    split
    · omega
    · exact this
  · unfold Go.Proofs.Ytnlbpjppkfenkaa.jn
    by_cases e : f x = max (f a) (f b)
    · rw [if_pos e, hm]
      split <;> omega
    · rw [if_neg e, h.ff, if_neg e]

/-- The same classes, the same labels. -/
theorem Lab.same {f g : Nat → Nat} (hf : Lab f) (hg : Lab g) (h : ∀ x y, f x = f y ↔ g x = g y) : f = g := by
  funext x
  have h1 := (h (f x) x).1 (hf.ff x)
  have h2 := (h (g x) x).2 (hg.ff x)
  have h3 := hg.le (f x)
  have h4 := hf.le (g x)
  omega

theorem cnt_mono {p q : Nat → Bool} : ∀ {n : Nat}, (∀ x, x < n → p x = true → q x = true) → cnt p n ≤ cnt q n
  | 0, _ => Nat.le_refl _
  | n + 1, h => by
    have h1 := cnt_mono (fun x hx => h x (Nat.lt_succ_of_lt hx))
    have h2 := h n (Nat.lt_succ_self n)
    unfold cnt
    cases hp : p n <;> cases hq : q n <;> simp_all <;> omega

/-- Of coarser classes there are not more. -/
theorem fix_mono {n : Nat} {f g : Nat → Nat} (hf : Lab f) (hg : Lab g) (h : ∀ x y, f x = f y → g x = g y) : fix n g ≤ fix n f := by
  unfold fix
  refine cnt_mono (fun x _ hx => ?_)
  simp at hx ⊢
  have h1 := h (f x) x (hf.ff x)
  have h2 := hg.le (f x)
  have h3 := hf.le x
  omega

/-- Two classes made one: one class less. -/
theorem fix_join {n : Nat} {f : Nat → Nat} (h : Lab f) {a b : Nat} (ha : a < n) (hb : b < n) (hne : f a ≠ f b) : fix n f = fix n (jn f a b) + 1 := by
  have hM : max (f a) (f b) < n := by have := h.le a; have := h.le b; omega
  have hMM : f (max (f a) (f b)) = max (f a) (f b) := by
    rcases Nat.le_total (f a) (f b) with k | k
    · rw [Nat.max_eq_right k, h.ff]
    · rw [Nat.max_eq_left k, h.ff]
  unfold fix
  rw [← cnt_one hM]
  refine cnt_two (fun x hx => ?_)
  unfold jn
  by_cases e : x = max (f a) (f b)
  · subst e
    rw [hMM, if_pos rfl]
    refine ⟨by simp, fun ⟨h1, _⟩ => ?_⟩
    simp at h1
    omega
  · by_cases e2 : f x = max (f a) (f b)
    · rw [if_pos e2]
      have h1 : f x ≠ x := fun e3 => e (by omega)
      have h2 : min (f a) (f b) ≠ x := fun e3 => by
        have h3 := h.le x
        omega
      refine ⟨?_, fun ⟨h3, h4⟩ => e (by simpa using h4)⟩
      have q1 : (f x == x) = false := by simpa using h1
      have q2 : (min (f a) (f b) == x) = false := by simpa using h2
      have q3 : (x == max (f a) (f b)) = false := by simpa using e
      rw [q1, q2, q3]; rfl
    · rw [if_neg e2]
      simp [e]

section
variable (A B : Nat → Nat)

/-- Labels behind some edges' joins. -/
def jl (f : Nat → Nat) : List Nat → Nat → Nat
  | [] => f
  | i :: is => jl (jn f (A i) (B i)) is

/-- The edges that join. -/
def kr (f : Nat → Nat) : List Nat → List Nat
  | [] => []
  | i :: is => if f (A i) = f (B i) then kr f is else i :: kr (jn f (A i) (B i)) is

/-- What edges join, whatever their order is. -/
inductive Con (P : Nat → Prop) : Nat → Nat → Prop
  | refl (x) : Con P x x
  | edge (i) (h : P i) : Con P (A i) (B i)
  | symm {x y} : Con P x y → Con P y x
  | trans {x y z} : Con P x y → Con P y z → Con P x z
end

section
variable {A B : Nat → Nat}

theorem Con.mono {P Q : Nat → Prop} (h : ∀ i, P i → Q i) {x y : Nat} (c : Con A B P x y) : Con A B Q x y := by
  induction c with
  | refl x => exact .refl x
  | edge i hi => exact .edge i (h i hi)
  | symm _ ih => exact .symm ih
  | trans _ _ ih1 ih2 => exact .trans ih1 ih2

/-- What is joined already joins nothing more. -/
theorem Con.into {P Q : Nat → Prop} (h : ∀ i, P i → Con A B Q (A i) (B i)) {x y : Nat} (c : Con A B P x y) : Con A B Q x y := by
  induction c with
  | refl x => exact .refl x
  | edge i hi => exact h i hi
  | symm _ ih => exact .symm ih
  | trans _ _ ih1 ih2 => exact .trans ih1 ih2

theorem jl_lab {f : Nat → Nat} (h : Lab f) : ∀ is, Lab (jl A B f is)
  | [] => h
  | i :: is => by unfold jl; exact jl_lab (h.jn _ _) is

theorem jl_append (f : Nat → Nat) : ∀ (a b : List Nat), jl A B f (a ++ b) = jl A B (jl A B f a) b
  | [], b => rfl
  | i :: a, b => by simp only [List.cons_append, jl]; exact jl_append _ a b

theorem jl_mono {f : Nat → Nat} {x y : Nat} (h : f x = f y) : ∀ is, jl A B f is x = jl A B f is y
  | [] => h
  | i :: is => by
    have h2 : jn f (A i) (B i) x = jn f (A i) (B i) y := by unfold jn; rw [h]
    unfold jl
    exact jl_mono h2 is

theorem jl_edge {f : Nat → Nat} {i : Nat} : ∀ is, i ∈ is → jl A B f is (A i) = jl A B f is (B i)
  | [], h => by simp at h
  | k :: is, h => by
    unfold jl
    rcases List.mem_cons.1 h with rfl | h
    · exact jl_mono ((jn_iff _ _ _ _ _).2 (.inr ⟨.inl rfl, .inr rfl⟩)) is
    · exact jl_edge is h

theorem jl_con {P : Nat → Prop} : ∀ (is : List Nat) (f : Nat → Nat), (∀ x y, f x = f y → Con A B P x y) → (∀ i, i ∈ is → P i) → ∀ x y, jl A B f is x = jl A B f is y → Con A B P x y
  | [], f, h, _, x, y, e => h x y e
  | i :: is, f, h, hp, x, y, e => by
    refine jl_con is (jn f (A i) (B i)) (fun x y e => ?_) (fun k hk => hp k (List.mem_cons_of_mem _ hk)) x y e
    have he : Con A B P (A i) (B i) := .edge i (hp i List.mem_cons_self)
    rcases (jn_iff _ _ _ _ _).1 e with e | ⟨e1 | e1, e2 | e2⟩
    · exact h x y e
    · exact (h _ _ e1).trans (h _ _ e2).symm
    · exact (h _ _ e1).trans (he.trans (h _ _ e2).symm)
    · exact (h _ _ e1).trans (he.symm.trans (h _ _ e2).symm)
    · exact (h _ _ e1).trans (h _ _ e2).symm

/-- The labels tell what is joined. -/
theorem lab_iff (is : List Nat) (x y : Nat) : jl A B (fun x => x) is x = jl A B (fun x => x) is y ↔ Con A B (· ∈ is) x y := by
  constructor
  · exact jl_con is _ (fun x y e => by have : x = y := e; subst this; exact .refl x) (fun i h => h) x y
  · intro c
    induction c with
    | refl x => rfl
    | edge i hi => exact jl_edge is hi
    | symm _ ih => exact ih.symm
    | trans _ _ ih1 ih2 => exact ih1.trans ih2

theorem lab_same {is ks : List Nat} (h : ∀ x y, Con A B (· ∈ is) x y ↔ Con A B (· ∈ ks) x y) : jl A B (fun x => x) is = jl A B (fun x => x) ks :=
  (jl_lab Lab.start is).same (jl_lab Lab.start ks) (fun x y => by rw [lab_iff, lab_iff]; exact h x y)

theorem lab_mem {is ks : List Nat} (h : ∀ i, i ∈ is ↔ i ∈ ks) : jl A B (fun x => x) is = jl A B (fun x => x) ks :=
  lab_same (fun x y => ⟨Con.mono (fun i hi => (h i).1 hi), Con.mono (fun i hi => (h i).2 hi)⟩)

/-- The ones that join make the same labels. -/
theorem jl_kr (f : Nat → Nat) : ∀ is, jl A B f (kr A B f is) = jl A B f is
  | [] => rfl
  | i :: is => by
    unfold kr
    split
    · rename_i e
      rw [jl_kr f is]
      conv => rhs; unfold jl
      rw [jn_same e]
    · simp only [jl]
      exact jl_kr _ is

theorem kr_sub (f : Nat → Nat) : ∀ is, (kr A B f is).Sublist is
  | [] => List.Sublist.slnil
  | i :: is => by
    unfold kr
    split
    · exact (kr_sub f is).cons i
    · exact (kr_sub _ is).cons_cons i

theorem kr_append (f : Nat → Nat) : ∀ (a b : List Nat), kr A B f (a ++ b) = kr A B f a ++ kr A B (jl A B f a) b
  | [], b => rfl
  | i :: a, b => by
    simp only [List.cons_append, kr, jl]
    split
    · rename_i e
      rw [kr_append f a b, jn_same e]
    · rw [kr_append _ a b]; rfl

/-- Each that joins leaves one class less. -/
theorem kr_count {n : Nat} : ∀ (is : List Nat) (f : Nat → Nat), Lab f → (∀ i, i ∈ is → A i < n ∧ B i < n) → fix n f = fix n (jl A B f is) + (kr A B f is).length
  | [], f, _, _ => by simp [jl, kr]
  | i :: is, f, h, hn => by
    obtain ⟨h1, h2⟩ := hn i List.mem_cons_self
    have hr := fun k hk => hn k (List.mem_cons_of_mem i hk)
    unfold kr jl
    split
    · rename_i e
      rw [jn_same e]
      exact kr_count is f h hr
    · rename_i e
      have ih := kr_count is _ (h.jn (A i) (B i)) hr
      have := fix_join h h1 h2 e
      rw [List.length_cons]
      omega

theorem fix_start (n : Nat) : fix n (fun x => x) = n := by unfold fix; exact cnt_all (fun x _ => by simp)

/-- No edge of it is needless: a forest. -/
def Fst (A B : Nat → Nat) (n : Nat) (is : List Nat) : Prop := fix n (jl A B (fun x => x) is) + is.length = n

theorem kr_forest {n : Nat} {is : List Nat} (hn : ∀ i, i ∈ is → A i < n ∧ B i < n) : Fst A B n (kr A B (fun x => x) is) := by
  have := kr_count is _ Lab.start hn
  rw [fix_start] at this
  unfold Fst
  rw [jl_kr]
  omega

/-- In a forest all join, in whatever order. -/
theorem Fst.all {n : Nat} {is : List Nat} (h : Fst A B n is) (hn : ∀ i, i ∈ is → A i < n ∧ B i < n) : kr A B (fun x => x) is = is := by
  have h1 := kr_count is _ Lab.start hn
  rw [fix_start] at h1
  have h2 := kr_sub (A := A) (B := B) (fun x => x) is
  unfold Fst at h
  exact h2.eq_of_length (by omega)

theorem Fst.perm {n : Nat} {is ks : List Nat} (h : Fst A B n is) (p : is.Perm ks) : Fst A B n ks := by
  unfold Fst at *
  rw [← lab_mem (fun i => p.mem_iff), ← p.length_eq]
  exact h

/-- Part of a forest is one. -/
theorem Fst.part {n : Nat} {a b : List Nat} (h : Fst A B n (a ++ b)) (hn : ∀ i, i ∈ a ++ b → A i < n ∧ B i < n) : Fst A B n a := by
  have h1 := kr_count a _ Lab.start (fun i hi => hn i (List.mem_append_left _ hi))
  rw [fix_start] at h1
  have h2 := kr_count b _ (jl_lab (A := A) (B := B) Lab.start a) (fun i hi => hn i (List.mem_append_right _ hi))
  have h3 := (kr_sub (A := A) (B := B) (jl A B (fun x => x) a) b).length_le
  have h4 := (kr_sub (A := A) (B := B) (fun x => x) a).length_le
  unfold Fst at *
  rw [jl_append, List.length_append] at h
  omega

theorem Fst.filter {n : Nat} {is : List Nat} (h : Fst A B n is) (hn : ∀ i, i ∈ is → A i < n ∧ B i < n) (p : Nat → Bool) : Fst A B n (is.filter p) := by
  have hp := (List.filter_append_perm p is).symm
  exact (h.perm hp).part (fun i hi => hn i (hp.mem_iff.2 hi))

/-- A forest within some edges has not more of them than join. -/
theorem Fst.le {n : Nat} {fs is : List Nat} (h : Fst A B n fs) (hs : ∀ i, i ∈ fs → i ∈ is) (hn : ∀ i, i ∈ is → A i < n ∧ B i < n) : fs.length ≤ (kr A B (fun x => x) is).length := by
  have h1 := kr_count is _ Lab.start hn
  rw [fix_start] at h1
  have h2 := fix_mono (n := n) (jl_lab (A := A) (B := B) Lab.start fs) (jl_lab Lab.start is) (fun x y e => (lab_iff is x y).2 (((lab_iff fs x y).1 e).mono hs))
  unfold Fst at h
  omega

/-- As many join, in whatever order. -/
theorem kr_many {n : Nat} {is ks : List Nat} (h : ∀ i, i ∈ is ↔ i ∈ ks) (hn : ∀ i, i ∈ is → A i < n ∧ B i < n) : (kr A B (fun x => x) is).length = (kr A B (fun x => x) ks).length := by
  have h1 := kr_count is _ Lab.start hn
  have h2 := kr_count ks _ Lab.start (fun i hi => hn i ((h i).2 hi))
  rw [lab_mem h] at h1
  omega
end

/-- An order of the edges below m. -/
structure Lin (m : Nat) (L : Nat → Nat → Prop) : Prop where
  irr : ∀ i, ¬ L i i
  tr : ∀ i j k, L i j → L j k → L i k
  tot : ∀ i j, i < m → j < m → i ≠ j → L i j ∨ L j i

/-- An edge is marked: the lesser ones do not join its ends. -/
def Mkd (A B : Nat → Nat) (m : Nat) (L : Nat → Nat → Prop) (i : Nat) : Prop := ¬ Con A B (fun j => j < m ∧ L j i) (A i) (B i)

/-- In order, and all of them. -/
structure So (m : Nat) (L : Nat → Nat → Prop) (so : List Nat) : Prop where
  mem : ∀ i, i ∈ so ↔ i < m
  ord : so.Pairwise L

section
variable {A B : Nat → Nat} {m : Nat} {L : Nat → Nat → Prop}

theorem So.before {so a b : List Nat} {i : Nat} (l : Lin m L) (h : So m L so) (e : so = a ++ i :: b) (j : Nat) : j ∈ a ↔ j < m ∧ L j i := by
  subst e
  have ho := h.ord
  rw [List.pairwise_append] at ho
  obtain ⟨_, h2, h3⟩ := ho
  have h4 := (List.pairwise_cons.1 h2).1
  constructor
  · intro hj
    exact ⟨(h.mem j).1 (List.mem_append_left _ hj), h3 j hj i List.mem_cons_self⟩
  · rintro ⟨hj, hl⟩
    rcases List.mem_append.1 ((h.mem j).2 hj) with h5 | h5
    · exact h5
    · rcases List.mem_cons.1 h5 with rfl | h5
      · exact absurd hl (l.irr _)
      · exact absurd (l.tr _ _ _ hl (h4 j h5)) (l.irr _)

/-- Taken in order, the marked ones are those that join. -/
theorem So.kr_mem {so : List Nat} (l : Lin m L) (h : So m L so) {i : Nat} : i ∈ kr A B (fun x => x) so ↔ i < m ∧ Mkd A B m L i := by
  have hkey : ∀ (a b : List Nat), so = a ++ b → ∀ i, i ∈ kr A B (jl A B (fun x => x) a) b ↔ i ∈ b ∧ Mkd A B m L i := by
    intro a b
    induction b generalizing a with
    | nil => intro _ i; simp [kr]
    | cons k b ih =>
      intro e i
      have ih' := ih (a ++ [k]) (by rw [e]; simp)
      rw [jl_append] at ih'
      simp only [jl] at ih'
      have hb := fun j => h.before l e j
      have hk : jl A B (fun x => x) a (A k) = jl A B (fun x => x) a (B k) ↔ ¬ Mkd A B m L k := by
        rw [lab_iff]
        unfold Mkd
        rw [Classical.not_not]
        exact ⟨Con.mono (fun j hj => (hb j).1 hj), Con.mono (fun j hj => (hb j).2 hj)⟩
      have hnk : k ∉ b := fun hk2 => by
        have ho := h.ord
        rw [e, List.pairwise_append] at ho
        exact l.irr k ((List.pairwise_cons.1 ho.2.1).1 k hk2)
      simp only [kr]
      by_cases ek : jl A B (fun x => x) a (A k) = jl A B (fun x => x) a (B k)
      · rw [if_pos ek]
        rw [jn_same ek] at ih'
        rw [ih' i, List.mem_cons]
        constructor
        · rintro ⟨h1, h2⟩; exact ⟨.inr h1, h2⟩
        · rintro ⟨rfl | h1, h2⟩
          · exact absurd h2 (hk.1 ek)
          · exact ⟨h1, h2⟩
      · rw [if_neg ek, List.mem_cons, ih' i, List.mem_cons]
        constructor
        · rintro (rfl | ⟨h1, h2⟩)
          · exact ⟨.inl rfl, Classical.not_not.1 (fun hn => ek (hk.2 hn))⟩
          · exact ⟨.inr h1, h2⟩
        · rintro ⟨rfl | h1, h2⟩
          · exact .inl rfl
          · exact .inr ⟨h1, h2⟩
  have := hkey [] so rfl i
  simp only [jl] at this
  rw [this, h.mem]

/-- The marked ones that are less join the ends of one that is not marked. -/
theorem Lin.by_marked (l : Lin m L) {so : List Nat} (h : So m L so) {i : Nat} (hi : i < m) (hn : ¬ Mkd A B m L i) : Con A B (fun j => j < m ∧ L j i ∧ Mkd A B m L j) (A i) (B i) := by
  obtain ⟨a, b, e⟩ := List.append_of_mem ((h.mem i).2 hi)
  have hb := fun j => h.before l e j
  unfold Mkd at hn
  rw [Classical.not_not] at hn
  have h1 : Con A B (· ∈ a) (A i) (B i) := hn.mono (fun j hj => (hb j).2 hj)
  rw [← lab_iff, ← jl_kr, lab_iff] at h1
  refine h1.mono (fun j hj => ?_)
  have hja := (kr_sub _ a).subset hj
  have hjs : j ∈ kr A B (fun x => x) so := by
    rw [e, kr_append]
    exact List.mem_append_left _ hj
  obtain ⟨h2, h3⟩ := (h.kr_mem l).1 hjs
  exact ⟨h2, ((hb j).1 hja).2, h3⟩
end

end Go.Proofs.Ytnlbpjppkfenkaa
