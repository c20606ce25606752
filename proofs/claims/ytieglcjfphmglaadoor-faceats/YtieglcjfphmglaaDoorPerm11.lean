/- Orders that turn round, as lists and numbers alone. -/
namespace Go.Proofs.YtieglcjfphmglaaDoor.Pq
set_option linter.unusedVariables false

/-- Numbers as integers. -/
def cl (l : List Nat) : List Int := l.map (fun i : Nat => (i : Int))
/-- A function's first values. -/
def fl (n : Nat) (f : Nat → Nat) : List Nat := (List.range n).map f

@[simp] theorem cl_length (l : List Nat) : (cl l).length = l.length := by simp [cl]
@[simp] theorem fl_length (n : Nat) (f : Nat → Nat) : (fl n f).length = n := by simp [fl]
theorem cl_get {l : List Nat} {j z : Nat} (h : l[j]? = some z) : (cl l)[j]? = some (z : Int) := by simp [cl, h]
theorem cl_get' {l : List Nat} {j : Nat} {z : Int} (h : (cl l)[j]? = some z) : ∃ k : Nat, l[j]? = some k ∧ z = (k : Int) := by
  simp only [cl, List.getElem?_map] at h
  obtain ⟨k, h1, h2⟩ := Option.map_eq_some_iff.1 h
  exact ⟨k, h1, h2.symm⟩
theorem fl_get {n : Nat} {f : Nat → Nat} {j : Nat} (h : j < n) : (fl n f)[j]? = some (f j) := by simp [fl, h]
theorem fl_get' {n : Nat} {f : Nat → Nat} {j z : Nat} (h : (fl n f)[j]? = some z) : j < n ∧ f j = z := by
  have hl := (List.getElem?_eq_some_iff.1 h).1
  simp at hl
  rw [fl_get hl] at h
  exact ⟨hl, Option.some.inj h⟩
theorem clfl_get {n : Nat} {f : Nat → Nat} {j : Nat} (h : j < n) : (cl (fl n f))[j]? = some (f j : Int) := cl_get (fl_get h)
theorem fl_succ (n : Nat) (f : Nat → Nat) : fl (n + 1) f = fl n f ++ [f n] := by simp [fl, List.range_succ]
theorem cl_append (a b : List Nat) : cl (a ++ b) = cl a ++ cl b := by simp [cl]
theorem mem_fl {n : Nat} {f : Nat → Nat} {y : Nat} : y ∈ fl n f ↔ ∃ i, i < n ∧ f i = y := by simp [fl]
theorem mem_cl {l : List Nat} {y : Nat} : (y : Int) ∈ cl l ↔ y ∈ l := by
  simp only [cl, List.mem_map]
  refine ⟨fun ⟨a, h1, h2⟩ => ?_, fun h => ⟨y, h, rfl⟩⟩
  obtain rfl : a = y := by omega
  exact h1
theorem fl_congr {n : Nat} {f g : Nat → Nat} (h : ∀ i, i < n → f i = g i) : fl n f = fl n g := by
  unfold fl
  exact List.map_congr_left (fun i hi => h i (List.mem_range.1 hi))
theorem fl_nodup {n : Nat} {f : Nat → Nat} (h : ∀ i j, i < n → j < n → f i = f j → i = j) : (fl n f).Nodup := by
  induction n with
  | zero => simp [fl]
  | succ n ih =>
    rw [fl_succ, List.nodup_append]
    refine ⟨ih (fun i j hi hj => h i j (by omega) (by omega)), by simp, fun a ha b hb e => ?_⟩
    obtain ⟨i, hi, rfl⟩ := mem_fl.1 ha
    simp at hb
    subst hb
    have := h i n (by omega) (by omega) e
    omega

theorem pig2 {α : Type} [DecidableEq α] : ∀ (l m : List α), l.Nodup → (∀ x, x ∈ l → x ∈ m) → l.length ≤ m.length ∧ (m.length ≤ l.length → m.Perm l)
  | [], m, _, _ => ⟨by simp, fun h => by
      have : m = [] := List.eq_nil_of_length_eq_zero (by simpa using h)
      subst this; exact List.Perm.refl _⟩
  | x :: l, m, hn, hs => by
    have hx := hs x List.mem_cons_self
    obtain ⟨h1, h2⟩ := List.nodup_cons.1 hn
    have hlen := List.length_erase_of_mem hx
    have hpos : 0 < m.length := List.length_pos_of_mem hx
    obtain ⟨h3, h4⟩ := pig2 l (m.erase x) h2 (fun y hy => by
      have hne : y ≠ x := fun e => h1 (e ▸ hy)
      exact (List.mem_erase_of_ne hne).2 (hs y (List.mem_cons_of_mem _ hy)))
    refine ⟨by simp; omega, fun h => ?_⟩
    exact (List.perm_cons_erase hx).trans (List.Perm.cons x (h4 (by simp at h; omega)))

theorem pig {α : Type} [DecidableEq α] {l m : List α} (hn : l.Nodup) (hs : ∀ x, x ∈ l → x ∈ m) : l.length ≤ m.length := (pig2 l m hn hs).1

/-- An order of n numbers. -/
structure Pm (n : Nat) (f : Nat → Nat) : Prop where
  lt : ∀ i, i < n → f i < n
  inj : ∀ i j, i < n → j < n → f i = f j → i = j

/-- What Check asks. -/
def Ord (zs : List Int) : Prop := zs.Nodup ∧ ∀ z, z ∈ zs → 0 ≤ z ∧ z < (zs.length : Int)

theorem nodup_at {α : Type} {l : List α} (h : l.Nodup) {i j : Nat} {z : α} (hi : l[i]? = some z) (hj : l[j]? = some z) : i = j :=
  (List.getElem?_inj (List.getElem?_eq_some_iff.1 hi).1 h).1 (hi.trans hj.symm)

theorem Ord.fn {zs : List Int} (h : Ord zs) : ∃ f, Pm zs.length f ∧ zs = cl (fl zs.length f) := by
  have hg : ∀ i, i < zs.length → zs[i]? = some (((zs.getD i 0).toNat : Nat) : Int) := fun i hi => by
    have h1 : zs[i]? = some zs[i] := List.getElem?_eq_getElem hi
    have := h.2 _ (List.getElem_mem hi)
    rw [List.getD_eq_getElem?_getD, h1]
    simp
    omega
  refine ⟨fun i => (zs.getD i 0).toNat, ⟨fun i hi => ?_, fun i j hi hj e => ?_⟩, ?_⟩
  · have := h.2 _ (List.mem_of_getElem? (hg i hi))
    omega
  · have h1 := hg i hi
    have h2 := hg j hj
    rw [show (zs.getD i 0).toNat = (zs.getD j 0).toNat from e] at h1
    exact nodup_at h.1 h1 h2
  · apply List.ext_getElem?
    intro i
    by_cases hi : i < zs.length
    · rw [clfl_get hi, hg i hi]
    · rw [List.getElem?_eq_none (by omega), List.getElem?_eq_none (by simp; omega)]

theorem cl_nodup {l : List Nat} : (cl l).Nodup ↔ l.Nodup := by
  induction l with
  | nil => simp [cl]
  | cons a l ih =>
    have : cl (a :: l) = (a : Int) :: cl l := rfl
    rw [this, List.nodup_cons, List.nodup_cons, ih, mem_cl]

theorem Pm.ord {n : Nat} {f : Nat → Nat} (h : Pm n f) : Ord (cl (fl n f)) := by
  refine ⟨cl_nodup.2 (fl_nodup h.inj), fun z hz => ?_⟩
  obtain ⟨j, hj⟩ := List.getElem?_of_mem hz
  obtain ⟨k, h1, rfl⟩ := cl_get' hj
  obtain ⟨h2, rfl⟩ := fl_get' h1
  have := h.lt j h2
  simp; omega

theorem Ord.pm {n : Nat} {f : Nat → Nat} (h : Ord (cl (fl n f))) : Pm n f := by
  refine ⟨fun i hi => ?_, fun i j hi hj e => ?_⟩
  · have := h.2 _ (List.mem_of_getElem? (clfl_get (f := f) hi))
    simp at this; omega
  · exact nodup_at (cl_nodup.1 h.1) (fl_get hi) (e ▸ fl_get hj)

section
variable {n : Nat} {f : Nat → Nat} (h : Pm n f)
include h

theorem Pm.sur {y : Nat} (hy : y < n) : ∃ i, i < n ∧ f i = y := by
  rcases Classical.em (y ∈ fl n f) with hm | hm
  · exact mem_fl.1 hm
  · have := pig (l := y :: fl n f) (m := List.range n) (List.nodup_cons.2 ⟨hm, fl_nodup h.inj⟩) (fun x hx => by
      rcases List.mem_cons.1 hx with rfl | hx
      · exact List.mem_range.2 hy
      · obtain ⟨i, hi, rfl⟩ := mem_fl.1 hx
        exact List.mem_range.2 (h.lt i hi))
    simp at this
    omega
end

/-- The order turned back. -/
def inv (n : Nat) (f : Nat → Nat) (y : Nat) : Nat := ((List.range n).find? (fun i => f i == y)).getD 0

section
variable {n : Nat} {f : Nat → Nat} (h : Pm n f)
include h

theorem Pm.inv_at {i : Nat} (hi : i < n) : inv n f (f i) = i := by
  unfold inv
  cases hf : (List.range n).find? (fun k => f k == f i) with
  | none =>
    have := List.find?_eq_none.1 hf i (List.mem_range.2 hi)
    simp at this
  | some k =>
    have h1 := List.find?_some hf
    have h2 := List.mem_range.1 (List.mem_of_find?_eq_some hf)
    simp at h1
    simpa using h.inj k i h2 hi h1

theorem Pm.at_inv {y : Nat} (hy : y < n) : f (inv n f y) = y ∧ inv n f y < n := by
  obtain ⟨i, hi, rfl⟩ := h.sur hy
  rw [h.inv_at hi]
  exact ⟨rfl, hi⟩

theorem Pm.back : Pm n (inv n f) := by
  refine ⟨fun i hi => (h.at_inv hi).2, fun i j hi hj e => ?_⟩
  rw [← (h.at_inv hi).1, e, (h.at_inv hj).1]

theorem Pm.then {g : Nat → Nat} (k : Pm n g) : Pm n (fun i => g (f i)) :=
  ⟨fun i hi => k.lt _ (h.lt i hi), fun i j hi hj e => h.inj i j hi hj (k.inj _ _ (h.lt i hi) (h.lt j hj) e)⟩
end

theorem count_ord {zs : List Int} : (∀ x : Nat, x < zs.length → zs.count (x : Int) = 1) ↔ Ord zs := by
  constructor
  · intro h
    have hp := (pig2 (cl (List.range zs.length)) zs (cl_nodup.2 List.nodup_range) (fun x hx => by
      obtain ⟨j, hj⟩ := List.getElem?_of_mem hx
      obtain ⟨k, h1, rfl⟩ := cl_get' hj
      have hk := List.mem_range.1 (List.mem_of_getElem? h1)
      have := h k hk
      exact List.count_pos_iff.1 (by omega))).2 (by simp)
    refine ⟨hp.nodup_iff.2 (cl_nodup.2 List.nodup_range), fun z hz => ?_⟩
    have := hp.mem_iff.1 hz
    obtain ⟨j, hj⟩ := List.getElem?_of_mem this
    obtain ⟨k, h1, rfl⟩ := cl_get' hj
    have hk := List.mem_range.1 (List.mem_of_getElem? h1)
    omega
  · intro h x hx
    obtain ⟨f, hf, e⟩ := h.fn
    obtain ⟨i, hi, rfl⟩ := hf.sur hx
    rw [h.1.count, if_pos]
    rw [e]
    exact List.mem_of_getElem? (clfl_get (by simpa using hi))

/-- So many steps on. -/
def it (f : Nat → Nat) : Nat → Nat → Nat
  | 0, x => x
  | k + 1, x => f (it f k x)

theorem it_add (f : Nat → Nat) (a b x : Nat) : it f (a + b) x = it f a (it f b x) := by
  induction a with
  | zero => simp [it]
  | succ a ih => rw [show a + 1 + b = (a + b) + 1 from by omega]; simp only [it]; rw [ih]

theorem it_comm (f : Nat → Nat) (a b x : Nat) : it f a (it f b x) = it f b (it f a x) := by rw [← it_add, ← it_add, Nat.add_comm]
theorem it_f (f : Nat → Nat) (a x : Nat) : it f a (f x) = f (it f a x) := it_comm f a 1 x

/-- It comes round by so many steps, no sooner. -/
structure Per (f : Nat → Nat) (x d : Nat) : Prop where
  pos : 1 ≤ d
  at_ : it f d x = x
  least : ∀ k, 1 ≤ k → k < d → it f k x ≠ x

theorem Per.uniq {f : Nat → Nat} {x d e : Nat} (h : Per f x d) (k : Per f x e) : d = e := by
  rcases Nat.lt_trichotomy d e with hl | hl | hl
  · exact absurd h.at_ (k.least d h.pos hl)
  · exact hl
  · exact absurd k.at_ (h.least e k.pos hl)

theorem Per.mul {f : Nat → Nat} {x d : Nat} (h : Per f x d) (m : Nat) : it f (m * d) x = x := by
  induction m with
  | zero => simp [it]
  | succ m ih => rw [Nat.succ_mul, it_add, h.at_, ih]

theorem Per.mod {f : Nat → Nat} {x d : Nat} (h : Per f x d) (k : Nat) : it f k x = it f (k % d) x := by
  conv => lhs; rw [← Nat.mod_add_div k d, Nat.mul_comm d, it_add, h.mul]

section
variable {n : Nat} {f : Nat → Nat} (h : Pm n f)
include h

theorem Pm.it_lt {x : Nat} (hx : x < n) (k : Nat) : it f k x < n := by
  induction k with
  | zero => exact hx
  | succ k ih => exact h.lt _ ih

theorem Pm.it_inj {a b : Nat} (ha : a < n) (hb : b < n) (k : Nat) (e : it f k a = it f k b) : a = b := by
  induction k with
  | zero => exact e
  | succ k ih => exact ih (h.inj _ _ (h.it_lt ha k) (h.it_lt hb k) e)

theorem Pm.cancel {x : Nat} (hx : x < n) {i j : Nat} (hij : i ≤ j) (e : it f i x = it f j x) : it f (j - i) x = x := by
  have : it f i (it f (j - i) x) = it f i x := by rw [← it_add, show i + (j - i) = j from by omega, e]
  exact h.it_inj (h.it_lt hx _) hx i this

theorem Pm.exper {x : Nat} (hx : x < n) : ∃ d, Per f x d ∧ d ≤ n := by
  have hex : ∃ d, 1 ≤ d ∧ d ≤ n ∧ it f d x = x := by
    rcases Classical.em (∃ i j, i < j ∧ j ≤ n ∧ it f i x = it f j x) with ⟨i, j, h1, h2, h3⟩ | hno
    · exact ⟨j - i, by omega, by omega, h.cancel hx (by omega) h3⟩
    · exfalso
      have := pig (l := fl (n + 1) (fun k => it f k x)) (m := List.range n) (fl_nodup (fun i j hi hj e => by
        rcases Nat.lt_trichotomy i j with hl | hl | hl
        · exact absurd ⟨i, j, hl, by omega, e⟩ hno
        · exact hl
        · exact absurd ⟨j, i, hl, by omega, e.symm⟩ hno)) (fun y hy => by
        obtain ⟨i, hi, rfl⟩ := mem_fl.1 hy
        exact List.mem_range.2 (h.it_lt hx i))
      simp at this
      omega
  have hmin : ∀ m, (∃ d, 1 ≤ d ∧ d ≤ m ∧ it f d x = x) → ∃ d, Per f x d ∧ d ≤ m := by
    intro m
    induction m with
    | zero => rintro ⟨d, h1, h2, _⟩; omega
    | succ m ih =>
      rintro ⟨d, h1, h2, h3⟩
      rcases Classical.em (∃ d, 1 ≤ d ∧ d ≤ m ∧ it f d x = x) with hd | hd
      · obtain ⟨e, h4, h5⟩ := ih hd
        exact ⟨e, h4, by omega⟩
      · obtain rfl : d = m + 1 := by
          rcases Nat.lt_or_ge d (m + 1) with hl | hl
          · exact absurd ⟨d, h1, by omega, h3⟩ hd
          · omega
        exact ⟨m + 1, ⟨h1, h3, fun k h4 h5 e => hd ⟨k, h4, by omega, e⟩⟩, h2⟩
  exact hmin n hex

theorem Pm.apart {x d : Nat} (hx : x < n) (p : Per f x d) {i j : Nat} (hi : i < d) (hj : j < d) (e : it f i x = it f j x) : i = j := by
  rcases Nat.lt_trichotomy i j with hl | hl | hl
  · exact absurd (h.cancel hx (by omega) e) (p.least _ (by omega) (by omega))
  · exact hl
  · exact absurd (h.cancel hx (by omega) e.symm) (p.least _ (by omega) (by omega))

/-- The same round from each of its numbers. -/
theorem Pm.per_on {x d : Nat} (hx : x < n) (p : Per f x d) (i : Nat) : Per f (it f i x) d :=
  ⟨p.pos, by rw [it_comm, p.at_], fun k h1 h2 e => p.least k h1 h2 (h.it_inj (h.it_lt hx k) hx i (by rw [it_comm, e]))⟩

theorem Pm.turned {x d : Nat} (hx : x < n) (p : Per f x d) (i : Nat) (hi : i ≤ d) : it (inv n f) i x = it f (d - i) x := by
  have hback : ∀ i y, y < n → it f i (it (inv n f) i y) = y := by
    intro i
    induction i with
    | zero => intro y _; rfl
    | succ i ih =>
      intro y hy
      have e : it f (i + 1) (it (inv n f) (i + 1) y) = it f i (f (inv n f (it (inv n f) i y))) := (it_f f i _).symm
      rw [e, (h.at_inv (h.back.it_lt hy i)).1]
      exact ih y hy
  apply h.it_inj (h.back.it_lt hx i) (h.it_lt hx _) i
  rw [hback i x hx, ← it_add, show i + (d - i) = d from by omega, p.at_]

theorem Pm.per_inv {x d : Nat} (hx : x < n) (p : Per f x d) : Per (inv n f) x d := by
  refine ⟨p.pos, ?_, fun k h1 h2 e => ?_⟩
  · rw [h.turned hx p d (Nat.le_refl _), Nat.sub_self]; rfl
  · rw [h.turned hx p k (by omega)] at e
    exact p.least _ (by omega) (by omega) e
end

open Classical in
/-- By how many steps it comes round. -/
noncomputable def per (f : Nat → Nat) (x : Nat) : Nat := if h : ∃ d, Per f x d then h.choose else 0

theorem Per.eq {f : Nat → Nat} {x d : Nat} (h : Per f x d) : per f x = d := by
  have hx : ∃ d, Per f x d := ⟨d, h⟩
  unfold per
  rw [dif_pos hx]
  exact hx.choose_spec.uniq h

/-- A number's cycle. -/
noncomputable def orb (f : Nat → Nat) (x : Nat) : List Nat := fl (per f x) (fun i => it f i x)

theorem Pm.per_is {n : Nat} {f : Nat → Nat} (h : Pm n f) {x : Nat} (hx : x < n) : Per f x (per f x) ∧ per f x ≤ n := by
  obtain ⟨d, h1, h2⟩ := h.exper hx
  rw [h1.eq]
  exact ⟨h1, h2⟩

theorem Pm.mem_orb {n : Nat} {f : Nat → Nat} (h : Pm n f) {x y : Nat} (hx : x < n) : y ∈ orb f x ↔ ∃ k, it f k x = y := by
  unfold orb
  rw [mem_fl]
  have hp := (h.per_is hx).1
  constructor
  · rintro ⟨i, _, e⟩; exact ⟨i, e⟩
  · rintro ⟨k, e⟩
    exact ⟨k % per f x, Nat.mod_lt _ hp.pos, by rw [← hp.mod]; exact e⟩

theorem Pm.it_back {n : Nat} {f : Nat → Nat} (h : Pm n f) {x y k : Nat} (hy : y < n) (e : it f k y = x) : ∃ j, it f j x = y := by
  have hp := (h.per_is hy).1
  have hpos := hp.pos
  refine ⟨k * per f y - k, ?_⟩
  have h2 : k ≤ k * per f y := Nat.le_mul_of_pos_right k hpos
  rw [← e, ← it_add, Nat.sub_add_cancel h2, hp.mul]

/-- No number of its cycle is below it. -/
def lst (f : Nat → Nat) (x : Nat) : Prop := ∀ k, x ≤ it f k x

open Classical in
/-- The cycles whose least numbers are below x. -/
noncomputable def cyc (f : Nat → Nat) (x : Nat) : List (List Nat) := ((List.range x).filter (fun y => decide (lst f y))).map (orb f)

open Classical in
theorem cyc_succ (f : Nat → Nat) (x : Nat) : cyc f (x + 1) = cyc f x ++ (if lst f x then [orb f x] else []) := by
  unfold cyc
  rw [List.range_succ, List.filter_append, List.map_append]
  by_cases hl : lst f x <;> simp [hl]

theorem cyc_yes {f : Nat → Nat} {x : Nat} (h : lst f x) : cyc f (x + 1) = cyc f x ++ [orb f x] := by classical rw [cyc_succ, if_pos h]
theorem cyc_no {f : Nat → Nat} {x : Nat} (h : ¬ lst f x) : cyc f (x + 1) = cyc f x := by classical rw [cyc_succ, if_neg h, List.append_nil]
theorem cyc_le (f : Nat → Nat) (x : Nat) : (cyc f x).length ≤ x := by
  classical
  unfold cyc
  rw [List.length_map]
  exact Nat.le_trans (List.length_filter_le _ _) (by simp)

section
variable {n : Nat} {f : Nat → Nat} (h : Pm n f)
include h

theorem Pm.mem_cyc {y : Nat} (hy : y < n) : ∀ x, x ≤ n → (y ∈ (cyc f x).flatten ↔ ∃ k, it f k y < x)
  | 0, _ => by simp [cyc]
  | x + 1, hx => by
    have ih := Pm.mem_cyc hy x (by omega)
    by_cases hl : lst f x
    · rw [cyc_yes hl, List.flatten_append, List.mem_append, ih]
      simp only [List.flatten_cons, List.flatten_nil, List.append_nil]
      rw [h.mem_orb (show x < n by omega)]
      constructor
      · rintro (⟨k, hk⟩ | ⟨k, hk⟩)
        · exact ⟨k, by omega⟩
        · obtain ⟨j, hj⟩ := h.it_back (show x < n by omega) hk
          exact ⟨j, by omega⟩
      · rintro ⟨k, hk⟩
        by_cases e : it f k y < x
        · exact .inl ⟨k, e⟩
        · exact .inr (h.it_back hy (show it f k y = x by omega))
    · rw [cyc_no hl, ih]
      constructor
      · rintro ⟨k, hk⟩; exact ⟨k, by omega⟩
      · rintro ⟨k, hk⟩
        by_cases e : it f k y < x
        · exact ⟨k, e⟩
        · have e' : it f k y = x := by omega
          obtain ⟨j, hj⟩ := Classical.not_forall.1 hl
          exact ⟨j + k, by rw [it_add, e']; omega⟩

theorem Pm.lst_iff {x : Nat} (hx : x < n) : lst f x ↔ x ∉ (cyc f x).flatten := by
  rw [h.mem_cyc hx x (by omega)]
  unfold lst
  constructor
  · rintro hl ⟨k, hk⟩; have := hl k; omega
  · intro hn k
    rcases Nat.lt_or_ge (it f k x) x with hlt | hge
    · exact absurd ⟨k, hlt⟩ hn
    · exact hge

theorem Pm.orb_nodup {x : Nat} (hx : x < n) : (orb f x).Nodup := fl_nodup (fun _ _ hi hj e => h.apart hx (h.per_is hx).1 hi hj e)
theorem Pm.orb_lt {x y : Nat} (hx : x < n) (hy : y ∈ orb f x) : y < n := by
  obtain ⟨k, rfl⟩ := (h.mem_orb hx).1 hy
  exact h.it_lt hx k

omit h in
theorem Pm.cyc_lt {n : Nat} {f : Nat → Nat} (_h : Pm n f) {c : List Nat} : ∀ x, x ≤ n → c ∈ cyc f x → ∃ z, z < n ∧ c = orb f z := fun x hx hc => by
  classical
  unfold cyc at hc
  obtain ⟨z, hz, rfl⟩ := List.mem_map.1 hc
  have := List.mem_range.1 (List.mem_filter.1 hz).1
  exact ⟨z, by omega, rfl⟩

theorem Pm.cyc_nodup : ∀ x, x ≤ n → (cyc f x).flatten.Nodup
  | 0, _ => by simp [cyc]
  | x + 1, hx => by
    have ih := Pm.cyc_nodup x (by omega)
    by_cases hl : lst f x
    · rw [cyc_yes hl, List.flatten_append, List.nodup_append]
      simp only [List.flatten_cons, List.flatten_nil, List.append_nil]
      refine ⟨ih, h.orb_nodup (by omega), fun a ha b hb e => ?_⟩
      subst e
      have han := h.orb_lt (show x < n by omega) hb
      obtain ⟨k, hk⟩ := (h.mem_cyc han x (by omega)).1 ha
      obtain ⟨j, rfl⟩ := (h.mem_orb (show x < n by omega)).1 hb
      have := hl (k + j)
      rw [it_add] at this
      omega
    · rw [cyc_no hl]; exact ih

theorem Pm.cyc_all {y : Nat} (hy : y < n) : y ∈ (cyc f n).flatten := (h.mem_cyc hy n (Nat.le_refl _)).2 ⟨0, hy⟩

theorem Pm.cyc_mem_lt {y x : Nat} (hx : x ≤ n) (hy : y ∈ (cyc f x).flatten) : y < n := by
  obtain ⟨c, hc, hm⟩ := List.mem_flatten.1 hy
  obtain ⟨z, hz, rfl⟩ := h.cyc_lt x hx hc
  exact h.orb_lt hz hm

theorem Pm.cyc_len : (cyc f n).flatten.length = n := by
  have hp := (pig2 (cyc f n).flatten (List.range n) (h.cyc_nodup n (Nat.le_refl _)) (fun x hx => List.mem_range.2 (h.cyc_mem_lt (Nat.le_refl _) hx))).1
  have hq := pig (l := List.range n) (m := (cyc f n).flatten) List.nodup_range (fun x hx => h.cyc_all (List.mem_range.1 hx))
  simp only [List.length_range] at hp hq
  omega

theorem Pm.orb_next {x k z : Nat} (hx : x < n) (hk : (orb f x)[k]? = some z) : (orb f x)[(k + 1) % (orb f x).length]? = some (f z) := by
  have hp := (h.per_is hx).1
  have hl : (orb f x).length = per f x := by unfold orb; simp
  unfold orb at hk
  obtain ⟨h1, h2⟩ := fl_get' hk
  rw [hl]
  unfold orb
  rw [fl_get (Nat.mod_lt _ hp.pos), ← hp.mod, ← h2]
  rfl

theorem Pm.orb_ne {x : Nat} (hx : x < n) : orb f x ≠ [] := fun e => by
  have hp := (h.per_is hx).1.pos
  have : (orb f x).length = per f x := by unfold orb; simp
  rw [e] at this
  simp at this
  omega
end

/-- The order whose cycles these are. -/
structure Nx (n : Nat) (ms : List (List Nat)) (g : Nat → Nat) : Prop where
  on : ∀ c, c ∈ ms → ∀ k z, c[k]? = some z → c[(k + 1) % c.length]? = some (g z)
  off : ∀ x, x < n → x ∉ ms.flatten → g x = x

/-- What Of asks. -/
structure Cs (n : Nat) (ms : List (List Nat)) : Prop where
  ne : ∀ c, c ∈ ms → c ≠ []
  lt : ∀ x, x ∈ ms.flatten → x < n
  nd : ms.flatten.Nodup

theorem Nx.uniq {n : Nat} {ms : List (List Nat)} {g g' : Nat → Nat} (h : Nx n ms g) (k : Nx n ms g') : ∀ x, x < n → g x = g' x := fun x hx => by
  by_cases hm : x ∈ ms.flatten
  · obtain ⟨c, hc, hm⟩ := List.mem_flatten.1 hm
    obtain ⟨j, hj⟩ := List.getElem?_of_mem hm
    have := (h.on c hc j x hj).symm.trans (k.on c hc j x hj)
    exact Option.some.inj this
  · rw [h.off x hx hm, k.off x hx hm]

theorem Pm.cs {n : Nat} {f : Nat → Nat} (h : Pm n f) : Cs n (cyc f n) := by
  refine ⟨fun c hc => ?_, fun x hx => h.cyc_mem_lt (Nat.le_refl _) hx, h.cyc_nodup n (Nat.le_refl _)⟩
  obtain ⟨z, hz, rfl⟩ := h.cyc_lt n (Nat.le_refl _) hc
  exact h.orb_ne hz

theorem Pm.nx {n : Nat} {f : Nat → Nat} (h : Pm n f) : Nx n (cyc f n) f := by
  refine ⟨fun c hc k z hk => ?_, fun x hx hm => absurd (h.cyc_all hx) hm⟩
  obtain ⟨y, hy, rfl⟩ := h.cyc_lt n (Nat.le_refl _) hc
  exact h.orb_next hy hk


/-- The images of s and t, changed for each other. -/
def swp (f : Nat → Nat) (s t : Nat) : Nat → Nat := fun x => if x = s then f t else if x = t then f s else f x

theorem swp_s (f : Nat → Nat) (s t : Nat) : swp f s t s = f t := by simp [swp]
theorem swp_t (f : Nat → Nat) (s t : Nat) : swp f s t t = f s := by
  unfold swp
  by_cases h : t = s
  · rw [if_pos h, h]
  · rw [if_neg h, if_pos rfl]
theorem swp_o {f : Nat → Nat} {s t x : Nat} (h1 : x ≠ s) (h2 : x ≠ t) : swp f s t x = f x := by simp [swp, h1, h2]

theorem swp_swp (f : Nat → Nat) {s t : Nat} (hst : s ≠ t) : swp (swp f s t) s t = f := by
  funext x
  by_cases h1 : x = s
  · subst h1; rw [swp_s, swp_t]
  · by_cases h2 : x = t
    · subst h2; rw [swp_t, swp_s]
    · rw [swp_o h1 h2, swp_o h1 h2]

theorem swp_comm (f : Nat → Nat) (s t : Nat) : swp f s t = swp f t s := by
  funext x
  by_cases h1 : x = s
  · subst h1; rw [swp_s, swp_t]
  · by_cases h2 : x = t
    · subst h2; rw [swp_t, swp_s]
    · rw [swp_o h1 h2, swp_o h2 h1]

theorem Pm.swp {n : Nat} {f : Nat → Nat} (h : Pm n f) {s t : Nat} (hs : s < n) (ht : t < n) : Pm n (swp f s t) := by
  refine ⟨fun x hx => ?_, fun x y hx hy e => ?_⟩
  · unfold Pq.swp
    split
    · exact h.1 _ ht
    · split
      · exact h.1 _ hs
      · exact h.1 _ hx
  · have inj : ∀ a b, a < n → b < n → f a = f b → a = b := fun a b ha hb => h.2 a b ha hb
    unfold Pq.swp at e
    split at e
    · rename_i hxs
      split at e
      · omega
      · split at e
        · have := inj _ _ ht hs e; omega
        · have := inj _ _ ht hy e; omega
    · split at e
      · rename_i hxt
        split at e
        · have := inj _ _ hs ht e; omega
        · split at e
          · omega
          · have := inj _ _ hs hy e; omega
      · split at e
        · have := inj _ _ hx ht e; omega
        · split at e
          · have := inj _ _ hx hs e; omega
          · exact inj _ _ hx hy e

/-- Of one cycle. -/
def Of1 (f : Nat → Nat) (x y : Nat) : Prop := ∃ k, it f k x = y

theorem Of1.refl (f : Nat → Nat) (x : Nat) : Of1 f x x := ⟨0, rfl⟩
theorem Of1.trans {f : Nat → Nat} {x y z : Nat} (h : Of1 f x y) (k : Of1 f y z) : Of1 f x z := by
  obtain ⟨a, rfl⟩ := h
  obtain ⟨b, rfl⟩ := k
  exact ⟨b + a, it_add f b a x⟩
theorem Pm.sym {n : Nat} {f : Nat → Nat} (h : Pm n f) {x y : Nat} (hx : x < n) (k : Of1 f x y) : Of1 f y x := by
  obtain ⟨a, rfl⟩ := k
  obtain ⟨j, hj⟩ := h.it_back hx rfl
  exact ⟨j, hj⟩
theorem Of1.step (f : Nat → Nat) (x : Nat) : Of1 f x (f x) := ⟨1, rfl⟩
theorem Pm.of_lt {n : Nat} {f : Nat → Nat} (h : Pm n f) {x y : Nat} (hx : x < n) (k : Of1 f x y) : y < n := by
  obtain ⟨a, rfl⟩ := k
  exact h.it_lt hx a

/-- On the way to s, t not being met, both go alike. -/
theorem way {f : Nat → Nat} {s t : Nat} : ∀ (k x : Nat), it f k x = s → (∀ j, it f j x ≠ t) → Of1 (swp f s t) x s
  | 0, x, e, _ => by subst e; exact Of1.refl _ _
  | k + 1, x, e, hn => by
    by_cases hx : x = s
    · subst hx; exact Of1.refl _ _
    · have hxt : x ≠ t := fun q => hn 0 q
      have e' : it f k (f x) = s := by rw [it_f]; exact e
      have ih := way k (f x) e' (fun j => by rw [it_f]; exact hn (j + 1))
      exact Of1.trans (by have := Of1.step (swp f s t) x; rw [swp_o hx hxt] at this; exact this) ih

section
variable {n : Nat} {f : Nat → Nat} (h : Pm n f) {s t : Nat} (hs : s < n) (ht : t < n) (hno : ¬ Of1 f s t)
include h hs ht hno

omit hs ht in
theorem Pm.join_s {x : Nat} (hx : x < n) (k : Of1 f x s) : Of1 (Pq.swp f s t) x s := by
  obtain ⟨a, e⟩ := k
  refine way a x e (fun j q => hno ?_)
  exact (h.sym hx ⟨a, e⟩).trans ⟨j, q⟩

omit hs ht in
theorem Pm.join_t {x : Nat} (hx : x < n) (k : Of1 f x t) : Of1 (Pq.swp f s t) x t := by
  obtain ⟨a, e⟩ := k
  rw [swp_comm]
  refine way a x e (fun j q => hno ?_)
  exact (h.sym hx ⟨j, q⟩).trans ⟨a, e⟩

omit hs in
theorem Pm.join_st : Of1 (Pq.swp f s t) s t := by
  have h1 : Of1 (Pq.swp f s t) s (f t) := by have := Of1.step (Pq.swp f s t) s; rw [swp_s] at this; exact this
  exact h1.trans (h.join_t hno (h.1 t ht) (h.sym ht (Of1.step f t)))

omit hs in
theorem Pm.join_all {x : Nat} (hx : x < n) (k : Of1 f x s ∨ Of1 f x t) : Of1 (Pq.swp f s t) x t := by
  rcases k with k | k
  · exact (h.join_s hno hx k).trans (h.join_st ht hno)
  · exact h.join_t hno hx k

/-- What is of one cycle now. -/
theorem Pm.join_iff {x y : Nat} (hx : x < n) (hy : y < n) : Of1 (Pq.swp f s t) x y ↔ Of1 f x y ∨ ((Of1 f x s ∨ Of1 f x t) ∧ (Of1 f y s ∨ Of1 f y t)) := by
  have hg := h.swp hs ht
  by_cases hm : Of1 f x s ∨ Of1 f x t
  · constructor
    · rintro ⟨k, rfl⟩
      refine .inr ⟨hm, ?_⟩
      clear hy
      induction k with
      | zero => exact hm
      | succ k ih =>
        have hz := hg.it_lt hx k
        show Of1 f (Pq.swp f s t (it (Pq.swp f s t) k x)) s ∨ Of1 f (Pq.swp f s t (it (Pq.swp f s t) k x)) t
        generalize it (Pq.swp f s t) k x = z at *
        by_cases h1 : z = s
        · subst h1; rw [swp_s]; exact .inr (h.sym ht (Of1.step f t))
        · by_cases h2 : z = t
          · subst h2; rw [swp_t]; exact .inl (h.sym hs (Of1.step f s))
          · rw [swp_o h1 h2]
            have := h.sym hz (Of1.step f z)
            rcases ih with ih | ih
            · exact .inl (this.trans ih)
            · exact .inr (this.trans ih)
    · rintro (k | ⟨_, k⟩)
      · have hm' : Of1 f y s ∨ Of1 f y t := by
          have := h.sym hx k
          rcases hm with q | q
          · exact .inl (this.trans q)
          · exact .inr (this.trans q)
        exact (h.join_all ht hno hx hm).trans (hg.sym hy (h.join_all ht hno hy hm'))
      · exact (h.join_all ht hno hx hm).trans (hg.sym hy (h.join_all ht hno hy k))
  · have e : ∀ k, it (Pq.swp f s t) k x = it f k x := fun k => by
      induction k with
      | zero => rfl
      | succ k ih =>
        show Pq.swp f s t (it (Pq.swp f s t) k x) = f (it f k x)
        rw [ih]
        exact swp_o (fun q => hm (.inl ⟨k, q⟩)) (fun q => hm (.inr ⟨k, q⟩))
    constructor
    · rintro ⟨k, q⟩; exact .inl ⟨k, by rw [← e]; exact q⟩
    · rintro (⟨k, q⟩ | ⟨q, _⟩)
      · exact ⟨k, by rw [e]; exact q⟩
      · exact absurd q hm
end

/-- One cycle falls apart. -/
theorem Pm.parted {n : Nat} {f : Nat → Nat} (h : Pm n f) {s t : Nat} (hs : s < n) (ht : t < n) (hst : s ≠ t) (ho : Of1 f s t) : ¬ Of1 (Pq.swp f s t) s t := by
  intro k
  have hg := h.swp hs ht
  have k' := hg.sym hs k
  obtain ⟨d, hp, _⟩ := h.exper hs
  obtain ⟨k0, e0⟩ := ho
  have e1 : it f (k0 % d) s = t := by rw [← hp.mod]; exact e0
  have hkd : k0 % d < d := Nat.mod_lt _ hp.pos
  have hk0 : k0 % d ≠ 0 := fun q => hst (by rw [q] at e1; exact e1)
  generalize k0 % d = m at *
  have inv : ∀ j, ∃ i, 1 ≤ i ∧ i ≤ m ∧ it (Pq.swp f s t) j t = it f i s := fun j => by
    induction j with
    | zero => exact ⟨m, by omega, Nat.le_refl _, e1.symm⟩
    | succ j ih =>
      obtain ⟨i, i1, i2, ei⟩ := ih
      show ∃ i, 1 ≤ i ∧ i ≤ m ∧ Pq.swp f s t (it (Pq.swp f s t) j t) = it f i s
      rw [ei]
      by_cases him : i = m
      · refine ⟨1, by omega, by omega, ?_⟩
        rw [him, e1, swp_t]
        rfl
      · refine ⟨i + 1, by omega, by omega, ?_⟩
        rw [swp_o]
        · rfl
        · intro q
          have := h.apart hs hp (i := i) (j := 0) (by omega) hp.pos q
          omega
        · intro q
          exact him (h.apart hs hp (by omega) hkd (q.trans e1.symm))
  obtain ⟨j, ej⟩ := k'
  obtain ⟨i, i1, i2, ei⟩ := inv j
  have := h.apart hs hp (i := i) (j := 0) (by omega) hp.pos (ei.symm.trans ej)
  omega

open Classical in
/-- How many cycles. -/
noncomputable def cn (n : Nat) (f : Nat → Nat) : Nat := (List.range n).countP (fun x => decide (lst f x))

theorem lst_of {f : Nat → Nat} {x : Nat} : lst f x ↔ ∀ y, Of1 f x y → x ≤ y := by
  unfold lst Of1
  constructor
  · rintro h y ⟨k, rfl⟩; exact h k
  · intro h k; exact h _ ⟨k, rfl⟩

theorem Pm.least {n : Nat} {f : Nat → Nat} (h : Pm n f) {x : Nat} (hx : x < n) : ∃ y, Of1 f x y ∧ lst f y ∧ y < n := by
  have : ∀ k, ∀ x, x < n → x ≤ k → ∃ y, Of1 f x y ∧ lst f y ∧ y < n := fun k => by
    induction k with
    | zero => intro x hx hk; exact ⟨x, Of1.refl _ _, fun j => by omega, hx⟩
    | succ k ih =>
      intro x hx hk
      by_cases hl : lst f x
      · exact ⟨x, Of1.refl _ _, hl, hx⟩
      · obtain ⟨j, hj⟩ := Classical.not_forall.1 hl
        obtain ⟨y, y1, y2⟩ := ih (it f j x) (h.it_lt hx j) (by omega)
        exact ⟨y, Of1.trans ⟨j, rfl⟩ y1, y2⟩
  exact this x x hx (Nat.le_refl _)

theorem count_one {p q : Nat → Bool} : ∀ {n m : Nat}, m < n → p m = true → q m = false → (∀ x, x < n → x ≠ m → p x = q x) → (List.range n).countP p = (List.range n).countP q + 1
  | 0, m, h, _, _, _ => by omega
  | n + 1, m, h, h1, h2, h3 => by
    rw [List.range_succ, List.countP_append, List.countP_append, List.countP_singleton, List.countP_singleton]
    by_cases e : m = n
    · subst e
      rw [h1, h2]
      have : (List.range m).countP p = (List.range m).countP q := by
        refine List.countP_congr (fun x hx => ?_)
        have := List.mem_range.1 hx
        rw [h3 x (by omega) (by omega)]
      simp [this]
    · have ih := count_one (n := n) (m := m) (by omega) h1 h2 (fun x hx => h3 x (by omega))
      rw [ih, h3 n (by omega) (fun q => e q.symm)]
      omega

theorem Pm.cn_join {n : Nat} {f : Nat → Nat} (h : Pm n f) {s t : Nat} (hs : s < n) (ht : t < n) (hno : ¬ Of1 f s t) : cn n f = cn n (Pq.swp f s t) + 1 := by
  classical
  have hg := h.swp hs ht
  obtain ⟨a, a1, a2, a3⟩ := h.least hs
  obtain ⟨b, b1, b2, b3⟩ := h.least ht
  have hab : ¬ Of1 f a b := fun q => hno (a1.trans (q.trans (h.sym ht b1)))
  have hne : a ≠ b := fun q => hab (q ▸ Of1.refl f a)
  have ga : Of1 f a s := h.sym hs a1
  have gb : Of1 f b t := h.sym ht b1
  have hj := fun {x y : Nat} (hx : x < n) (hy : y < n) => h.join_iff hs ht hno hx hy
  -- the greater one of the two least ones
  have main : ∀ m o : Nat, m < n → o < n → lst f m → lst f o → o < m → (Of1 f m s ∨ Of1 f m t) → (Of1 f o s ∨ Of1 f o t) → (∀ x, x < n → lst f x → (Of1 f x s ∨ Of1 f x t) → x = m ∨ x = o) → cn n f = cn n (Pq.swp f s t) + 1 := by
    intro m o hm ho lm lo hlt cm co hall
    unfold cn
    refine count_one hm (by simpa using lm) ?_ (fun x hx hxm => ?_)
    · simp only [decide_eq_false_iff_not]
      intro q
      have := (lst_of.1 q) o ((hj hm ho).2 (.inr ⟨cm, co⟩))
      omega
    · by_cases hl : lst f x
      · simp only [hl, decide_true]
        refine (decide_eq_true ?_).symm
        refine lst_of.2 (fun y hy => ?_)
        have hyn := hg.of_lt hx hy
        rcases (hj hx hyn).1 hy with q | ⟨q1, q2⟩
        · exact lst_of.1 hl y q
        · rcases hall x hx hl q1 with e | e
          · exact absurd e hxm
          · subst e
            obtain ⟨z, z1, z2, z3⟩ := h.least hyn
            have hz : Of1 f z s ∨ Of1 f z t := by
              have := h.sym hyn z1
              rcases q2 with q2 | q2
              · exact .inl (this.trans q2)
              · exact .inr (this.trans q2)
            have hzy : z ≤ y := lst_of.1 z2 y (h.sym hyn z1)
            rcases hall z z3 z2 hz with e | e
            · omega
            · omega
      · simp only [hl, decide_false]
        refine (decide_eq_false ?_).symm
        intro q
        apply hl
        refine lst_of.2 (fun y hy => lst_of.1 q y ?_)
        exact (hj hx (h.of_lt hx hy)).2 (.inl hy)
  have uni : ∀ x, x < n → lst f x → (Of1 f x s ∨ Of1 f x t) → x = a ∨ x = b := by
    intro x hx hl k
    rcases k with k | k
    · have q : Of1 f x a := k.trans a1
      have e1 := lst_of.1 hl a q
      have e2 := lst_of.1 a2 x (h.sym hx q)
      exact .inl (by omega)
    · have q : Of1 f x b := k.trans b1
      have e1 := lst_of.1 hl b q
      have e2 := lst_of.1 b2 x (h.sym hx q)
      exact .inr (by omega)
  rcases Nat.lt_or_gt_of_ne hne with hlt | hlt
  · exact main b a b3 a3 b2 a2 hlt (.inr gb) (.inl ga) (fun x hx hl k => (uni x hx hl k).symm)
  · exact main a b a3 b3 a2 b2 hlt (.inl ga) (.inr gb) uni

theorem Pm.cn_part {n : Nat} {f : Nat → Nat} (h : Pm n f) {s t : Nat} (hs : s < n) (ht : t < n) (hst : s ≠ t) (ho : Of1 f s t) : cn n (Pq.swp f s t) = cn n f + 1 := by
  have := (h.swp hs ht).cn_join hs ht (h.parted hs ht hst ho)
  rw [swp_swp f hst] at this
  exact this

end Go.Proofs.YtieglcjfphmglaaDoor.Pq
