/- Groups as trees, and what they tell: plain mathematics. -/
namespace Go.Proofs.Ytnlbpjppkfenkaa
set_option linter.unusedVariables false

structure Mb where
  up : Nat
  size : Nat
  least : Nat

abbrev Tb := Nat → Mb

def alone (x : Nat) : Mb := ⟨x, 1, x⟩

def upd (T : Tb) (i : Nat) (m : Mb) : Tb := fun j => if j = i then m else T j
theorem upd_same {T : Tb} {i : Nat} {m : Mb} : upd T i m i = m := by simp [upd]
theorem upd_ne {T : Tb} {i j : Nat} {m : Mb} (h : j ≠ i) : upd T i m j = T j := by simp [upd, h]

/-- One top hung on another one. -/
def hangT (T : Tb) (o u : Nat) : Tb := upd (upd T u ⟨o, (T u).size, (T u).least⟩) o ⟨(T o).up, (T o).size + (T u).size, min (T o).least (T u).least⟩

theorem hang_o {T : Tb} {o u : Nat} : hangT T o u o = ⟨(T o).up, (T o).size + (T u).size, min (T o).least (T u).least⟩ := upd_same
theorem hang_u {T : Tb} {o u : Nat} (h : o ≠ u) : hangT T o u u = ⟨o, (T u).size, (T u).least⟩ := by unfold hangT; rw [upd_ne (Ne.symm h), upd_same]
theorem hang_ne {T : Tb} {o u j : Nat} (h : j ≠ o) (k : j ≠ u) : hangT T o u j = T j := by unfold hangT; rw [upd_ne h, upd_ne k]

/-- How many below n. -/
def cnt (p : Nat → Bool) : Nat → Nat
  | 0 => 0
  | n + 1 => cnt p n + (if p n then 1 else 0)

theorem cnt_congr {p q : Nat → Bool} : ∀ {n : Nat}, (∀ x, x < n → p x = q x) → cnt p n = cnt q n
  | 0, _ => rfl
  | n + 1, h => by unfold cnt; rw [cnt_congr (fun x hx => h x (by omega)), h n (by omega)]

theorem cnt_le (p : Nat → Bool) : ∀ (n : Nat), cnt p n ≤ n
  | 0 => Nat.le_refl _
  | n + 1 => by unfold cnt; have := cnt_le p n; split <;> omega

theorem cnt_two {p q r : Nat → Bool} : ∀ {n : Nat}, (∀ x, x < n → p x = (q x || r x) ∧ ¬ (q x = true ∧ r x = true)) → cnt p n = cnt q n + cnt r n
  | 0, _ => rfl
  | n + 1, h => by
    unfold cnt
    rw [cnt_two (fun x hx => h x (by omega))]
    have ⟨h1, h2⟩ := h n (by omega)
    cases hq : q n <;> cases hr : r n <;> simp [h1, hq, hr] at h2 ⊢ <;> omega

theorem cnt_none {p : Nat → Bool} : ∀ {n : Nat}, (∀ x, x < n → p x = false) → cnt p n = 0
  | 0, _ => rfl
  | n + 1, h => by unfold cnt; rw [cnt_none (fun x hx => h x (by omega)), h n (by omega)]; rfl

theorem cnt_one {i : Nat} : ∀ {n : Nat}, i < n → cnt (fun x => x == i) n = 1
  | 0, h => by omega
  | n + 1, h => by
    unfold cnt
    by_cases e : i = n
    · subst e
      rw [cnt_none (fun x hx => by simp; omega)]
      simp
    · rw [cnt_one (by omega), if_neg (by simp; omega)]

theorem cnt_pos {p : Nat → Bool} {i : Nat} : ∀ {n : Nat}, i < n → p i = true → 1 ≤ cnt p n
  | 0, h, _ => by omega
  | n + 1, h, hp => by
    unfold cnt
    by_cases e : i = n
    · subst e; simp [hp]
    · have := cnt_pos (p := p) (n := n) (by omega) hp; omega

theorem cnt_all {p : Nat → Bool} : ∀ {n : Nat}, (∀ x, x < n → p x = true) → cnt p n = n
  | 0, _ => rfl
  | n + 1, h => by unfold cnt; rw [cnt_all (fun x hx => h x (by omega)), h n (by omega)]; rfl

/-- The labels (each member's group's least one) when two groups are one. -/
def jn (f : Nat → Nat) (a b : Nat) : Nat → Nat := fun x => if f x = max (f a) (f b) then min (f a) (f b) else f x

theorem jn_comm (f : Nat → Nat) (a b : Nat) : jn f a b = jn f b a := by
  funext x; unfold jn; rw [Nat.max_comm, Nat.min_comm]

theorem jn_of {f : Nat → Nat} {a b c d : Nat} (h : f a = f c) (k : f b = f d) : jn f a b = jn f c d := by unfold jn; rw [h, k]

/-- Trees with their tops r and depths d tell the labels f. -/
structure Ok (n : Nat) (T : Tb) (r d f : Nat → Nat) : Prop where
  top : ∀ x, x < n → r x < n
  upn : ∀ x, x < n → (T x).up < n
  upr : ∀ x, x < n → r (T x).up = r x
  rr : ∀ x, x < n → r (r x) = r x
  self : ∀ x, x < n → ((T x).up = x ↔ r x = x)
  d0 : ∀ x, x < n → (T x).up = x → d x = 0
  ds : ∀ x, x < n → (T x).up ≠ x → d x = d (T x).up + 1
  size : ∀ x, x < n → (T (r x)).size = cnt (fun y => f y == f x) n
  least : ∀ x, x < n → (T (r x)).least = f x
  same : ∀ x y, x < n → y < n → (f x = f y ↔ r x = r y)
  fle : ∀ x, x < n → f x ≤ x
  ff : ∀ x, x < n → f (f x) = f x

theorem Ok.new (n : Nat) : Ok n alone (fun x => x) (fun _ => 0) (fun x => x) where
  top := fun x h => h
  upn := fun x h => h
  upr := fun x h => rfl
  rr := fun x h => rfl
  self := fun x h => by simp [alone]
  d0 := fun x h _ => rfl
  ds := fun x h e => absurd rfl e
  size := fun x h => (cnt_one h).symm
  least := fun x h => rfl
  same := fun x y _ _ => Iff.rfl
  fle := fun x h => Nat.le_refl _
  ff := fun x h => rfl

theorem Ok.isTop {n : Nat} {T : Tb} {r d f : Nat → Nat} (h : Ok n T r d f) {x : Nat} (hx : x < n) : (T (r x)).up = r x := (h.self _ (h.top x hx)).2 (h.rr x hx)
theorem Ok.fr {n : Nat} {T : Tb} {r d f : Nat → Nat} (h : Ok n T r d f) {x : Nat} (hx : x < n) : f (r x) = f x := (h.same _ _ (h.top x hx) hx).2 (h.rr x hx)
theorem Ok.size1 {n : Nat} {T : Tb} {r d f : Nat → Nat} (h : Ok n T r d f) {x : Nat} (hx : x < n) : 1 ≤ (T (r x)).size ∧ (T (r x)).size ≤ n := by
  rw [h.size x hx]
  exact ⟨cnt_pos hx (by simp), cnt_le _ _⟩
theorem Ok.two {n : Nat} {T : Tb} {r d f : Nat → Nat} (h : Ok n T r d f) {x y : Nat} (hx : x < n) (hy : y < n) (hne : f x ≠ f y) : (T (r x)).size + (T (r y)).size ≤ n := by
  rw [h.size x hx, h.size y hy, ← cnt_two (p := fun z => f z == f x || f z == f y) (fun z _ => ⟨rfl, fun ⟨h1, h2⟩ => by simp at h1 h2; exact hne (h1.symm.trans h2)⟩)]
  exact cnt_le _ _

theorem pickF {a b p q : Nat} (ne : p ≠ q) : ((if a = max p q then min p q else a) = (if b = max p q then min p q else b)) ↔ (a = b ∨ ((a = p ∨ a = q) ∧ (b = p ∨ b = q))) := by
  rcases Nat.le_total p q with h | h
  · rw [Nat.max_eq_right h, Nat.min_eq_left h]; split <;> split <;> omega
  · rw [Nat.max_eq_left h, Nat.min_eq_right h]; split <;> split <;> omega

theorem pickR {a b o u : Nat} : ((if a = u then o else a) = (if b = u then o else b)) ↔ (a = b ∨ ((a = o ∨ a = u) ∧ (b = o ∨ b = u))) := by
  split <;> split <;> omega

theorem Ok.hang {n : Nat} {T : Tb} {r d f : Nat → Nat} (h : Ok n T r d f) {o u : Nat} (ho : o < n) (hu : u < n) (to : (T o).up = o) (tu : (T u).up = u) (ne : o ≠ u) :
    ∃ r' d', Ok n (hangT T o u) r' d' (jn f o u) := by
  have ro : r o = o := (h.self o ho).1 to
  have ru : r u = u := (h.self u hu).1 tu
  have dob := h.d0 o ho to
  have dub := h.d0 u hu tu
  have fne : f o ≠ f u := fun e => ne (by have := (h.same o u ho hu).1 e; omega)
  have fo : ∀ x, x < n → (f x = f o ↔ r x = o) := fun x hx => by rw [h.same x o hx ho, ro]
  have fu : ∀ x, x < n → (f x = f u ↔ r x = u) := fun x hx => by rw [h.same x u hx hu, ru]
  have so := h.size o ho
  have su := h.size u hu
  rw [ro] at so
  rw [ru] at su
  have lo := h.least o ho
  have lu := h.least u hu
  rw [ro] at lo
  rw [ru] at lu
  have up' : ∀ x, (hangT T o u x).up = if x = u then o else (T x).up := fun x => by
    by_cases e : x = u
    · subst e; rw [hang_u ne]; simp
    · by_cases e2 : x = o
      · subst e2; rw [hang_o]; simp [e]
      · rw [hang_ne e2 e]; simp [e]
  refine ⟨fun x => if r x = u then o else r x, fun x => if r x = u then d x + 1 else d x, ?_⟩
  constructor
  · intro x hx
    try simp only []
    split
    · exact ho
    · exact h.top x hx
  · intro x hx
    rw [up']
    split
    · exact ho
    · exact h.upn x hx
  · intro x hx
    rw [up']
    by_cases e : x = u
    · subst e; simp [ro, ru, ne]
    · simp only [e, if_false]
      rw [h.upr x hx]
  · intro x hx
    by_cases e : r x = u
    · simp [e, ro, ne]
    · simp [e, h.rr x hx]
  · intro x hx
    rw [up']
    by_cases e : x = u
    · subst e; simp [ru]
    · simp only [e, if_false]
      by_cases e2 : r x = u
      · simp only [e2, if_true]
        rw [h.self x hx, e2]
        constructor
        · intro k; exact absurd k.symm e
        · intro k; exact absurd (k ▸ e2) (by rw [ro]; exact ne)
      · simp only [e2, if_false]
        exact h.self x hx
  · intro x hx
    rw [up']
    by_cases e : x = u
    · subst e; simp [ne]
    · simp only [e, if_false]
      intro k
      have := (h.self x hx).1 k
      rw [if_neg (by omega)]
      exact h.d0 x hx k
  · intro x hx
    rw [up']
    by_cases e : x = u
    · subst e
      simp [ro, ru, ne, dob, dub]
    · simp only [e, if_false]
      intro k
      rw [h.upr x hx, h.ds x hx k]
      split <;> rfl
  · intro x hx
    try simp only []
    have base : ∀ y, y < n → (r y = o ∨ r y = u) → jn f o u y = min (f o) (f u) := fun y hy hr => by
      unfold jn
      rcases hr with hr | hr
      · have := (fo y hy).2 hr; split <;> omega
      · have := (fu y hy).2 hr; split <;> omega
    have other : ∀ y, y < n → ¬ (r y = o ∨ r y = u) → jn f o u y = f y := fun y hy hr => by
      unfold jn
      have h1 : f y ≠ f o := fun e => hr (Or.inl ((fo y hy).1 e))
      have h2 : f y ≠ f u := fun e => hr (Or.inr ((fu y hy).1 e))
      rw [if_neg (by omega)]
    by_cases e : r x = o ∨ r x = u
    · rw [show (if r x = u then o else r x) = o by split; rfl; omega, hang_o]
      simp only []
      rw [so, su, base x hx e]
      refine (cnt_two (fun y hy => ?_)).symm
      by_cases ey : r y = o ∨ r y = u
      · rw [base y hy ey]
        refine ⟨?_, fun ⟨k1, k2⟩ => by simp at k1 k2; exact fne (k1.symm.trans k2)⟩
        rcases ey with k | k
        · simp [(fo y hy).2 k]
        · simp [(fu y hy).2 k]
      · rw [other y hy ey]
        have h1 : f y ≠ f o := fun e => ey (Or.inl ((fo y hy).1 e))
        have h2 : f y ≠ f u := fun e => ey (Or.inr ((fu y hy).1 e))
        refine ⟨?_, fun ⟨k1, _⟩ => by simp at k1; exact h1 k1⟩
        have h3 : f y ≠ min (f o) (f u) := by omega
        rw [beq_false_of_ne h1, beq_false_of_ne h2, beq_false_of_ne h3]
        rfl
    · rw [show (if r x = u then o else r x) = r x by split; omega; rfl, hang_ne (fun k => e (Or.inl k)) (fun k => e (Or.inr k)), h.size x hx, other x hx e]
      refine cnt_congr (fun y hy => ?_)
      by_cases ey : r y = o ∨ r y = u
      · rw [base y hy ey]
        have h1 : f x ≠ f o := fun k => e (Or.inl ((fo x hx).1 k))
        have h2 : f x ≠ f u := fun k => e (Or.inr ((fu x hx).1 k))
        have h3 : f y ≠ f x := by
          rcases ey with k | k
          · have := (fo y hy).2 k; omega
          · have := (fu y hy).2 k; omega
        have h4 : min (f o) (f u) ≠ f x := by omega
        rw [beq_false_of_ne h3, beq_false_of_ne h4]
      · rw [other y hy ey]
  · intro x hx
    try simp only []
    by_cases e : r x = o ∨ r x = u
    · rw [show (if r x = u then o else r x) = o by split; rfl; omega, hang_o]
      simp only []
      rw [lo, lu]
      unfold jn
      rcases e with k | k
      · have := (fo x hx).2 k; split <;> omega
      · have := (fu x hx).2 k; split <;> omega
    · rw [show (if r x = u then o else r x) = r x by split; omega; rfl, hang_ne (fun k => e (Or.inl k)) (fun k => e (Or.inr k)), h.least x hx]
      unfold jn
      have h1 : f x ≠ f o := fun k => e (Or.inl ((fo x hx).1 k))
      have h2 : f x ≠ f u := fun k => e (Or.inr ((fu x hx).1 k))
      rw [if_neg (by omega)]
  · intro x y hx hy
    unfold jn
    rw [pickF fne, pickR, fo x hx, fu x hx, fo y hy, fu y hy, h.same x y hx hy]
  · intro x hx
    have := h.fle x hx
    unfold jn
    split <;> omega
  · intro x hx
    have k1 := h.ff o ho
    have k2 := h.ff u hu
    have k3 := h.ff x hx
    unfold jn
    by_cases e : f x = max (f o) (f u)
    · rw [if_pos e]
      rcases Nat.le_total (f o) (f u) with k | k
      · rw [Nat.min_eq_left k, if_neg (by omega)]; exact k1
      · rw [Nat.min_eq_right k, if_neg (by omega)]; exact k2
    · rw [if_neg e, if_neg (by omega)]
      exact k3

/-- How many groups. -/
def fix (n : Nat) (f : Nat → Nat) : Nat := cnt (fun x => f x == x) n

theorem fix_jn {n : Nat} {T : Tb} {r d f : Nat → Nat} (h : Ok n T r d f) {o u : Nat} (ho : o < n) (hu : u < n) (fne : f o ≠ f u) : fix n f = fix n (jn f o u) + 1 := by
  have l1 := h.fle o ho
  have l2 := h.fle u hu
  have k1 := h.ff o ho
  have k2 := h.ff u hu
  have kM : f (max (f o) (f u)) = max (f o) (f u) := by
    rcases Nat.le_total (f o) (f u) with k | k
    · rw [Nat.max_eq_right k]; exact k2
    · rw [Nat.max_eq_left k]; exact k1
  have km : f (min (f o) (f u)) = min (f o) (f u) := by
    rcases Nat.le_total (f o) (f u) with k | k
    · rw [Nat.min_eq_left k]; exact k1
    · rw [Nat.min_eq_right k]; exact k2
  rw [← cnt_one (i := max (f o) (f u)) (n := n) (by omega)]
  unfold fix
  refine cnt_two (fun x hx => ?_)
  have h3 := h.ff x hx
  by_cases e : x = max (f o) (f u)
  · have h1 : f x = x := by rw [e]; exact kM
    have h2 : jn f o u x ≠ x := by unfold jn; rw [h1, if_pos e]; omega
    constructor
    · simp [h1, ← e]
    · rintro ⟨k, _⟩; simp at k; exact h2 k
  · have h2 : (jn f o u x = x) ↔ (f x = x) := by
      unfold jn
      by_cases e2 : f x = max (f o) (f u)
      · rw [if_pos e2]
        constructor
        · intro k; rw [← k, km] at e2; omega
        · intro k; omega
      · rw [if_neg e2]
    constructor
    · rw [Bool.eq_iff_iff]; simp [h2, e]
    · rintro ⟨_, k⟩; simp at k; exact e k

/-- All that was, the newest first. -/
inductive Hi (n : Nat) : Tb → List (Nat × Nat) → List (Nat → Nat) → Prop
  | new : Hi n alone [] [fun x => x]
  | join {T : Tb} {js : List (Nat × Nat)} {f : Nat → Nat} {fs : List (Nat → Nat)} (o u : Nat) (h : Hi n T js (f :: fs)) (ho : o < n) (hu : u < n) (to : (T o).up = o) (tu : (T u).up = u) (ne : o ≠ u) :
      Hi n (hangT T o u) (js ++ [(u, (T o).least)]) (jn f o u :: f :: fs)

theorem Hi.ok {n : Nat} {T : Tb} {js : List (Nat × Nat)} {hs : List (Nat → Nat)} (h : Hi n T js hs) : ∃ f fs r d, hs = f :: fs ∧ Ok n T r d f ∧ fix n f + js.length = n ∧ fs.length = js.length := by
  induction h with
  | new => exact ⟨_, _, _, _, rfl, Ok.new n, by unfold fix; rw [cnt_all (fun x _ => by simp)]; rfl, rfl⟩
  | join o u h ho hu to tu ne ih =>
    obtain ⟨f, fs, r, d, e, h1, h2, h3⟩ := ih
    obtain ⟨rfl, rfl⟩ : _ = f ∧ _ = fs := by simpa using e
    obtain ⟨r', d', h4⟩ := h1.hang ho hu to tu ne
    have fne : ¬ _ = _ := fun e => ne (by have := (h1.same o u ho hu).1 e; rw [(h1.self o ho).1 to, (h1.self u hu).1 tu] at this; exact this)
    have := fix_jn h1 ho hu fne
    exact ⟨_, _, r', d', rfl, h4, by simp; omega, by simp; omega⟩

/-- A join undone. -/
def undoT (T : Tb) (u l : Nat) : Tb := upd (upd T (T u).up ⟨(T (T u).up).up, (T (T u).up).size - (T u).size, l⟩) u ⟨u, (T u).size, (T u).least⟩

theorem undo_hang {T : Tb} {o u : Nat} (to : (T o).up = o) (tu : (T u).up = u) (ne : o ≠ u) : undoT (hangT T o u) u (T o).least = T := by
  have hu := hang_u (T := T) ne
  have ho := hang_o (T := T) (o := o) (u := u)
  unfold undoT
  rw [hu]
  simp only []
  rw [ho]
  simp only []
  funext j
  by_cases e : j = u
  · subst e
    rw [upd_same]
    show Mb.mk j _ _ = T j
    conv => lhs; arg 1; rw [← tu]
  · rw [upd_ne e]
    by_cases e2 : j = o
    · subst e2
      rw [upd_same, Nat.add_sub_cancel]
    · rw [upd_ne e2, hang_ne e2 e]

/-- What the last join was. -/
theorem Hi.last {n : Nat} {T : Tb} {js : List (Nat × Nat)} {hs : List (Nat → Nat)} (h : Hi n T js hs) (hj : 0 < js.length) :
    ∃ u l f hs' js', js = js' ++ [(u, l)] ∧ hs = f :: hs' ∧ u < n ∧ (T u).up < n ∧ (T u).up ≠ u ∧ (T (T u).up).up = (T u).up ∧ 1 ≤ (T u).size ∧ (T u).size + 1 ≤ (T (T u).up).size ∧ (T (T u).up).size ≤ n ∧ l < n ∧ (T (T u).up).least < n ∧ Hi n (undoT T u l) js' hs' := by
  cases h with
  | new => simp at hj
  | @join T0 js0 f0 fs0 o u h ho hu to tu ne =>
    have e1 : (hangT T0 o u u).up = o := by rw [hang_u ne]
    have e2 := hang_o (T := T0) (o := o) (u := u)
    obtain ⟨f, fs, r, d, e, h1, h2, h3⟩ := h.ok
    have ro : r o = o := (h1.self o ho).1 to
    have ru : r u = u := (h1.self u hu).1 tu
    have so := h1.size1 ho
    have su := h1.size1 hu
    rw [ro] at so
    rw [ru] at su
    have fne : f o ≠ f u := fun e => ne (by have := (h1.same o u ho hu).1 e; omega)
    have s2 := h1.two ho hu fne
    rw [ro, ru] at s2
    have lo := h1.least o ho
    have lu := h1.least u hu
    rw [ro] at lo
    rw [ru] at lu
    have l1 := h1.fle o ho
    have l2 := h1.fle u hu
    refine ⟨u, (T0 o).least, _, _, _, rfl, rfl, hu, by rw [e1]; exact ho, by rw [e1]; exact ne, by rw [e1, e2]; exact to, by rw [hang_u ne]; exact su.1, ?_, ?_, by omega, ?_, by rw [undo_hang to tu ne]; exact h⟩
    · rw [e1, e2, hang_u ne]; simp only []; omega
    · rw [e1, e2]; simp only []; omega
    · rw [e1, e2]; simp only []; omega

/-- What stands below a label. -/
theorem cnt_lt_succ {n : Nat} {f : Nat → Nat} (x : Nat) : cnt (fun y => decide (f y < x + 1)) n = cnt (fun y => decide (f y < x)) n + cnt (fun y => f y == x) n := by
  refine cnt_two (fun y _ => ⟨?_, fun ⟨h1, h2⟩ => ?_⟩)
  · rw [Bool.eq_iff_iff]; simp; omega
  · simp at h1 h2; omega

end Go.Proofs.Ytnlbpjppkfenkaa
