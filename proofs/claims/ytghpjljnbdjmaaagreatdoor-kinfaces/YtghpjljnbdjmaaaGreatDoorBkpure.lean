/- Walks over the darts that are laid, and how far they lead: plain mathematics. The tour round trees that grow, and the bridges that it finds: plain mathematics. -/
import Derived.Test.YtghpjljnbdjmaaaGreatDoorBface
import Derived.Test.YtghpjljnbdjmaaaGreatDoorBpure
import Derived.Test.YtghpjljnbdjmaaaGreatDoorBtakes
namespace Go.Proofs.YtghpjljnbdjmaaaGreatDoor
set_option linter.unusedVariables false

/-- A dart that is laid, of an edge that is gone over. -/
def Gn (V : Nat) (R : Nat → List Nat) (e : Int) (d : Nat) : Prop := In V R d ∧ ((d / 2 : Nat) : Int) ≠ e

/-- A walk of so many darts. -/
def Wk (V : Nat) (R : Nat → List Nat) (e : Int) : Nat → Nat → Nat → Prop
  | 0, x, y => x = y
  | n + 1, x, z => ∃ d, Gn V R e d ∧ Wk V R e n x (og V R d) ∧ og V R (tw d) = z

/-- What hangs together. -/
def Kn (V : Nat) (R : Nat → List Nat) (e : Int) (x y : Nat) : Prop := ∃ n, Wk V R e n x y

theorem tw_half (d : Nat) : tw d / 2 = d / 2 := by unfold tw; split <;> omega

theorem half_eq {a b : Nat} (h : a / 2 = b / 2) : a = b ∨ a = tw b := by unfold tw; split <;> omega

theorem even_tw (d : Nat) : (d = 2 * (d / 2) ∧ tw d = 2 * (d / 2) + 1) ∨ (d = 2 * (d / 2) + 1 ∧ tw d = 2 * (d / 2)) := by unfold tw; split <;> omega

section
variable {V E : Nat} {R : Nat → List Nat} {e : Int}

theorem Gn.tw (h : Tn V E R) (t : Tw V E R) {d : Nat} (g : Gn V R e d) : Gn V R e (tw d) := ⟨g.1.tw h t, by rw [tw_half]; exact g.2⟩

theorem Wk.trans {x y : Nat} {m : Nat} (a : Wk V R e m x y) : ∀ {n z : Nat}, Wk V R e n y z → Wk V R e (m + n) x z
  | 0, z, b => by obtain rfl : y = z := b; exact a
  | n + 1, z, ⟨d, g, b, q⟩ => ⟨d, g, Wk.trans a b, q⟩

theorem Wk.one {d : Nat} (g : Gn V R e d) : Wk V R e 1 (og V R d) (og V R (tw d)) := ⟨d, g, rfl, rfl⟩

theorem Wk.symm (h : Tn V E R) (t : Tw V E R) : ∀ {n x y : Nat}, Wk V R e n x y → Wk V R e n y x
  | 0, x, y, a => Eq.symm a
  | n + 1, x, y, ⟨d, g, b, q⟩ => by
    have o := Wk.one (g.tw h t)
    rw [tw_tw, q] at o
    have := o.trans (Wk.symm h t b)
    rw [Nat.add_comm] at this
    exact this

theorem Wk.lt (h : Tn V E R) (t : Tw V E R) {n x y : Nat} (a : Wk V R e n x y) (hx : x < V) : y < V := by
  cases n with
  | zero => obtain rfl : x = y := a; exact hx
  | succ n => obtain ⟨d, g, b, rfl⟩ := a; exact (og_is (g.1.tw h t)).1

theorem Kn.refl (x : Nat) : Kn V R e x x := ⟨0, rfl⟩
theorem Kn.trans {x y z : Nat} (a : Kn V R e x y) (b : Kn V R e y z) : Kn V R e x z := by
  obtain ⟨m, a⟩ := a; obtain ⟨n, b⟩ := b; exact ⟨m + n, a.trans b⟩
theorem Kn.symm (h : Tn V E R) (t : Tw V E R) {x y : Nat} (a : Kn V R e x y) : Kn V R e y x := by
  obtain ⟨n, a⟩ := a; exact ⟨n, a.symm h t⟩
theorem Kn.one {d : Nat} (g : Gn V R e d) : Kn V R e (og V R d) (og V R (tw d)) := ⟨1, Wk.one g⟩

/-- What is closed under the darts holds on all that hangs together. -/
theorem Kn.into {P : Nat → Prop} (hP : ∀ d, Gn V R e d → P (og V R d) → P (og V R (tw d))) {x y : Nat} (a : Kn V R e x y) (hx : P x) : P y := by
  obtain ⟨n, a⟩ := a
  induction n generalizing y with
  | zero => obtain rfl : x = y := a; exact hx
  | succ n ih => obtain ⟨d, g, b, rfl⟩ := a; exact hP d g (ih b)

/-- All edges: the components. -/
theorem kn_lb (h : Tn V E R) (t : Tw V E R) {x y : Nat} : Kn V R (-1) x y ↔ lb V E R x = lb V E R y := by
  constructor
  · intro a
    exact Kn.into (P := fun z => lb V E R x = lb V E R z) (fun d g q => q.trans (con_tw h t g.1)) a rfl
  · intro q
    rw [lb_con] at q
    induction q with
    | refl x => exact Kn.refl x
    | edge i hi =>
      obtain ⟨h1, h2⟩ := mem_es.1 hi
      have := Kn.one (V := V) (R := R) (e := -1) (d := 2 * i) ⟨h2, by omega⟩
      rw [tw_even] at this
      exact this
    | symm _ ih => exact ih.symm h t
    | trans _ _ i1 i2 => exact i1.trans i2

/-- Without an edge: as if it were lifted. -/
theorem kn_lift (h : Tn V E R) (t : Tw V E R) {e : Nat} {x y : Nat} : Kn V R (e : Int) x y ↔ lb V E (liftR R e) x = lb V E (liftR R e) y := by
  have hl := h.lift t (e := e)
  rw [← kn_lb hl.1 hl.2.1]
  have key : ∀ d, Gn V R (e : Int) d ↔ Gn V (liftR R e) (-1) d := fun d => by
    unfold Gn
    rw [hl.2.2]
    constructor
    · rintro ⟨q1, q2⟩
      have : d / 2 ≠ e := fun c => q2 (by omega)
      exact ⟨⟨q1, by omega, by omega⟩, by omega⟩
    · rintro ⟨⟨q1, q2, q3⟩, _⟩
      exact ⟨q1, by omega⟩
  constructor
  · intro a
    refine Kn.into (P := fun z => Kn V (liftR R e) (-1) x z) (fun d g q => ?_) a (Kn.refl x)
    have g' := (key d).1 g
    have o := Kn.one g'
    rw [og_lift h g'.1, og_lift h (g'.1.tw hl.1 hl.2.1)] at o
    exact q.trans o
  · intro a
    refine Kn.into (P := fun z => Kn V R (e : Int) x z) (fun d g q => ?_) a (Kn.refl x)
    have o := Kn.one ((key d).2 g)
    rw [← og_lift h g.1, ← og_lift h (g.1.tw hl.1 hl.2.1)] at o
    exact q.trans o

/-- Where all is gone over one way, the lesser set of darts goes less far. -/
theorem Kn.more {e' : Int} (hq : ∀ d, Gn V R e d → Gn V R e' d) {x y : Nat} (a : Kn V R e x y) : Kn V R e' x y :=
  Kn.into (P := fun z => Kn V R e' x z) (fun d g q => q.trans (Kn.one (hq d g))) a (Kn.refl x)

/-- An edge without which its ends don't hang together. -/
def Br (V : Nat) (R : Nat → List Nat) (e : Nat) : Prop := ¬ Kn V R (e : Int) (og V R (2 * e)) (og V R (2 * e + 1))

theorem br_lb (h : Tn V E R) (t : Tw V E R) {e : Nat} : Br V R e ↔ lb V E (liftR R e) (og V R (2 * e)) ≠ lb V E (liftR R e) (og V R (2 * e + 1)) := by
  unfold Br; rw [kn_lift h t]

/-- The same, of either dart. -/
theorem br_dart (h : Tn V E R) (t : Tw V E R) (d : Nat) : Br V R (d / 2) ↔ ¬ Kn V R ((d / 2 : Nat) : Int) (og V R d) (og V R (tw d)) := by
  unfold Br
  rcases even_tw d with ⟨a, b⟩ | ⟨a, b⟩
  · rw [b, ← a]
  · rw [b, ← a]
    exact ⟨fun q k => q (k.symm h t), fun q k => q (k.symm h t)⟩

/-- How far: the fewest darts. -/
def Dn (V : Nat) (R : Nat → List Nat) (e : Int) (o x n : Nat) : Prop := Wk V R e n o x ∧ ∀ m, Wk V R e m o x → n ≤ m

theorem Dn.uniq {o x n m : Nat} (a : Dn V R e o x n) (b : Dn V R e o x m) : n = m := Nat.le_antisymm (a.2 _ b.1) (b.2 _ a.1)

theorem Kn.dn {o x : Nat} (a : Kn V R e o x) : ∃ n, Dn V R e o x n := by
  classical
  obtain ⟨n, a⟩ := a
  induction n using Nat.strongRecOn with
  | ind n ih =>
    by_cases q : ∃ m, m < n ∧ Wk V R e m o x
    · obtain ⟨m, hm, b⟩ := q; exact ih m hm b
    · exact ⟨n, a, fun m b => Nat.not_lt.1 (fun hm => q ⟨m, hm, b⟩)⟩

theorem Dn.zero {o x : Nat} : Dn V R e o x 0 ↔ o = x := ⟨fun a => a.1, fun a => ⟨a, fun m _ => Nat.zero_le _⟩⟩

/-- Over a dart it is at most one farther. -/
theorem Dn.step {o d n m : Nat} (g : Gn V R e d) (a : Dn V R e o (og V R d) n) (b : Dn V R e o (og V R (tw d)) m) : m ≤ n + 1 :=
  b.2 _ ⟨d, g, a.1, rfl⟩

/-- From what is away a dart leads nearer. -/
theorem Dn.back (h : Tn V E R) (t : Tw V E R) {o x n : Nat} (a : Dn V R e o x (n + 1)) : ∃ d, Gn V R e d ∧ og V R d = x ∧ Dn V R e o (og V R (tw d)) n := by
  obtain ⟨⟨d, g, b, rfl⟩, hm⟩ := a
  refine ⟨tw d, g.tw h t, rfl, ?_, fun m c => ?_⟩
  · rw [tw_tw]; exact b
  · rw [tw_tw] at c
    have := hm (m + 1) ⟨d, g, c, rfl⟩
    omega
end

section
variable {V E : Nat} {R : Nat → List Nat} {e : Int} {o : Nat}

/-- A walk to the nearest ones first: where it stands: the list, how far each is away, which one is at hand, and which of its darts were looked at. -/
structure Bf (V : Nat) (R : Nat → List Nat) (e : Int) (o : Nat) (l : List Nat) (g : Nat → Nat) (k : Nat) (ds : List Nat) : Prop where
  nd : l.Nodup
  hd : l[0]? = some o
  g0 : g o = 0
  bd : ∀ (i x : Nat), l[i]? = some x → g x ≤ i
  wk : ∀ x, x ∈ l → Wk V R e (g x) o x
  mono : ∀ (i j x y : Nat), i ≤ j → l[i]? = some x → l[j]? = some y → g x ≤ g y
  lev : ∀ x, x ∈ l → ∀ v, l[k]? = some v → g x ≤ g v + 1
  old : ∀ (i u d : Nat), i < k → l[i]? = some u → Gn V R e d → og V R d = u → og V R (tw d) ∈ l ∧ g (og V R (tw d)) ≤ g u + 1
  cur : ∀ d, d ∈ ds → Gn V R e d → og V R (tw d) ∈ l ∧ g (og V R (tw d)) ≤ g (og V R d) + 1

def updN (g : Nat → Nat) (x n : Nat) : Nat → Nat := fun y => if y = x then n else g y
theorem updN_same (g : Nat → Nat) (x n : Nat) : updN g x n x = n := by simp [updN]
theorem updN_ne (g : Nat → Nat) {x y : Nat} (n : Nat) (h : y ≠ x) : updN g x n y = g y := by simp [updN, h]

theorem Bf.start (g : Nat → Nat) : Bf V R e o [o] (updN g o 0) 0 [] where
  nd := by simp
  hd := rfl
  g0 := updN_same _ _ _
  bd := fun i x hi => by
    have h1 : i = 0 := by have := (List.getElem?_eq_some_iff.1 hi).1; simp at this; omega
    subst h1
    obtain rfl : o = x := by simpa using hi
    rw [updN_same]; exact Nat.le_refl _
  wk := fun x hx => by
    obtain rfl : x = o := by simpa using hx
    rw [updN_same]; rfl
  mono := fun i j x y hij hi hj => by
    have h1 : i = 0 := by have := (List.getElem?_eq_some_iff.1 hi).1; simp at this; omega
    have h2 : j = 0 := by have := (List.getElem?_eq_some_iff.1 hj).1; simp at this; omega
    subst h1; subst h2
    rw [hi] at hj
    rw [Option.some.inj hj]
    exact Nat.le_refl _
  lev := fun x hx v hv => by
    obtain rfl : x = o := by simpa using hx
    rw [updN_same]; omega
  old := fun i u d hi => by omega
  cur := fun d hd => by simp at hd

variable {l ds : List Nat} {g : Nat → Nat} {k : Nat}

theorem Bf.see (h : Bf V R e o l g k ds) {d : Nat} (hv : l[k]? = some (og V R d)) (ht : Gn V R e d → og V R (tw d) ∈ l) : Bf V R e o l g k (ds ++ [d]) := by
  refine { h with cur := fun x hx gx => ?_ }
  rcases List.mem_append.1 hx with q | q
  · exact h.cur x q gx
  · obtain rfl : x = d := by simpa using q
    exact ⟨ht gx, h.lev _ (ht gx) _ hv⟩

theorem Bf.push (h : Bf V R e o l g k ds) {d : Nat} (hv : l[k]? = some (og V R d)) (gd : Gn V R e d) (hn : og V R (tw d) ∉ l) : Bf V R e o (l ++ [og V R (tw d)]) (updN g (og V R (tw d)) (g (og V R d) + 1)) k (ds ++ [d]) := by
  have hk : k < l.length := (List.getElem?_eq_some_iff.1 hv).1
  have hvl : og V R d ∈ l := List.mem_of_getElem? hv
  have kp : ∀ x, x ∈ l → updN g (og V R (tw d)) (g (og V R d) + 1) x = g x := fun x hx => updN_ne _ _ (fun c => hn (c ▸ hx))
  have at_ : ∀ (i x : Nat), (l ++ [og V R (tw d)])[i]? = some x → (l[i]? = some x ∧ x ∈ l) ∨ (i = l.length ∧ x = og V R (tw d)) := fun i x hx => by
    rcases Nat.lt_or_ge i l.length with q | q
    · rw [List.getElem?_append_left q] at hx
      exact .inl ⟨hx, List.mem_of_getElem? hx⟩
    · rw [List.getElem?_append_right q] at hx
      have hl := (List.getElem?_eq_some_iff.1 hx).1
      simp at hl
      have : i = l.length := by omega
      subst this
      simp at hx
      exact .inr ⟨rfl, hx.symm⟩
  have hvv : (l ++ [og V R (tw d)])[k]? = some (og V R d) := by rw [List.getElem?_append_left hk]; exact hv
  have gl : ∀ x, x ∈ l → g x ≤ g (og V R d) + 1 := fun x hx => h.lev x hx _ hv
  constructor
  · exact List.nodup_append.2 ⟨h.nd, by simp, fun a ha b hb => by simp at hb; rintro rfl; exact hn (hb ▸ ha)⟩
  · rw [List.getElem?_append_left (by omega)]; exact h.hd
  · rw [kp o (List.mem_of_getElem? h.hd)]; exact h.g0
  · intro i x hi
    rcases at_ i x hi with ⟨a1, a2⟩ | ⟨a1, a2⟩
    · rw [kp x a2]; exact h.bd i x a1
    · rw [a2, updN_same]; have := h.bd k _ hv; omega
  · intro x hx
    rcases List.mem_append.1 hx with q | q
    · rw [kp x q]; exact h.wk x q
    · obtain rfl : x = og V R (tw d) := by simpa using q
      rw [updN_same]
      exact ⟨d, gd, h.wk _ hvl, rfl⟩
  · intro i j x y hij hi hj
    rcases at_ i x hi with ⟨a1, a2⟩ | ⟨a1, a2⟩
    · rcases at_ j y hj with ⟨b1, b2⟩ | ⟨b1, b2⟩
      · rw [kp x a2, kp y b2]; exact h.mono i j x y hij a1 b1
      · rw [kp x a2, b2, updN_same]; exact gl x a2
    · rcases at_ j y hj with ⟨b1, b2⟩ | ⟨b1, b2⟩
      · have := (List.getElem?_eq_some_iff.1 b1).1; omega
      · rw [a2, b2]; exact Nat.le_refl _
  · intro x hx v hv'
    rw [hvv] at hv'
    obtain rfl := Option.some.inj hv'
    rw [kp _ hvl]
    rcases List.mem_append.1 hx with q | q
    · rw [kp x q]; exact gl x q
    · obtain rfl : x = og V R (tw d) := by simpa using q
      rw [updN_same]; exact Nat.le_refl _
  · intro i u d' hi hu gd' ho
    rcases at_ i u hu with ⟨a1, a2⟩ | ⟨a1, a2⟩
    · obtain ⟨q1, q2⟩ := h.old i u d' hi a1 gd' ho
      rw [kp _ q1, kp _ a2]
      exact ⟨List.mem_append_left _ q1, q2⟩
    · omega
  · intro x hx gx
    rcases List.mem_append.1 hx with q | q
    · obtain ⟨q1, q2⟩ := h.cur x q gx
      refine ⟨List.mem_append_left _ q1, ?_⟩
      rw [kp _ q1]
      by_cases c : og V R x = og V R (tw d)
      · rw [c, updN_same]; rw [c] at q2; have := gl _ q1; omega
      · rw [updN_ne _ _ c]; exact q2
    · obtain rfl : x = d := by simpa using q
      refine ⟨List.mem_append_right _ (by simp), ?_⟩
      rw [updN_same, kp _ hvl]
      exact Nat.le_refl _

theorem Bf.next (h : Bf V R e o l g k ds) {v : Nat} (hv : l[k]? = some v) (hall : ∀ d, Gn V R e d → og V R d = v → d ∈ ds) : Bf V R e o l g (k + 1) [] :=
  { h with
    lev := fun x hx v' hv' => by
      have h1 := h.lev x hx v hv
      have h2 := h.mono k (k + 1) v v' (Nat.le_succ _) hv hv'
      omega
    old := fun i u d hi hu gd ho => by
      rcases Nat.lt_or_ge i k with q | q
      · exact h.old i u d q hu gd ho
      · obtain rfl : i = k := by omega
        rw [hv] at hu
        obtain rfl := Option.some.inj hu
        have := h.cur d (hall d gd ho) gd
        rw [ho] at this
        exact this
    cur := fun d hd => by simp at hd }

/-- Up to the distance of the one at hand all is known. -/
theorem Bf.exact (h : Bf V R e o l g k ds) {v : Nat} (hv : l[k]? = some v) : ∀ (n x : Nat), n ≤ g v → Wk V R e n o x → x ∈ l ∧ g x ≤ n
  | 0, x, _, a => by
    obtain rfl : o = x := a
    exact ⟨List.mem_of_getElem? h.hd, by rw [h.g0]; exact Nat.le_refl _⟩
  | n + 1, x, hn, ⟨d, gd, b, q⟩ => by
    obtain ⟨h1, h2⟩ := Bf.exact h hv n _ (by omega) b
    obtain ⟨i, hi⟩ := List.getElem?_of_mem h1
    have hik : i < k := Nat.not_le.1 (fun c => by
      have := h.mono k i v _ c hv hi
      omega)
    obtain ⟨h3, h4⟩ := h.old i _ d hik hi gd rfl
    rw [q] at h3 h4
    exact ⟨h3, by omega⟩

/-- At the end all is known. -/
theorem Bf.done (h : Bf V R e o l g k ds) (hk : l.length ≤ k) : ∀ (n x : Nat), Wk V R e n o x → x ∈ l ∧ g x ≤ n
  | 0, x, a => by
    obtain rfl : o = x := a
    exact ⟨List.mem_of_getElem? h.hd, by rw [h.g0]; exact Nat.le_refl _⟩
  | n + 1, x, ⟨d, gd, b, q⟩ => by
    obtain ⟨h1, h2⟩ := Bf.done h hk n _ b
    obtain ⟨i, hi⟩ := List.getElem?_of_mem h1
    have hil : i < l.length := (List.getElem?_eq_some_iff.1 hi).1
    obtain ⟨h3, h4⟩ := h.old i _ d (by omega) hi gd rfl
    rw [q] at h3 h4
    exact ⟨h3, by omega⟩

/-- What such a walk, to a goal or to the end, has found. -/
structure Sp (V : Nat) (R : Nat → List Nat) (e : Int) (o : Nat) (a : Int) (l : List Nat) (g : Nat → Nat) : Prop where
  nd : l.Nodup
  hd : l[0]? = some o
  bd : ∀ (i x : Nat), l[i]? = some x → g x ≤ i
  wk : ∀ x, x ∈ l → Wk V R e (g x) o x
  near : ∀ (x n y : Nat), x ∈ l → Wk V R e n o y → n < g x → y ∈ l ∧ g y ≤ n
  fin : (∀ (n y : Nat), Wk V R e n o y → y ∈ l ∧ g y ≤ n) ∨ ∃ b : Nat, a = (b : Int) ∧ b ∈ l

theorem Bf.stop (h : Bf V R e o l g k ds) {v b : Nat} (hv : l[k]? = some v) (hb : b ∈ l) : Sp V R e o (b : Int) l g :=
  ⟨h.nd, h.hd, h.bd, h.wk, fun x n y hx a hn => h.exact hv n y (by have := h.lev x hx v hv; omega) a, .inr ⟨b, rfl, hb⟩⟩
theorem Bf.full (h : Bf V R e o l g k ds) (hk : l.length ≤ k) (a : Int) : Sp V R e o a l g :=
  ⟨h.nd, h.hd, h.bd, h.wk, fun x n y hx w hn => h.done hk n y w, .inl (fun n y w => h.done hk n y w)⟩
theorem Sp.self (g : Nat → Nat) : Sp V R e o (o : Int) [o] (updN g o 0) :=
  (Bf.start (V := V) (R := R) (e := e) (o := o) g).stop (v := o) rfl (by simp)

theorem Sp.dn {a : Int} (h : Sp V R e o a l g) {x : Nat} (hx : x ∈ l) : Dn V R e o x (g x) :=
  ⟨h.wk x hx, fun m w => Nat.not_lt.1 (fun c => by have := h.near x m x hx w c; omega)⟩

theorem Sp.mem {a : Int} (h : Sp V R e o a l g) (ha : ∀ b : Nat, a ≠ (b : Int)) {x : Nat} : x ∈ l ↔ Kn V R e o x := by
  constructor
  · exact fun hx => ⟨_, h.wk x hx⟩
  · rintro ⟨n, w⟩
    rcases h.fin with q | ⟨b, q, _⟩
    · exact (q n x w).1
    · exact absurd q (ha b)

theorem Sp.goal {b : Nat} (h : Sp V R e o (b : Int) l g) : b ∈ l ↔ Kn V R e o b := by
  constructor
  · exact fun hx => ⟨_, h.wk b hx⟩
  · rintro ⟨n, w⟩
    rcases h.fin with q | ⟨b', q, hb⟩
    · exact (q n b w).1
    · obtain rfl : b = b' := by omega
      exact hb

theorem Bf.lt (h : Tn V E R) (t : Tw V E R) (ho : o < V) (q : Bf V R e o l g k ds) {x : Nat} (hx : x ∈ l) : x < V := (q.wk x hx).lt h t ho
theorem Sp.lt {a : Int} (h : Tn V E R) (t : Tw V E R) (ho : o < V) (q : Sp V R e o a l g) {x : Nat} (hx : x ∈ l) : x < V := (q.wk x hx).lt h t ho
end

section
variable {V E : Nat} {R : Nat → List Nat} {b : Nat}

/-- The least dart of a vertex that leads to where it is n away. -/
def Nd (V : Nat) (R : Nat → List Nat) (b v n d : Nat) : Prop := d ∈ R v ∧ Dn V R (-1) b (og V R (tw d)) n ∧ ∀ x, x ∈ R v → Dn V R (-1) b (og V R (tw x)) n → d ≤ x

theorem Nd.uniq {v n d d' : Nat} (h : Nd V R b v n d) (k : Nd V R b v n d') : d = d' := Nat.le_antisymm (h.2.2 _ k.1 k.2.1) (k.2.2 _ h.1 h.2.1)

/-- The road of so many darts, by the least ones. -/
def Rd (V : Nat) (R : Nat → List Nat) (b : Nat) : Nat → Nat → List Nat → Prop
  | 0, v, l => v = b ∧ l = []
  | n + 1, v, l => ∃ d l', l = d :: l' ∧ Nd V R b v n d ∧ Rd V R b n (og V R (tw d)) l'

theorem Rd.uniq : ∀ {n v : Nat} {l k : List Nat}, Rd V R b n v l → Rd V R b n v k → l = k
  | 0, v, l, k, h, q => by rw [h.2, q.2]
  | n + 1, v, l, k, ⟨d, l', h1, h2, h3⟩, ⟨d', k', q1, q2, q3⟩ => by
    obtain rfl := h2.uniq q2
    rw [h1, q1, Rd.uniq h3 q3]

theorem Rd.len : ∀ {n v : Nat} {l : List Nat}, Rd V R b n v l → l.length = n
  | 0, v, l, h => by rw [h.2]; rfl
  | n + 1, v, l, ⟨d, l', h1, h2, h3⟩ => by rw [h1, List.length_cons, Rd.len h3]

/-- One dart farther. -/
theorem Rd.snoc {n m a v d : Nat} {out : List Nat} (h : ∀ r, Rd V R b (m + 1) v r → Rd V R b n a (out ++ r)) (k : Nd V R b v m d) : ∀ r, Rd V R b m (og V R (tw d)) r → Rd V R b n a ((out ++ [d]) ++ r) := fun r q => by
  rw [List.append_assoc]
  exact h _ ⟨d, r, rfl, k, q⟩
end

end Go.Proofs.YtghpjljnbdjmaaaGreatDoor

namespace Go.Proofs.YtghpjljnbdjmaaaGreatDoor
set_option linter.unusedVariables false

/-- Round a vertex: what was looked at begins at its first dart. -/
theorem round_all {V E : Nat} {R : Nat → List Nat} (ht : Tn V E R) {v s z : Nat} {D : List Nat} (hv : v < V) (hs : s ∈ R v) (bk : ∀ d, d ∈ R v → vx V R d ∈ D → d ∈ D ∨ vx V R d = s) (hz : z ∈ R v) (hD : z ∈ D) :
    (vx V R z = s → ∀ x, x ∈ R v → x ∈ D) ∧ (∀ t, t ∈ R v → vx V R z = t → vx V R t = s → ∀ x, x ∈ R v → x ∈ D ∨ x = t) := by
  have hn := ht.nd v hv
  have hpos : 0 < (R v).length := List.length_pos_of_mem hs
  have vxi : ∀ d, d ∈ R v → vx V R d = nx (R v) d := fun d hd => vx_at ht hv hd
  have itm := itn_mem hn hs
  have dist : ∀ i j, i < (R v).length → j < (R v).length → itn (nx (R v)) i s = itn (nx (R v)) j s → i = j := fun i j hi hj e => by
    have a := itn_get hn hs i hi
    have b := itn_get hn hs j hj
    rw [e] at a
    have nd := rot_nd (x := s) hn
    have li : i < (rot (R v) s).length := by rw [rot_len]; exact hi
    have lj : j < (rot (R v) s).length := by rw [rot_len]; exact hj
    rw [List.getElem?_eq_getElem li] at a
    rw [List.getElem?_eq_getElem lj] at b
    have ee : (rot (R v) s)[i] = (rot (R v) s)[j] := by rw [Option.some.inj a, Option.some.inj b]
    rcases Nat.lt_trichotomy i j with q | q | q
    · exact absurd ee ((List.pairwise_iff_getElem.1 nd) i j li lj q)
    · exact q
    · exact absurd ee.symm ((List.pairwise_iff_getElem.1 nd) j i lj li q)
  have down : ∀ m, m < (R v).length → itn (nx (R v)) m s ∈ D → ∀ i, i ≤ m → itn (nx (R v)) i s ∈ D := fun m => by
    induction m with
    | zero => intro _ h i hi; obtain rfl : i = 0 := by omega
              exact h
    | succ m ih =>
      intro hm h i hi
      rcases Nat.lt_or_ge i (m + 1) with q | q
      · refine ih (by omega) ?_ i (by omega)
        rcases bk _ (itm m) (by rw [vxi _ (itm m)]; exact h) with q1 | q1
        · exact q1
        · rw [vxi _ (itm m)] at q1
          have := dist (m + 1) 0 hm hpos q1
          omega
      · obtain rfl : i = m + 1 := by omega
        exact h
  have last : ∀ t, t ∈ R v → vx V R t = s → itn (nx (R v)) ((R v).length - 1) s = t := fun t h1 h2 => by
    obtain ⟨k, hk, rfl⟩ := itn_all hn hs h1
    rw [vxi _ h1] at h2
    rcases Nat.lt_or_ge (k + 1) (R v).length with q | q
    · have := dist (k + 1) 0 q hpos h2
      omega
    · have : (R v).length - 1 = k := by omega
      rw [this]
  have all_ : vx V R z = s → ∀ x, x ∈ R v → x ∈ D := fun e x hx => by
    have h1 := last z hz e
    obtain ⟨k, hk, rfl⟩ := itn_all hn hs hx
    exact down ((R v).length - 1) (by omega) (by rw [h1]; exact hD) k (by omega)
  refine ⟨all_, fun t h1 h2 h3 x hx => ?_⟩
  have h4 := last t h1 h3
  obtain ⟨k, hk, e⟩ := itn_all hn hs hz
  rcases Nat.lt_or_ge (k + 1) (R v).length with q | q
  · have h5 : itn (nx (R v)) (k + 1) s = t := by
      show nx (R v) (itn (nx (R v)) k s) = t
      rw [e, ← vxi z hz]; exact h2
    have h6 := dist (k + 1) ((R v).length - 1) q (by omega) (h5.trans h4.symm)
    obtain ⟨j, hj, rfl⟩ := itn_all hn hs hx
    rcases Nat.lt_or_ge j (k + 1) with q1 | q1
    · exact .inl (down k hk (by rw [e]; exact hD) j (by omega))
    · obtain rfl : j = k + 1 := by omega
      exact .inr h5
  · have : (R v).length - 1 = k := by omega
    rw [this, e] at h4
    subst h4
    exact .inl (all_ h3 x hx)

/-- Where the tour stands: the darts that were looked at; of each vertex its place (0: none), the lowest place, by which dart one goes back, which dart is its first one, whether it is the first of a tree; the edges of trees; the bridges; the vertices that the tour is on its way back to; those that it has met. -/
structure Gs where
  D : List Nat
  pl : Nat → Nat
  lw : Nat → Nat
  gr : Nat → Bool
  c : Nat
  bs : List Nat
  up : Nat → Nat
  sd : Nat → Nat
  rt : Nat → Bool
  st : List Nat
  rl : List Nat

/-- The way back. -/
def Sk (V : Nat) (R : Nat → List Nat) (g : Gs) (r : Nat) : List Nat → Prop
  | [] => True
  | [v] => v = r
  | v :: u :: b => g.rt v = false ∧ og V R (tw (g.up v)) = u ∧ (vx V R (tw (g.up v)) ∈ g.D → vx V R (tw (g.up v)) = g.sd u) ∧ Sk V R g r (u :: b)

/-- Met from a vertex on the way back on, ahead of the next one on it. -/
def Part (g : Gs) (v x : Nat) : Prop := g.pl v ≤ g.pl x ∧ ∀ u, u ∈ g.st → g.pl v < g.pl u → g.pl x < g.pl u

/-- What is kept of the lowest place. -/
structure Lwo (V : Nat) (R : Nat → List Nat) (g : Gs) (v : Nat) : Prop where
  le : g.lw v ≤ g.pl v
  all : ∀ d, d ∈ g.D → g.gr (d / 2) = false → Part g v (og V R d) → g.lw v ≤ g.pl (og V R (tw d))
  ex : g.lw v = g.pl v ∨ ∃ d, d ∈ g.D ∧ g.gr (d / 2) = false ∧ Part g v (og V R d) ∧ g.lw v = g.pl (og V R (tw d))

structure Tq (V E : Nat) (R : Nat → List Nat) (g : Gs) (r : Nat) : Prop where
  rnd : g.rl.Nodup
  rlen : g.rl.length = g.c
  rmem : ∀ x, x ∈ g.rl ↔ g.pl x ≠ 0
  rlt : ∀ x, g.pl x ≠ 0 → x < V
  inj : ∀ x y, g.pl x ≠ 0 → g.pl x = g.pl y → x = y
  le : ∀ x, g.pl x ≤ g.c
  dnd : g.D.Nodup
  din : ∀ d, d ∈ g.D → In V R d ∧ g.pl (og V R d) ≠ 0 ∧ g.pl (og V R (tw d)) ≠ 0
  grw : ∀ e, g.gr e = true ↔ ∃ x, g.pl x ≠ 0 ∧ g.rt x = false ∧ e = g.up x / 2
  up_ : ∀ x, g.pl x ≠ 0 → g.rt x = false → In V R (g.up x) ∧ og V R (g.up x) = x ∧ g.pl (og V R (tw (g.up x))) ≠ 0 ∧ g.pl (og V R (tw (g.up x))) < g.pl x ∧ tw (g.up x) ∈ g.D ∧ g.sd x = vx V R (g.up x)
  sd_ : ∀ x, g.pl x ≠ 0 → In V R (g.sd x) ∧ og V R (g.sd x) = x
  bk : ∀ d, In V R d → vx V R d ∈ g.D → d ∈ g.D ∨ vx V R d = g.sd (og V R d)
  fin : ∀ x, g.pl x ≠ 0 → x ∉ g.st → ∀ d, In V R d → og V R d = x → d ∈ g.D
  stp : ∀ x, x ∈ g.st → g.pl x ≠ 0
  sk : Sk V R g r g.st
  root : g.st ≠ [] → r ∈ g.st ∧ g.rt r = true
  old : g.st ≠ [] → ∀ d, In V R d → g.pl (og V R d) ≠ 0 → g.pl (og V R d) < g.pl r → g.pl (og V R (tw d)) ≠ 0 ∧ g.pl (og V R (tw d)) < g.pl r
  above : ∀ v x, v ∈ g.st → g.pl v < g.pl x → g.rt x = false ∧ g.pl v ≤ g.pl (og V R (tw (g.up x)))
  low : ∀ v, v ∈ g.st → Lwo V R g v
  nb : ∀ d, d ∈ g.D → g.gr (d / 2) = false → ¬ Br V R (d / 2)
  b1 : ∀ x, g.pl x ≠ 0 → g.rt x = false → x ∉ g.st → (g.up x / 2 ∈ g.bs ↔ Br V R (g.up x / 2))
  b2 : ∀ e, e ∈ g.bs → ∃ x, g.pl x ≠ 0 ∧ g.rt x = false ∧ x ∉ g.st ∧ e = g.up x / 2
  bnd : g.bs.Nodup

/-- The dart at hand. -/
structure Cu (V : Nat) (R : Nat → List Nat) (g : Gs) (d : Nat) : Prop where
  in_ : In V R d
  top : ∃ b, g.st = og V R d :: b
  new : d ∉ g.D
  prev : d = g.sd (og V R d) ∨ ∃ z, In V R z ∧ vx V R z = d ∧ z ∈ g.D

/-- The end of a round. -/
structure Fi (V : Nat) (R : Nat → List Nat) (g : Gs) (r d : Nat) : Prop where
  at_ : d = g.sd r
  top : g.st = [r]
  prev : ∃ z, In V R z ∧ vx V R z = d ∧ z ∈ g.D

theorem Sk.congr {V E : Nat} {R : Nat → List Nat} (ht : Tn V E R) {g g' : Gs} {r : Nat} : ∀ (st : List Nat), (∀ x, x ∈ st → g'.up x = g.up x ∧ g'.sd x = g.sd x ∧ g'.rt x = g.rt x) → (∀ x, x ∈ st → g.rt x = false → In V R (tw (g.up x))) → (∀ z, z ∈ g'.D → og V R z ∈ st.tail → z ∈ g.D) → Sk V R g r st → Sk V R g' r st
  | [], _, _, _, h => h
  | [v], _, _, _, h => h
  | v :: u :: b, h1, h2, h3, ⟨q1, q2, q3, q4⟩ => by
    obtain ⟨a1, a2, a3⟩ := h1 v (by simp)
    refine ⟨a3.trans q1, by rw [a1]; exact q2, fun hm => ?_, Sk.congr ht (u :: b) (fun x hx => h1 x (List.mem_cons_of_mem _ hx)) (fun x hx => h2 x (List.mem_cons_of_mem _ hx)) (fun z hz ho => h3 z hz (List.mem_cons_of_mem _ (by simpa using ho))) q4⟩
    rw [a1] at hm ⊢
    rw [(h1 u (by simp)).2.1]
    refine q3 (h3 _ hm ?_)
    rw [vx_og ht (h2 v (by simp) q1), q2]
    simp

section
variable {V E : Nat} {R : Nat → List Nat} {g : Gs} {r : Nat}

theorem Sk.lt (h : ∀ x, g.pl x ≠ 0 → g.rt x = false → g.pl (og V R (tw (g.up x))) < g.pl x) : ∀ (st : List Nat), (∀ x, x ∈ st → g.pl x ≠ 0) → Sk V R g r st → ∀ v b, st = v :: b → ∀ u, u ∈ b → g.pl u < g.pl v
  | [], _, _, v, b, e, u, hu => by simp at e
  | [v'], _, _, v, b, e, u, hu => by
    injection e with e1 e2
    rw [← e2] at hu
    simp at hu
  | v' :: u' :: b', hp, ⟨q1, q2, _, q4⟩, v, b, e, u, hu => by
    injection e with e1 e2
    subst e1
    have hlt := h v' (hp v' (by simp)) q1
    rw [q2] at hlt
    rw [← e2] at hu
    rcases List.mem_cons.1 hu with rfl | hu'
    · exact hlt
    · have := Sk.lt h (u' :: b') (fun x hx => hp x (List.mem_cons_of_mem _ hx)) q4 u' b' rfl u hu'
      omega

theorem Tq.below (h : Tq V E R g r) {v : Nat} {b : List Nat} (e : g.st = v :: b) : ∀ u, u ∈ b → g.pl u < g.pl v :=
  Sk.lt (fun x hx hr => (h.up_ x hx hr).2.2.2.1) g.st h.stp h.sk v b e

theorem Tq.topmost (h : Tq V E R g r) {v : Nat} {b : List Nat} (e : g.st = v :: b) : ∀ u, u ∈ g.st → g.pl u ≤ g.pl v := fun u hu => by
  rw [e] at hu
  rcases List.mem_cons.1 hu with rfl | q
  · exact Nat.le_refl _
  · exact Nat.le_of_lt (h.below e u q)

theorem Tq.part_top (h : Tq V E R g r) {v : Nat} {b : List Nat} (e : g.st = v :: b) {x : Nat} : Part g v x ↔ g.pl v ≤ g.pl x :=
  ⟨fun q => q.1, fun q => ⟨q, fun u hu hl => absurd (h.topmost e u hu) (by omega)⟩⟩

/-- The first of the tree on top: it stands alone. -/
theorem Tq.top_root (h : Tq V E R g r) {v : Nat} {b : List Nat} (e : g.st = v :: b) (hr : g.rt v = true) : v = r ∧ b = [] := by
  have s := h.sk
  rw [e] at s
  cases b with
  | nil => exact ⟨s, rfl⟩
  | cons u b => have := s.1; rw [hr] at this; simp at this

/-- A grown edge's dart is that by which one goes back, or was looked at. -/
theorem Tq.grown (h : Tq V E R g r) {d : Nat} (hg : g.gr (d / 2) = true) : ∃ x, g.pl x ≠ 0 ∧ g.rt x = false ∧ (d = g.up x ∨ d = tw (g.up x)) := by
  obtain ⟨x, h1, h2, h3⟩ := (h.grw _).1 hg
  exact ⟨x, h1, h2, half_eq h3⟩

/-- Going back by darts of no edge but others. -/
theorem Tq.back_to (t : Tn V E R) (tt : Tw V E R) (h : Tq V E R g r) {v : Nat} (hv : v ∈ g.st) (e : Nat) : ∀ (n x : Nat), g.pl x = n → g.pl v ≤ g.pl x → (∀ y, g.pl v < g.pl y → g.pl y ≤ g.pl x → g.up y / 2 ≠ e) → Kn V R (e : Int) x v := fun n => by
  induction n using Nat.strongRecOn with
  | ind n ih =>
    intro x hx hle hne
    by_cases q : x = v
    · subst q; exact Kn.refl _
    · have hvp := h.stp v hv
      have hlt : g.pl v < g.pl x := by
        rcases Nat.lt_or_ge (g.pl v) (g.pl x) with c | c
        · exact c
        · exact absurd (h.inj v x hvp (by omega)).symm q
      obtain ⟨a1, a2⟩ := h.above v x hv hlt
      obtain ⟨u1, u2, u3, u4, _⟩ := h.up_ x (by omega) a1
      have o := Kn.one (V := V) (R := R) (e := (e : Int)) (d := g.up x) ⟨u1, fun c => hne x hlt (Nat.le_refl _) (by omega)⟩
      rw [u2] at o
      exact o.trans (ih _ (by omega) (og V R (tw (g.up x))) rfl a2 (fun y h1 h2 => hne y h1 (by omega)))

/-- What a vertex of this round leads to is of this round. -/
theorem Tq.here (t : Tn V E R) (tt : Tw V E R) (h : Tq V E R g r) (hs : g.st ≠ []) {d : Nat} (hd : In V R d) (hp : g.pl (og V R (tw d)) ≠ 0) (hr : g.pl r ≤ g.pl (og V R d)) : g.pl r ≤ g.pl (og V R (tw d)) := by
  refine Nat.not_lt.1 (fun c => ?_)
  have := h.old hs (tw d) (hd.tw t tt) hp c
  rw [tw_tw] at this
  omega

theorem Tq.root_le (h : Tq V E R g r) {v : Nat} {b : List Nat} (e : g.st = v :: b) : g.pl r ≤ g.pl v := h.topmost e r (h.root (by rw [e]; simp)).1

end

/-- A dart over which the tour goes on to a new vertex. -/
noncomputable def Gs.goOn (V : Nat) (R : Nat → List Nat) (g : Gs) (d y : Nat) : Gs :=
  ⟨g.D ++ [d], updN g.pl y (g.c + 1), updN g.lw y (g.c + 1), on g.gr (d / 2), g.c + 1, g.bs, updN g.up y (tw d), updN g.sd y (vx V R (tw d)), fun x => if x = y then false else g.rt x, y :: g.st, g.rl ++ [y]⟩

open Classical in
/-- A dart over which it goes back. -/
noncomputable def Gs.goBack (V : Nat) (R : Nat → List Nat) (g : Gs) (d : Nat) : Gs :=
  { g with D := g.D ++ [d], lw := updN g.lw (og V R (tw d)) (min (g.lw (og V R (tw d))) (g.lw (og V R d))), bs := if g.lw (og V R d) = g.pl (og V R d) then g.bs ++ [d / 2] else g.bs, st := g.st.tail }

/-- A dart past which it goes. -/
noncomputable def Gs.goPast (V : Nat) (R : Nat → List Nat) (g : Gs) (d : Nat) : Gs :=
  { g with D := g.D ++ [d], lw := updN g.lw (og V R d) (min (g.lw (og V R d)) (g.pl (og V R (tw d)))) }

/-- A new round. -/
def Gs.begin_ (g : Gs) (d y : Nat) : Gs :=
  ⟨g.D, updN g.pl y (g.c + 1), updN g.lw y (g.c + 1), g.gr, g.c + 1, g.bs, g.up, updN g.sd y d, on g.rt y, [y], g.rl ++ [y]⟩

section
variable {V E : Nat} {R : Nat → List Nat} {g : Gs} {r d : Nat}

theorem on_at (p : Nat → Bool) (x : Nat) : on p x x = true := by simp [on]
theorem on_ne (p : Nat → Bool) {x y : Nat} (h : y ≠ x) : on p x y = p y := by simp [on, h]

/-- The next dart round a vertex is new, but the first one. -/
theorem Cu.next_new (t : Tn V E R) (h : Tq V E R g r) (c : Cu V R g d) (hm : vx V R d ∈ g.D ++ [d]) : vx V R d = g.sd (og V R d) := by
  rcases List.mem_append.1 hm with q | q
  · rcases h.bk d c.in_ q with q1 | q1
    · exact absurd q1 c.new
    · exact q1
  · have q : vx V R d = d := by simpa using q
    rcases c.prev with q1 | ⟨z, z1, z2, z3⟩
    · rw [q]; exact q1
    · have : z = d := vx_inj t z1 c.in_ (z2.trans q.symm)
      exact absurd (this ▸ z3) c.new

theorem Cu.bk (t : Tn V E R) (h : Tq V E R g r) (c : Cu V R g d) : ∀ x, In V R x → vx V R x ∈ g.D ++ [d] → x ∈ g.D ++ [d] ∨ vx V R x = g.sd (og V R x) := fun x hx hm => by
  rcases List.mem_append.1 hm with q | q
  · rcases h.bk x hx q with q1 | q1
    · exact .inl (List.mem_append_left _ q1)
    · exact .inr q1
  · have q : vx V R x = d := by simpa using q
    rcases c.prev with q1 | ⟨z, z1, z2, z3⟩
    · right
      rw [q, q1]
      congr 1
      rw [← q, vx_og t hx]
    · have : z = x := vx_inj t z1 hx (z2.trans q.symm)
      exact .inl (List.mem_append_left _ (this ▸ z3))

theorem Cu.nodup (h : Tq V E R g r) (c : Cu V R g d) : (g.D ++ [d]).Nodup :=
  List.nodup_append.2 ⟨h.dnd, by simp, fun a ha b hb => by simp at hb; rintro rfl; exact c.new (hb ▸ ha)⟩

theorem Tq.goOn (t : Tn V E R) (tt : Tw V E R) (h : Tq V E R g r) (c : Cu V R g d) (hy : g.pl (og V R (tw d)) = 0) :
    Tq V E R (g.goOn V R d (og V R (tw d))) r ∧ Cu V R (g.goOn V R d (og V R (tw d))) (vx V R (tw d)) := by
  obtain ⟨b, hst⟩ := c.top
  have htw := c.in_.tw t tt
  have hyV := (og_is htw).1
  generalize hyy : og V R (tw d) = y at hy hyV ⊢
  have hv0 : g.pl (og V R d) ≠ 0 := h.stp _ (by rw [hst]; simp)
  have ne : ∀ x, g.pl x ≠ 0 → x ≠ y := fun x hx q => hx (q ▸ hy)
  have hs : g.st ≠ [] := by rw [hst]; simp
  have hvy := ne _ hv0
  have P : ∀ x, g.pl x ≠ 0 → (g.goOn V R d y).pl x = g.pl x := fun x hx => updN_ne _ _ (ne x hx)
  have Py : (g.goOn V R d y).pl y = g.c + 1 := updN_same _ _ _
  have P0 : ∀ x, (g.goOn V R d y).pl x ≠ 0 → x = y ∨ (x ≠ y ∧ g.pl x ≠ 0 ∧ (g.goOn V R d y).pl x = g.pl x) := fun x hx => by
    by_cases q : x = y
    · exact .inl q
    · have : (g.goOn V R d y).pl x = g.pl x := updN_ne _ _ q
      exact .inr ⟨q, by rw [← this]; exact hx, this⟩
  have Ple : ∀ x, (g.goOn V R d y).pl x ≤ g.c + 1 := fun x => by
    by_cases q : x = y
    · rw [q, Py]; exact Nat.le_refl _
    · rw [show (g.goOn V R d y).pl x = g.pl x from updN_ne _ _ q]; have := h.le x; omega
  have U : ∀ x, x ≠ y → (g.goOn V R d y).up x = g.up x := fun x hx => updN_ne _ _ hx
  have Uy : (g.goOn V R d y).up y = tw d := updN_same _ _ _
  have S : ∀ x, x ≠ y → (g.goOn V R d y).sd x = g.sd x := fun x hx => updN_ne _ _ hx
  have Sy : (g.goOn V R d y).sd y = vx V R (tw d) := updN_same _ _ _
  have T : ∀ x, x ≠ y → (g.goOn V R d y).rt x = g.rt x := fun x hx => by show (if x = y then false else g.rt x) = _; rw [if_neg hx]
  have Ty : (g.goOn V R d y).rt y = false := by show (if y = y then false else g.rt y) = _; rw [if_pos rfl]
  have hgr : ∀ x, x ∈ g.D → x / 2 ≠ d / 2 := fun x hx q => by
    rcases half_eq q with rfl | rfl
    · exact c.new hx
    · exact (h.din _ hx).2.1 (hyy ▸ hy)
  have hD : ∀ x, x ∈ g.D ++ [d] → (g.goOn V R d y).gr (x / 2) = false → x ∈ g.D ∧ g.gr (x / 2) = false := fun x hx hg => by
    have hq : x / 2 ≠ d / 2 := fun q => by
      have : (g.goOn V R d y).gr (x / 2) = true := by rw [q]; exact on_at _ _
      rw [this] at hg; simp at hg
    rcases List.mem_append.1 hx with q | q
    · exact ⟨q, by rw [← hg]; exact (on_ne _ hq).symm⟩
    · obtain rfl : x = d := by simpa using q
      exact absurd rfl hq
  have hstne : ∀ x, x ∈ g.st → x ≠ y := fun x hx => ne x (h.stp x hx)
  have hPart : ∀ v x, v ∈ g.st → g.pl x ≠ 0 → (Part (g.goOn V R d y) v x ↔ Part g v x) := fun v x hv hx => by
    unfold Part
    rw [P v (h.stp v hv), P x hx]
    constructor
    · rintro ⟨q1, q2⟩
      refine ⟨q1, fun u hu hl => ?_⟩
      have := q2 u (List.mem_cons_of_mem _ hu)
      rw [P u (h.stp u hu)] at this
      exact this hl
    · rintro ⟨q1, q2⟩
      refine ⟨q1, fun u hu hl => ?_⟩
      rcases List.mem_cons.1 hu with rfl | hu
      · rw [Py]; have := h.le x; omega
      · rw [P u (h.stp u hu)] at hl ⊢
        exact q2 u hu hl
  refine ⟨⟨?_, ?_, ?_, ?_, ?_, Ple, c.nodup h, ?_, ?_, ?_, ?_, ?_, ?_, ?_, ?_, ?_, ?_, ?_, ?_, ?_, ?_, ?_, h.bnd⟩, ?_⟩
  · refine List.nodup_append.2 ⟨h.rnd, by simp, fun a ha b hb => ?_⟩
    simp at hb
    rintro rfl
    exact (h.rmem a).1 ha (hb ▸ hy)
  · show (g.rl ++ [y]).length = g.c + 1
    rw [List.length_append, h.rlen]; rfl
  · intro x
    show x ∈ g.rl ++ [y] ↔ _
    rw [List.mem_append, List.mem_singleton, h.rmem]
    by_cases q : x = y
    · rw [q, Py]; simp
    · rw [show (g.goOn V R d y).pl x = g.pl x from updN_ne _ _ q]; simp [q]
  · intro x hx
    rcases P0 x hx with q | ⟨_, q, _⟩
    · rw [q]; exact hyV
    · exact h.rlt x q
  · intro x z hx e
    rcases P0 x hx with q | ⟨q1, q2, q3⟩
    · by_cases c1 : z = y
      · rw [q, c1]
      · rw [q, Py, show (g.goOn V R d y).pl z = g.pl z from updN_ne _ _ c1] at e
        have := h.le z; omega
    · by_cases c1 : z = y
      · rw [c1, Py, q3] at e
        have := h.le x; omega
      · rw [q3, show (g.goOn V R d y).pl z = g.pl z from updN_ne _ _ c1] at e
        exact h.inj x z q2 e
  · intro x hx
    rcases List.mem_append.1 hx with q | q
    · obtain ⟨q1, q2, q3⟩ := h.din x q
      rw [P _ q2, P _ q3]
      exact ⟨q1, q2, q3⟩
    · obtain rfl : x = d := by simpa using q
      rw [P _ hv0, hyy, Py]
      exact ⟨c.in_, hv0, by omega⟩
  · intro e
    constructor
    · intro q
      by_cases q1 : e = d / 2
      · exact ⟨y, by rw [Py]; omega, Ty, by rw [Uy, tw_half]; exact q1⟩
      · have q2 : g.gr e = true := by rw [← q]; exact (on_ne _ q1).symm
        obtain ⟨x, x1, x2, x3⟩ := (h.grw e).1 q2
        exact ⟨x, by rw [P x x1]; exact x1, by rw [T x (ne x x1)]; exact x2, by rw [U x (ne x x1)]; exact x3⟩
    · rintro ⟨x, x1, x2, x3⟩
      rcases P0 x x1 with q | ⟨q1, q2, q3⟩
      · rw [q, Uy, tw_half] at x3
        rw [x3]; exact on_at _ _
      · rw [T x q1] at x2
        rw [U x q1] at x3
        have := (h.grw e).2 ⟨x, q2, x2, x3⟩
        by_cases c1 : e = d / 2
        · rw [c1]; exact on_at _ _
        · rw [← this]; exact on_ne _ c1
  · intro x hx hr
    rcases P0 x hx with q | ⟨q1, q2, q3⟩
    · subst q
      rw [Uy, Sy, tw_tw, P _ hv0, Py]
      refine ⟨htw, hyy, hv0, ?_, List.mem_append_right _ (by simp), rfl⟩
      have := h.le (og V R d); omega
    · rw [T x q1] at hr
      obtain ⟨u1, u2, u3, u4, u5, u6⟩ := h.up_ x q2 hr
      rw [U x q1, S x q1, P _ u3, q3]
      exact ⟨u1, u2, u3, u4, List.mem_append_left _ u5, u6⟩
  · intro x hx
    rcases P0 x hx with q | ⟨q1, q2, q3⟩
    · subst q
      rw [Sy]
      exact ⟨vx_in htw, (vx_og t htw).trans hyy⟩
    · rw [S x q1]; exact h.sd_ x q2
  · intro x hx hm
    have hr : g.pl (og V R x) ≠ 0 := by
      rw [← vx_og t hx]
      rcases List.mem_append.1 hm with q | q
      · exact (h.din _ q).2.1
      · rw [show vx V R x = d by simpa using q]; exact hv0
    rw [S _ (ne _ hr)]
    exact c.bk t h x hx hm
  · intro x hx hn z hz ho
    rcases P0 x hx with q | ⟨q1, q2, q3⟩
    · exact absurd (show x ∈ y :: g.st by rw [q]; simp) hn
    · exact List.mem_append_left _ (h.fin x q2 (fun q => hn (List.mem_cons_of_mem _ q)) z hz ho)
  · intro x hx
    rcases List.mem_cons.1 hx with rfl | q
    · rw [Py]; omega
    · rw [P x (h.stp x q)]; exact h.stp x q
  · show Sk V R (g.goOn V R d y) r (y :: g.st)
    have hsk : Sk V R (g.goOn V R d y) r g.st := by
      refine Sk.congr t g.st (fun x hx => ⟨U x (hstne x hx), S x (hstne x hx), T x (hstne x hx)⟩) (fun x hx hr => (h.up_ x (h.stp x hx) hr).1.tw t tt) (fun z hz ho => ?_) h.sk
      rcases List.mem_append.1 hz with q | q
      · exact q
      · rw [show z = d by simpa using q] at ho
        rw [hst] at ho
        have := h.below hst _ ho
        omega
    rw [hst] at hsk ⊢
    refine ⟨Ty, by rw [Uy, tw_tw], fun hm => ?_, hsk⟩
    rw [Uy, tw_tw] at hm ⊢
    rw [S _ hvy]
    exact c.next_new t h hm
  · intro _
    obtain ⟨q1, q2⟩ := h.root hs
    exact ⟨List.mem_cons_of_mem _ q1, by rw [T r (hstne r q1)]; exact q2⟩
  · intro _ x hx hp hl
    have hr := h.stp r (h.root hs).1
    rw [P r hr] at hl
    rcases P0 _ hp with q | ⟨q1, q2, q3⟩
    · rw [q, Py] at hl; have := h.le r; omega
    · rw [q3] at hl
      obtain ⟨o1, o2⟩ := h.old hs x hx q2 hl
      rw [P _ o1, P r hr]
      exact ⟨o1, o2⟩
  · intro v x hv1 hl
    rcases List.mem_cons.1 hv1 with rfl | hv
    · rw [Py] at hl; have := Ple x; omega
    · clear hv1
      rw [P v (h.stp v hv)] at hl ⊢
      rcases P0 x (by omega) with q | ⟨q1, q2, q3⟩
      · subst q
        rw [Uy, tw_tw, P _ hv0]
        exact ⟨Ty, h.topmost hst v hv⟩
      · rw [q3] at hl
        obtain ⟨a1, a2⟩ := h.above v x hv hl
        rw [T x q1, U x q1, P _ (h.up_ x q2 a1).2.2.1]
        exact ⟨a1, a2⟩
  · intro v hv
    rcases List.mem_cons.1 hv with rfl | hv
    · have e1 : (g.goOn V R d v).lw v = (g.goOn V R d v).pl v := by rw [Py]; exact updN_same _ _ _
      refine ⟨Nat.le_of_eq e1, fun x hx hg hp => ?_, .inl e1⟩
      obtain ⟨q1, q2⟩ := hD x hx hg
      have := hp.1
      rw [Py, P _ (h.din x q1).2.1] at this
      have := h.le (og V R x); omega
    · have e1 : (g.goOn V R d y).lw v = g.lw v := updN_ne _ _ (hstne v hv)
      obtain ⟨l1, l2, l3⟩ := h.low v hv
      refine ⟨by rw [e1, P v (h.stp v hv)]; exact l1, fun x hx hg hp => ?_, ?_⟩
      · obtain ⟨q1, q2⟩ := hD x hx hg
        obtain ⟨i1, i2, i3⟩ := h.din x q1
        rw [e1, P _ i3]
        exact l2 x q1 q2 ((hPart v _ hv i2).1 hp)
      · rw [e1, P v (h.stp v hv)]
        rcases l3 with q | ⟨x, q1, q2, q3, q4⟩
        · exact .inl q
        · obtain ⟨i1, i2, i3⟩ := h.din x q1
          refine .inr ⟨x, List.mem_append_left _ q1, ?_, (hPart v _ hv i2).2 q3, by rw [P _ i3]; exact q4⟩
          rw [← q2]; exact on_ne _ (hgr x q1)
  · intro x hx hg
    obtain ⟨q1, q2⟩ := hD x hx hg
    exact h.nb x q1 q2
  · intro x hx hr hn
    rcases P0 x hx with q | ⟨q1, q2, q3⟩
    · exact absurd (show x ∈ y :: g.st by rw [q]; simp) hn
    · rw [T x q1] at hr
      rw [U x q1]
      exact h.b1 x q2 hr (fun q => hn (List.mem_cons_of_mem _ q))
  · intro e he
    obtain ⟨x, x1, x2, x3, x4⟩ := h.b2 e he
    refine ⟨x, by rw [P x x1]; exact x1, by rw [T x (ne x x1)]; exact x2, fun q => ?_, by rw [U x (ne x x1)]; exact x4⟩
    rcases List.mem_cons.1 q with q | q
    · exact ne x x1 q
    · exact x3 q
  · have ho : og V R (vx V R (tw d)) = y := (vx_og t htw).trans hyy
    refine ⟨vx_in htw, ⟨g.st, by rw [ho]; rfl⟩, fun hm => ?_, .inl (by rw [ho, Sy])⟩
    rcases List.mem_append.1 hm with q | q
    · exact (h.din _ q).2.1 (ho ▸ hy)
    · have q : vx V R (tw d) = d := by simpa using q
      rw [q] at ho
      exact hvy ho

/-- Past a dart. -/
theorem Tq.goPast (t : Tn V E R) (tt : Tw V E R) (h : Tq V E R g r) (c : Cu V R g d) (hy : g.pl (og V R (tw d)) ≠ 0) (hg : g.gr (d / 2) = false) :
    Tq V E R (g.goPast V R d) r ∧ (Cu V R (g.goPast V R d) (vx V R d) ∨ Fi V R (g.goPast V R d) r (vx V R d)) := by
  obtain ⟨b, hst⟩ := c.top
  have hvs : og V R d ∈ g.st := by rw [hst]; simp
  have hv0 : g.pl (og V R d) ≠ 0 := h.stp _ hvs
  have hs : g.st ≠ [] := by rw [hst]; simp
  have hpt : ∀ x, Part (g.goPast V R d) (og V R d) x ↔ g.pl (og V R d) ≤ g.pl x := fun x => h.part_top hst
  refine ⟨⟨h.rnd, h.rlen, h.rmem, h.rlt, h.inj, h.le, c.nodup h, ?_, h.grw, ?_, h.sd_, c.bk t h, ?_, h.stp, ?_, h.root, h.old, h.above, ?_, ?_, h.b1, h.b2, h.bnd⟩, ?_⟩
  · intro x hx
    rcases List.mem_append.1 hx with q | q
    · exact h.din x q
    · obtain rfl : x = d := by simpa using q
      exact ⟨c.in_, hv0, hy⟩
  · intro x hx hr
    obtain ⟨u1, u2, u3, u4, u5, u6⟩ := h.up_ x hx hr
    exact ⟨u1, u2, u3, u4, List.mem_append_left _ u5, u6⟩
  · intro x hx hn z hz ho
    exact List.mem_append_left _ (h.fin x hx hn z hz ho)
  · refine Sk.congr (g := g) (g' := g.goPast V R d) t g.st (fun x hx => ⟨rfl, rfl, rfl⟩) (fun x hx hr => (h.up_ x (h.stp x hx) hr).1.tw t tt) (fun z hz ho => ?_) h.sk
    rcases List.mem_append.1 hz with q | q
    · exact q
    · rw [show z = d by simpa using q] at ho
      rw [hst] at ho
      have := h.below hst _ ho
      omega
  · intro v hv
    obtain ⟨l1, l2, l3⟩ := h.low v hv
    by_cases q : v = og V R d
    · subst q
      have e1 : (g.goPast V R d).lw (og V R d) = min (g.lw (og V R d)) (g.pl (og V R (tw d))) := updN_same _ _ _
      refine ⟨by rw [e1]; exact Nat.le_trans (Nat.min_le_left _ _) l1, fun x hx hgx hp => ?_, ?_⟩
      · rw [e1]
        rcases List.mem_append.1 hx with q | q
        · exact Nat.le_trans (Nat.min_le_left _ _) (l2 x q hgx hp)
        · obtain rfl : x = d := by simpa using q
          exact Nat.min_le_right _ _
      · rw [e1]
        rcases Nat.le_total (g.lw (og V R d)) (g.pl (og V R (tw d))) with q | q
        · rw [Nat.min_eq_left q]
          rcases l3 with q1 | ⟨x, q1, q2, q3, q4⟩
          · exact .inl q1
          · exact .inr ⟨x, List.mem_append_left _ q1, q2, q3, q4⟩
        · rw [Nat.min_eq_right q]
          exact .inr ⟨d, List.mem_append_right _ (by simp), hg, (hpt _).2 (Nat.le_refl _), rfl⟩
    · have e1 : (g.goPast V R d).lw v = g.lw v := updN_ne _ _ q
      refine ⟨by rw [e1]; exact l1, fun x hx hgx hp => ?_, ?_⟩
      · rw [e1]
        rcases List.mem_append.1 hx with q1 | q1
        · exact l2 x q1 hgx hp
        · obtain rfl : x = d := by simpa using q1
          have h1 := h.topmost hst v hv
          have h2 : g.pl v ≠ g.pl (og V R x) := fun c1 => q (h.inj v _ (h.stp v hv) c1)
          have := hp.2 (og V R x) hvs (show g.pl v < g.pl (og V R x) by omega)
          exact absurd this (Nat.lt_irrefl _)
      · rw [e1]
        rcases l3 with q1 | ⟨x, q1, q2, q3, q4⟩
        · exact .inl q1
        · exact .inr ⟨x, List.mem_append_left _ q1, q2, q3, q4⟩
  · intro x hx hgx
    rcases List.mem_append.1 hx with q | q
    · exact h.nb x q hgx
    · obtain rfl : x = d := by simpa using q
      rw [br_dart t tt, Classical.not_not]
      have hrs := (h.root hs).1
      have hno : ∀ y, g.pl r < g.pl y → g.up y / 2 ≠ x / 2 := fun y hl c1 => by
        have := (h.grw (x / 2)).2 ⟨y, by omega, (h.above r y hrs hl).1, c1.symm⟩
        rw [hg] at this; simp at this
      have k1 := h.back_to t tt hrs (x / 2) _ (og V R x) rfl (h.root_le hst) (fun y h1 _ => hno y h1)
      have k2 := h.back_to t tt hrs (x / 2) _ (og V R (tw x)) rfl (h.here t tt hs c.in_ hy (h.root_le hst)) (fun y h1 _ => hno y h1)
      exact k1.trans (k2.symm t tt)
  · have ho : og V R (vx V R d) = og V R d := vx_og t c.in_
    by_cases hm : vx V R d ∈ g.D ++ [d]
    · right
      have e1 := c.next_new t h hm
      have hrt : g.rt (og V R d) = true := by
        cases hr : g.rt (og V R d) with
        | true => rfl
        | false =>
          obtain ⟨u1, u2, u3, u4, u5, u6⟩ := h.up_ _ hv0 hr
          have e2 : d = g.up (og V R d) := vx_inj t c.in_ u1 (e1.trans u6)
          have := (h.grw (d / 2)).2 ⟨_, hv0, hr, by rw [← e2]⟩
          rw [hg] at this; simp at this
      obtain ⟨a1, a2⟩ := h.top_root hst hrt
      refine ⟨by rw [e1, a1]; rfl, ?_, ⟨d, c.in_, rfl, List.mem_append_right _ (by simp)⟩⟩
      show g.st = [r]
      rw [hst, a1, a2]
    · exact .inl ⟨vx_in c.in_, ⟨b, by rw [ho]; exact hst⟩, hm, .inr ⟨d, c.in_, rfl, List.mem_append_right _ (by simp)⟩⟩

/-- All of a vertex's darts but the one back were looked at. -/
theorem Tq.all_but (t : Tn V E R) (h : Tq V E R g r) (c : Cu V R g d) (hd : d = g.up (og V R d)) (hr : g.rt (og V R d) = false) (hv0 : g.pl (og V R d) ≠ 0) : ∀ x, In V R x → og V R x = og V R d → x ∈ g.D ∨ x = d := fun x hx ho => by
  obtain ⟨u1, u2, u3, u4, u5, u6⟩ := h.up_ _ hv0 hr
  rw [← hd] at u6
  have hvV := (og_is c.in_).1
  have hs : g.sd (og V R d) ∈ R (og V R d) := by
    have := h.sd_ _ hv0
    have q := (og_is this.1).2
    rw [this.2] at q
    exact q
  have hin : ∀ z, z ∈ R (og V R d) → In V R z ∧ og V R z = og V R d := fun z hz => ⟨⟨_, hvV, hz⟩, og_at t hvV hz⟩
  have hxm : x ∈ R (og V R d) := by have := (og_is hx).2; rw [ho] at this; exact this
  have hdm : d ∈ R (og V R d) := (og_is c.in_).2
  have bk : ∀ z, z ∈ R (og V R d) → vx V R z ∈ g.D → z ∈ g.D ∨ vx V R z = g.sd (og V R d) := fun z hz hm => by
    have := h.bk z (hin z hz).1 hm
    rw [(hin z hz).2] at this
    exact this
  rcases c.prev with q | ⟨z, z1, z2, z3⟩
  · -- it is alone
    have e1 : vx V R d = d := by rw [← u6]; exact q.symm
    have e2 : nx (R (og V R d)) d = d := by rw [← vx_at t hvV hdm]; exact e1
    have e3 := (nx_self (t.nd _ hvV) hdm).1 e2
    rw [e3] at hxm
    exact .inr (by simpa using hxm)
  · have ho2 : og V R z = og V R d := by rw [← z2, vx_og t z1]
    have hzm : z ∈ R (og V R d) := by have := (og_is z1).2; rw [ho2] at this; exact this
    exact (round_all t hvV hs bk hzm z3).2 d hdm z2 u6.symm x hxm

open Classical in
/-- Back over a dart. -/
theorem Tq.goBack (t : Tn V E R) (tt : Tw V E R) (h : Tq V E R g r) (c : Cu V R g d) (hy : g.pl (og V R (tw d)) ≠ 0) (hg : g.gr (d / 2) = true) :
    Tq V E R (g.goBack V R d) r ∧ (Cu V R (g.goBack V R d) (vx V R (tw d)) ∨ Fi V R (g.goBack V R d) r (vx V R (tw d))) := by
  obtain ⟨b, hst⟩ := c.top
  have hvs : og V R d ∈ g.st := by rw [hst]; simp
  have hv0 : g.pl (og V R d) ≠ 0 := h.stp _ hvs
  have hs : g.st ≠ [] := by rw [hst]; simp
  have htw := c.in_.tw t tt
  obtain ⟨x0, x1, x2, x3⟩ := h.grown hg
  obtain ⟨a1, a2, a3, a4, a5, a6⟩ := h.up_ x0 x1 x2
  have hd0 : d = g.up x0 := by
    rcases x3 with q | q
    · exact q
    · exact absurd (q ▸ a5) c.new
  have hx0 : x0 = og V R d := by rw [hd0]; exact a2.symm
  subst hx0
  have hall := h.all_but t c hd0 x2 hv0
  clear x3 a1 a2 x1
  rw [← hd0] at a3 a4 a5 a6
  -- the one beneath
  obtain ⟨b', hb⟩ : ∃ b', b = og V R (tw d) :: b' := by
    have s := h.sk
    rw [hst] at s
    cases b with
    | nil => have := (h.root hs).2; rw [← show og V R d = r from s, x2] at this; simp at this
    | cons u b' => have := s.2.1; rw [← hd0] at this; exact ⟨b', by rw [this]⟩
  subst hb
  have hus : og V R (tw d) ∈ g.st := by rw [hst]; simp
  have hsk := h.sk
  rw [hst] at hsk
  obtain ⟨k1, k2, k3, k4⟩ := hsk
  rw [← hd0] at k2 k3
  have hst' : (g.goBack V R d).st = og V R (tw d) :: b' := by show g.st.tail = _; rw [hst]; rfl
  have hsub : ∀ x, x ∈ (g.goBack V R d).st → x ∈ g.st := fun x hx => by rw [hst'] at hx; rw [hst]; exact List.mem_cons_of_mem _ hx
  have hstin : ∀ x, x ∈ g.st → x = og V R d ∨ x ∈ (g.goBack V R d).st := fun x hx => by rw [hst] at hx; rw [hst']; exact List.mem_cons.1 hx
  have htop' : ∀ x, x ∈ (g.goBack V R d).st → g.pl x ≤ g.pl (og V R (tw d)) := fun x hx => by
    rw [hst'] at hx
    rcases List.mem_cons.1 hx with rfl | q
    · exact Nat.le_refl _
    · refine Nat.le_of_lt (Sk.lt (fun x hx hr => (h.up_ x hx hr).2.2.2.1) (og V R (tw d) :: b') (fun x hx => h.stp x ?_) k4 _ b' rfl x q)
      rw [hst]; exact List.mem_cons_of_mem _ hx
  have hvn : og V R d ∉ (g.goBack V R d).st := fun q => by have := htop' _ q; omega
  -- other edges of trees
  have hne : ∀ y, g.pl y ≠ 0 → g.rt y = false → y ≠ og V R d → g.up y / 2 ≠ d / 2 := fun y y1 y2 y3 c1 => by
    obtain ⟨u1, u2, u3, u4, u5, u6⟩ := h.up_ y y1 y2
    rcases half_eq c1 with q | q
    · rw [q] at u2; exact y3 u2.symm
    · rw [q] at u2 u4
      rw [tw_tw] at u4
      rw [← u2] at u4
      omega
  -- the bridge
  have hbr : Br V R (d / 2) ↔ g.lw (og V R d) = g.pl (og V R d) := by
    obtain ⟨l1, l2, l3⟩ := h.low _ hvs
    rw [br_dart t tt]
    constructor
    · intro hk
      rcases l3 with q | ⟨x, q1, q2, q3, q4⟩
      · exact q
      · refine Classical.byContradiction (fun hn => hk ?_)
        have hlt : g.pl (og V R (tw x)) < g.pl (og V R d) := by rw [← q4]; omega
        obtain ⟨i1, i2, i3⟩ := h.din x q1
        have hxe : x / 2 ≠ d / 2 := fun c1 => by rw [c1, hg] at q2; simp at q2
        have m1 := h.back_to t tt hvs (d / 2) _ (og V R x) rfl q3.1 (fun y h1 h2 => hne y (by omega) (h.above _ y hvs h1).1 (fun c1 => by rw [c1] at h1; omega))
        have hrs := (h.root hs).1
        have hxr : g.pl r ≤ g.pl (og V R x) := Nat.le_trans (h.root_le hst) q3.1
        have m2 := h.back_to t tt hrs (d / 2) _ (og V R (tw x)) rfl (h.here t tt hs i1 i3 hxr) (fun y h1 h2 => hne y (by omega) (h.above _ y hrs h1).1 (fun c1 => by rw [c1] at h2; omega))
        have hur : g.pl r ≤ g.pl (og V R (tw d)) := h.here t tt hs c.in_ hy (h.root_le hst)
        have m3 := h.back_to t tt hrs (d / 2) _ (og V R (tw d)) rfl hur (fun y h1 h2 => hne y (by omega) (h.above _ y hrs h1).1 (fun c1 => by rw [c1] at h2; omega))
        have m4 := Kn.one (V := V) (R := R) (e := ((d / 2 : Nat) : Int)) (d := x) ⟨i1, fun c1 => hxe (by omega)⟩
        exact (m1.symm t tt).trans (m4.trans (m2.trans (m3.symm t tt)))
    · intro hl hk
      have : g.pl (og V R d) ≤ g.pl (og V R (tw d)) := by
        refine Kn.into (P := fun z => g.pl (og V R d) ≤ g.pl z) (fun x gx hx => ?_) hk (Nat.le_refl _)
        have hx0 : g.pl (og V R x) ≠ 0 := by omega
        have hxd : x / 2 ≠ d / 2 := fun c1 => gx.2 (by omega)
        have hxD : x ∈ g.D := by
          by_cases q : og V R x = og V R d
          · rcases hall x gx.1 q with q1 | q1
            · exact q1
            · exact absurd (by rw [q1]) hxd
          · refine h.fin _ hx0 (fun q1 => ?_) x gx.1 rfl
            have := h.topmost hst _ q1
            exact q (h.inj _ _ hx0 (by omega))
        cases hgx : g.gr (x / 2) with
        | false => have := l2 x hxD hgx ((h.part_top hst).2 hx); omega
        | true =>
          obtain ⟨y, y1, y2, y3⟩ := h.grown hgx
          obtain ⟨u1, u2, u3, u4, u5, u6⟩ := h.up_ y y1 y2
          rcases y3 with q | q
          · have e1 : og V R x = y := by rw [q]; exact u2
            have hny : y ≠ og V R d := fun c1 => hxd (by rw [q, c1, ← hd0])
            have hlt : g.pl (og V R d) < g.pl y := by
              rw [e1] at hx
              rcases Nat.lt_or_ge (g.pl (og V R d)) (g.pl y) with c1 | c1
              · exact c1
              · exact absurd (h.inj _ _ y1 (by omega)) hny
            rw [q]
            exact (h.above _ y hvs hlt).2
          · rw [q, tw_tw, u2]
            rw [q] at hx
            omega
      omega
  have hpv : ∀ x, Part g (og V R d) x ↔ g.pl (og V R d) ≤ g.pl x := fun x => h.part_top hst
  have hpu : ∀ x, Part (g.goBack V R d) (og V R (tw d)) x ↔ g.pl (og V R (tw d)) ≤ g.pl x := fun x =>
    ⟨fun q => q.1, fun q => ⟨q, fun u hu hl => absurd (htop' u hu) (by have : g.pl (og V R (tw d)) < g.pl u := hl; omega)⟩⟩
  have hdis : g.pl (og V R (tw d)) < g.pl (og V R d) := a4
  have hDg : ∀ x, x ∈ g.D ++ [d] → g.gr (x / 2) = false → x ∈ g.D := fun x hx hgx => by
    rcases List.mem_append.1 hx with q | q
    · exact q
    · rw [show x = d by simpa using q, hg] at hgx; simp at hgx
  refine ⟨⟨h.rnd, h.rlen, h.rmem, h.rlt, h.inj, h.le, c.nodup h, ?_, h.grw, ?_, h.sd_, c.bk t h, ?_, ?_, ?_, ?_, ?_, ?_, ?_, ?_, ?_, ?_, ?_⟩, ?_⟩
  · intro x hx
    rcases List.mem_append.1 hx with q | q
    · exact h.din x q
    · obtain rfl : x = d := by simpa using q
      exact ⟨c.in_, hv0, hy⟩
  · intro x hx hr
    obtain ⟨u1, u2, u3, u4, u5, u6⟩ := h.up_ x hx hr
    exact ⟨u1, u2, u3, u4, List.mem_append_left _ u5, u6⟩
  · intro x hx hn z hz ho
    by_cases q : x = og V R d
    · rcases hall z hz (ho.trans q) with q1 | q1
      · exact List.mem_append_left _ q1
      · rw [q1]; exact List.mem_append_right _ (by simp)
    · exact List.mem_append_left _ (h.fin x hx (fun q1 => (hstin x q1).elim q hn) z hz ho)
  · exact fun x hx => h.stp x (hsub x hx)
  · show Sk V R (g.goBack V R d) r (g.goBack V R d).st
    rw [hst']
    refine Sk.congr (g := g) (g' := g.goBack V R d) t _ (fun x hx => ⟨rfl, rfl, rfl⟩) (fun x hx hr => (h.up_ x (h.stp x (hsub x (by rw [hst']; exact hx))) hr).1.tw t tt) (fun z hz ho => ?_) k4
    rcases List.mem_append.1 hz with q | q
    · exact q
    · rw [show z = d by simpa using q] at ho
      exact absurd (show og V R d ∈ (g.goBack V R d).st by rw [hst']; exact List.mem_cons_of_mem _ (by simpa using ho)) hvn
  · intro _
    obtain ⟨q1, q2⟩ := h.root hs
    refine ⟨(hstin r q1).resolve_left (fun q => ?_), q2⟩
    rw [q, x2] at q2; simp at q2
  · intro _
    exact h.old hs
  · exact fun v x hv hl => h.above v x (hsub v hv) hl
  · intro v hv
    by_cases q : v = og V R (tw d)
    · subst q
      have e1 : (g.goBack V R d).lw (og V R (tw d)) = min (g.lw (og V R (tw d))) (g.lw (og V R d)) := updN_same _ _ _
      obtain ⟨l1, l2, l3⟩ := h.low _ hus
      obtain ⟨m1, m2, m3⟩ := h.low _ hvs
      have hpo : ∀ x, g.pl (og V R (tw d)) ≤ g.pl x → Part g (og V R (tw d)) x ∨ Part g (og V R d) x := fun x hx => by
        rcases Nat.lt_or_ge (g.pl x) (g.pl (og V R d)) with q | q
        · refine .inl ⟨hx, fun u hu hl => ?_⟩
          rcases hstin u hu with rfl | q1
          · exact q
          · exact absurd (htop' u q1) (by omega)
        · exact .inr ((hpv x).2 q)
      refine ⟨by rw [e1]; exact Nat.le_trans (Nat.min_le_left _ _) l1, fun x hx hgx hp => ?_, ?_⟩
      · rw [e1]
        have hxD := hDg x hx hgx
        rcases hpo _ ((hpu _).1 hp) with q | q
        · exact Nat.le_trans (Nat.min_le_left _ _) (l2 x hxD hgx q)
        · exact Nat.le_trans (Nat.min_le_right _ _) (m2 x hxD hgx q)
      · rw [e1]
        rcases Nat.lt_or_ge (g.lw (og V R d)) (g.lw (og V R (tw d))) with q | q
        · rw [Nat.min_eq_right (Nat.le_of_lt q)]
          rcases m3 with q1 | ⟨x, q1, q2, q3, q4⟩
          · omega
          · exact .inr ⟨x, List.mem_append_left _ q1, q2, (hpu _).2 (by have := q3.1; omega), q4⟩
        · rw [Nat.min_eq_left q]
          rcases l3 with q1 | ⟨x, q1, q2, q3, q4⟩
          · exact .inl q1
          · exact .inr ⟨x, List.mem_append_left _ q1, q2, (hpu _).2 q3.1, q4⟩
    · have e1 : (g.goBack V R d).lw v = g.lw v := updN_ne _ _ q
      obtain ⟨l1, l2, l3⟩ := h.low v (hsub v hv)
      have hvl : g.pl v < g.pl (og V R (tw d)) := by
        have h1 := htop' v hv
        have h2 : g.pl v ≠ g.pl (og V R (tw d)) := fun c1 => q (h.inj v _ (h.stp v (hsub v hv)) c1)
        omega
      have hpp : ∀ x, Part (g.goBack V R d) v x ↔ Part g v x := fun x => by
        constructor
        · rintro ⟨q1, q2⟩
          refine ⟨q1, fun u hu hl => ?_⟩
          rcases hstin u hu with rfl | q3
          · have := q2 (og V R (tw d)) (by rw [hst']; simp) hvl
            have : g.pl x < g.pl (og V R (tw d)) := this
            omega
          · exact q2 u q3 hl
        · rintro ⟨q1, q2⟩
          exact ⟨q1, fun u hu hl => q2 u (hsub u hu) hl⟩
      refine ⟨by rw [e1]; exact l1, fun x hx hgx hp => ?_, ?_⟩
      · rw [e1]
        exact l2 x (hDg x hx hgx) hgx ((hpp _).1 hp)
      · rw [e1]
        rcases l3 with q1 | ⟨x, q1, q2, q3, q4⟩
        · exact .inl q1
        · exact .inr ⟨x, List.mem_append_left _ q1, q2, (hpp _).2 q3, q4⟩
  · exact fun x hx hgx => h.nb x (hDg x hx hgx) hgx
  · intro x hx hr hn
    show g.up x / 2 ∈ (if g.lw (og V R d) = g.pl (og V R d) then g.bs ++ [d / 2] else g.bs) ↔ Br V R (g.up x / 2)
    by_cases q : x = og V R d
    · subst q
      rw [← hd0, hbr]
      have hnb : d / 2 ∉ g.bs := fun q1 => by
        obtain ⟨y, y1, y2, y3, y4⟩ := h.b2 _ q1
        exact hne y y1 y2 (fun q2 => y3 (q2 ▸ hvs)) y4.symm
      by_cases q2 : g.lw (og V R d) = g.pl (og V R d)
      · rw [if_pos q2]; simp [q2]
      · rw [if_neg q2]; simp [q2, hnb]
    · have hnx := hne x hx hr q
      rw [← h.b1 x hx hr (fun q1 => (hstin x q1).elim q hn)]
      by_cases q2 : g.lw (og V R d) = g.pl (og V R d)
      · rw [if_pos q2, List.mem_append, List.mem_singleton]; simp [hnx]
      · rw [if_neg q2]
  · intro e he
    have he : e ∈ (if g.lw (og V R d) = g.pl (og V R d) then g.bs ++ [d / 2] else g.bs) := he
    have hold : e ∈ g.bs → ∃ x, g.pl x ≠ 0 ∧ g.rt x = false ∧ x ∉ (g.goBack V R d).st ∧ e = g.up x / 2 := fun q => by
      obtain ⟨x, y1, y2, y3, y4⟩ := h.b2 e q
      exact ⟨x, y1, y2, fun q1 => y3 (hsub x q1), y4⟩
    by_cases q2 : g.lw (og V R d) = g.pl (og V R d)
    · rw [if_pos q2] at he
      rcases List.mem_append.1 he with q | q
      · exact hold q
      · exact ⟨og V R d, hv0, x2, hvn, by show e = g.up (og V R d) / 2; rw [← hd0]; simpa using q⟩
    · rw [if_neg q2] at he
      exact hold he
  · show (if g.lw (og V R d) = g.pl (og V R d) then g.bs ++ [d / 2] else g.bs).Nodup
    by_cases q2 : g.lw (og V R d) = g.pl (og V R d)
    · rw [if_pos q2]
      refine List.nodup_append.2 ⟨h.bnd, by simp, fun a ha b hb => ?_⟩
      simp at hb
      rintro rfl
      obtain ⟨y, y1, y2, y3, y4⟩ := h.b2 _ ha
      exact hne y y1 y2 (fun q3 => y3 (q3 ▸ hvs)) (by rw [← y4, hb])
    · rw [if_neg q2]; exact h.bnd
  · have ho : og V R (vx V R (tw d)) = og V R (tw d) := vx_og t htw
    have hzD : tw d ∈ g.D ++ [d] := List.mem_append_left _ a5
    by_cases hm : vx V R (tw d) ∈ g.D ++ [d]
    · right
      have hm' : vx V R (tw d) ∈ g.D := by
        rcases List.mem_append.1 hm with q | q
        · exact q
        · have q : vx V R (tw d) = d := by simpa using q
          rw [q] at ho
          rw [← ho] at a4
          omega
      have e1 := k3 hm'
      have hrt : g.rt (og V R (tw d)) = true := by
        cases hr : g.rt (og V R (tw d)) with
        | true => rfl
        | false =>
          obtain ⟨u1, u2, u3, u4, u5, u6⟩ := h.up_ _ hy hr
          have e2 : tw d = g.up (og V R (tw d)) := vx_inj t htw u1 (e1.trans u6)
          rw [← e2, tw_tw] at u4
          omega
      have hb : og V R (tw d) = r ∧ b' = [] := by
        cases b' with
        | nil => exact ⟨k4, rfl⟩
        | cons u b => have := k4.1; rw [hrt] at this; simp at this
      refine ⟨by rw [e1, hb.1]; rfl, by rw [hst', hb.1, hb.2], ⟨tw d, htw, rfl, hzD⟩⟩
    · exact .inl ⟨vx_in htw, ⟨b', by rw [ho]; exact hst'⟩, hm, .inr ⟨tw d, htw, rfl, hzD⟩⟩

/-- A round begins. -/
theorem Tq.begin_ (t : Tn V E R) (tt : Tw V E R) (h : Tq V E R g r) (h0 : g.st = []) (hd : In V R d) (hy : g.pl (og V R d) = 0) :
    Tq V E R (g.begin_ d (og V R d)) (og V R d) ∧ Cu V R (g.begin_ d (og V R d)) d := by
  have hyV := (og_is hd).1
  generalize hyy : og V R d = y at hy hyV ⊢
  have ne : ∀ x, g.pl x ≠ 0 → x ≠ y := fun x hx q => hx (q ▸ hy)
  have P : ∀ x, g.pl x ≠ 0 → (g.begin_ d y).pl x = g.pl x := fun x hx => updN_ne _ _ (ne x hx)
  have Py : (g.begin_ d y).pl y = g.c + 1 := updN_same _ _ _
  have P0 : ∀ x, (g.begin_ d y).pl x ≠ 0 → x = y ∨ (x ≠ y ∧ g.pl x ≠ 0 ∧ (g.begin_ d y).pl x = g.pl x) := fun x hx => by
    by_cases q : x = y
    · exact .inl q
    · have : (g.begin_ d y).pl x = g.pl x := updN_ne _ _ q
      exact .inr ⟨q, by rw [← this]; exact hx, this⟩
  have Ple : ∀ x, (g.begin_ d y).pl x ≤ g.c + 1 := fun x => by
    by_cases q : x = y
    · rw [q, Py]; exact Nat.le_refl _
    · rw [show (g.begin_ d y).pl x = g.pl x from updN_ne _ _ q]; have := h.le x; omega
  have S : ∀ x, x ≠ y → (g.begin_ d y).sd x = g.sd x := fun x hx => updN_ne _ _ hx
  have Sy : (g.begin_ d y).sd y = d := updN_same _ _ _
  have T : ∀ x, x ≠ y → (g.begin_ d y).rt x = g.rt x := fun x hx => on_ne _ hx
  have Ty : (g.begin_ d y).rt y = true := on_at _ _
  have nost : ∀ x, x ∉ g.st := fun x => by rw [h0]; simp
  refine ⟨⟨?_, ?_, ?_, ?_, ?_, Ple, h.dnd, ?_, ?_, ?_, ?_, ?_, ?_, ?_, rfl, ?_, ?_, ?_, ?_, h.nb, ?_, ?_, h.bnd⟩, ?_⟩
  · refine List.nodup_append.2 ⟨h.rnd, by simp, fun a ha b hb => ?_⟩
    simp at hb
    rintro rfl
    exact (h.rmem a).1 ha (hb ▸ hy)
  · show (g.rl ++ [y]).length = g.c + 1
    rw [List.length_append, h.rlen]; rfl
  · intro x
    show x ∈ g.rl ++ [y] ↔ _
    rw [List.mem_append, List.mem_singleton, h.rmem]
    by_cases q : x = y
    · rw [q, Py]; simp
    · rw [show (g.begin_ d y).pl x = g.pl x from updN_ne _ _ q]; simp [q]
  · intro x hx
    rcases P0 x hx with q | ⟨_, q, _⟩
    · rw [q]; exact hyV
    · exact h.rlt x q
  · intro x z hx e
    rcases P0 x hx with q | ⟨q1, q2, q3⟩
    · by_cases c1 : z = y
      · rw [q, c1]
      · rw [q, Py, show (g.begin_ d y).pl z = g.pl z from updN_ne _ _ c1] at e
        have := h.le z; omega
    · by_cases c1 : z = y
      · rw [c1, Py, q3] at e
        have := h.le x; omega
      · rw [q3, show (g.begin_ d y).pl z = g.pl z from updN_ne _ _ c1] at e
        exact h.inj x z q2 e
  · intro x hx
    obtain ⟨q1, q2, q3⟩ := h.din x hx
    rw [P _ q2, P _ q3]
    exact ⟨q1, q2, q3⟩
  · intro e
    show g.gr e = true ↔ _
    rw [h.grw]
    constructor
    · rintro ⟨x, x1, x2, x3⟩
      exact ⟨x, by rw [P x x1]; exact x1, by rw [T x (ne x x1)]; exact x2, x3⟩
    · rintro ⟨x, x1, x2, x3⟩
      rcases P0 x x1 with q | ⟨q1, q2, q3⟩
      · rw [q, Ty] at x2; simp at x2
      · rw [T x q1] at x2
        exact ⟨x, q2, x2, x3⟩
  · intro x hx hr
    rcases P0 x hx with q | ⟨q1, q2, q3⟩
    · rw [q, Ty] at hr; simp at hr
    · rw [T x q1] at hr
      obtain ⟨u1, u2, u3, u4, u5, u6⟩ := h.up_ x q2 hr
      show In V R (g.up x) ∧ og V R (g.up x) = x ∧ (g.begin_ d y).pl (og V R (tw (g.up x))) ≠ 0 ∧ (g.begin_ d y).pl (og V R (tw (g.up x))) < (g.begin_ d y).pl x ∧ tw (g.up x) ∈ g.D ∧ (g.begin_ d y).sd x = vx V R (g.up x)
      rw [S x q1, P _ u3, q3]
      exact ⟨u1, u2, u3, u4, u5, u6⟩
  · intro x hx
    rcases P0 x hx with q | ⟨q1, q2, q3⟩
    · subst q
      rw [Sy]
      exact ⟨hd, hyy⟩
    · rw [S x q1]; exact h.sd_ x q2
  · intro x hx hm
    have hr : g.pl (og V R x) ≠ 0 := by
      rw [← vx_og t hx]
      exact (h.din _ hm).2.1
    rw [S _ (ne _ hr)]
    exact h.bk x hx hm
  · intro x hx hn z hz ho
    rcases P0 x hx with q | ⟨q1, q2, q3⟩
    · exact absurd (show x ∈ [y] by rw [q]; simp) hn
    · exact h.fin x q2 (nost x) z hz ho
  · intro x hx
    obtain rfl : x = y := by simpa using (show x ∈ [y] from hx)
    rw [Py]; omega
  · exact fun _ => ⟨show y ∈ [y] by simp, Ty⟩
  · intro _ x hx hp hl
    rcases P0 _ hp with q | ⟨q1, q2, q3⟩
    · rw [q] at hl; omega
    · have hf := h.fin _ q2 (nost _) x hx rfl
      have h3 := (h.din x hf).2.2
      rw [P _ h3, Py]
      exact ⟨h3, by have := h.le (og V R (tw x)); omega⟩
  · intro v x hv hl
    obtain rfl : v = y := by simpa using (show v ∈ [y] from hv)
    rw [Py] at hl; have := Ple x; omega
  · intro v hv
    obtain rfl : v = y := by simpa using (show v ∈ [y] from hv)
    have e1 : (g.begin_ d v).lw v = (g.begin_ d v).pl v := by rw [Py]; exact updN_same _ _ _
    refine ⟨Nat.le_of_eq e1, fun x hx hg hp => ?_, .inl e1⟩
    have := hp.1
    rw [Py, P _ (h.din x hx).2.1] at this
    have := h.le (og V R x); omega
  · intro x hx hr hn
    rcases P0 x hx with q | ⟨q1, q2, q3⟩
    · exact absurd (show x ∈ [y] by rw [q]; simp) hn
    · rw [T x q1] at hr
      exact h.b1 x q2 hr (nost x)
  · intro e he
    obtain ⟨x, x1, x2, x3, x4⟩ := h.b2 e he
    refine ⟨x, by rw [P x x1]; exact x1, by rw [T x (ne x x1)]; exact x2, fun q => ?_, x4⟩
    exact ne x x1 (by simpa using (show x ∈ [y] from q))
  · refine ⟨hd, ⟨[], by rw [hyy]; rfl⟩, fun hm => ?_, .inl (by rw [hyy, Sy])⟩
    exact (h.din _ hm).2.1 (hyy ▸ hy)

/-- A round ends. -/
theorem Tq.end_ (t : Tn V E R) (h : Tq V E R g r) (f : Fi V R g r d) : Tq V E R { g with st := [] } r := by
  have hrs : r ∈ g.st := by rw [f.top]; simp
  have hr0 := h.stp r hrs
  have hall : ∀ x, In V R x → og V R x = r → x ∈ g.D := fun x hx ho => by
    obtain ⟨z, z1, z2, z3⟩ := f.prev
    obtain ⟨s1, s2⟩ := h.sd_ r hr0
    have hV := h.rlt r hr0
    have hs : g.sd r ∈ R r := by have := (og_is s1).2; rw [s2] at this; exact this
    have hzo : og V R z = r := by rw [← vx_og t z1, z2, f.at_, s2]
    have hzm : z ∈ R r := by have := (og_is z1).2; rw [hzo] at this; exact this
    have hxm : x ∈ R r := by have := (og_is hx).2; rw [ho] at this; exact this
    refine (round_all t hV hs (fun y hy hm => ?_) hzm z3).1 (z2.trans f.at_) x hxm
    have := h.bk y ⟨r, hV, hy⟩ hm
    rw [og_at t hV hy] at this
    exact this
  have hst : ∀ x, x ∉ g.st ↔ x ≠ r := fun x => by rw [f.top]; simp
  refine ⟨h.rnd, h.rlen, h.rmem, h.rlt, h.inj, h.le, h.dnd, h.din, h.grw, h.up_, h.sd_, h.bk, ?_, fun x hx => by simp at hx, trivial, fun q => absurd rfl q, fun q => absurd rfl q, fun v x hv => by simp at hv, fun v hv => by simp at hv, h.nb, ?_, ?_, h.bnd⟩
  · intro x hx _ z hz ho
    by_cases q : x = r
    · exact hall z hz (ho.trans q)
    · exact h.fin x hx ((hst x).2 q) z hz ho
  · intro x hx hr _
    refine h.b1 x hx hr ((hst x).2 (fun q => ?_))
    have := (h.root (by rw [f.top]; simp)).2
    rw [← q, hr] at this; simp at this
  · intro e he
    obtain ⟨x, x1, x2, x3, x4⟩ := h.b2 e he
    exact ⟨x, x1, x2, by simp, x4⟩

/-- Nothing was met. -/
def Gs.nil : Gs := ⟨[], fun _ => 0, fun _ => 0, fun _ => false, 0, [], fun _ => 0, fun _ => 0, fun _ => true, [], []⟩
theorem Tq.nil (V E : Nat) (R : Nat → List Nat) (r : Nat) : Tq V E R Gs.nil r where
  rnd := List.nodup_nil
  rlen := rfl
  rmem := fun x => by simp [Gs.nil]
  rlt := fun x hx => absurd rfl hx
  inj := fun x y hx => absurd rfl hx
  le := fun x => Nat.le_refl _
  dnd := List.nodup_nil
  din := fun d hd => by simp [Gs.nil] at hd
  grw := fun e => ⟨fun q => by simp [Gs.nil] at q, fun ⟨x, hx, _⟩ => absurd rfl hx⟩
  up_ := fun x hx => absurd rfl hx
  sd_ := fun x hx => absurd rfl hx
  bk := fun d _ hm => by simp [Gs.nil] at hm
  fin := fun x hx => absurd rfl hx
  stp := fun x hx => by simp [Gs.nil] at hx
  sk := trivial
  root := fun q => absurd rfl q
  old := fun q => absurd rfl q
  above := fun v x hv => by simp [Gs.nil] at hv
  low := fun v hv => by simp [Gs.nil] at hv
  nb := fun d hd => by simp [Gs.nil] at hd
  b1 := fun x hx => absurd rfl hx
  b2 := fun e he => by simp [Gs.nil] at he
  bnd := List.nodup_nil

/-- All was met: the bridges. -/
theorem Tq.bridges (t : Tn V E R) (tt : Tw V E R) (h : Tq V E R g r) (h0 : g.st = []) (hm : ∀ e, e < E → In V R (2 * e) → g.pl (og V R (2 * e)) ≠ 0) (e : Nat) : e ∈ g.bs ↔ e < E ∧ In V R (2 * e) ∧ Br V R e := by
  constructor
  · intro he
    obtain ⟨x, x1, x2, x3, x4⟩ := h.b2 e he
    have hb := (h.b1 x x1 x2 x3).1 (x4 ▸ he)
    obtain ⟨u1, _⟩ := h.up_ x x1 x2
    have hl := u1.low t
    refine ⟨by omega, ?_, x4 ▸ hb⟩
    rcases even_tw (g.up x) with ⟨a, b⟩ | ⟨a, b⟩
    · rw [x4, ← a]; exact u1
    · rw [x4, ← b]; exact u1.tw t tt
  · rintro ⟨h1, h2, h3⟩
    have hD : 2 * e ∈ g.D := h.fin _ (hm e h1 h2) (by rw [h0]; simp) _ h2 rfl
    have e1 : 2 * e / 2 = e := by omega
    cases hg : g.gr e with
    | false => exact absurd h3 (by have := h.nb _ hD (by rw [e1]; exact hg); rw [e1] at this; exact this)
    | true =>
      obtain ⟨x, x1, x2, x3⟩ := (h.grw e).1 hg
      rw [x3]
      rw [x3] at h3
      exact (h.b1 x x1 x2 (by rw [h0]; simp)).2 h3

theorem Tq.count (h : Tq V E R g r) : g.c ≤ V := by
  rw [← h.rlen]
  have := pig g.rl (List.range V) h.rnd (fun x hx => List.mem_range.2 (h.rlt x ((h.rmem x).1 hx)))
  simpa using this
theorem Tq.looked (t : Tn V E R) (h : Tq V E R g r) : g.D.length ≤ 2 * E := by
  have := pig g.D (List.range (2 * E)) h.dnd (fun x hx => List.mem_range.2 ((h.din x hx).1.low t))
  simpa using this
theorem Tq.few (h : Tq V E R g r) (t : Tn V E R) : g.bs.length ≤ E := by
  have := pig g.bs (List.range E) h.bnd (fun e he => by
    obtain ⟨x, x1, x2, x3, x4⟩ := h.b2 e he
    have := (h.up_ x x1 x2).1.low t
    exact List.mem_range.2 (by omega))
  simpa using this
end

end Go.Proofs.YtghpjljnbdjmaaaGreatDoor
