/- A node lifted over the one above it; one settled: the trees stay trees, the sequences stay: plain facts. -/
import Derived.Test.YtpelpcplagfdiaaDoorSettle
namespace Go.Proofs.YtpelpcplagfdiaaDoor
open Go.RowKit

variable {T T' : Tb} {v : Nat → Int} {sub seq : Nat → List Nat}

theorem cat_nd {s : Bool} {A B : List Nat} {x : Nat} (h : (cat s A x B).Nodup) : A.Nodup ∧ B.Nodup := by
  cases s
  · simp only [cat, Bool.false_eq_true, ↓reduceIte, List.nodup_append, List.nodup_cons] at h
    exact ⟨h.1, h.2.1.2⟩
  · simp only [cat, ↓reduceIte, List.nodup_append, List.nodup_cons] at h
    exact ⟨h.2.1.2, h.1⟩

/-- One side suffices. -/
theorem eqn_side {sub : Nat → List Nat} {n : Nd} {x : Nat} {l : List Nat} (s : Bool) (h : l = flp n.t (cat s (sub (n.k s)) x (sub (n.k (!s))))) : ∀ s, l = flp n.t (cat s (sub (n.k s)) x (sub (n.k (!s)))) := by
  intro s'
  rw [h]
  by_cases e : s' = s
  · rw [e]
  · have : s' = !s := by cases s <;> cases s' <;> simp_all
    rw [this, cat_swap, Bool.not_not]

/-- What a lift makes of the nodes x, p, b, g. -/
structure Lifted (T T' : Tb) (v : Nat → Int) (sub : Nat → List Nat) (x p b g : Nat) (s : Bool) : Prop where
  xs : (T' x).k s = (T x).k s
  xo : (T' x).k (!s) = p
  xu : (T' x).up = g
  xt : (T' x).t = (T x).t
  xv : (T' x).v = (T x).v
  xl : Tal (T' x) v (cat s (sub ((T x).k s)) x (cat s (sub b) p (sub ((T p).k (!s)))))
  ps : (T' p).k s = b
  po : (T' p).k (!s) = (T p).k (!s)
  pu : (T' p).up = x
  pt : (T' p).t = (T p).t
  pv : (T' p).v = (T p).v
  pl : Tal (T' p) v (cat s (sub b) p (sub ((T p).k (!s))))
  kb : b ≠ 0 → T' b = { T b with up := p }
  kg : g ≠ 0 → T' g = (T g).setK (whr T p) x
  ko : ∀ y, y ≠ x → y ≠ p → (b ≠ 0 → y ≠ b) → (g ≠ 0 → y ≠ g) → T' y = T y

theorem Inv.rot (h : Inv T v sub seq) {x p b g : Nat} {s : Bool} (hx : x ≠ 0) (hp : p ≠ 0) (ep : (T x).up = p) (es : (T p).k s = x) (eb : (T x).k (!s) = b) (eg : (T p).up = g) (tx : (T x).t = false) (tp : (T p).t = false) (hL : Lifted T T' v sub x p b g s) :
    Inv T' v (fun y => if y = x then sub p else if y = p then cat s (sub b) p (sub ((T p).k (!s))) else sub y) seq := by
  obtain ⟨a, ea⟩ : ∃ a, (T x).k s = a := ⟨_, rfl⟩
  obtain ⟨c, ec⟩ : ∃ c, (T p).k (!s) = c := ⟨_, rfl⟩
  have lxp : (sub x).length < (sub p).length := by have := h.kid_lt hp s; rw [es] at this; exact this
  have lbx : (sub b).length < (sub x).length := by have := h.kid_lt hx (!s); rw [eb] at this; exact this
  have lax : (sub a).length < (sub x).length := by have := h.kid_lt hx s; rw [ea] at this; exact this
  have lcp : (sub c).length < (sub p).length := by have := h.kid_lt hp (!s); rw [ec] at this; exact this
  have lpg : g ≠ 0 → (sub p).length < (sub g).length := fun hg => by have := h.up_lt hp (by rw [eg]; exact hg); rw [eg] at this; exact this
  have ub : b ≠ 0 → (T b).up = x := fun hb => by have := h.upk x hx (!s) (by rw [eb]; exact hb); rw [eb] at this; exact this
  have ua : a ≠ 0 → (T a).up = x := fun ha => by have := h.upk x hx s (by rw [ea]; exact ha); rw [ea] at this; exact this
  have uc : c ≠ 0 → (T c).up = p := fun hc => by have := h.upk p hp (!s) (by rw [ec]; exact hc); rw [ec] at this; exact this
  have nxp : x ≠ p := fun e => by rw [e] at lxp; omega
  have nbx : b ≠ x := fun e => by rw [e] at lbx; omega
  have nbp : b ≠ p := fun e => by rw [e] at lbx; omega
  have nax : a ≠ x := fun e => by rw [e] at lax; omega
  have nap : a ≠ p := fun e => by rw [e] at lax; omega
  have ncp : c ≠ p := fun e => by rw [e] at lcp; omega
  have ncx : c ≠ x := fun e => by have := h.kids hp s (by rw [es]; exact hx); rw [ec, es] at this; exact this e
  have ngx : g ≠ 0 → g ≠ x := fun hg e => by have := lpg hg; rw [e] at this; omega
  have ngp : g ≠ 0 → g ≠ p := fun hg e => by have := lpg hg; rw [e] at this; omega
  have ngb : g ≠ 0 → g ≠ b := fun hg e => by have := lpg hg; rw [e] at this; omega
  have nab : a ≠ 0 → a ≠ b := fun ha e => by have := h.kids hx s (by rw [ea]; exact ha); rw [ea, eb] at this; exact this e.symm
  have ekt : g ≠ 0 → (T g).k (whr T p) = p := fun hg => by have := h.onSide hp (by rw [eg]; exact hg); rw [eg] at this; exact this
  have sx : seq x = seq p := by have := h.climb x hx (by rw [ep]; exact hp); rw [ep] at this; exact this
  have sp : g ≠ 0 → seq p = seq g := fun hg => by have := h.climb p hp (by rw [eg]; exact hg); rw [eg] at this; exact this
  have sb : b ≠ 0 → seq b = seq x := fun hb => by have := h.climb b hb (by rw [ub hb]; exact hx); rw [ub hb] at this; exact this
  obtain ⟨hxs, hxo, hxu, hxt, hxv, hxl, hps, hpo, hpu, hpt, hpv, hpl, hb, hg, ho⟩ := hL
  rw [ea] at hxs hxl
  rw [ec] at hpo hxl hpl
  generalize hsub : (fun y => if y = x then sub p else if y = p then cat s (sub b) p (sub ((T p).k (!s))) else sub y) = sub'
  have s1 : sub' x = sub p := by rw [← hsub]; simp
  have s2 : sub' p = cat s (sub b) p (sub c) := by rw [← hsub, ec]; simp [nxp.symm]
  have s3 : ∀ y, y ≠ x → y ≠ p → sub' y = sub y := fun y h1 h2 => by rw [← hsub]; simp [h1, h2]
  clear hsub
  have epp : sub p = cat s (sub x) p (sub c) := by have := h.eqn p hp s; rw [tp, es, ec] at this; exact this
  have exx : sub x = cat s (sub a) x (sub b) := by have := h.eqn x hx s; rw [tx, ea, eb] at this; exact this
  have key : sub p = cat s (sub a) x (cat s (sub b) p (sub c)) := by rw [epp, exx, cat_cat]
  -- the five sorts of nodes
  have five : ∀ y, y = x ∨ y = p ∨ (b ≠ 0 ∧ y = b) ∨ (g ≠ 0 ∧ y = g) ∨ (T' y = T y ∧ y ≠ x ∧ y ≠ p ∧ (b ≠ 0 → y ≠ b) ∧ (g ≠ 0 → y ≠ g)) := by
    intro y
    by_cases h1 : y = x
    · exact Or.inl h1
    · by_cases h2 : y = p
      · exact Or.inr (Or.inl h2)
      · by_cases h3 : b ≠ 0 ∧ y = b
        · exact Or.inr (Or.inr (Or.inl h3))
        · by_cases h4 : g ≠ 0 ∧ y = g
          · exact Or.inr (Or.inr (Or.inr (Or.inl h4)))
          · have e3 : b ≠ 0 → y ≠ b := fun hb e => h3 ⟨hb, e⟩
            have e4 : g ≠ 0 → y ≠ g := fun hg e => h4 ⟨hg, e⟩
            exact Or.inr (Or.inr (Or.inr (Or.inr ⟨ho y h1 h2 e3 e4, h1, h2, e3, e4⟩)))
  have h0 : T' 0 = T 0 := ho 0 (Ne.symm hx) (Ne.symm hp) (fun hb e => hb e.symm) (fun hg e => hg e.symm)
  refine ⟨h0.trans h.none, by rw [s3 0 (Ne.symm hx) (Ne.symm hp)]; exact h.sub0, fun y hy => ?_, fun y hy s0 hk => ?_, fun y hy hu => ?_, fun y => ?_, fun y hy => ?_, fun y => ?_, fun y hy hu => ?_, fun y hy hu => ?_⟩
  · -- eqn
    rcases five y with rfl | rfl | ⟨hb0, rfl⟩ | ⟨hg0, rfl⟩ | ⟨e, n1, n2, n3, n4⟩
    · refine eqn_side s ?_
      rw [hxt, tx, hxs, hxo, s1, s2, s3 a nax nap, key]; rfl
    · refine eqn_side s ?_
      rw [hpt, tp, hps, hpo, s2, s3 b nbx nbp, s3 c ncx ncp]; rfl
    · rw [hb hb0]
      show ∀ s0, sub' y = flp (T y).t (cat s0 (sub' ((T y).k s0)) y (sub' ((T y).k (!s0))))
      intro s0
      have hk : ∀ s1, sub' ((T y).k s1) = sub ((T y).k s1) := fun s1 => s3 _ (fun e => by have := h.kid_lt hb0 s1; rw [e] at this; omega) (fun e => by have := h.kid_lt hb0 s1; rw [e] at this; omega)
      rw [s3 y nbx nbp, hk, hk]
      exact h.eqn y hb0 s0
    · rw [hg hg0]
      refine eqn_side (whr T p) ?_
      rw [setK_t, setK_k, setK_o, s1, s3 y (ngx hg0) (ngp hg0)]
      have no : (T y).k (!whr T p) ≠ p := fun e => by have := h.kids hg0 (whr T p) (by rw [ekt hg0]; exact hp); rw [ekt hg0] at this; exact this e
      have nx : (T y).k (!whr T p) ≠ x := fun e => by
        have := h.upk y hg0 (!whr T p) (by rw [e]; exact hx)
        rw [e, ep] at this
        exact ngp hg0 this.symm
      rw [s3 _ nx no]
      have := h.eqn y hg0 (whr T p)
      rw [ekt hg0] at this
      exact this
    · intro s0
      have hk : ∀ s1, sub' ((T y).k s1) = sub ((T y).k s1) := fun s1 => s3 _
        (fun e' => by have := h.upk y hy s1 (by rw [e']; exact hx); rw [e', ep] at this; exact n2 this.symm)
        (fun e' => by
          have := h.upk y hy s1 (by rw [e']; exact hp)
          rw [e', eg] at this
          by_cases hg0 : g = 0
          · exact hy (this.symm.trans hg0)
          · exact n4 hg0 this.symm)
      rw [e, s3 y n1 n2, hk, hk]
      exact h.eqn y hy s0
  · -- upk
    have sm : ∀ d, d ≠ x → d ≠ p → (b ≠ 0 → d ≠ b) → (T' d).up = (T d).up := fun d d1 d2 d3 => by
      by_cases hd : g ≠ 0 ∧ d = g
      · rw [hd.2, hg hd.1, setK_up]
      · rw [ho d d1 d2 d3 (fun hg0 e => hd ⟨hg0, e⟩)]
    rcases five y with rfl | rfl | ⟨hb0, rfl⟩ | ⟨hg0, rfl⟩ | ⟨e, n1, n2, n3, n4⟩
    · by_cases e : s0 = s
      · rw [e, hxs] at hk ⊢
        rw [sm a nax nap (fun _ => nab hk), ua hk]
      · have : s0 = !s := by cases s <;> cases s0 <;> simp_all
        rw [this, hxo]; exact hpu
    · by_cases e : s0 = s
      · rw [e, hps] at hk ⊢
        rw [hb hk]
      · have : s0 = !s := by cases s <;> cases s0 <;> simp_all
        rw [this, hpo] at hk ⊢
        rw [sm c ncx ncp (fun hb0 e => by have := ub hb0; rw [← e, uc hk] at this; exact nxp this.symm), uc hk]
    · rw [hb hb0] at hk ⊢
      have hk' : (T y).k s0 ≠ 0 := hk
      have hlt := h.kid_lt hb0 s0
      show (T' ((T y).k s0)).up = y
      rw [sm _ (fun e => by rw [e] at hlt; omega) (fun e => by rw [e] at hlt; omega) (fun _ => h.kid_ne hb0 s0)]
      exact h.upk y hb0 s0 hk'
    · rw [hg hg0] at hk ⊢
      by_cases e : s0 = whr T p
      · rw [e, setK_k]; exact hxu
      · have e2 : s0 = !whr T p := by cases hw : whr T p <;> cases s0 <;> simp_all
        rw [e2, setK_o] at hk ⊢
        have hu := h.upk y hg0 _ hk
        have n1 : (T y).k (!whr T p) ≠ p := fun e => by have := h.kids hg0 (whr T p) (by rw [ekt hg0]; exact hp); rw [ekt hg0] at this; exact this e
        have n2 : (T y).k (!whr T p) ≠ x := fun e => by rw [e, ep] at hu; exact ngp hg0 hu.symm
        rw [sm _ n2 n1 (fun hb0 e => by rw [e, ub hb0] at hu; exact ngx hg0 hu.symm)]
        exact hu
    · rw [e] at hk ⊢
      have hu := h.upk y hy s0 hk
      have m1 : (T y).k s0 ≠ x := fun e' => by rw [e', ep] at hu; exact n2 hu.symm
      have m2 : (T y).k s0 ≠ p := fun e' => by
        rw [e', eg] at hu
        by_cases hg0 : g = 0
        · exact hy (hu.symm.trans hg0)
        · exact n4 hg0 hu.symm
      rw [sm _ m1 m2 (fun hb0 e' => by rw [e', ub hb0] at hu; exact n1 hu.symm)]
      exact hu
  · -- kid
    rcases five y with rfl | rfl | ⟨hb0, rfl⟩ | ⟨hg0, rfl⟩ | ⟨e, n1, n2, n3, n4⟩
    · rw [hxu] at hu ⊢
      exact ⟨whr T p, by rw [hg hu, setK_k]⟩
    · rw [hpu]; exact ⟨!s, hxo⟩
    · rw [hb hb0]; exact ⟨s, hps⟩
    · rw [hg hg0, setK_up] at hu ⊢
      have hl := h.up_lt hg0 hu
      have := lpg hg0
      rw [ho (T y).up (fun e => by rw [e] at hl; omega) (fun e => by rw [e] at hl; omega) (fun _ e => by rw [e] at hl; omega) (fun _ e => by rw [e] at hl; omega)]
      exact h.kid y hg0 hu
    · rw [e] at hu ⊢
      obtain ⟨s1, hs1⟩ := h.kid y hy hu
      rcases five (T y).up with hu1 | hu1 | ⟨hb0, hu1⟩ | ⟨hg0, hu1⟩ | ⟨e2, _⟩
      · rw [hu1] at hs1 ⊢
        by_cases e1 : s1 = s
        · exact ⟨s, by rw [hxs, ← hs1, e1, ea]⟩
        · have : s1 = !s := by cases s <;> cases s1 <;> simp_all
          rw [this, eb] at hs1
          exact absurd hs1.symm (n3 (by rw [hs1]; exact hy))
      · rw [hu1] at hs1 ⊢
        by_cases e1 : s1 = s
        · rw [e1, es] at hs1; exact absurd hs1.symm n1
        · have : s1 = !s := by cases s <;> cases s1 <;> simp_all
          exact ⟨!s, by rw [hpo, ← hs1, this, ec]⟩
      · rw [hu1] at hs1 ⊢
        rw [hb hb0]; exact ⟨s1, hs1⟩
      · rw [hu1] at hs1 ⊢
        rw [hg hg0]
        by_cases e1 : s1 = whr T p
        · rw [e1, ekt hg0] at hs1; exact absurd hs1.symm n2
        · have : s1 = !whr T p := by cases hw : whr T p <;> cases s1 <;> simp_all
          exact ⟨!whr T p, by rw [setK_o, ← this]; exact hs1⟩
      · rw [e2]; exact ⟨s1, hs1⟩
  · -- nd
    by_cases e1 : y = x
    · rw [e1, s1]; exact h.nd p
    · by_cases e2 : y = p
      · rw [e2, s2]
        have := h.nd p
        rw [key] at this
        exact (cat_nd this).2
      · rw [s3 y e1 e2]; exact h.nd y
  · -- val
    rcases five y with rfl | rfl | ⟨hb0, rfl⟩ | ⟨hg0, rfl⟩ | ⟨e, _⟩
    · rw [hxv]; exact h.val _ hy
    · rw [hpv]; exact h.val _ hy
    · rw [hb hb0]; exact h.val _ hy
    · rw [hg hg0, setK_v]; exact h.val _ hy
    · rw [e]; exact h.val _ hy
  · -- tal
    rcases five y with rfl | rfl | ⟨hb0, rfl⟩ | ⟨hg0, rfl⟩ | ⟨e, n1, n2, _⟩
    · rw [s1, key]; exact hxl
    · rw [s2]; exact hpl
    · rw [s3 y nbx nbp, hb hb0]; exact (h.tal y).of rfl rfl rfl rfl
    · rw [s3 y (ngx hg0) (ngp hg0), hg hg0]; exact (h.tal y).of (setK_rest _ _ _) (setK_s _ _ _) (setK_lo _ _ _) (setK_hi _ _ _)
    · rw [s3 y n1 n2, e]; exact h.tal y
  · -- root
    rcases five y with rfl | rfl | ⟨hb0, rfl⟩ | ⟨hg0, rfl⟩ | ⟨e, n1, n2, _⟩
    · rw [hxu] at hu
      rw [s1, sx]
      exact h.root p hp (eg.trans hu)
    · rw [hpu] at hu; exact absurd hu hx
    · rw [hb hb0] at hu; exact absurd hu hp
    · rw [hg hg0, setK_up] at hu
      rw [s3 y (ngx hg0) (ngp hg0)]
      exact h.root y hg0 hu
    · rw [e] at hu
      rw [s3 y n1 n2]; exact h.root y hy hu
  · -- climb
    rcases five y with rfl | rfl | ⟨hb0, rfl⟩ | ⟨hg0, rfl⟩ | ⟨e, n1, n2, _⟩
    · rw [hxu] at hu ⊢
      rw [sx, sp hu]
    · rw [hpu, sx]
    · rw [hb hb0]; show seq y = seq p; rw [sb hb0, sx]
    · rw [hg hg0, setK_up] at hu ⊢
      exact h.climb y hg0 hu
    · rw [e] at hu ⊢
      exact h.climb y hy hu

end Go.Proofs.YtpelpcplagfdiaaDoor
