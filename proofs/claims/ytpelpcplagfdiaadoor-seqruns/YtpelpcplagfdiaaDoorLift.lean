/- What a lift makes of the nodes; settling: plain facts. -/
import Derived.Test.YtpelpcplagfdiaaDoorRot
namespace Go.Proofs.YtpelpcplagfdiaaDoor
open Go.RowKit

variable {T T' : Tb} {v : Nat → Int} {sub seq : Nat → List Nat}

theorem putT_other {x k y : Nat} {s : Bool} (hy : y ≠ x) (hk : k ≠ 0 → y ≠ k) : putT T x s k y = T y := by
  unfold putT
  split
  · rw [upd_ne hy]
  · next h => rw [upd_ne (hk h), upd_ne hy]

theorem putT_tal {x k y : Nat} {s : Bool} {l : List Nat} (hy : y ≠ x) (h : Tal (T y) v l) : Tal (putT T x s k y) v l := by
  by_cases e : k ≠ 0 ∧ y = k
  · obtain ⟨hk, rfl⟩ := e
    unfold putT
    rw [if_neg hk, upd_same]
    exact h.of rfl rfl rfl rfl
  · rw [putT_other hy (fun hk e' => e ⟨hk, e'⟩)]; exact h

theorem hangT_other {x k y : Nat} {s : Bool} (hy : y ≠ x) (hk : k ≠ 0 → y ≠ k) : hangT T x s k y = T y := by
  unfold hangT tallyT
  rw [upd_ne hy, putT_other hy hk]

theorem hangT_kid {x k : Nat} {s : Bool} (hk : k ≠ 0) (hkx : k ≠ x) : hangT T x s k k = { T k with up := x } := by
  unfold hangT tallyT
  rw [upd_ne hkx]
  unfold putT
  rw [if_neg hk, upd_same]

theorem tally_k (n a b : Nd) (s : Bool) : (tally n a b).k s = n.k s := by cases s <;> rfl

theorem hangT_self {x k : Nat} {s : Bool} (hkx : k ≠ x) :
    (hangT T x s k x).k s = k ∧ (hangT T x s k x).k (!s) = (T x).k (!s) ∧ (hangT T x s k x).up = (T x).up ∧ (hangT T x s k x).t = (T x).t ∧ (hangT T x s k x).v = (T x).v := by
  unfold hangT tallyT
  rw [upd_same, putT_x hkx, tally_k, tally_k, setK_k, setK_o]
  exact ⟨rfl, rfl, setK_up _ _ _, setK_t _ _ _, setK_v _ _ _⟩

theorem hangT_tal {x k o : Nat} {s : Bool} {K O : List Nat} (hkx : k ≠ x) (ho : (T x).k (!s) = o) (hox : o ≠ x) (hv : (T x).v = v x) (hK : Tal (T k) v K) (hO : Tal (T o) v O) (hl : K.length + O.length ≤ 1000000000) :
    Tal (hangT T x s k x) v (cat s K x O) := by
  have e1 := putT_tal (x := x) (k := k) (s := s) hkx hK
  have e2 := putT_tal (x := x) (k := k) (s := s) hox hO
  unfold hangT tallyT
  rw [upd_same, putT_x hkx]
  cases s
  · have ho' : ((T x).setK false k).r = o := ho
    rw [ho']
    exact (tally_tal (hv ▸ setK_v _ _ _) e1 e2 hl false).1
  · have ho' : ((T x).setK true k).l = o := ho
    rw [ho']
    exact (tally_tal (hv ▸ setK_v _ _ _) e2 e1 (by omega) true).2

/-- What 'lift' makes of the table. -/
def liftT (T : Tb) (x : Nat) : Tb :=
  let T2 := hangT (hangT T (T x).up (whr T x) ((T x).k (!whr T x))) x (!whr T x) (T x).up
  let T3 := upd T2 x { T2 x with up := (T (T x).up).up }
  if (T (T x).up).up = 0 then T3 else upd T3 (T (T x).up).up ((T3 (T (T x).up).up).setK (whr T (T x).up) x)

/-- What the walk of a lift must know. -/
structure Near (T : Tb) (x p b g c a : Nat) (s : Bool) : Prop where
  ep : (T x).up = p
  es : (T p).k s = x
  es' : whr T x = s
  eb : (T x).k (!s) = b
  eg : (T p).up = g
  ec : (T p).k (!s) = c
  ea : (T x).k s = a
  nxp : x ≠ p
  nbx : b ≠ x
  nbp : b ≠ p
  nax : a ≠ x
  nap : a ≠ p
  nab : a ≠ 0 → a ≠ b
  ncp : c ≠ p
  ncx : c ≠ x
  ncb : c ≠ 0 → c ≠ b
  ngx : g ≠ 0 → g ≠ x
  ngp : g ≠ 0 → g ≠ p
  ngb : g ≠ 0 → g ≠ b

theorem Inv.near (h : Inv T v sub seq) {x : Nat} (hx : x ≠ 0) (hp : (T x).up ≠ 0) : ∃ p b g c a s, p ≠ 0 ∧ Near T x p b g c a s := by
  obtain ⟨p, ep⟩ : ∃ p, (T x).up = p := ⟨_, rfl⟩
  obtain ⟨s, es'⟩ : ∃ s, whr T x = s := ⟨_, rfl⟩
  have es := h.onSide hx hp
  rw [es', ep] at es
  rw [ep] at hp
  obtain ⟨b, eb⟩ : ∃ b, (T x).k (!s) = b := ⟨_, rfl⟩
  obtain ⟨g, eg⟩ : ∃ g, (T p).up = g := ⟨_, rfl⟩
  obtain ⟨a, ea⟩ : ∃ a, (T x).k s = a := ⟨_, rfl⟩
  obtain ⟨c, ec⟩ : ∃ c, (T p).k (!s) = c := ⟨_, rfl⟩
  have lxp : (sub x).length < (sub p).length := by have := h.kid_lt hp s; rw [es] at this; exact this
  have lbx : (sub b).length < (sub x).length := by have := h.kid_lt hx (!s); rw [eb] at this; exact this
  have lax : (sub a).length < (sub x).length := by have := h.kid_lt hx s; rw [ea] at this; exact this
  have lcp : (sub c).length < (sub p).length := by have := h.kid_lt hp (!s); rw [ec] at this; exact this
  have lpg : g ≠ 0 → (sub p).length < (sub g).length := fun hg => by have := h.up_lt hp (by rw [eg]; exact hg); rw [eg] at this; exact this
  have nxp : x ≠ p := fun e => by rw [e] at lxp; omega
  refine ⟨p, b, g, c, a, s, hp, ep, es, es', eb, eg, ec, ea, nxp, fun e => by rw [e] at lbx; omega, fun e => by rw [e] at lbx; omega, fun e => by rw [e] at lax; omega, fun e => by rw [e] at lax; omega, ?_, fun e => by rw [e] at lcp; omega, ?_, ?_,
    fun hg e => by have := lpg hg; rw [e] at this; omega, fun hg e => by have := lpg hg; rw [e] at this; omega, fun hg e => by have := lpg hg; rw [e] at this; omega⟩
  · intro ha e; have := h.kids hx s (by rw [ea]; exact ha); rw [ea, eb] at this; exact this e.symm
  · intro e; have := h.kids hp s (by rw [es]; exact hx); rw [ec, es] at this; exact this e
  · intro hc e
    have h1 := h.upk p hp (!s) (by rw [ec]; exact hc)
    have h2 := h.upk x hx (!s) (by rw [eb, ← e]; exact hc)
    rw [ec] at h1
    rw [eb, ← e, h1] at h2
    exact nxp h2.symm

theorem lift_nodes (h : Inv T v sub seq) {x p b g c a : Nat} {s : Bool} (hx : x ≠ 0) (hp : p ≠ 0) (n : Near T x p b g c a s) (hB : ∀ y, (sub y).length ≤ 300000000) : Lifted T (liftT T x) v sub x p b g s := by
  obtain ⟨ep, es, es', eb, eg, ec, ea, nxp, nbx, nbp, nax, nap, nab, ncp, ncx, ncb, ngx, ngp, ngb⟩ := n
  obtain ⟨T1, hT1⟩ : ∃ T1, hangT T p s b = T1 := ⟨_, rfl⟩
  obtain ⟨T2, hT2⟩ : ∃ T2, hangT T1 x (!s) p = T2 := ⟨_, rfl⟩
  obtain ⟨T3, hT3⟩ : ∃ T3, upd T2 x { T2 x with up := g } = T3 := ⟨_, rfl⟩
  obtain ⟨T4, hT4⟩ : ∃ T4, (if g = 0 then T3 else upd T3 g ((T3 g).setK (whr T p) x)) = T4 := ⟨_, rfl⟩
  have hlift : liftT T x = T4 := by
    subst hT4 hT3 hT2 hT1
    unfold liftT
    rw [ep, es', eb, eg]
  rw [hlift]
  clear hlift
  have o1 : ∀ y, y ≠ p → (b ≠ 0 → y ≠ b) → T1 y = T y := fun y h1 h2 => by rw [← hT1]; exact hangT_other h1 h2
  have x1 : T1 x = T x := o1 x nxp (fun _ => nbx.symm)
  have p1 := hangT_self (T := T) (s := s) nbp
  rw [hT1, ec] at p1
  have b1 : b ≠ 0 → T1 b = { T b with up := p } := fun hb => by rw [← hT1]; exact hangT_kid hb nbp
  have tp1 : Tal (T1 p) v (cat s (sub b) p (sub c)) := by
    rw [← hT1]
    exact hangT_tal nbp ec ncp (h.val p hp) (h.tal b) (h.tal c) (by have := hB b; have := hB c; omega)
  have ta1 : Tal (T1 a) v (sub a) := by
    rw [o1 a nap (fun hb e => nab (fun e0 => hb (by rw [← e, e0])) e)]
    exact h.tal a
  clear hT1
  have o2 : ∀ y, y ≠ x → y ≠ p → T2 y = T1 y := fun y h1 h2 => by rw [← hT2]; exact hangT_other h1 (fun _ => h2)
  have p2 : T2 p = { T1 p with up := x } := by rw [← hT2]; exact hangT_kid hp nxp.symm
  have x2 := hangT_self (T := T1) (x := x) (k := p) (s := !s) nxp.symm
  rw [hT2, x1, Bool.not_not, ea] at x2
  have tx2 : Tal (T2 x) v (cat s (sub a) x (cat s (sub b) p (sub c))) := by
    rw [← cat_swap, ← hT2]
    exact hangT_tal nxp.symm (by rw [x1, Bool.not_not]; exact ea) nax (by rw [x1]; exact h.val x hx) tp1 ta1 (by rw [cat_len]; have := hB a; have := hB b; have := hB c; omega)
  clear hT2
  have x3 : T3 x = { T2 x with up := g } := by rw [← hT3, upd_same]
  have o3 : ∀ y, y ≠ x → T3 y = T2 y := fun y hy => by rw [← hT3, upd_ne hy]
  clear hT3
  have o4 : ∀ y, (g ≠ 0 → y ≠ g) → T4 y = T3 y := fun y hy => by
    rw [← hT4]
    split
    · rfl
    · next hg => rw [upd_ne (hy hg)]
  have g4 : g ≠ 0 → T4 g = (T3 g).setK (whr T p) x := fun hg => by rw [← hT4, if_neg hg, upd_same]
  clear hT4
  have x4 : T4 x = { T2 x with up := g } := by rw [o4 x (fun hg e => ngx hg e.symm), x3]
  have p4 : T4 p = { T1 p with up := x } := by rw [o4 p (fun hg e => ngp hg e.symm), o3 p nxp.symm, p2]
  refine ⟨?_, ?_, by rw [x4], ?_, ?_, ?_, ?_, ?_, by rw [p4], ?_, ?_, ?_, fun hb => ?_, fun hg => ?_, fun y h1 h2 h3 h4 => ?_⟩
  · rw [x4, ea]; exact x2.2.1
  · rw [x4]; exact x2.1
  · rw [x4]; exact x2.2.2.2.1
  · rw [x4]; exact x2.2.2.2.2
  · rw [x4, ea, ec]; exact tx2.of rfl rfl rfl rfl
  · rw [p4]; exact p1.1
  · rw [p4, ec]; exact p1.2.1
  · rw [p4]; exact p1.2.2.2.1
  · rw [p4]; exact p1.2.2.2.2
  · rw [p4, ec]; exact tp1.of rfl rfl rfl rfl
  · rw [o4 b (fun hg e => ngb hg e.symm), o3 b nbx, o2 b nbx nbp, b1 hb]
  · rw [g4 hg, o3 g (ngx hg), o2 g (ngx hg) (ngp hg), o1 g (ngp hg) (fun _ => ngb hg)]
  · rw [o4 y h4, o3 y h1, o2 y h1 h2, o1 y h2 h3]

theorem Inv.lift (h : Inv T v sub seq) {x p b g c a : Nat} {s : Bool} (hx : x ≠ 0) (hp : p ≠ 0) (n : Near T x p b g c a s) (hB : ∀ y, (sub y).length ≤ 300000000) (tx : (T x).t = false) (tp : (T p).t = false) :
    Inv (liftT T x) v (fun y => if y = x then sub p else if y = p then cat s (sub b) p (sub ((T p).k (!s))) else sub y) seq :=
  h.rot hx hp n.ep n.es n.eb n.eg tx tp (lift_nodes h hx hp n hB)

theorem turnT_at {x y : Nat} : turnT T x y = if y = x ∧ x ≠ 0 then { T x with t := !(T x).t } else T y := by
  unfold turnT upd
  by_cases h0 : x = 0
  · simp [h0]
  · by_cases h1 : y = x
    · simp [h0, h1]
    · simp [h0, h1]

/-- A node settled. -/
theorem Inv.settle (h : Inv T v sub seq) {x : Nat} (hx : x ≠ 0) (ht : (T x).t = true) :
    Inv (settleT T x) v (fun y => if y ≠ 0 ∧ (T y).up = x then (sub y).reverse else sub y) seq ∧ (settleT T x x).t = false ∧ (∀ y, (settleT T x y).up = (T y).up) ∧ (∀ y, y ≠ x → (y ≠ 0 → (T y).up ≠ x) → settleT T x y = T y) ∧ (∀ y, (settleT T x y).k true = if y = x then (T x).l else (T y).r) ∧ (∀ y, (settleT T x y).k false = if y = x then (T x).r else (T y).l) := by
  obtain ⟨L, hL⟩ : ∃ L, (T x).l = L := ⟨_, rfl⟩
  obtain ⟨R, hR⟩ : ∃ R, (T x).r = R := ⟨_, rfl⟩
  have nLx : L ≠ x := by have := h.kid_ne hx false; exact fun e => this (hL.trans e)
  have nRx : R ≠ x := by have := h.kid_ne hx true; exact fun e => this (hR.trans e)
  have uL : L ≠ 0 → (T L).up = x := fun h0 => by have := h.upk x hx false (by rw [show (T x).k false = L from hL]; exact h0); rw [show (T x).k false = L from hL] at this; exact this
  have uR : R ≠ 0 → (T R).up = x := fun h0 => by have := h.upk x hx true (by rw [show (T x).k true = R from hR]; exact h0); rw [show (T x).k true = R from hR] at this; exact this
  have nLR : L ≠ 0 → L ≠ R := fun h0 e => by
    have := h.kids hx false (by rw [show (T x).k false = L from hL]; exact h0)
    exact this (hR.trans (e.symm.trans hL.symm))
  have kd : ∀ y, y ≠ 0 → (T y).up = x → y = L ∨ y = R := fun y hy hu => by
    obtain ⟨s, hs⟩ := h.kid y hy (by rw [hu]; exact hx)
    rw [hu] at hs
    cases s
    · exact Or.inl (hs.symm.trans hL)
    · exact Or.inr (hs.symm.trans hR)
  have hT : ∀ y, settleT T x y = if y = x then swapN (T x) else if y ≠ 0 ∧ (T y).up = x then { T y with t := !(T y).t } else T y := by
    intro y
    unfold settleT
    rw [ht, if_pos rfl, hL, hR, turnT_at, turnT_at, turnT_at]
    by_cases e1 : y = x
    · subst e1
      simp [nLx.symm, nRx.symm, upd_same]
    · by_cases e2 : y = L
      · subst e2
        by_cases h0 : y = 0
        · subst h0; simp [Ne.symm hx, upd_ne (Ne.symm hx)]
          intro e3 e4; exact absurd e3.symm e4
        · simp [h0, e1, uL h0, nLR h0, upd_ne e1]
      · by_cases e3 : y = R
        · subst e3
          by_cases h0 : y = 0
          · subst h0; simp [Ne.symm hx, upd_ne (Ne.symm hx), e2]
          · simp [h0, e1, e2, uR h0, upd_ne e1]
        · have : ¬ (y ≠ 0 ∧ (T y).up = x) := fun ⟨h0, hu⟩ => by rcases kd y h0 hu with e | e <;> contradiction
          simp [e1, e2, e3, this, upd_ne e1]
  generalize settleT T x = T' at hT
  have up' : ∀ y, (T' y).up = (T y).up := fun y => by
    rw [hT]
    split
    · next e => rw [e]; rfl
    · split <;> rfl
  have k1 : ∀ y, (T' y).k true = if y = x then (T x).l else (T y).r := fun y => by
    rw [hT]
    split
    · rfl
    · split <;> rfl
  have k0 : ∀ y, (T' y).k false = if y = x then (T x).r else (T y).l := fun y => by
    rw [hT]
    split
    · rfl
    · split <;> rfl
  have ks : ∀ y, y ≠ x → ∀ s, (T' y).k s = (T y).k s := fun y hy s => by
    cases s
    · rw [k0, if_neg hy]; rfl
    · rw [k1, if_neg hy]; rfl
  have kx : ∀ s, (T' x).k s = (T x).k (!s) := fun s => by
    cases s
    · rw [k0, if_pos rfl]; rfl
    · rw [k1, if_pos rfl]; rfl
  generalize hsub : (fun y => if y ≠ 0 ∧ (T y).up = x then (sub y).reverse else sub y) = sub'
  have sk : ∀ y, y ≠ 0 → (T y).up = x → sub' y = (sub y).reverse := fun y h1 h2 => by rw [← hsub]; simp [h1, h2]
  have so : ∀ y, (y ≠ 0 → (T y).up ≠ x) → sub' y = sub y := fun y h1 => by
    rw [← hsub]; dsimp only
    rw [if_neg (fun e => h1 e.1 e.2)]
  have sx : sub' x = sub x := so x (fun _ e => by have := h.up_lt hx (by rw [e]; exact hx); rw [e] at this; omega)
  have s0 : sub' 0 = [] := by rw [so 0 (fun e => absurd rfl e)]; exact h.sub0
  clear hsub
  refine ⟨⟨?_, s0, fun y hy s => ?_, fun y hy s hk => ?_, fun y hy hu => ?_, fun y => ?_, fun y hy => ?_, fun y => ?_, fun y hy hu => ?_, fun y hy hu => ?_⟩, ?_, up', fun y h1 h2 => ?_, k1, k0⟩
  · rw [hT, if_neg (Ne.symm hx), if_neg (fun e => e.1 rfl)]; exact h.none
  · by_cases e1 : y = x
    · subst e1
      rw [sx, hT, if_pos rfl]
      have kk : ∀ s, sub' ((T y).k s) = (sub ((T y).k s)).reverse := fun s => by
        by_cases h0 : (T y).k s = 0
        · rw [h0, s0, h.sub0]; rfl
        · exact sk _ h0 (h.upk y hy s h0)
      have e : ∀ s, (swapN (T y)).k s = (T y).k (!s) := fun s => by cases s <;> rfl
      rw [e, e, kk, kk, Bool.not_not]
      have := h.eqn y hy (!s)
      rw [ht, Bool.not_not] at this
      rw [this]
      show (cat (!s) _ y _).reverse = cat s _ y _
      rw [cat_rev, cat_swap]
    · have hkk : ∀ s, sub' ((T y).k s) = sub ((T y).k s) := fun s => so _ (fun h0 e => e1 (by rw [← h.upk y hy s h0]; exact e))
      rw [ks y e1, ks y e1, hkk, hkk]
      by_cases e2 : (T y).up = x
      · rw [sk y hy e2, hT, if_neg e1, if_pos ⟨hy, e2⟩]
        show _ = flp (!(T y).t) _
        rw [flp_not, ← h.eqn y hy s]
      · rw [so y (fun _ => e2), hT, if_neg e1, if_neg (fun e => e2 e.2)]
        exact h.eqn y hy s
  · rw [up']
    by_cases e1 : y = x
    · subst e1
      rw [kx] at hk ⊢
      exact h.upk y hy _ hk
    · rw [ks y e1] at hk ⊢
      exact h.upk y hy _ hk
  · rw [up'] at hu ⊢
    obtain ⟨s, hs⟩ := h.kid y hy hu
    by_cases e1 : (T y).up = x
    · rw [e1] at hs ⊢
      exact ⟨!s, by rw [kx, Bool.not_not]; exact hs⟩
    · exact ⟨s, by rw [ks _ e1]; exact hs⟩
  · by_cases e : y ≠ 0 ∧ (T y).up = x
    · rw [sk y e.1 e.2, nodup_rev]; exact h.nd y
    · rw [so y (fun h0 e2 => e ⟨h0, e2⟩)]; exact h.nd y
  · rw [hT]
    split
    · next e => subst e; exact h.val y hy
    · split <;> exact h.val y hy
  · by_cases e : y ≠ 0 ∧ (T y).up = x
    · have e1 : y ≠ x := fun e' => by have := h.up_lt e.1 (by rw [e.2]; exact hx); rw [e.2, e'] at this; omega
      rw [sk y e.1 e.2, hT, if_neg e1, if_pos e]
      exact (h.tal y).rev.of rfl rfl rfl rfl
    · rw [so y (fun h0 e2 => e ⟨h0, e2⟩), hT]
      split
      · next e1 => subst e1; exact (h.tal y).of rfl rfl rfl rfl
      · exact h.tal y
  · rw [up'] at hu
    rw [so y (fun _ e => hx (by rw [← e]; exact hu))]
    exact h.root y hy hu
  · rw [up'] at hu ⊢
    exact h.climb y hy hu
  · rw [hT, if_pos rfl]; rfl
  · rw [hT, if_neg h1, if_neg (fun e => h2 e.1 e.2)]

end Go.Proofs.YtpelpcplagfdiaaDoor
