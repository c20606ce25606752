/- Stretches that hang on one another: the table as it is kept, and the trees in it: plain facts. -/
import Derived.Test.YtnkgpjjlgbggcaaDoorActs
import Derived.Test.YtnkgpjjlgbggcaaDoorWood6
namespace Go.Proofs.YtnkgpjjlgbggcaaDoor
open Go.RowKit
set_option linter.unusedVariables false

variable {T T' : Tb} {v : Nat → Int} {sub sub' seq : Nat → List Nat} {N : Nat} {pp pp' par par' : Nat → Nat}

def rn (pp : Nat → Nat) (x : Nat) (n : Nd) : Nd := { n with up := if n.up = 0 then pp x else n.up }
/-- The table as it is kept: above a stretch's top is what the stretch hangs on. -/
def real (T : Tb) (pp : Nat → Nat) : Tb := fun x => rn pp x (T x)

theorem real_up0 {x : Nat} (h : (T x).up = 0) : (real T pp x).up = pp x := if_pos h
theorem real_up1 {x : Nat} (h : (T x).up ≠ 0) : (real T pp x).up = (T x).up := if_neg h
theorem real_k (x : Nat) (s : Bool) : (real T pp x).k s = (T x).k s := by cases s <;> rfl

theorem real_upd (x : Nat) (n : Nd) : real (upd T x n) pp = upd (real T pp) x (rn pp x n) := by
  funext y
  unfold real upd
  by_cases e : y = x
  · simp only [e, if_true]
  · simp only [e, if_false]

theorem rn_setK (x : Nat) (n : Nd) (s : Bool) (k : Nat) : rn pp x (n.setK s k) = (rn pp x n).setK s k := by cases s <;> rfl

theorem real_put {x k : Nat} (s : Bool) (hx : x ≠ 0) : real (putT T x s k) pp = putT (real T pp) x s k := by
  unfold putT
  split
  · rw [real_upd, rn_setK]; rfl
  · rw [real_upd, real_upd, rn_setK]
    have : rn pp k { T k with up := x } = { real T pp k with up := x } := by
      unfold real rn
      dsimp only
      rw [if_neg hx]
    rw [this]; rfl

theorem real_tally (x : Nat) : real (tallyT T x) pp = tallyT (real T pp) x := by
  unfold tallyT
  rw [real_upd]; rfl

theorem real_hang {x k : Nat} (s : Bool) (hx : x ≠ 0) : real (hangT T x s k) pp = hangT (real T pp) x s k := by
  unfold hangT
  rw [real_tally, real_put s hx]

theorem real_turn (x : Nat) : real (turnT T x) pp = turnT (real T pp) x := by
  unfold turnT
  split
  · rfl
  · rw [real_upd]; rfl

theorem real_settle (x : Nat) : real (settleT T x) pp = settleT (real T pp) x := by
  unfold settleT
  show _ = if (T x).t then turnT (turnT (upd (real T pp) x (swapN (real T pp x))) (T x).r) (T x).l else real T pp
  split
  · rw [real_turn, real_turn, real_upd]; rfl
  · rfl

/-- Only what a top hangs on is kept. -/
theorem real_congr (h : ∀ y, (T y).up = 0 → pp' y = pp y) : real T pp' = real T pp := by
  funext y
  unfold real rn
  by_cases e : (T y).up = 0
  · rw [h y e]
  · rw [if_neg e, if_neg e]

theorem putT_congr {U V : Tb} {x k y : Nat} {s : Bool} (h : ∀ y, y ≠ x → V y = U y) (hkx : k ≠ x) (hy : y ≠ x) : putT V x s k y = putT U x s k y := by
  by_cases hk : k = 0
  · unfold putT; rw [if_pos hk, if_pos hk, upd_ne hy, upd_ne hy, h y hy]
  · unfold putT
    rw [if_neg hk, if_neg hk]
    by_cases e : y = k
    · rw [e, upd_same, upd_same, h k hkx]
    · rw [upd_ne e, upd_ne e, upd_ne hy, upd_ne hy, h y hy]

theorem hang_hang {U : Tb} {x k : Nat} (hx : x ≠ 0) (hkx : k ≠ x) (ho : (U x).l ≠ x) : hangT (hangT U x true 0) x true k = hangT U x true k := by
  obtain ⟨V, hV⟩ : ∃ V, hangT U x true 0 = V := ⟨_, rfl⟩
  have hVo : ∀ y, y ≠ x → V y = U y := fun y hy => by rw [← hV]; exact hangT_other hy (fun e => absurd rfl e)
  have hVx : ∃ a b, V x = tally ((U x).setK true 0) a b := ⟨_, _, by
    rw [← hV]
    unfold hangT tallyT
    rw [upd_same, putT_x (Ne.symm hx)]⟩
  obtain ⟨a, b, hVx⟩ := hVx
  rw [hV]
  funext y
  unfold hangT tallyT
  by_cases e : y = x
  · rw [e, upd_same, upd_same, putT_x hkx, putT_x hkx, hVx]
    show tally _ (putT V x true k (U x).l) (putT V x true k k) = tally _ (putT U x true k (U x).l) (putT U x true k k)
    rw [putT_congr hVo hkx ho, putT_congr hVo hkx hkx]
    rfl
  · rw [upd_ne e, upd_ne e, putT_congr hVo hkx e]

/-- Nothing hung where nothing is. -/
theorem Gd.hang0 (h : Gd N T v sub seq) {x : Nat} (hx : x ≠ 0) (hr : (T x).r = 0) : hangT T x true 0 = T := by
  have i := h.inv
  funext y
  by_cases e : y = x
  · subst e
    have self := hangT_self (T := T) (x := y) (k := 0) (s := true) (Ne.symm hx)
    have eqn := i.eqn y hx true
    rw [show (T y).k true = 0 from hr, i.sub0] at eqn
    have tal := (hangT_tal (T := T) (v := v) (x := y) (k := 0) (s := true) (Ne.symm hx) (o := (T y).l) rfl (i.kid_ne hx false) (i.val y hx) (by have := i.tal 0; rw [i.sub0] at this; exact this) (i.tal (T y).l) (by have := h.len3 (T y).l; simp; omega)).flp (T y).t
    rw [show sub (T y).l = sub ((T y).k (!true)) from rfl, ← eqn] at tal
    have old := i.tal y
    obtain ⟨s1, s2, s3, s4, s5⟩ := self
    generalize hangT T y true 0 y = n at s1 s2 s3 s4 s5 tal
    have e1 := tal.rest.trans old.rest.symm
    have e2 := tal.s.trans old.s.symm
    have e3 := tal.lo.trans old.lo.symm
    have e4 := tal.hi.trans old.hi.symm
    have e5 : n.r = (T y).r := s1.trans hr.symm
    have e6 : n.l = (T y).l := s2
    generalize T y = m at *
    cases n
    cases m
    simp_all
  · exact hangT_other e (fun e => absurd rfl e)

/-- What 'shed' makes of the table. -/
def looseT (T : Tb) (x : Nat) (s : Bool) : Tb := hangT (upd T ((T x).k s) { T ((T x).k s) with up := 0 }) x s 0
def cutP (seq : Nat → List Nat) (A B : List Nat) : Nat → List Nat := fun y => if y ∈ A then A else if y ∈ B then B else seq y

theorem cat_parts {s : Bool} {A B : List Nat} {x : Nat} (h : (cat s A x B).Nodup) : A.Nodup ∧ (cat s [] x B).Nodup ∧ ∀ y, y ∈ A → y ∉ cat s [] x B := by
  cases s
  · simp only [cat, Bool.false_eq_true, ↓reduceIte, List.nodup_append, List.nil_append] at h ⊢
    exact ⟨h.1, h.2.1, fun y h1 h2 => h.2.2 y h1 y h2 rfl⟩
  · simp only [cat, ↓reduceIte] at h ⊢
    rw [show B ++ x :: A = (B ++ [x]) ++ A from by simp, List.nodup_append] at h
    exact ⟨h.2.1, h.1, fun y h1 h2 => h.2.2 y h2 y h1 rfl⟩

theorem Gd.shedS (h : Gd N T v sub seq) {x : Nat} (s : Bool) (hx : x ≠ 0) (hu : (T x).up = 0) (ht : (T x).t = false) (hxN : x < N) {K O : Nat} (eK : (T x).k s = K) (eO : (T x).k (!s) = O) (hK : K ≠ 0) :
    (∃ sub', Gd N (looseT T x s) v sub' (cutP seq (sub K) (cat s [] x (sub O)))) ∧ (looseT T x s x).k s = 0 ∧ (looseT T x s x).k (!s) = O ∧ (looseT T x s x).up = 0 ∧ (looseT T x s x).t = false ∧ (∀ y, y ≠ x → y ≠ K → looseT T x s y = T y) ∧ looseT T x s K = { T K with up := 0 } ∧ looseT T x s = hangT (upd T K { T K with up := 0 }) x s 0 := by
  have i := h.inv
  have hr := i.root x hx hu
  have nKx : K ≠ x := by have := i.kid_ne hx s; rw [eK] at this; exact this
  have nOx : O ≠ x := by have := i.kid_ne hx (!s); rw [eO] at this; exact this
  have nOK : O ≠ K := by have := i.kids hx s (by rw [eK]; exact hK); rw [eK, eO] at this; exact this
  have uK : (T K).up = x := by have := i.upk x hx s (by rw [eK]; exact hK); rw [eK] at this; exact this
  have eqx : sub x = cat s (sub K) x (sub O) := by have := i.eqn x hx s; rw [ht, eK, eO] at this; exact this
  have KN : K < N := by rw [← eK]; exact h.k_lt x s
  have hO0 : ∀ {y}, y ∈ sub O → O ≠ 0 := fun hy e => by rw [e, i.sub0] at hy; cases hy
  have ndx := i.nd x
  rw [eqx] at ndx
  obtain ⟨nd1, nd2, nd3⟩ := cat_parts ndx
  have mM : ∀ y, y ∈ cat s [] x (sub O) ↔ y = x ∨ y ∈ sub O := fun y => by rw [cat_mem]; simp
  have xM : x ∈ cat s [] x (sub O) := (mM x).2 (Or.inl rfl)
  have xK : x ∉ sub K := fun e => nd3 x e xM
  obtain ⟨T1, hT1⟩ : ∃ T1, upd T K { T K with up := 0 } = T1 := ⟨_, rfl⟩
  have o1 : ∀ y, y ≠ K → T1 y = T y := fun y hy => by rw [← hT1, upd_ne hy]
  have l1 : T1 K = { T K with up := 0 } := by rw [← hT1, upd_same]
  have es : looseT T x s = hangT T1 x s 0 := by show hangT (upd T ((T x).k s) { T ((T x).k s) with up := 0 }) x s 0 = _; rw [eK, hT1]
  rw [es, hT1]
  have x1 : T1 x = T x := o1 x nKx.symm
  have self := hangT_self (T := T1) (x := x) (k := 0) (s := s) (Ne.symm hx)
  rw [x1, eO] at self
  have tal' : Tal (hangT T1 x s 0 x) v (cat s [] x (sub O)) :=
    hangT_tal (Ne.symm hx) (by rw [x1]; exact eO) nOx (by rw [x1]; exact i.val x hx) (by rw [o1 0 (Ne.symm hK)]; have := i.tal 0; rw [i.sub0] at this; exact this) (by rw [o1 O nOK]; exact i.tal O) (by have := h.len3 O; simp; omega)
  have o2 : ∀ y, y ≠ x → hangT T1 x s 0 y = T1 y := fun y hy => hangT_other hy (fun e => absurd rfl e)
  refine ⟨?_, self.1, self.2.1, self.2.2.1.trans hu, self.2.2.2.1.trans ht, fun y h1 h2 => (o2 y h1).trans (o1 y h2), (o2 K nKx).trans l1, rfl⟩
  generalize hangT T1 x s 0 = T2 at self tal' o2
  have l2 : T2 K = { T K with up := 0 } := by rw [o2 K nKx, l1]
  have oo : ∀ y, y ≠ x → y ≠ K → T2 y = T y := fun y h1 h2 => by rw [o2 y h1, o1 y h2]
  have k2 : ∀ y, y ≠ x → ∀ s, (T2 y).k s = (T y).k s := fun y hy s => by
    by_cases e : y = K
    · rw [e, l2]; cases s <;> rfl
    · rw [oo y hy e]
  have nkx : ∀ y, y ≠ 0 → ∀ s, (T y).k s ≠ x := fun y hy s e => by
    have := i.upk y hy s (by rw [e]; exact hx)
    rw [e, hu] at this
    exact hy this.symm
  refine ⟨fun y => if y = x then cat s [] x (sub O) else sub y, ⟨?_, ?_, fun y hy => ?_, fun y hy s0 hk => ?_, fun y hy hu' => ?_, fun y => ?_, fun y hy => ?_, fun y => ?_, fun y hy hu' => ?_, fun y hy hu' => ?_⟩, fun y hy => ?_, h.pos, h.big⟩
  · rw [oo 0 (Ne.symm hx) (Ne.symm hK)]; exact i.none
  · rw [if_neg (Ne.symm hx)]; exact i.sub0
  · by_cases e : y = x
    · subst e
      refine eqn_side (sub := fun d => if d = y then cat s [] y (sub O) else sub d) s ?_
      try dsimp only
      rw [if_pos rfl, self.2.2.2.1, ht, self.1, self.2.1, if_neg (Ne.symm hx), i.sub0, if_neg nOx]
      rfl
    · intro s0
      rw [if_neg e, k2 y e, k2 y e, if_neg (nkx y hy s0), if_neg (nkx y hy (!s0))]
      have et : (T2 y).t = (T y).t := by
        by_cases e2 : y = K
        · rw [e2, l2]
        · rw [oo y e e2]
      rw [et]
      exact i.eqn y hy s0
  · have upo : ∀ d, d ≠ x → d ≠ K → (T2 d).up = (T d).up := fun d h1 h2 => by rw [oo d h1 h2]
    by_cases e : y = x
    · subst e
      by_cases e0 : s0 = s
      · rw [e0, self.1] at hk; exact absurd rfl hk
      · have e0 : s0 = !s := by cases s <;> cases s0 <;> simp_all
        rw [e0, self.2.1] at hk ⊢
        rw [upo O nOx nOK]
        have := i.upk y hy (!s) (by rw [eO]; exact hk)
        rw [eO] at this
        exact this
    · rw [k2 y e] at hk ⊢
      have := i.upk y hy s0 hk
      rw [upo _ (nkx y hy s0) (fun e' => by rw [e', uK] at this; exact e this.symm)]
      exact this
  · have e1 : y ≠ x := fun e => by rw [e, self.2.2.1, hu] at hu'; exact hu' rfl
    have e2 : y ≠ K := fun e => by rw [e, l2] at hu'; exact hu' rfl
    rw [oo y e1 e2] at hu' ⊢
    obtain ⟨s0, hs⟩ := i.kid y hy hu'
    by_cases e : (T y).up = x
    · rw [e] at hs ⊢
      by_cases e0 : s0 = s
      · rw [e0, eK] at hs; exact absurd hs.symm e2
      · have e0 : s0 = !s := by cases s <;> cases s0 <;> simp_all
        exact ⟨!s, by rw [← hs, e0]; exact self.2.1.trans eO.symm⟩
    · exact ⟨s0, by rw [k2 _ e]; exact hs⟩
  · split
    · exact nd2
    · exact i.nd y
  · by_cases e : y = x
    · subst e; rw [self.2.2.2.2]; exact i.val y hy
    · by_cases e2 : y = K
      · rw [e2, l2]; exact i.val K hK
      · rw [oo y e e2]; exact i.val y hy
  · by_cases e : y = x
    · subst e; rw [if_pos rfl]; exact tal'
    · rw [if_neg e]
      by_cases e2 : y = K
      · rw [e2, l2]; exact (i.tal K).of rfl rfl rfl rfl
      · rw [oo y e e2]; exact i.tal y
  · unfold cutP
    by_cases e : y = x
    · subst e
      rw [if_pos rfl, if_neg xK, if_pos xM]
    · rw [if_neg e]
      by_cases e2 : y = K
      · rw [e2, if_pos (i.self hK)]
      · rw [oo y e e2] at hu'
        have hny := i.root_not hx e hu'
        rw [eqx, cat_mem] at hny
        rw [if_neg (fun e' => hny (Or.inr (Or.inl e'))), if_neg (fun e' => hny (by rcases (mM y).1 e' with e3 | e3; exact Or.inl e3; exact Or.inr (Or.inr e3)))]
        exact i.root y hy hu'
  · have e1 : y ≠ x := fun e => by rw [e, self.2.2.1, hu] at hu'; exact hu' rfl
    have e2 : y ≠ K := fun e => by rw [e, l2] at hu'; exact hu' rfl
    rw [oo y e1 e2] at hu' ⊢
    have hA : y ∈ sub K ↔ (T y).up ∈ sub K := ⟨fun e => i.parent hK e e2, fun e => i.kid_in hK e hy rfl⟩
    have hB : y ∈ cat s [] x (sub O) ↔ (T y).up ∈ cat s [] x (sub O) := by
      rw [mM, mM]
      constructor
      · rintro (e | e)
        · exact absurd e e1
        · by_cases e3 : y = O
          · have hR := hO0 e
            have := i.upk x hx (!s) (by rw [eO]; exact hR)
            rw [eO] at this
            rw [e3]; exact Or.inl this
          · exact Or.inr (i.parent (hO0 e) e e3)
      · rintro (e | e)
        · obtain ⟨s0, hs⟩ := i.kid y hy hu'
          rw [e] at hs
          by_cases e0 : s0 = s
          · rw [e0, eK] at hs; exact absurd hs.symm e2
          · have e0 : s0 = !s := by cases s <;> cases s0 <;> simp_all
            rw [e0, eO] at hs
            have hR : O ≠ 0 := by rw [hs]; exact hy
            exact Or.inr (by rw [← hs]; exact i.self hR)
        · exact Or.inr (i.kid_in (hO0 e) e hy rfl)
    unfold cutP
    by_cases h1 : y ∈ sub K
    · rw [if_pos h1, if_pos (hA.1 h1)]
    · rw [if_neg h1, if_neg (fun e => h1 (hA.2 e))]
      by_cases h2 : y ∈ cat s [] x (sub O)
      · rw [if_pos h2, if_pos (hB.1 h2)]
      · rw [if_neg h2, if_neg (fun e => h2 (hB.2 e))]
        exact i.climb y hy hu'
  · rw [oo y (by omega) (by omega)]
    exact h.zero y hy

end Go.Proofs.YtnkgpjjlgbggcaaDoor
