/- Trees laid out in stretches: what is hung, turned, linked and cut: plain facts. -/
import Derived.Test.YtnkgpjjlgbggcaaDoorReal6
namespace Go.Proofs.YtnkgpjjlgbggcaaDoor
open Go.RowKit
set_option linter.unusedVariables false

variable {T T' : Tb} {v : Nat → Int} {sub sub' seq seq' : Nat → List Nat} {N : Nat} {pp pp' par par' : Nat → Nat}

/-- The table of stretches: pp what a stretch hangs on, par what a node hangs on. -/
structure Lc (N : Nat) (T : Tb) (v : Nat → Int) (sub seq : Nat → List Nat) (pp par : Nat → Nat) : Prop where
  gd : Gd N T v sub seq
  p0 : pp 0 = 0
  plt : ∀ x, pp x < N
  pN : ∀ x, N ≤ x → pp x = 0
  pst : ∀ x y, x ≠ 0 → y ≠ 0 → seq x = seq y → pp x = pp y
  chn : ∀ x, x ≠ 0 → Chn par (pp x) (seq x)
  acy : Acy par

theorem Lc.of (h : Lc N T v sub seq pp par) {v' : Nat → Int} (g : Gd N T' v' sub' seq) : Lc N T' v' sub' seq pp par := ⟨g, h.p0, h.plt, h.pN, h.pst, h.chn, h.acy⟩

theorem Lc.up_lt (h : Lc N T v sub seq pp par) (x : Nat) : (real T pp x).up < N := by
  by_cases e : (T x).up = 0
  · rw [real_up0 e]; exact h.plt x
  · rw [real_up1 e]; exact h.gd.up_lt x

theorem Lc.zero (h : Lc N T v sub seq pp par) (x : Nat) (hx : N ≤ x) : real T pp x = nd0 := by
  unfold real rn
  rw [h.gd.zero x hx, h.pN x hx]
  rfl

theorem Lc.ne (h : Lc N T v sub seq pp par) {x : Nat} (hx : x ≠ 0) : ∀ y, y ∈ seq x → y ≠ 0 := fun y hy => (h.gd.mem_seq hx hy).2

theorem Lc.not (h : Lc N T v sub seq pp par) {x : Nat} (hx : x ≠ 0) : pp x ∉ seq x := h.acy.not_mem (h.ne hx) (h.chn x hx)

theorem Lc.one (h : Lc N T v sub seq pp par) {x y r : Nat} (hx : x ≠ 0) (hy : y ≠ 0) (e : seq x = seq y) (ht : Top par x r) : Top par y r :=
  h.acy.one (h.ne hx) (h.chn x hx) (h.gd.self hx) (by rw [e]; exact h.gd.self hy) ht

/-- What a stretch hangs on is of the same tree. -/
theorem Lc.hangs (h : Lc N T v sub seq pp par) {x r : Nat} (hx : x ≠ 0) (hp : pp x ≠ 0) (ht : Top par x r) : Top par (pp x) r := by
  obtain ⟨s, hs⟩ := h.acy.top hp
  have := hs.chn (h.ne hx) (h.chn x hx) x (h.gd.self hx)
  rw [ht.uniq h.acy this]
  exact hs

theorem mem_sub_lt (h : Gd N T v sub seq) {x y : Nat} (hx : x ≠ 0) (hy : y ∈ sub x) (hu : (T x).up ≠ 0) : y < N := by
  by_cases e : y = x
  · rw [e]; exact h.lt hu
  · exact h.lt (h.inv.sub_up hx hy e)

/-- What is behind a top is a stretch of its own. -/
theorem Lc.loose (h : Lc N T v sub seq pp par) {x : Nat} (hx : x ≠ 0) (hxN : x < N) (hu : (T x).up = 0) (ht : (T x).t = false) :
    ∃ T' sub' seq' pp', real T' pp' = hangT (real T pp) x true 0 ∧ Lc N T' v sub' seq' pp' par ∧ (T' x).up = 0 ∧ (T' x).t = false ∧ (T' x).r = 0 ∧ pp' x = pp x ∧ (∃ A, seq' x = A ++ [x]) ∧ (∀ y, y ∈ seq' x → y ∈ seq x) ∧ (∀ y, y ≠ 0 → seq y ≠ seq x → T' y = T y ∧ seq' y = seq y ∧ pp' y = pp y) := by
  have i := h.gd.inv
  obtain ⟨C, eC⟩ : ∃ C, (T x).k true = C := ⟨_, rfl⟩
  obtain ⟨L, eL⟩ : ∃ L, (T x).k (!true) = L := ⟨_, rfl⟩
  have hr := i.root x hx hu
  have eqx : sub x = sub L ++ x :: sub C := by have := i.eqn x hx false; rw [ht, show (T x).k false = L from eL, show (T x).k (!false) = C from eC] at this; exact this
  by_cases hC : C = 0
  · subst hC
    refine ⟨T, sub, seq, pp, ?_, h, hu, ht, eC, rfl, ⟨sub L, by rw [hr, eqx, i.sub0]⟩, fun y hy => hy, fun y _ _ => ⟨rfl, rfl, rfl⟩⟩
    rw [← real_hang true hx, h.gd.hang0 hx eC]
  · obtain ⟨⟨sub', g⟩, k1, k2, k3, k4, k5, k6, k7⟩ := h.gd.shedS true hx hu ht hxN eC eL hC
    have uC : (T C).up = x := by have := i.upk x hx true (by rw [eC]; exact hC); rw [eC] at this; exact this
    have eM : cat true [] x (sub L) = sub L ++ [x] := rfl
    rw [eM] at g
    obtain ⟨pp', hpp⟩ : ∃ p : Nat → Nat, (fun y => if y ∈ sub C then x else pp y) = p := ⟨_, rfl⟩
    have pin : ∀ y, y ∈ sub C → pp' y = x := fun y hy => by rw [← hpp]; exact if_pos hy
    have pout : ∀ y, y ∉ sub C → pp' y = pp y := fun y hy => by rw [← hpp]; exact if_neg hy
    obtain ⟨seq', hs⟩ : ∃ s, cutP seq (sub C) (sub L ++ [x]) = s := ⟨_, rfl⟩
    rw [hs] at g
    have sin : ∀ y, y ∈ sub C → seq' y = sub C := fun y hy => by rw [← hs]; exact if_pos hy
    have smid : ∀ y, y ∉ sub C → y ∈ sub L ++ [x] → seq' y = sub L ++ [x] := fun y h1 h2 => by rw [← hs]; unfold cutP; rw [if_neg h1, if_pos h2]
    have sout : ∀ y, y ∉ sub C → y ∉ sub L ++ [x] → seq' y = seq y := fun y h1 h2 => by rw [← hs]; unfold cutP; rw [if_neg h1, if_neg h2]
    have nd := i.nd x
    rw [eqx, show sub L ++ x :: sub C = (sub L ++ [x]) ++ sub C from by simp] at nd
    have dis : ∀ y, y ∈ sub L ++ [x] → y ∉ sub C := fun y h1 h2 => (List.nodup_append.1 nd).2.2 y h1 y h2 rfl
    have inx : ∀ y, y ∈ seq x ↔ y ∈ sub L ++ [x] ∨ y ∈ sub C := fun y => by rw [hr, eqx]; simp [or_assoc]
    have xM : x ∈ sub L ++ [x] := by simp
    have xC : x ∉ sub C := dis x xM
    have ch := h.chn x hx
    rw [hr, eqx, show sub L ++ x :: sub C = (sub L ++ [x]) ++ sub C from by simp, chn_append, lst_app] at ch
    have C0 : ∀ y, y ∈ sub C → y ≠ 0 := fun y hy => i.sub_ne hC hy
    have sx : seq' x = sub L ++ [x] := smid x xC xM
    have same : ∀ y, y ≠ 0 → y ∈ seq x → seq y = seq x := fun y hy hm => (h.gd.mem_iff hx hy).1 hm
    refine ⟨looseT T x true, sub', seq', pp', ?_, ⟨g, ?_, fun y => ?_, fun y hy => ?_, fun y z hy hz e => ?_, fun y hy => ?_, h.acy⟩, k3, k4, k1, pout x xC, ⟨sub L, sx⟩, fun y hy => (inx y).2 (Or.inl (by rw [← sx]; exact hy)), fun y hy hn => ?_⟩
    · rw [k7, real_hang true hx]
      congr 1
      funext y
      unfold real rn
      by_cases e : y = C
      · subst e
        rw [upd_same, pin y (i.self hC)]
        dsimp only
        rw [uC, if_neg hx, if_pos rfl]
      · rw [upd_ne e]
        by_cases e2 : (T y).up = 0
        · by_cases hy0 : y = 0
          · rw [pout y (fun hm => C0 y hm hy0)]
          · rw [pout y (i.root_not hC e e2)]
        · rw [if_neg e2, if_neg e2]
    · rw [pout 0 (fun hm => C0 0 hm rfl)]; exact h.p0
    · by_cases e : y ∈ sub C
      · rw [pin y e]; exact hxN
      · rw [pout y e]; exact h.plt y
    · rw [pout y (fun hm => by have := mem_sub_lt h.gd hC hm (by rw [uC]; exact hx); omega)]; exact h.pN y hy
    · have zy : z ∈ seq' y := by rw [e]; exact g.self hz
      by_cases h1 : y ∈ sub C
      · rw [sin y h1] at zy; rw [pin y h1, pin z zy]
      · by_cases h2 : y ∈ sub L ++ [x]
        · rw [smid y h1 h2] at zy
          rw [pout y h1, pout z (dis z zy)]
          exact h.pst y z hy hz ((same y hy ((inx y).2 (Or.inl h2))).trans (same z hz ((inx z).2 (Or.inl zy))).symm)
        · rw [sout y h1 h2] at zy
          have h3 : z ∉ sub C := fun hm => by
            have : seq y = seq x := ((h.gd.mem_seq hy zy).1.symm).trans (same z hz ((inx z).2 (Or.inr hm)))
            rcases (inx y).1 (by rw [← this]; exact h.gd.self hy) with e3 | e3
            · exact h2 e3
            · exact h1 e3
          rw [pout y h1, pout z h3]
          exact h.pst y z hy hz (h.gd.mem_seq hy zy).1.symm
    · by_cases h1 : y ∈ sub C
      · rw [pin y h1, sin y h1]; exact ch.2
      · by_cases h2 : y ∈ sub L ++ [x]
        · rw [pout y h1, smid y h1 h2, h.pst y x hy hx (same y hy ((inx y).2 (Or.inl h2)))]; exact ch.1
        · rw [pout y h1, sout y h1 h2]; exact h.chn y hy
    · have hnm : y ∉ seq x := fun hm => hn (same y hy hm)
      have h1 : y ∉ sub C := fun hm => hnm ((inx y).2 (Or.inr hm))
      have h2 : y ∉ sub L ++ [x] := fun hm => hnm ((inx y).2 (Or.inl hm))
      refine ⟨k5 y (fun e => h2 (by rw [e]; exact xM)) (fun e => h1 (by rw [e]; exact i.self hC)), sout y h1 h2, pout y h1⟩

/-- A stretch hung beneath a top that has nothing behind it. -/
theorem Lc.joined (h : Lc N T v sub seq pp par) {x k : Nat} (hx : x ≠ 0) (hxN : x < N) (hu : (T x).up = 0) (ht : (T x).t = false) (hr : (T x).r = 0) (hk : k ≠ 0) (hkN : k < N) (uk : (T k).up = 0) (pk : pp k = x) (hA : ∃ A, seq x = A ++ [x]) :
    ∃ T' sub' seq' pp', real T' pp' = hangT (real T pp) x true k ∧ Lc N T' v sub' seq' pp' par ∧ (T' x).up = 0 ∧ (T' x).t = false ∧ pp' x = pp x ∧ seq' x = seq x ++ seq k ∧ (∀ y, y ≠ 0 → seq y ≠ seq x → seq y ≠ seq k → T' y = T y ∧ seq' y = seq y ∧ pp' y = pp y) := by
  have i := h.gd.inv
  have xk : x ∉ seq k := by rw [← pk]; exact h.not hk
  have hne : seq x ≠ seq k := fun e => xk (by rw [← e]; exact h.gd.self hx)
  have nkx : k ≠ x := fun e => hne (by rw [e])
  obtain ⟨sub', g⟩ := h.gd.join hx hk hu uk ht hr hne hxN hkN
  obtain ⟨pp', hpp⟩ : ∃ p : Nat → Nat, (fun y => if y ∈ seq k then pp x else pp y) = p := ⟨_, rfl⟩
  have pin : ∀ y, y ∈ seq k → pp' y = pp x := fun y hy => by rw [← hpp]; exact if_pos hy
  have pout : ∀ y, y ∉ seq k → pp' y = pp y := fun y hy => by rw [← hpp]; exact if_neg hy
  have sin : ∀ y, y ∈ seq x ∨ y ∈ seq k → joinS seq x k y = seq x ++ seq k := fun y hy => if_pos hy
  have sout : ∀ y, ¬ (y ∈ seq x ∨ y ∈ seq k) → joinS seq x k y = seq y := fun y hy => if_neg hy
  have self := hangT_self (T := T) (x := x) (k := k) (s := true) nkx
  have inx : ∀ y, y ≠ 0 → (y ∈ seq x ↔ seq y = seq x) := fun y hy => h.gd.mem_iff hx hy
  have ink : ∀ y, y ≠ 0 → (y ∈ seq k ↔ seq y = seq k) := fun y hy => h.gd.mem_iff hk hy
  have px : ∀ y, y ≠ 0 → y ∈ seq x ∨ y ∈ seq k → pp' y = pp x := fun y hy hm => by
    by_cases hm2 : y ∈ seq k
    · exact pin y hm2
    · rw [pout y hm2]
      exact h.pst y x hy hx ((inx y hy).1 (hm.resolve_right hm2))
  refine ⟨hangT T x true k, sub', joinS seq x k, pp', ?_, ⟨g, ?_, fun y => ?_, fun y hy => ?_, fun y z hy hz e => ?_, fun y hy => ?_, h.acy⟩, self.2.2.1.trans hu, self.2.2.2.1.trans ht, pout x xk, sin x (Or.inl (h.gd.self hx)), fun y hy h1 h2 => ?_⟩
  · rw [← real_hang true hx]
    refine real_congr (fun y hy => ?_)
    by_cases hm : y ∈ seq k
    · exfalso
      by_cases e : y = k
      · rw [e, hangT_kid hk nkx] at hy; exact hx hy
      · have hyx : y ≠ x := fun e2 => xk (by rw [← e2]; exact hm)
        rw [hangT_other hyx (fun _ => e)] at hy
        rw [i.root k hk uk] at hm
        exact i.root_not hk e hy hm
    · exact pout y hm
  · rw [pout 0 (fun hm => h.ne hk 0 hm rfl)]; exact h.p0
  · by_cases e : y ∈ seq k
    · rw [pin y e]; exact h.plt x
    · rw [pout y e]; exact h.plt y
  · rw [pout y (fun hm => ?_)]
    · exact h.pN y hy
    · by_cases e : y = k
      · omega
      · rw [i.root k hk uk] at hm
        have := h.gd.lt (i.sub_up hk hm e)
        omega
  · have zy : z ∈ joinS seq x k y := by rw [e]; exact g.self hz
    by_cases h1 : y ∈ seq x ∨ y ∈ seq k
    · rw [sin y h1] at zy
      rw [px y hy h1, px z hz (List.mem_append.1 zy)]
    · rw [sout y h1] at zy
      have hzy := (h.gd.mem_seq hy zy).1
      have h3 : ¬ (z ∈ seq x ∨ z ∈ seq k) := fun hm => h1 (by
        rcases hm with hm | hm
        · exact Or.inl ((inx y hy).2 (hzy.symm.trans ((inx z hz).1 hm)))
        · exact Or.inr ((ink y hy).2 (hzy.symm.trans ((ink z hz).1 hm))))
      rw [pout y (fun e => h1 (Or.inr e)), pout z (fun e => h3 (Or.inr e))]
      exact h.pst y z hy hz hzy.symm
  · by_cases h1 : y ∈ seq x ∨ y ∈ seq k
    · rw [px y hy h1, sin y h1, chn_append]
      obtain ⟨A, hA⟩ := hA
      refine ⟨h.chn x hx, ?_⟩
      rw [hA, lst_app]
      have := h.chn k hk
      rw [pk] at this
      exact this
    · rw [pout y (fun e => h1 (Or.inr e)), sout y h1]; exact h.chn y hy
  · have n1 : y ∉ seq x := fun e => h1 ((inx y hy).1 e)
    have n2 : y ∉ seq k := fun e => h2 ((ink y hy).1 e)
    refine ⟨hangT_other (fun e => n1 (by rw [e]; exact h.gd.self hx)) (fun _ e => n2 (by rw [e]; exact h.gd.self hk)), sout y (fun e => by rcases e with e | e; exact n1 e; exact n2 e), pout y n2⟩

/-- One step of laying a road out as one stretch. -/
theorem Lc.hang (h : Lc N T v sub seq pp par) {x k : Nat} (hx : x ≠ 0) (hxN : x < N) (hu : (T x).up = 0) (ht : (T x).t = false) (hk : k = 0 ∨ (k ≠ 0 ∧ k < N ∧ (T k).up = 0 ∧ pp k = x)) :
    ∃ T' sub' seq' pp', real T' pp' = hangT (real T pp) x true k ∧ Lc N T' v sub' seq' pp' par ∧ (T' x).up = 0 ∧ (T' x).t = false ∧ pp' x = pp x ∧ (∃ A, seq' x = A ++ x :: (if k = 0 then [] else seq k)) ∧ (∀ y, y ≠ 0 → seq y ≠ seq x → (k ≠ 0 → seq y ≠ seq k) → T' y = T y ∧ seq' y = seq y ∧ pp' y = pp y) := by
  obtain ⟨T1, sub1, seq1, pp1, a1, a2, a3, a4, a5, a6, ⟨A, a7⟩, a8, a9⟩ := h.loose hx hxN hu ht
  rcases hk with rfl | ⟨hk, hkN, uk, pk⟩
  · exact ⟨T1, sub1, seq1, pp1, a1, a2, a3, a4, a6, ⟨A, by rw [a7, if_pos rfl]⟩, fun y hy h1 _ => a9 y hy h1⟩
  · have hne : seq k ≠ seq x := fun e => h.not hk (by rw [pk, e]; exact h.gd.self hx)
    obtain ⟨b1, b2, b3⟩ := a9 k hk hne
    have nkx : k ≠ x := fun e => hne (by rw [e])
    obtain ⟨T2, sub2, seq2, pp2, c1, c2, c3, c4, c5, c6, c7⟩ := a2.joined hx hxN a3 a4 a5 hk hkN (by rw [b1]; exact uk) (by rw [b3]; exact pk) ⟨A, a7⟩
    refine ⟨T2, sub2, seq2, pp2, ?_, c2, c3, c4, c5.trans a6, ⟨A, by rw [c6, a7, b2, if_neg hk]; simp⟩, fun y hy h1 h2 => ?_⟩
    · rw [c1, a1, hang_hang hx nkx (by have := h.gd.inv.kid_ne hx false; exact this)]
    · obtain ⟨d1, d2, d3⟩ := a9 y hy h1
      have e1 : seq1 y ≠ seq1 x := fun e => h1 ((h.gd.mem_iff hx hy).1 (a8 y (by rw [← e]; exact a2.gd.self hy)))
      have e2 : seq1 y ≠ seq1 k := by rw [d2, b2]; exact h2 hk
      obtain ⟨f1, f2, f3⟩ := c7 y hy e1 e2
      exact ⟨f1.trans d1, f2.trans d2, f3.trans d3⟩

/-- A road turned round. -/
theorem Lc.turn (h : Lc N T v sub seq pp par) {x : Nat} (hx : x ≠ 0) (hxN : x < N) (hu : (T x).up = 0) (hp : pp x = 0) :
    ∃ sub' par', Lc N (turnT T x) v sub' (revS seq x) pp par' ∧ (∀ a b, Adj par' a b ↔ Adj par a b) := by
  obtain ⟨sub', g⟩ := h.gd.turn hx hu hxN
  have hc := h.chn x hx
  rw [hp] at hc
  obtain ⟨par', p1, p2, p3, p4⟩ := reroot h.acy (h.ne hx) hc
  refine ⟨sub', par', ⟨g, h.p0, h.plt, h.pN, fun y z hy hz e => ?_, fun y hy => ?_, p4⟩, p3⟩
  · have zy : z ∈ revS seq x y := by rw [e]; exact g.self hz
    refine h.pst y z hy hz ?_
    unfold revS at zy
    by_cases h1 : y ∈ seq x
    · rw [if_pos h1] at zy
      exact ((h.gd.mem_iff hx hy).1 h1).trans ((h.gd.mem_iff hx hz).1 (List.mem_reverse.1 zy)).symm
    · rw [if_neg h1] at zy
      exact (h.gd.mem_seq hy zy).1.symm
  · unfold revS
    by_cases h1 : y ∈ seq x
    · rw [if_pos h1, h.pst y x hy hx ((h.gd.mem_iff hx hy).1 h1), hp]; exact p1
    · rw [if_neg h1]
      refine chn_congr (fun z hz => p2 z (fun e => h1 ?_)) (h.chn y hy)
      have hz0 := h.ne hy z hz
      exact (h.gd.mem_iff hx hy).2 ((h.gd.mem_seq hy hz).1.symm.trans ((h.gd.mem_iff hx hz0).1 e))

/-- A tree's root hung on a node of another tree. -/
theorem Lc.link (h : Lc N T v sub seq pp par) {a b : Nat} (ha : a ≠ 0) (haN : a < N) (hb : b ≠ 0) (hbN : b < N) (hu : (T a).up = 0) (hp : pp a = 0) (hs : ∃ A, seq a = a :: A) (hn : ¬ Top par b a) :
    ∃ pp' par', real T pp' = upd (real T pp) a { real T pp a with up := b } ∧ Lc N T v sub seq pp' par' ∧ (∀ x y, Adj par' x y ↔ addE (Adj par) a b x y) := by
  obtain ⟨A, hs⟩ := hs
  have hc := h.chn a ha
  rw [hs] at hc
  have pa : par a = 0 := hc.1.trans hp
  have i := h.gd.inv
  obtain ⟨pp', hpp⟩ : ∃ p : Nat → Nat, (fun y => if y ∈ seq a then b else pp y) = p := ⟨_, rfl⟩
  have pin : ∀ y, y ∈ seq a → pp' y = b := fun y hy => by rw [← hpp]; exact if_pos hy
  have pout : ∀ y, y ∉ seq a → pp' y = pp y := fun y hy => by rw [← hpp]; exact if_neg hy
  refine ⟨pp', fun y => if y = a then b else par y, ?_, ⟨h.gd, ?_, fun y => ?_, fun y hy => ?_, fun y z hy hz e => ?_, fun y hy => ?_, acy_link h.acy ha hb pa hn⟩, adj_link ha hb pa⟩
  · funext y
    by_cases e : y = a
    · subst e
      rw [upd_same]
      unfold real rn
      rw [if_pos hu, pin y (h.gd.self ha)]
    · rw [upd_ne e]
      unfold real rn
      by_cases e2 : (T y).up = 0
      · rw [pout y (fun hm => i.root_not ha e e2 (by rw [← i.root a ha hu]; exact hm))]
      · rw [if_neg e2, if_neg e2]
  · rw [pout 0 (fun hm => h.ne ha 0 hm rfl)]; exact h.p0
  · by_cases e : y ∈ seq a
    · rw [pin y e]; exact hbN
    · rw [pout y e]; exact h.plt y
  · rw [pout y (fun hm => ?_)]
    · exact h.pN y hy
    · by_cases e : y = a
      · omega
      · rw [i.root a ha hu] at hm
        have := h.gd.lt (i.sub_up ha hm e)
        omega
  · have zy : z ∈ seq y := by rw [e]; exact h.gd.self hz
    have h1 : y ∈ seq a ↔ z ∈ seq a := by rw [h.gd.mem_iff ha hy, h.gd.mem_iff ha hz, e]
    by_cases h2 : y ∈ seq a
    · rw [pin y h2, pin z (h1.1 h2)]
    · rw [pout y h2, pout z (fun e => h2 (h1.2 e))]; exact h.pst y z hy hz e
  · by_cases h1 : y ∈ seq a
    · have e := (h.gd.mem_iff ha hy).1 h1
      rw [pin y h1, e, hs]
      have nd := h.gd.seq_nd ha
      rw [hs] at nd
      exact ⟨if_pos rfl, chn_congr (fun z hz => if_neg (fun e : z = a => (List.nodup_cons.1 nd).1 (e ▸ hz))) hc.2⟩
    · rw [pout y h1]
      refine chn_congr (fun z hz => if_neg (fun e : z = a => h1 ?_)) (h.chn y hy)
      rw [e] at hz
      exact (h.gd.mem_iff ha hy).2 (h.gd.mem_seq hy hz).1.symm

/-- Two linked nodes parted. -/
theorem Lc.cut (h : Lc N T v sub seq pp par) {a b : Nat} (ha : a ≠ 0) (hb : b ≠ 0) (hbN : b < N) (hu : (T b).up = 0) (ht : (T b).t = false) (hp : pp b = 0) (hs : seq b = [a, b]) :
    (T b).l = a ∧ (T b).r = 0 ∧ ∃ T' sub' seq' pp' par', real T' pp' = hangT (upd (real T pp) a { real T pp a with up := 0 }) b false 0 ∧ Lc N T' v sub' seq' pp' par' ∧ (∀ x y, Adj par' x y ↔ delE (Adj par) a b x y) := by
  have i := h.gd.inv
  have hr := i.root b hb hu
  have nd := h.gd.seq_nd hb
  rw [hs] at nd
  have nab : a ≠ b := by simp at nd; exact nd
  obtain ⟨L, eL⟩ : ∃ L, (T b).k false = L := ⟨_, rfl⟩
  obtain ⟨R, eR⟩ : ∃ R, (T b).k (!false) = R := ⟨_, rfl⟩
  have eqb : sub b = sub L ++ b :: sub R := by have := i.eqn b hb false; rw [ht, eL, eR] at this; exact this
  rw [hs, eqb] at hr
  have hL : sub L = [a] ∧ sub R = [] := by
    cases hsl : sub L with
    | nil => rw [hsl] at hr; simp at hr; exact absurd hr.1 nab
    | cons c m =>
      rw [hsl] at hr
      cases m with
      | nil => simp at hr; exact ⟨by rw [hr.1], hr.2⟩
      | cons d m => simp at hr
  have L0 : L ≠ 0 := fun e => by rw [e, i.sub0] at hL; simp at hL
  have La : L = a := by have := i.self L0; rw [hL.1] at this; simpa using this
  have R0 : R = 0 := by
    by_cases e : R = 0
    · exact e
    · have := i.self e; rw [hL.2] at this; cases this
  subst La
  subst R0
  obtain ⟨⟨sub', g⟩, k1, k2, k3, k4, k5, k6, k7⟩ := h.gd.shedS false hb hu ht hbN eL eR L0
  have eM : cat false [] b (sub 0) = [b] := by rw [i.sub0]; rfl
  rw [eM, hL.1] at g
  have hc := h.chn b hb
  rw [hs, hp] at hc
  have pa : par L = 0 := hc.1
  have pb : par b = L := hc.2.1
  have uL : (T L).up = b := by have := i.upk b hb false (by rw [eL]; exact ha); rw [eL] at this; exact this
  obtain ⟨pp', hpp⟩ : ∃ p : Nat → Nat, (fun y => if y = L ∨ y = b then 0 else pp y) = p := ⟨_, rfl⟩
  have pin : ∀ y, y = L ∨ y = b → pp' y = 0 := fun y hy => by rw [← hpp]; exact if_pos hy
  have pout : ∀ y, ¬ (y = L ∨ y = b) → pp' y = pp y := fun y hy => by rw [← hpp]; exact if_neg hy
  obtain ⟨seq', hsq⟩ : ∃ s, cutP seq [L] [b] = s := ⟨_, rfl⟩
  rw [hsq] at g
  have sL : seq' L = [L] := by rw [← hsq]; simp [cutP]
  have sb : seq' b = [b] := by rw [← hsq]; simp [cutP, nab.symm]
  have so : ∀ y, ¬ (y = L ∨ y = b) → seq' y = seq y := fun y hy => by rw [← hsq]; simp only [cutP, List.mem_singleton]; rw [if_neg (fun e => hy (Or.inl e)), if_neg (fun e => hy (Or.inr e))]
  refine ⟨eL, eR, looseT T b false, sub', seq', pp', fun y => if y = b then 0 else par y, ?_, ⟨g, ?_, fun y => ?_, fun y hy => ?_, fun y z hy hz e => ?_, fun y hy => ?_, acy_cut h.acy b⟩, adj_cut pa pb⟩
  · rw [k7, real_hang false hb]
    congr 1
    funext y
    by_cases e : y = L
    · subst e
      rw [upd_same]
      unfold real rn
      rw [upd_same, pin y (Or.inl rfl)]
      rfl
    · rw [upd_ne e]
      unfold real rn
      rw [upd_ne e]
      by_cases e2 : y = b
      · rw [pin y (Or.inr e2), e2, hp]
      · rw [pout y (fun e3 => by rcases e3 with e3 | e3; exact e e3; exact e2 e3)]
  · rw [pout 0 (fun e => by rcases e with e | e; exact ha e.symm; exact hb e.symm)]; exact h.p0
  · by_cases e : y = L ∨ y = b
    · rw [pin y e]; omega
    · rw [pout y e]; exact h.plt y
  · by_cases e : y = L ∨ y = b
    · exact pin y e
    · rw [pout y e]; exact h.pN y hy
  · have zy : z ∈ seq' y := by rw [e]; exact g.self hz
    by_cases e1 : y = L ∨ y = b
    · have : z = L ∨ z = b := by
        rcases e1 with e1 | e1
        · rw [e1, sL] at zy; exact Or.inl (by simpa using zy)
        · rw [e1, sb] at zy; exact Or.inr (by simpa using zy)
      rw [pin y e1, pin z this]
    · rw [so y e1] at zy
      have hzy := (h.gd.mem_seq hy zy).1
      have e2 : ¬ (z = L ∨ z = b) := fun e2 => e1 (by
        have : seq z = seq b := by
          rcases e2 with e2 | e2
          · rw [e2]; exact (h.gd.mem_seq hb (by rw [hs]; simp)).1
          · rw [e2]
        have hy2 := h.gd.self hy
        rw [← hzy, this, hs] at hy2
        simpa using hy2)
      rw [pout y e1, pout z e2]; exact h.pst y z hy hz hzy.symm
  · by_cases e1 : y = L ∨ y = b
    · rw [pin y e1]
      rcases e1 with e1 | e1
      · rw [e1, sL]; exact ⟨by show (if L = b then 0 else par L) = 0; rw [if_neg nab]; exact pa, trivial⟩
      · rw [e1, sb]; exact ⟨if_pos rfl, trivial⟩
    · rw [pout y e1, so y e1]
      refine chn_congr (fun z hz => if_neg (fun e : z = b => e1 ?_)) (h.chn y hy)
      rw [e] at hz
      have hyb := (h.gd.mem_seq hy hz).1
      have hy2 := h.gd.self hy
      rw [← hyb, hs] at hy2
      simpa using hy2

end Go.Proofs.YtnkgpjjlgbggcaaDoor
