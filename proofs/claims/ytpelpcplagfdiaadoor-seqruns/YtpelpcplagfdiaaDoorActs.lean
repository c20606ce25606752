/- A sequence turned, cut, joined; a value set: plain facts. -/
import Derived.Test.YtpelpcplagfdiaaDoorMove
namespace Go.Proofs.YtpelpcplagfdiaaDoor
open Go.RowKit

variable {T T' : Tb} {v : Nat → Int} {sub sub' seq : Nat → List Nat} {N : Nat}

theorem Gd.mem_iff (h : Gd N T v sub seq) {x y : Nat} (hx : x ≠ 0) (hy : y ≠ 0) : y ∈ seq x ↔ seq y = seq x :=
  ⟨fun e => (h.mem_seq hx e).1, fun e => by rw [← e]; exact h.self hy⟩

/-- What is beneath what is beneath. -/
theorem Inv.closed (h : Inv T v sub seq) : ∀ (n z : Nat), (sub z).length ≤ n → z ≠ 0 → ∀ u, u ∈ sub z → ∀ y, y ∈ sub u → y ∈ sub z
  | 0, z, hn, _, u, hu, _, _ => by have := List.length_pos_of_mem hu; omega
  | n + 1, z, hn, hz, u, hu, y, hy => by
    rcases (h.mem hz false u).1 hu with rfl | hk | hk
    · exact hy
    · have h0 : (T z).k false ≠ 0 := fun e => by rw [e, h.sub0] at hk; cases hk
      exact (h.mem hz false y).2 (Or.inr (Or.inl (h.closed n _ (by have := h.kid_lt hz false; omega) h0 u hk y hy)))
    · have h0 : (T z).k (!false) ≠ 0 := fun e => by rw [e, h.sub0] at hk; cases hk
      exact (h.mem hz false y).2 (Or.inr (Or.inr (h.closed n _ (by have := h.kid_lt hz (!false); omega) h0 u hk y hy)))

theorem Inv.kid_in (h : Inv T v sub seq) {z u y : Nat} (hz : z ≠ 0) (hu : u ∈ sub z) (hy : y ≠ 0) (e : (T y).up = u) : y ∈ sub z := by
  have hu0 := h.sub_ne hz hu
  obtain ⟨s, hs⟩ := h.kid y hy (by rw [e]; exact hu0)
  rw [e] at hs
  exact h.closed _ z (Nat.le_refl _) hz u hu y ((h.mem hu0 s y).2 (Or.inr (Or.inl (by rw [hs]; exact h.self hy))))

/-- The one above, of what is beneath. -/
theorem Inv.up_in (h : Inv T v sub seq) : ∀ (n z : Nat), (sub z).length ≤ n → z ≠ 0 → ∀ y, y ∈ sub z → y ≠ z → (T y).up ∈ sub z
  | 0, z, hn, _, y, hy, _ => by have := List.length_pos_of_mem hy; omega
  | n + 1, z, hn, hz, y, hy, hne => by
    have key : ∀ s, y ∈ sub ((T z).k s) → (T y).up ∈ sub z := fun s hk => by
      have h0 : (T z).k s ≠ 0 := fun e => by rw [e, h.sub0] at hk; cases hk
      by_cases e : y = (T z).k s
      · rw [e, h.upk z hz s h0]; exact h.self hz
      · exact (h.mem hz s _).2 (Or.inr (Or.inl (h.up_in n _ (by have := h.kid_lt hz s; omega) h0 y hk e)))
    rcases (h.mem hz false y).1 hy with rfl | hk | hk
    · exact absurd rfl hne
    · exact key _ hk
    · exact key _ hk

theorem Inv.parent (h : Inv T v sub seq) {z y : Nat} (hz : z ≠ 0) (hy : y ∈ sub z) (hne : y ≠ z) : (T y).up ∈ sub z := h.up_in _ z (Nat.le_refl _) hz y hy hne

theorem Inv.root_not (h : Inv T v sub seq) {z y : Nat} (hz : z ≠ 0) (hne : y ≠ z) (hu : (T y).up = 0) : y ∉ sub z := fun hy => h.sub_up hz hy hne hu

/-- The sequences behind a turn. -/
def revS (seq : Nat → List Nat) (x : Nat) : Nat → List Nat := fun y => if y ∈ seq x then (seq x).reverse else seq y

theorem Gd.turn (h : Gd N T v sub seq) {x : Nat} (hx : x ≠ 0) (hu : (T x).up = 0) (hxN : x < N) : ∃ sub', Gd N (turnT T x) v sub' (revS seq x) := by
  have hr := h.inv.root x hx hu
  have hT : ∀ y, turnT T x y = if y = x then { T x with t := !(T x).t } else T y := fun y => by
    rw [turnT_at]
    by_cases e : y = x <;> simp [e, hx]
  generalize turnT T x = T' at hT
  have up' : ∀ y, (T' y).up = (T y).up := fun y => by rw [hT]; split <;> simp_all
  have k' : ∀ y s, (T' y).k s = (T y).k s := fun y s => by
    rw [hT]
    split
    · next e => subst e; cases s <;> rfl
    · rfl
  have i := h.inv
  refine ⟨fun y => if y = x then (sub x).reverse else sub y, ⟨?_, ?_, fun y hy s => ?_, fun y hy s hk => ?_, fun y hy hu' => ?_, fun y => ?_, fun y hy => ?_, fun y => ?_, fun y hy hu' => ?_, fun y hy hu' => ?_⟩, fun y hy => ?_, h.pos, h.big⟩
  · rw [hT, if_neg (Ne.symm hx)]; exact i.none
  · rw [if_neg (Ne.symm hx)]; exact i.sub0
  · rw [k', k']
    have hkx : ∀ s, (T y).k s ≠ x := fun s e => by
      have := i.upk y hy s (by rw [e]; exact hx)
      rw [e, hu] at this
      exact hy this.symm
    simp only [hkx, if_false]
    by_cases e : y = x
    · subst e
      rw [if_pos rfl, hT, if_pos rfl]
      show _ = flp (!(T y).t) _
      rw [flp_not, ← i.eqn y hy s]
    · rw [if_neg e, hT, if_neg e]
      exact i.eqn y hy s
  · rw [k'] at hk ⊢
    rw [up']; exact i.upk y hy s hk
  · rw [up'] at hu' ⊢
    obtain ⟨s, hs⟩ := i.kid y hy hu'
    exact ⟨s, by rw [k']; exact hs⟩
  · split
    · rw [nodup_rev]; exact i.nd x
    · exact i.nd y
  · rw [hT]
    split
    · next e => subst e; exact i.val y hy
    · exact i.val y hy
  · rw [hT]
    split
    · exact (i.tal x).rev.of rfl rfl rfl rfl
    · exact i.tal y
  · rw [up'] at hu'
    unfold revS
    rw [hr]
    by_cases e : y = x
    · subst e
      rw [if_pos rfl, if_pos (i.self hy)]
    · rw [if_neg e, if_neg (i.root_not hx e hu')]
      exact i.root y hy hu'
  · rw [up'] at hu' ⊢
    have e := i.climb y hy hu'
    unfold revS
    have : y ∈ seq x ↔ (T y).up ∈ seq x := by rw [h.mem_iff hx hy, h.mem_iff hx hu', e]
    by_cases hm : y ∈ seq x
    · rw [if_pos hm, if_pos (this.1 hm)]
    · rw [if_neg hm, if_neg (fun e' => hm (this.2 e'))]
      exact e
  · rw [hT, if_neg (by omega)]
    exact h.zero y hy

/-- The sequences behind a cut. -/
def cutS (seq : Nat → List Nat) (A : List Nat) (x : Nat) (B : List Nat) : Nat → List Nat := fun y => if y ∈ A then A else if y ∈ x :: B then x :: B else seq y

/-- What 'shed' makes of the table. -/
def shedT (T : Tb) (x : Nat) : Tb := hangT (upd T (T x).l { T (T x).l with up := 0 }) x false 0

theorem Gd.shed (h : Gd N T v sub seq) {x : Nat} (hx : x ≠ 0) (hu : (T x).up = 0) (ht : (T x).t = false) (hxN : x < N) {L R : Nat} (eL : (T x).l = L) (eR : (T x).r = R) (hL : L ≠ 0) : ∃ sub', Gd N (shedT T x) v sub' (cutS seq (sub L) x (sub R)) := by
  have i := h.inv
  have hr := i.root x hx hu
  have ksf : (T x).k false = L := eL
  have kst : (T x).k true = R := eR
  have nLx : L ≠ x := by have := i.kid_ne hx false; rw [ksf] at this; exact this
  have nRx : R ≠ x := by have := i.kid_ne hx true; rw [kst] at this; exact this
  have nRL : R ≠ L := by have := i.kids hx false (by rw [ksf]; exact hL); rw [ksf, show (T x).k (!false) = R from kst] at this; exact this
  have uL : (T L).up = x := by have := i.upk x hx false (by rw [ksf]; exact hL); rw [ksf] at this; exact this
  have eqx : sub x = sub L ++ x :: sub R := by have := i.eqn x hx false; rw [ht, ksf, show (T x).k (!false) = R from kst] at this; exact this
  have LN : L < N := by rw [← eL]; exact h.l_lt x
  have hR0 : ∀ {y}, y ∈ sub R → R ≠ 0 := fun hy e => by rw [e, i.sub0] at hy; cases hy
  have ndx := i.nd x
  rw [eqx, List.nodup_append, List.nodup_cons] at ndx
  obtain ⟨nd1, ⟨nd2, nd3⟩, nd4⟩ := ndx
  have xL : x ∉ sub L := fun e => nd4 x e x List.mem_cons_self rfl
  have dLR : ∀ y, y ∈ sub L → y ∉ x :: sub R := fun y h1 h2 => nd4 y h1 y h2 rfl
  obtain ⟨T1, hT1⟩ : ∃ T1, upd T L { T L with up := 0 } = T1 := ⟨_, rfl⟩
  have o1 : ∀ y, y ≠ L → T1 y = T y := fun y hy => by rw [← hT1, upd_ne hy]
  have l1 : T1 L = { T L with up := 0 } := by rw [← hT1, upd_same]
  have es : shedT T x = hangT T1 x false 0 := by unfold shedT; rw [eL, hT1]
  rw [es]
  have x1 : T1 x = T x := o1 x nLx.symm
  have self := hangT_self (T := T1) (x := x) (k := 0) (s := false) (Ne.symm hx)
  rw [x1] at self
  have tal' : Tal (hangT T1 x false 0 x) v (cat false [] x (sub R)) :=
    hangT_tal (Ne.symm hx) (by rw [x1]; exact kst) nRx (by rw [x1]; exact i.val x hx) (by rw [o1 0 (Ne.symm hL)]; have := i.tal 0; rw [i.sub0] at this; exact this) (by rw [o1 R nRL]; exact i.tal R) (by have := h.len3 R; simp; omega)
  have o2 : ∀ y, y ≠ x → hangT T1 x false 0 y = T1 y := fun y hy => hangT_other hy (fun e => absurd rfl e)
  generalize hangT T1 x false 0 = T2 at self tal' o2
  have l2 : T2 L = { T L with up := 0 } := by rw [o2 L nLx, l1]
  have oo : ∀ y, y ≠ x → y ≠ L → T2 y = T y := fun y h1 h2 => by rw [o2 y h1, o1 y h2]
  have k2 : ∀ y, y ≠ x → ∀ s, (T2 y).k s = (T y).k s := fun y hy s => by
    by_cases e : y = L
    · rw [e, l2]; cases s <;> rfl
    · rw [oo y hy e]
  have nkx : ∀ y, y ≠ 0 → ∀ s, (T y).k s ≠ x := fun y hy s e => by
    have := i.upk y hy s (by rw [e]; exact hx)
    rw [e, hu] at this
    exact hy this.symm
  refine ⟨fun y => if y = x then x :: sub R else sub y, ⟨?_, ?_, fun y hy => ?_, fun y hy s hk => ?_, fun y hy hu' => ?_, fun y => ?_, fun y hy => ?_, fun y => ?_, fun y hy hu' => ?_, fun y hy hu' => ?_⟩, fun y hy => ?_, h.pos, h.big⟩
  · rw [oo 0 (Ne.symm hx) (Ne.symm hL)]; exact i.none
  · rw [if_neg (Ne.symm hx)]; exact i.sub0
  · by_cases e : y = x
    · subst e
      refine eqn_side (sub := fun d => if d = y then y :: sub R else sub d) false ?_
      try dsimp only
      rw [if_pos rfl, self.2.2.2.1, ht, self.1, self.2.1]
      show _ = flp false (cat false _ y _)
      rw [show (T y).k (!false) = R from kst, if_neg (Ne.symm hx), i.sub0, if_neg nRx]
      rfl
    · intro s
      rw [if_neg e, k2 y e, k2 y e, if_neg (nkx y hy s), if_neg (nkx y hy (!s))]
      have et : (T2 y).t = (T y).t := by
        by_cases e2 : y = L
        · rw [e2, l2]
        · rw [oo y e e2]
      rw [et]
      exact i.eqn y hy s
  · have upo : ∀ d, d ≠ x → d ≠ L → (T2 d).up = (T d).up := fun d h1 h2 => by rw [oo d h1 h2]
    by_cases e : y = x
    · subst e
      cases s
      · rw [self.1] at hk; exact absurd rfl hk
      · have e1 : (T2 y).k true = R := self.2.1.trans kst
        rw [e1] at hk ⊢
        rw [upo R nRx nRL]
        have := i.upk y hy true (by rw [kst]; exact hk)
        rw [kst] at this
        exact this
    · rw [k2 y e] at hk ⊢
      have := i.upk y hy s hk
      rw [upo _ (nkx y hy s) (fun e' => by rw [e', uL] at this; exact e this.symm)]
      exact this
  · have e1 : y ≠ x := fun e => by rw [e, self.2.2.1, hu] at hu'; exact hu' rfl
    have e2 : y ≠ L := fun e => by rw [e, l2] at hu'; exact hu' rfl
    rw [oo y e1 e2] at hu' ⊢
    obtain ⟨s, hs⟩ := i.kid y hy hu'
    by_cases e : (T y).up = x
    · rw [e] at hs ⊢
      cases s
      · exact absurd (hs.symm.trans ksf) e2
      · exact ⟨true, by rw [← hs, kst]; exact self.2.1.trans kst⟩
    · exact ⟨s, by rw [k2 _ e]; exact hs⟩
  · split
    · exact List.nodup_cons.2 ⟨nd2, nd3⟩
    · exact i.nd y
  · by_cases e : y = x
    · subst e; rw [self.2.2.2.2]; exact i.val y hy
    · by_cases e2 : y = L
      · rw [e2, l2]; exact i.val L hL
      · rw [oo y e e2]; exact i.val y hy
  · by_cases e : y = x
    · subst e; rw [if_pos rfl]; exact tal'
    · rw [if_neg e]
      by_cases e2 : y = L
      · rw [e2, l2]; exact (i.tal L).of rfl rfl rfl rfl
      · rw [oo y e e2]; exact i.tal y
  · unfold cutS
    by_cases e : y = x
    · subst e
      rw [if_pos rfl, if_neg xL, if_pos List.mem_cons_self]
    · rw [if_neg e]
      by_cases e2 : y = L
      · rw [e2, if_pos (i.self hL)]
      · rw [oo y e e2] at hu'
        have hny := i.root_not hx e hu'
        rw [eqx] at hny
        rw [if_neg (fun e' => hny (List.mem_append.2 (Or.inl e'))), if_neg (fun e' => hny (List.mem_append.2 (Or.inr e')))]
        exact i.root y hy hu'
  · have e1 : y ≠ x := fun e => by rw [e, self.2.2.1, hu] at hu'; exact hu' rfl
    have e2 : y ≠ L := fun e => by rw [e, l2] at hu'; exact hu' rfl
    rw [oo y e1 e2] at hu' ⊢
    have hA : y ∈ sub L ↔ (T y).up ∈ sub L := ⟨fun e => i.parent hL e e2, fun e => i.kid_in hL e hy rfl⟩
    have hB : y ∈ x :: sub R ↔ (T y).up ∈ x :: sub R := by
      constructor
      · intro e
        rcases List.mem_cons.1 e with e | e
        · exact absurd e e1
        · by_cases e3 : y = R
          · have hR := hR0 e
            have := i.upk x hx true (by rw [kst]; exact hR)
            rw [kst] at this
            rw [e3, this]; exact List.mem_cons_self
          · exact List.mem_cons_of_mem _ (i.parent (hR0 e) e e3)
      · intro e
        rcases List.mem_cons.1 e with e | e
        · obtain ⟨s, hs⟩ := i.kid y hy hu'
          rw [e] at hs
          cases s
          · exact absurd (hs.symm.trans ksf) e2
          · have : y = R := hs.symm.trans kst
            have hR : R ≠ 0 := this ▸ hy
            exact List.mem_cons_of_mem _ (by rw [this]; exact i.self hR)
        · exact List.mem_cons_of_mem _ (i.kid_in (hR0 e) e hy rfl)
    unfold cutS
    by_cases h1 : y ∈ sub L
    · rw [if_pos h1, if_pos (hA.1 h1)]
    · rw [if_neg h1, if_neg (fun e => h1 (hA.2 e))]
      by_cases h2 : y ∈ x :: sub R
      · rw [if_pos h2, if_pos (hB.1 h2)]
      · rw [if_neg h2, if_neg (fun e => h2 (hB.2 e))]
        exact i.climb y hy hu'
  · rw [oo y (by omega) (by omega)]
    exact h.zero y hy

/-- The sequences behind a join. -/
def joinS (seq : Nat → List Nat) (a b : Nat) : Nat → List Nat := fun y => if y ∈ seq a ∨ y ∈ seq b then seq a ++ seq b else seq y

theorem Gd.join (h : Gd N T v sub seq) {p q : Nat} (hp : p ≠ 0) (hq : q ≠ 0) (up : (T p).up = 0) (uq : (T q).up = 0) (tp : (T p).t = false) (rp : (T p).r = 0) (hne : seq p ≠ seq q) (hpN : p < N) (hqN : q < N) : ∃ sub', Gd N (hangT T p true q) v sub' (joinS seq p q) := by
  have i := h.inv
  have sp := i.root p hp up
  have sq := i.root q hq uq
  have npq : q ≠ p := fun e => hne (by rw [e])
  obtain ⟨L, eL⟩ : ∃ L, (T p).l = L := ⟨_, rfl⟩
  have ksf : (T p).k false = L := eL
  have kst : (T p).k true = 0 := rp
  have nLp : L ≠ p := by have := i.kid_ne hp false; rw [ksf] at this; exact this
  have eqp : sub p = sub L ++ [p] := by have := i.eqn p hp false; rw [tp, ksf, show (T p).k (!false) = 0 from kst, i.sub0] at this; exact this
  have self := hangT_self (T := T) (x := p) (k := q) (s := true) npq
  have tal' : Tal (hangT T p true q p) v (cat true (sub q) p (sub L)) := hangT_tal npq (show (T p).k (!true) = L from eL) nLp (i.val p hp) (i.tal q) (i.tal L) (by have := h.len3 q; have := h.len3 L; omega)
  have q2 : hangT T p true q q = { T q with up := p } := hangT_kid hq npq
  have oo : ∀ y, y ≠ p → y ≠ q → hangT T p true q y = T y := fun y h1 h2 => hangT_other h1 (fun _ => h2)
  generalize hangT T p true q = T2 at self tal' q2 oo
  have dis : ∀ y, y ∈ sub p → y ∉ sub q := fun y h1 h2 => hne ((i.sub_seq hp h1).symm.trans (i.sub_seq hq h2))
  have k2 : ∀ y, y ≠ p → ∀ s, (T2 y).k s = (T y).k s := fun y hy s => by
    by_cases e : y = q
    · rw [e, q2]; cases s <;> rfl
    · rw [oo y hy e]
  have nkp : ∀ y, y ≠ 0 → ∀ s, (T y).k s ≠ p := fun y hy s e => by
    have := i.upk y hy s (by rw [e]; exact hp)
    rw [e, up] at this
    exact hy this.symm
  have nkq : ∀ y, y ≠ 0 → ∀ s, (T y).k s ≠ q := fun y hy s e => by
    have := i.upk y hy s (by rw [e]; exact hq)
    rw [e, uq] at this
    exact hy this.symm
  refine ⟨fun y => if y = p then sub p ++ sub q else sub y, ⟨?_, ?_, fun y hy => ?_, fun y hy s hk => ?_, fun y hy hu' => ?_, fun y => ?_, fun y hy => ?_, fun y => ?_, fun y hy hu' => ?_, fun y hy hu' => ?_⟩, fun y hy => ?_, h.pos, h.big⟩
  · rw [oo 0 (Ne.symm hp) (Ne.symm hq)]; exact i.none
  · rw [if_neg (Ne.symm hp)]; exact i.sub0
  · by_cases e : y = p
    · subst e
      refine eqn_side (sub := fun d => if d = y then sub y ++ sub q else sub d) true ?_
      try dsimp only
      rw [if_pos rfl, self.2.2.2.1, tp, self.1, self.2.1]
      show _ = flp false (cat true _ y _)
      rw [show (T y).k (!true) = L from eL, if_neg npq, if_neg nLp, eqp]
      simp [flp, cat]
    · intro s
      rw [if_neg e, k2 y e, k2 y e, if_neg (nkp y hy s), if_neg (nkp y hy (!s))]
      have et : (T2 y).t = (T y).t := by
        by_cases e2 : y = q
        · rw [e2, q2]
        · rw [oo y e e2]
      rw [et]
      exact i.eqn y hy s
  · by_cases e : y = p
    · subst e
      cases s
      · have e1 : (T2 y).k false = L := self.2.1.trans ksf
        rw [e1] at hk ⊢
        have hLq : L ≠ q := by rw [← ksf]; exact nkq y hy false
        rw [oo L nLp hLq]
        have := i.upk y hy false (by rw [ksf]; exact hk)
        rw [ksf] at this
        exact this
      · rw [self.1, q2]
    · rw [k2 y e] at hk ⊢
      rw [oo _ (nkp y hy s) (nkq y hy s)]
      exact i.upk y hy s hk
  · by_cases e1 : y = p
    · rw [e1, self.2.2.1, up] at hu'; exact absurd rfl hu'
    · by_cases e2 : y = q
      · rw [e2, q2]; exact ⟨true, self.1⟩
      · rw [oo y e1 e2] at hu' ⊢
        obtain ⟨s, hs⟩ := i.kid y hy hu'
        by_cases e : (T y).up = p
        · rw [e] at hs ⊢
          cases s
          · exact ⟨false, by rw [← hs]; exact self.2.1⟩
          · rw [kst] at hs; exact absurd hs.symm hy
        · exact ⟨s, by rw [k2 _ e]; exact hs⟩
  · split
    · rw [List.nodup_append]
      exact ⟨i.nd p, i.nd q, fun a ha b hb e => dis a ha (e ▸ hb)⟩
    · exact i.nd y
  · by_cases e : y = p
    · subst e; rw [self.2.2.2.2]; exact i.val y hy
    · by_cases e2 : y = q
      · rw [e2, q2]; exact i.val q hq
      · rw [oo y e e2]; exact i.val y hy
  · by_cases e : y = p
    · subst e
      rw [if_pos rfl, eqp]
      have : cat true (sub q) y (sub L) = sub L ++ [y] ++ sub q := by simp [cat]
      rw [← this]; exact tal'
    · rw [if_neg e]
      by_cases e2 : y = q
      · rw [e2, q2]; exact (i.tal q).of rfl rfl rfl rfl
      · rw [oo y e e2]; exact i.tal y
  · unfold joinS
    rw [sp, sq]
    by_cases e : y = p
    · subst e
      rw [if_pos rfl, if_pos (Or.inl (i.self hy))]
    · by_cases e2 : y = q
      · rw [e2, q2] at hu'; exact absurd hu' hp
      · rw [oo y e e2] at hu'
        rw [if_neg e, if_neg (fun e' => by rcases e' with e' | e'; exact i.root_not hp e hu' e'; exact i.root_not hq e2 hu' e')]
        exact i.root y hy hu'
  · unfold joinS
    rw [sp, sq]
    have e1 : y ≠ p := fun e => by rw [e, self.2.2.1, up] at hu'; exact hu' rfl
    by_cases e2 : y = q
    · rw [e2, q2]
      rw [if_pos (Or.inr (i.self hq)), if_pos (Or.inl (i.self hp))]
    · rw [oo y e1 e2] at hu' ⊢
      have hA : y ∈ sub p ↔ (T y).up ∈ sub p := ⟨fun e => i.parent hp e e1, fun e => i.kid_in hp e hy rfl⟩
      have hB : y ∈ sub q ↔ (T y).up ∈ sub q := ⟨fun e => i.parent hq e e2, fun e => i.kid_in hq e hy rfl⟩
      by_cases h1 : y ∈ sub p ∨ y ∈ sub q
      · rw [if_pos h1, if_pos (h1.imp hA.1 hB.1)]
      · rw [if_neg h1, if_neg (fun e => h1 (e.imp hA.2 hB.2))]
        exact i.climb y hy hu'
  · rw [oo y (by omega) (by omega)]
    exact h.zero y hy

/-- A value set at the top. -/
def setV (v : Nat → Int) (x : Nat) (z : Int) : Nat → Int := fun y => if y = x then z else v y

theorem sumV_congr {v v' : Nat → Int} : ∀ {l : List Nat}, (∀ y ∈ l, v y = v' y) → sumV v l = sumV v' l ∧ lowV v l = lowV v' l ∧ highV v l = highV v' l
  | [], _ => ⟨rfl, rfl, rfl⟩
  | x :: l, h => by
    obtain ⟨h1, h2, h3⟩ := sumV_congr (l := l) (fun y hy => h y (List.mem_cons_of_mem _ hy))
    have h0 := h x List.mem_cons_self
    simp only [sumV, lowV, highV, h0, h1, h2, h3, and_self]

theorem Gd.setv (h : Gd N T v sub seq) {x : Nat} (hx : x ≠ 0) (hu : (T x).up = 0) (hxN : x < N) (z : Int) : ∃ sub', Gd N (tallyT (upd T x { T x with v := z }) x) (setV v x z) sub' seq := by
  have i := h.inv
  have nl : (T x).l ≠ x := i.kid_ne hx false
  have nr : (T x).r ≠ x := i.kid_ne hx true
  have hT : ∀ y, tallyT (upd T x { T x with v := z }) x y = if y = x then tally { T x with v := z } (T (T x).l) (T (T x).r) else T y := fun y => by
    unfold tallyT
    by_cases e : y = x
    · subst e
      rw [upd_same, upd_same, if_pos rfl]
      show tally _ (upd T y _ (T y).l) (upd T y _ (T y).r) = _
      rw [upd_ne nl, upd_ne nr]
    · rw [upd_ne e, upd_ne e, if_neg e]
  generalize tallyT (upd T x { T x with v := z }) x = T' at hT
  have up' : ∀ y, (T' y).up = (T y).up := fun y => by
    rw [hT]
    split
    · next e => rw [e]; rfl
    · rfl
  have k' : ∀ y s, (T' y).k s = (T y).k s := fun y s => by
    rw [hT]
    split
    · next e => rw [e, tally_k]; cases s <;> rfl
    · rfl
  have t' : ∀ y, (T' y).t = (T y).t := fun y => by
    rw [hT]
    split
    · next e => rw [e]; rfl
    · rfl
  have tl : ∀ y, y ≠ x → Tal (T y) (setV v x z) (sub y) := fun y hy => by
    by_cases h0 : y = 0
    · have := i.tal y
      rw [h0, i.sub0] at this ⊢
      exact ⟨this.rest, this.s, this.lo, this.hi⟩
    · have hn := i.root_not h0 (Ne.symm hy) hu
      obtain ⟨e1, e2, e3⟩ := sumV_congr (v := setV v x z) (v' := v) (l := sub y) (fun d hd => by unfold setV; rw [if_neg (fun e : d = x => hn (e ▸ hd))])
      have := i.tal y
      exact ⟨this.rest, by rw [e1]; exact this.s, by rw [e2]; exact this.lo, by rw [e3]; exact this.hi⟩
  refine ⟨sub, ⟨?_, i.sub0, fun y hy s => ?_, fun y hy s hk => ?_, fun y hy hu' => ?_, i.nd, fun y hy => ?_, fun y => ?_, fun y hy hu' => ?_, fun y hy hu' => ?_⟩, fun y hy => ?_, h.pos, h.big⟩
  · rw [hT, if_neg (Ne.symm hx)]; exact i.none
  · rw [k', k', t']; exact i.eqn y hy s
  · rw [k'] at hk ⊢
    rw [up']; exact i.upk y hy s hk
  · rw [up'] at hu' ⊢
    obtain ⟨s, hs⟩ := i.kid y hy hu'
    exact ⟨s, by rw [k']; exact hs⟩
  · rw [hT]
    split
    · next e => subst e; simp [tally, setV]
    · next e => simp [setV, e]; exact i.val y hy
  · by_cases e : y = x
    · subst e
      rw [hT, if_pos rfl, i.eqn y hx false]
      exact (tally_tal (n := { T y with v := z }) (v := setV v y z) (x := y) (by simp [setV]) (tl _ nl) (tl _ nr) (by have := h.len3 (T y).l; have := h.len3 (T y).r; omega) false).1.flp _
    · rw [hT, if_neg e]; exact tl y e
  · rw [up'] at hu'; exact i.root y hy hu'
  · rw [up'] at hu' ⊢; exact i.climb y hy hu'
  · rw [hT, if_neg (by omega)]; exact h.zero y hy

end Go.Proofs.YtpelpcplagfdiaaDoor
