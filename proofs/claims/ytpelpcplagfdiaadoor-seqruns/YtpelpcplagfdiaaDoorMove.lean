/- Trees that nodes move in: what stays: plain facts. -/
import Derived.Test.YtpelpcplagfdiaaDoorLift
namespace Go.Proofs.YtpelpcplagfdiaaDoor
open Go.RowKit

variable {T T' T'' : Tb} {v : Nat → Int} {sub sub' sub'' seq : Nat → List Nat} {N : Nat}

/-- The table of N nodes; the others are alone. -/
structure Gd (N : Nat) (T : Tb) (v : Nat → Int) (sub seq : Nat → List Nat) : Prop where
  inv : Inv T v sub seq
  zero : ∀ x, N ≤ x → T x = nd0
  pos : 1 ≤ N
  big : N ≤ 8388609

theorem Gd.k_lt (h : Gd N T v sub seq) (x : Nat) (s : Bool) : (T x).k s < N := by
  have hp := h.pos
  by_cases hx : x = 0
  · rw [hx, h.inv.none]; cases s <;> exact hp
  · by_cases hk : (T x).k s = 0
    · rw [hk]; exact hp
    · rcases Nat.lt_or_ge ((T x).k s) N with h1 | h1
      · exact h1
      · have := h.inv.upk x hx s hk
        rw [h.zero _ h1] at this
        exact absurd this.symm hx

theorem Gd.l_lt (h : Gd N T v sub seq) (x : Nat) : (T x).l < N := h.k_lt x false
theorem Gd.r_lt (h : Gd N T v sub seq) (x : Nat) : (T x).r < N := h.k_lt x true

theorem Gd.up_lt (h : Gd N T v sub seq) (x : Nat) : (T x).up < N := by
  have hp := h.pos
  by_cases hx : x = 0
  · rw [hx, h.inv.none]; exact hp
  · by_cases hu : (T x).up = 0
    · rw [hu]; exact hp
    · rcases Nat.lt_or_ge (T x).up N with h1 | h1
      · exact h1
      · obtain ⟨s, hs⟩ := h.inv.kid x hx hu
        rw [h.zero _ h1] at hs
        cases s <;> exact absurd hs.symm hx

theorem Gd.lt (h : Gd N T v sub seq) {x : Nat} (hu : (T x).up ≠ 0) : x < N := by
  rcases Nat.lt_or_ge x N with h1 | h1
  · exact h1
  · rw [h.zero x h1] at hu; exact absurd rfl hu

theorem Gd.len (h : Gd N T v sub seq) (x : Nat) : (sub x).length ≤ N + 1 := by
  by_cases hx : x = 0
  · rw [hx, h.inv.sub0]; simp
  · have := List.Nodup.length_le_of_subset (l₂ := x :: List.range N) (h.inv.nd x) (fun y hy => by
      by_cases e : y = x
      · rw [e]; exact List.mem_cons_self
      · exact List.mem_cons_of_mem _ (List.mem_range.2 (h.lt (h.inv.sub_up hx hy e))))
    simpa using this

theorem Gd.len3 (h : Gd N T v sub seq) (x : Nat) : (sub x).length ≤ 300000000 := by have := h.len x; have := h.big; omega

theorem Gd.self (h : Gd N T v sub seq) {x : Nat} (hx : x ≠ 0) : x ∈ seq x := by
  obtain ⟨r, _, _, h3, h4, _⟩ := h.inv.top h.len (N + 1) x (by omega) hx
  rw [h3]; exact h4

/-- The sequence of a member is the sequence. -/
theorem Gd.mem_seq (h : Gd N T v sub seq) {x y : Nat} (hx : x ≠ 0) (hy : y ∈ seq x) : seq y = seq x ∧ y ≠ 0 := by
  obtain ⟨r, h1, h2, h3, h4, _⟩ := h.inv.top h.len (N + 1) x (by omega) hx
  rw [h3] at hy ⊢
  exact ⟨(h.inv.sub_seq h1 hy).trans (h.inv.root r h1 h2), h.inv.sub_ne h1 hy⟩

theorem Gd.seq_nd (h : Gd N T v sub seq) {x : Nat} (hx : x ≠ 0) : (seq x).Nodup := by
  obtain ⟨r, _, _, h3, _, _⟩ := h.inv.top h.len (N + 1) x (by omega) hx
  rw [h3]; exact h.inv.nd r

theorem Gd.seq_len (h : Gd N T v sub seq) {x : Nat} (hx : x ≠ 0) : (seq x).length ≤ N + 1 := by
  obtain ⟨r, _, _, h3, _, _⟩ := h.inv.top h.len (N + 1) x (by omega) hx
  rw [h3]; exact h.len r

/-- From one table to another one: the sequences stay; of other sequences the nodes too. -/
structure Mv (N : Nat) (v : Nat → Int) (seq : Nat → List Nat) (x : Nat) (T : Tb) (sub : Nat → List Nat) (T' : Tb) (sub' : Nat → List Nat) : Prop where
  gd : Gd N T' v sub' seq
  fr : ∀ y, (y ≠ 0 → seq y ≠ seq x) → T' y = T y ∧ sub' y = sub y

theorem Mv.refl (h : Gd N T v sub seq) (x : Nat) : Mv N v seq x T sub T sub := ⟨h, fun _ _ => ⟨rfl, rfl⟩⟩
theorem Mv.trans {x : Nat} (h : Mv N v seq x T sub T' sub') (k : Mv N v seq x T' sub' T'' sub'') : Mv N v seq x T sub T'' sub'' :=
  ⟨k.gd, fun y hy => ⟨(k.fr y hy).1.trans (h.fr y hy).1, (k.fr y hy).2.trans (h.fr y hy).2⟩⟩
theorem Mv.at {x z : Nat} (h : Mv N v seq x T sub T' sub') (e : seq x = seq z) : Mv N v seq z T sub T' sub' := ⟨h.gd, by rw [← e]; exact h.fr⟩

theorem seq_up (h : Inv T v sub seq) {x : Nat} (hx : x ≠ 0) (hu : (T x).up ≠ 0) : seq (T x).up = seq x := (h.climb x hx hu).symm

/-- What settling a node leaves. -/
structure Stl (x : Nat) (T : Tb) (sub : Nat → List Nat) (T' : Tb) (sub' : Nat → List Nat) : Prop where
  t : (T' x).t = false
  up : ∀ y, (T' y).up = (T y).up
  o : ∀ y, y ≠ x → (y ≠ 0 → (T y).up ≠ x) → T' y = T y
  s : ∀ y, (y ≠ 0 → (T y).up ≠ x) → sub' y = sub y
  len : ∀ y, (sub' y).length = (sub y).length
  id : (T x).t = false → T' = T ∧ sub' = sub

theorem Gd.settle (h : Gd N T v sub seq) (x : Nat) : ∃ sub', Mv N v seq x T sub (settleT T x) sub' ∧ Stl x T sub (settleT T x) sub' := by
  by_cases ht : (T x).t = false
  · have e : settleT T x = T := by unfold settleT; rw [ht]; rfl
    rw [e]
    exact ⟨sub, Mv.refl h x, ht, fun _ => rfl, fun _ _ _ => rfl, fun _ _ => rfl, fun _ => rfl, fun _ => ⟨rfl, rfl⟩⟩
  · have ht : (T x).t = true := by simpa using ht
    have hx : x ≠ 0 := fun e => by rw [e, h.inv.none] at ht; cases ht
    have hxN : x < N := by
      rcases Nat.lt_or_ge x N with h1 | h1
      · exact h1
      · rw [h.zero x h1] at ht; cases ht
    obtain ⟨i1, i2, i3, i4, _, _⟩ := h.inv.settle hx ht
    have hs : ∀ y, (y ≠ 0 → (T y).up ≠ x) → (fun y => if y ≠ 0 ∧ (T y).up = x then (sub y).reverse else sub y) y = sub y := fun y hy => if_neg (fun e => hy e.1 e.2)
    refine ⟨_, ⟨⟨i1, fun y hy => ?_, h.pos, h.big⟩, fun y hy => ?_⟩, i2, i3, i4, hs, fun y => ?_, fun e => by rw [ht] at e; cases e⟩
    · rw [i4 y (by omega) (fun _ e => by have := h.lt (x := y) (by rw [e]; exact hx); omega)]
      exact h.zero y hy
    · have hk : y ≠ 0 → (T y).up ≠ x := fun h0 e => hy h0 (by have := seq_up h.inv h0 (by rw [e]; exact hx); rw [e] at this; exact this.symm)
      refine ⟨?_, hs y hk⟩
      by_cases e : y = x
      · exact absurd (by rw [e]) (hy (by rw [e]; exact hx))
      · exact i4 y e hk
    · try dsimp only
      split <;> simp

/-- What lifting a node leaves. -/
structure Lft (x p : Nat) (T : Tb) (sub : Nat → List Nat) (T' : Tb) (sub' : Nat → List Nat) : Prop where
  up : (T' x).up = (T p).up
  t : ∀ y, (T' y).t = (T y).t
  sx : sub' x = sub p
  so : ∀ y, y ≠ x → y ≠ p → sub' y = sub y
  o : ∀ y, y ≠ x → y ≠ p → y ≠ (T x).k (!whr T x) → y ≠ (T p).up → T' y = T y
  us : ∀ y, y ≠ x → y ≠ p → y ≠ (T x).k (!whr T x) → (T' y).up = (T y).up

theorem Gd.lift (h : Gd N T v sub seq) {x : Nat} (hx : x ≠ 0) (hu : (T x).up ≠ 0) (tx : (T x).t = false) (tp : (T (T x).up).t = false) :
    ∃ sub', Mv N v seq x T sub (liftT T x) sub' ∧ Lft x (T x).up T sub (liftT T x) sub' := by
  obtain ⟨p, b, g, c, a, s, hp, n⟩ := h.inv.near hx hu
  rw [n.ep] at tp ⊢
  have hI := h.inv.lift hx hp n h.len3 tx tp
  have hL := lift_nodes h.inv hx hp n h.len3
  have ub : b ≠ 0 → (T b).up = x := fun hb => by have := h.inv.upk x hx (!s) (by rw [n.eb]; exact hb); rw [n.eb] at this; exact this
  have sp : seq p = seq x := by have := seq_up h.inv hx hu; rw [n.ep] at this; exact this
  have sg : g ≠ 0 → seq g = seq x := fun hg => by have := seq_up h.inv hp (by rw [n.eg]; exact hg); rw [n.eg] at this; exact this.trans sp
  have sb : b ≠ 0 → seq b = seq x := fun hb => by have := seq_up h.inv hb (by rw [ub hb]; exact hx); rw [ub hb] at this; exact this.symm
  have oth : ∀ y, y ≠ x → y ≠ p → (b ≠ 0 → y ≠ b) → (g ≠ 0 → y ≠ g) → liftT T x y = T y := hL.ko
  have gl : g < N := by rw [← n.eg]; exact h.up_lt p
  have pl : p < N := by rw [← n.ep]; exact h.up_lt x
  have bl : b < N := by rw [← n.eb]; exact h.k_lt x (!s)
  refine ⟨_, ⟨⟨hI, fun y hy => ?_, h.pos, h.big⟩, fun y hy => ?_⟩, ?_, ?_, if_pos rfl, fun y h1 h2 => ?_, ?_, ?_⟩
  · have := h.lt hu
    rw [oth y (by omega) (by omega) (fun _ => by omega) (fun _ => by omega)]
    exact h.zero y hy
  · have n1 : y ≠ x := fun e => hy (by rw [e]; exact hx) (by rw [e])
    have n2 : y ≠ p := fun e => hy (by rw [e]; exact hp) (by rw [e]; exact sp)
    refine ⟨oth y n1 n2 (fun hb e => hy (by rw [e]; exact hb) (by rw [e]; exact sb hb)) (fun hg e => hy (by rw [e]; exact hg) (by rw [e]; exact sg hg)), ?_⟩
    try dsimp only
    rw [if_neg n1, if_neg n2]
  · rw [hL.xu, n.eg]
  · intro y
    by_cases e1 : y = x
    · rw [e1]; exact hL.xt
    · by_cases e2 : y = p
      · rw [e2]; exact hL.pt
      · by_cases e3 : b ≠ 0 ∧ y = b
        · rw [e3.2, hL.kb e3.1]
        · by_cases e4 : g ≠ 0 ∧ y = g
          · rw [e4.2, hL.kg e4.1, setK_t]
          · rw [oth y e1 e2 (fun hb e => e3 ⟨hb, e⟩) (fun hg e => e4 ⟨hg, e⟩)]
  · (try dsimp only); rw [if_neg h1, if_neg h2]
  · intro y h1 h2 h3 h4
    rw [n.es', n.eb] at h3
    exact oth y h1 h2 (fun _ => h3) (fun _ => by rw [n.eg] at h4; exact h4)
  · intro y h1 h2 h3
    rw [n.es', n.eb] at h3
    by_cases e4 : g ≠ 0 ∧ y = g
    · rw [e4.2, hL.kg e4.1, setK_up]
    · rw [oth y h1 h2 (fun _ => h3) (fun hg e => e4 ⟨hg, e⟩)]

/-- Three nodes settled, one above the other. -/
theorem settle3 {T1 T2 T3 : Tb} {sub1 sub2 sub3 : Nat → List Nat} (h : Gd N T v sub seq) {x p g : Nat} (hx : x ≠ 0) (ep : (T x).up = p) (hp : p ≠ 0) (eg : (T p).up = g)
    (m1 : Mv N v seq g T sub T1 sub1) (s1 : Stl g T sub T1 sub1) (m2 : Mv N v seq p T1 sub1 T2 sub2) (s2 : Stl p T1 sub1 T2 sub2) (m3 : Mv N v seq x T2 sub2 T3 sub3) (s3 : Stl x T2 sub2 T3 sub3) :
    Mv N v seq x T sub T3 sub3 ∧ (T3 x).up = p ∧ (T3 p).up = g ∧ (T3 x).t = false ∧ (T3 p).t = false ∧ (g ≠ 0 → (T3 g).t = false) ∧ (sub3 x).length = (sub x).length := by
  have sp : seq p = seq x := by have := seq_up h.inv hx (by rw [ep]; exact hp); rw [ep] at this; exact this
  have m1' : Mv N v seq x T sub T1 sub1 := by
    by_cases hg : g = 0
    · have := s1.id (by rw [hg, h.inv.none]; rfl)
      rw [this.1, this.2]; exact Mv.refl h x
    · have sg := seq_up h.inv hp (by rw [eg]; exact hg)
      rw [eg] at sg
      exact m1.at (sg.trans sp)
  have u1 : ∀ y, (T3 y).up = (T y).up := fun y => by rw [s3.up, s2.up, s1.up]
  have lpx : (sub x).length < (sub p).length := by have := h.inv.up_lt hx (by rw [ep]; exact hp); rw [ep] at this; exact this
  have lgp : g ≠ 0 → (sub p).length < (sub g).length := fun hg => by have := h.inv.up_lt hp (by rw [eg]; exact hg); rw [eg] at this; exact this
  have npx : p ≠ x := fun e => by rw [e] at lpx; omega
  refine ⟨(m1'.trans (m2.at sp)).trans m3, by rw [u1]; exact ep, by rw [u1]; exact eg, s3.t, ?_, fun hg => ?_, by rw [s3.len, s2.len, s1.len]⟩
  · rw [s3.o p npx (fun _ e => by rw [s2.up, s1.up, eg] at e; by_cases hg : g = 0; exact hx (e.symm.trans hg); have := lgp hg; rw [e] at this; omega)]
    exact s2.t
  · have n1 : g ≠ x := fun e => by have := lgp hg; rw [e] at this; omega
    have n2 : g ≠ p := fun e => by have := lgp hg; rw [e] at this; omega
    have lu : (T g).up ≠ 0 → (sub g).length < (sub (T g).up).length := fun hu => h.inv.up_lt hg hu
    have := lgp hg
    rw [s3.o g n1 (fun _ e => by rw [s2.up, s1.up] at e; have := lu (by rw [e]; exact hx); rw [e] at this; omega), s2.o g n2 (fun _ e => by rw [s1.up] at e; have := lu (by rw [e]; exact hp); rw [e] at this; omega)]
    exact s1.t

/-- The upper step of a straight way. -/
theorem zigzig {T4 : Tb} {sub4 : Nat → List Nat} (h : Gd N T v sub seq) {x p g : Nat} (hx : x ≠ 0) (ep : (T x).up = p) (hp : p ≠ 0) (eg : (T p).up = g) (hg : g ≠ 0) (tx : (T x).t = false) (tp : (T p).t = false) (hw : whr T p = whr T x)
    (m : Mv N v seq p T sub T4 sub4) (l : Lft p g T sub T4 sub4) : Mv N v seq x T sub T4 sub4 ∧ (T4 x).up = p ∧ (T4 x).t = false ∧ (T4 p).t = false ∧ sub4 x = sub x := by
  have sp : seq p = seq x := by have := seq_up h.inv hx (by rw [ep]; exact hp); rw [ep] at this; exact this
  have lpx : (sub x).length < (sub p).length := by have := h.inv.up_lt hx (by rw [ep]; exact hp); rw [ep] at this; exact this
  have lgp : (sub p).length < (sub g).length := by have := h.inv.up_lt hp (by rw [eg]; exact hg); rw [eg] at this; exact this
  have n1 : x ≠ p := fun e => by rw [e] at lpx; omega
  have n2 : x ≠ g := fun e => by rw [e] at lpx; omega
  have n3 : x ≠ (T p).k (!whr T p) := fun e => by
    have h1 := h.inv.onSide hx (by rw [ep]; exact hp)
    rw [ep] at h1
    have := h.inv.kids hp (whr T x) (by rw [h1]; exact hx)
    rw [h1, ← hw] at this
    exact this e.symm
  refine ⟨m.at sp, by rw [l.us x n1 n2 n3]; exact ep, by rw [l.t]; exact tx, by rw [l.t]; exact tp, l.so x n1 n2⟩

theorem Mv.tal {x : Nat} (m : Mv N v seq x T sub T' sub') (y : Nat) : (T' y).rest + 1 = ((sub' y).length : Int) := by have := (m.gd.inv.tal y).rest; omega

end Go.Proofs.YtpelpcplagfdiaaDoor
