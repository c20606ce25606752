/- Trees that nodes move in: what stays: plain facts. 'settle' and 'lift' among trees; 'raise', walked. 'reach', walked: the table grows. 'look', walked: are there these items? A sequence turned, cut, joined; a value set: plain facts. Where a call of the Forest stands; 'top', 'size', 'leads', 'item', 'shed', walked. -/
import Derived.Test.YtdmkbcbgjdmgdaaGreatDoorBseq
import Derived.Laws.CopyOwn
import Derived.OwnWalk
import Derived.Deep.Cut
namespace Go.Proofs.YtdmkbcbgjdmgdaaGreatDoor
open Go.RowKit

variable {T T' T'' : Tb} {v : Nat → Int} {sub sub' sub'' seq : Nat → List Nat} {N : Nat}

/-- The table of N nodes; the others are alone. -/
structure Gd (N : Nat) (T : Tb) (v : Nat → Int) (sub seq : Nat → List Nat) : Prop where
  inv : Inv T v sub seq
  zero : ∀ x, N ≤ x → T x = nd0
  pos : 1 ≤ N
  big : N ≤ 8388609

theorem Gd.k_lt (h : Gd N T v sub seq) (x : Nat) (s : Bool) : (T x).k s < N := by
  have hp := h.pos
  by_cases hx : x = 0
  · rw [hx, h.inv.none]; cases s <;> exact hp
  · by_cases hk : (T x).k s = 0
    · rw [hk]; exact hp
    · rcases Nat.lt_or_ge ((T x).k s) N with h1 | h1
      · exact h1
      · have := h.inv.upk x hx s hk
        rw [h.zero _ h1] at this
        exact absurd this.symm hx

theorem Gd.l_lt (h : Gd N T v sub seq) (x : Nat) : (T x).l < N := h.k_lt x false
theorem Gd.r_lt (h : Gd N T v sub seq) (x : Nat) : (T x).r < N := h.k_lt x true

theorem Gd.up_lt (h : Gd N T v sub seq) (x : Nat) : (T x).up < N := by
  have hp := h.pos
  by_cases hx : x = 0
  · rw [hx, h.inv.none]; exact hp
  · by_cases hu : (T x).up = 0
    · rw [hu]; exact hp
    · rcases Nat.lt_or_ge (T x).up N with h1 | h1
      · exact h1
      · obtain ⟨s, hs⟩ := h.inv.kid x hx hu
        rw [h.zero _ h1] at hs
        cases s <;> exact absurd hs.symm hx

theorem Gd.lt (h : Gd N T v sub seq) {x : Nat} (hu : (T x).up ≠ 0) : x < N := by
  rcases Nat.lt_or_ge x N with h1 | h1
  · exact h1
  · rw [h.zero x h1] at hu; exact absurd rfl hu

theorem Gd.len (h : Gd N T v sub seq) (x : Nat) : (sub x).length ≤ N + 1 := by
  by_cases hx : x = 0
  · rw [hx, h.inv.sub0]; simp
  · have := List.Nodup.length_le_of_subset (l₂ := x :: List.range N) (h.inv.nd x) (fun y hy => by
      by_cases e : y = x
      · rw [e]; exact List.mem_cons_self
      · exact List.mem_cons_of_mem _ (List.mem_range.2 (h.lt (h.inv.sub_up hx hy e))))
    simpa using this

theorem Gd.len3 (h : Gd N T v sub seq) (x : Nat) : (sub x).length ≤ 300000000 := by have := h.len x; have := h.big; omega

theorem Gd.self (h : Gd N T v sub seq) {x : Nat} (hx : x ≠ 0) : x ∈ seq x := by
  obtain ⟨r, _, _, h3, h4, _⟩ := h.inv.top h.len (N + 1) x (by omega) hx
  rw [h3]; exact h4

/-- The sequence of a member is the sequence. -/
theorem Gd.mem_seq (h : Gd N T v sub seq) {x y : Nat} (hx : x ≠ 0) (hy : y ∈ seq x) : seq y = seq x ∧ y ≠ 0 := by
  obtain ⟨r, h1, h2, h3, h4, _⟩ := h.inv.top h.len (N + 1) x (by omega) hx
  rw [h3] at hy ⊢
  exact ⟨(h.inv.sub_seq h1 hy).trans (h.inv.root r h1 h2), h.inv.sub_ne h1 hy⟩

theorem Gd.seq_nd (h : Gd N T v sub seq) {x : Nat} (hx : x ≠ 0) : (seq x).Nodup := by
  obtain ⟨r, _, _, h3, _, _⟩ := h.inv.top h.len (N + 1) x (by omega) hx
  rw [h3]; exact h.inv.nd r

theorem Gd.seq_len (h : Gd N T v sub seq) {x : Nat} (hx : x ≠ 0) : (seq x).length ≤ N + 1 := by
  obtain ⟨r, _, _, h3, _, _⟩ := h.inv.top h.len (N + 1) x (by omega) hx
  rw [h3]; exact h.len r

/-- From one table to another one: the sequences stay; of other sequences the nodes too. -/
structure Mv (N : Nat) (v : Nat → Int) (seq : Nat → List Nat) (x : Nat) (T : Tb) (sub : Nat → List Nat) (T' : Tb) (sub' : Nat → List Nat) : Prop where
  gd : Gd N T' v sub' seq
  fr : ∀ y, (y ≠ 0 → seq y ≠ seq x) → T' y = T y ∧ sub' y = sub y

theorem Mv.refl (h : Gd N T v sub seq) (x : Nat) : Mv N v seq x T sub T sub := ⟨h, fun _ _ => ⟨rfl, rfl⟩⟩
theorem Mv.trans {x : Nat} (h : Mv N v seq x T sub T' sub') (k : Mv N v seq x T' sub' T'' sub'') : Mv N v seq x T sub T'' sub'' :=
  ⟨k.gd, fun y hy => ⟨(k.fr y hy).1.trans (h.fr y hy).1, (k.fr y hy).2.trans (h.fr y hy).2⟩⟩
theorem Mv.at {x z : Nat} (h : Mv N v seq x T sub T' sub') (e : seq x = seq z) : Mv N v seq z T sub T' sub' := ⟨h.gd, by rw [← e]; exact h.fr⟩

theorem seq_up (h : Inv T v sub seq) {x : Nat} (hx : x ≠ 0) (hu : (T x).up ≠ 0) : seq (T x).up = seq x := (h.climb x hx hu).symm

/-- What settling a node leaves. -/
structure Stl (x : Nat) (T : Tb) (sub : Nat → List Nat) (T' : Tb) (sub' : Nat → List Nat) : Prop where
  t : (T' x).t = false
  up : ∀ y, (T' y).up = (T y).up
  o : ∀ y, y ≠ x → (y ≠ 0 → (T y).up ≠ x) → T' y = T y
  s : ∀ y, (y ≠ 0 → (T y).up ≠ x) → sub' y = sub y
  len : ∀ y, (sub' y).length = (sub y).length
  id : (T x).t = false → T' = T ∧ sub' = sub

theorem Gd.settle (h : Gd N T v sub seq) (x : Nat) : ∃ sub', Mv N v seq x T sub (settleT T x) sub' ∧ Stl x T sub (settleT T x) sub' := by
  by_cases ht : (T x).t = false
  · have e : settleT T x = T := by unfold settleT; rw [ht]; rfl
    rw [e]
    exact ⟨sub, Mv.refl h x, ht, fun _ => rfl, fun _ _ _ => rfl, fun _ _ => rfl, fun _ => rfl, fun _ => ⟨rfl, rfl⟩⟩
  · have ht : (T x).t = true := by simpa using ht
    have hx : x ≠ 0 := fun e => by rw [e, h.inv.none] at ht; cases ht
    have hxN : x < N := by
      rcases Nat.lt_or_ge x N with h1 | h1
      · exact h1
      · rw [h.zero x h1] at ht; cases ht
    obtain ⟨i1, i2, i3, i4, _, _⟩ := h.inv.settle hx ht
    have hs : ∀ y, (y ≠ 0 → (T y).up ≠ x) → (fun y => if y ≠ 0 ∧ (T y).up = x then (sub y).reverse else sub y) y = sub y := fun y hy => if_neg (fun e => hy e.1 e.2)
    refine ⟨_, ⟨⟨i1, fun y hy => ?_, h.pos, h.big⟩, fun y hy => ?_⟩, i2, i3, i4, hs, fun y => ?_, fun e => by rw [ht] at e; cases e⟩
    · rw [i4 y (by omega) (fun _ e => by have := h.lt (x := y) (by rw [e]; exact hx); omega)]
      exact h.zero y hy
    · have hk : y ≠ 0 → (T y).up ≠ x := fun h0 e => hy h0 (by have := seq_up h.inv h0 (by rw [e]; exact hx); rw [e] at this; exact this.symm)
      refine ⟨?_, hs y hk⟩
      by_cases e : y = x
      · exact absurd (by rw [e]) (hy (by rw [e]; exact hx))
      · exact i4 y e hk
    · try dsimp only
      split <;> simp

/-- What lifting a node leaves. -/
structure Lft (x p : Nat) (T : Tb) (sub : Nat → List Nat) (T' : Tb) (sub' : Nat → List Nat) : Prop where
  up : (T' x).up = (T p).up
  t : ∀ y, (T' y).t = (T y).t
  sx : sub' x = sub p
  so : ∀ y, y ≠ x → y ≠ p → sub' y = sub y
  o : ∀ y, y ≠ x → y ≠ p → y ≠ (T x).k (!whr T x) → y ≠ (T p).up → T' y = T y
  us : ∀ y, y ≠ x → y ≠ p → y ≠ (T x).k (!whr T x) → (T' y).up = (T y).up

theorem Gd.lift (h : Gd N T v sub seq) {x : Nat} (hx : x ≠ 0) (hu : (T x).up ≠ 0) (tx : (T x).t = false) (tp : (T (T x).up).t = false) :
    ∃ sub', Mv N v seq x T sub (liftT T x) sub' ∧ Lft x (T x).up T sub (liftT T x) sub' := by
  obtain ⟨p, b, g, c, a, s, hp, n⟩ := h.inv.near hx hu
  rw [n.ep] at tp ⊢
  have hI := h.inv.lift hx hp n h.len3 tx tp
  have hL := lift_nodes h.inv hx hp n h.len3
  have ub : b ≠ 0 → (T b).up = x := fun hb => by have := h.inv.upk x hx (!s) (by rw [n.eb]; exact hb); rw [n.eb] at this; exact this
  have sp : seq p = seq x := by have := seq_up h.inv hx hu; rw [n.ep] at this; exact this
  have sg : g ≠ 0 → seq g = seq x := fun hg => by have := seq_up h.inv hp (by rw [n.eg]; exact hg); rw [n.eg] at this; exact this.trans sp
  have sb : b ≠ 0 → seq b = seq x := fun hb => by have := seq_up h.inv hb (by rw [ub hb]; exact hx); rw [ub hb] at this; exact this.symm
  have oth : ∀ y, y ≠ x → y ≠ p → (b ≠ 0 → y ≠ b) → (g ≠ 0 → y ≠ g) → liftT T x y = T y := hL.ko
  have gl : g < N := by rw [← n.eg]; exact h.up_lt p
  have pl : p < N := by rw [← n.ep]; exact h.up_lt x
  have bl : b < N := by rw [← n.eb]; exact h.k_lt x (!s)
  refine ⟨_, ⟨⟨hI, fun y hy => ?_, h.pos, h.big⟩, fun y hy => ?_⟩, ?_, ?_, if_pos rfl, fun y h1 h2 => ?_, ?_, ?_⟩
  · have := h.lt hu
    rw [oth y (by omega) (by omega) (fun _ => by omega) (fun _ => by omega)]
    exact h.zero y hy
  · have n1 : y ≠ x := fun e => hy (by rw [e]; exact hx) (by rw [e])
    have n2 : y ≠ p := fun e => hy (by rw [e]; exact hp) (by rw [e]; exact sp)
    refine ⟨oth y n1 n2 (fun hb e => hy (by rw [e]; exact hb) (by rw [e]; exact sb hb)) (fun hg e => hy (by rw [e]; exact hg) (by rw [e]; exact sg hg)), ?_⟩
    try dsimp only
    rw [if_neg n1, if_neg n2]
  · rw [hL.xu, n.eg]
  · intro y
    by_cases e1 : y = x
    · rw [e1]; exact hL.xt
    · by_cases e2 : y = p
      · rw [e2]; exact hL.pt
      · by_cases e3 : b ≠ 0 ∧ y = b
        · rw [e3.2, hL.kb e3.1]
        · by_cases e4 : g ≠ 0 ∧ y = g
          · rw [e4.2, hL.kg e4.1, setK_t]
          · rw [oth y e1 e2 (fun hb e => e3 ⟨hb, e⟩) (fun hg e => e4 ⟨hg, e⟩)]
  · (try dsimp only); rw [if_neg h1, if_neg h2]
  · intro y h1 h2 h3 h4
    rw [n.es', n.eb] at h3
    exact oth y h1 h2 (fun _ => h3) (fun _ => by rw [n.eg] at h4; exact h4)
  · intro y h1 h2 h3
    rw [n.es', n.eb] at h3
    by_cases e4 : g ≠ 0 ∧ y = g
    · rw [e4.2, hL.kg e4.1, setK_up]
    · rw [oth y h1 h2 (fun _ => h3) (fun hg e => e4 ⟨hg, e⟩)]

/-- Three nodes settled, one above the other. -/
theorem settle3 {T1 T2 T3 : Tb} {sub1 sub2 sub3 : Nat → List Nat} (h : Gd N T v sub seq) {x p g : Nat} (hx : x ≠ 0) (ep : (T x).up = p) (hp : p ≠ 0) (eg : (T p).up = g)
    (m1 : Mv N v seq g T sub T1 sub1) (s1 : Stl g T sub T1 sub1) (m2 : Mv N v seq p T1 sub1 T2 sub2) (s2 : Stl p T1 sub1 T2 sub2) (m3 : Mv N v seq x T2 sub2 T3 sub3) (s3 : Stl x T2 sub2 T3 sub3) :
    Mv N v seq x T sub T3 sub3 ∧ (T3 x).up = p ∧ (T3 p).up = g ∧ (T3 x).t = false ∧ (T3 p).t = false ∧ (g ≠ 0 → (T3 g).t = false) ∧ (sub3 x).length = (sub x).length := by
  have sp : seq p = seq x := by have := seq_up h.inv hx (by rw [ep]; exact hp); rw [ep] at this; exact this
  have m1' : Mv N v seq x T sub T1 sub1 := by
    by_cases hg : g = 0
    · have := s1.id (by rw [hg, h.inv.none]; rfl)
      rw [this.1, this.2]; exact Mv.refl h x
    · have sg := seq_up h.inv hp (by rw [eg]; exact hg)
      rw [eg] at sg
      exact m1.at (sg.trans sp)
  have u1 : ∀ y, (T3 y).up = (T y).up := fun y => by rw [s3.up, s2.up, s1.up]
  have lpx : (sub x).length < (sub p).length := by have := h.inv.up_lt hx (by rw [ep]; exact hp); rw [ep] at this; exact this
  have lgp : g ≠ 0 → (sub p).length < (sub g).length := fun hg => by have := h.inv.up_lt hp (by rw [eg]; exact hg); rw [eg] at this; exact this
  have npx : p ≠ x := fun e => by rw [e] at lpx; omega
  refine ⟨(m1'.trans (m2.at sp)).trans m3, by rw [u1]; exact ep, by rw [u1]; exact eg, s3.t, ?_, fun hg => ?_, by rw [s3.len, s2.len, s1.len]⟩
  · rw [s3.o p npx (fun _ e => by rw [s2.up, s1.up, eg] at e; by_cases hg : g = 0; exact hx (e.symm.trans hg); have := lgp hg; rw [e] at this; omega)]
    exact s2.t
  · have n1 : g ≠ x := fun e => by have := lgp hg; rw [e] at this; omega
    have n2 : g ≠ p := fun e => by have := lgp hg; rw [e] at this; omega
    have lu : (T g).up ≠ 0 → (sub g).length < (sub (T g).up).length := fun hu => h.inv.up_lt hg hu
    have := lgp hg
    rw [s3.o g n1 (fun _ e => by rw [s2.up, s1.up] at e; have := lu (by rw [e]; exact hx); rw [e] at this; omega), s2.o g n2 (fun _ e => by rw [s1.up] at e; have := lu (by rw [e]; exact hp); rw [e] at this; omega)]
    exact s1.t

/-- The upper step of a straight way. -/
theorem zigzig {T4 : Tb} {sub4 : Nat → List Nat} (h : Gd N T v sub seq) {x p g : Nat} (hx : x ≠ 0) (ep : (T x).up = p) (hp : p ≠ 0) (eg : (T p).up = g) (hg : g ≠ 0) (tx : (T x).t = false) (tp : (T p).t = false) (hw : whr T p = whr T x)
    (m : Mv N v seq p T sub T4 sub4) (l : Lft p g T sub T4 sub4) : Mv N v seq x T sub T4 sub4 ∧ (T4 x).up = p ∧ (T4 x).t = false ∧ (T4 p).t = false ∧ sub4 x = sub x := by
  have sp : seq p = seq x := by have := seq_up h.inv hx (by rw [ep]; exact hp); rw [ep] at this; exact this
  have lpx : (sub x).length < (sub p).length := by have := h.inv.up_lt hx (by rw [ep]; exact hp); rw [ep] at this; exact this
  have lgp : (sub p).length < (sub g).length := by have := h.inv.up_lt hp (by rw [eg]; exact hg); rw [eg] at this; exact this
  have n1 : x ≠ p := fun e => by rw [e] at lpx; omega
  have n2 : x ≠ g := fun e => by rw [e] at lpx; omega
  have n3 : x ≠ (T p).k (!whr T p) := fun e => by
    have h1 := h.inv.onSide hx (by rw [ep]; exact hp)
    rw [ep] at h1
    have := h.inv.kids hp (whr T x) (by rw [h1]; exact hx)
    rw [h1, ← hw] at this
    exact this e.symm
  refine ⟨m.at sp, by rw [l.us x n1 n2 n3]; exact ep, by rw [l.t]; exact tx, by rw [l.t]; exact tp, l.so x n1 n2⟩

theorem Mv.tal {x : Nat} (m : Mv N v seq x T sub T' sub') (y : Nat) : (T' y).rest + 1 = ((sub' y).length : Int) := by have := (m.gd.inv.tal y).rest; omega

end Go.Proofs.YtdmkbcbgjdmgdaaGreatDoor

namespace Go.Proofs.YtdmkbcbgjdmgdaaGreatDoor
open Go.RowKit
set_option linter.unusedVariables false

theorem settle_gd (fb nb n N x : Nat) (T : Tb) (v : Nat → Int) (sub seq : Nat → List Nat) (w : World) (h : Fo w fb nb n N T) (hG : Gd N T v sub seq) (hx : x < N) :
    Calls Tryz.prog 127 #[.pointer (some ⟨fb, 0, none⟩), .int .i32 (x : Int)] w fun e w' => e = .returned (.tuple #[]) ∧ ∃ T' sub', Fo w' fb nb n N T' ∧ Mv N v seq x T sub T' sub' ∧ Stl x T sub T' sub' ∧ Turned (fun k => k = nb) w w' := by
  obtain ⟨sub', m, s⟩ := hG.settle x
  refine (settle_ok fb nb n N x T w h hx (hG.l_lt x) (hG.r_lt x)).mono ?_
  rintro e w' ⟨rfl, h2, t2⟩
  exact ⟨rfl, _, sub', h2, m, s, t2⟩

theorem lift_gd (fb nb n N x : Nat) (T : Tb) (v : Nat → Int) (sub seq : Nat → List Nat) (w : World) (h : Fo w fb nb n N T) (hG : Gd N T v sub seq) (hx0 : x ≠ 0) (p : Nat) (ep : (T x).up = p) (hp : p ≠ 0) (tx : (T x).t = false) (tp : (T p).t = false) :
    Calls Tryz.prog 134 #[.pointer (some ⟨fb, 0, none⟩), .int .i32 (x : Int)] w fun e w' => e = .returned (.tuple #[]) ∧ ∃ T' sub', Fo w' fb nb n N T' ∧ Mv N v seq x T sub T' sub' ∧ Lft x p T sub T' sub' ∧ Turned (fun k => k = nb) w w' := by
  subst ep
  obtain ⟨sub', m, s⟩ := hG.lift hx0 hp tx tp
  obtain ⟨p', b, g, c, a, sd, hp', nn⟩ := hG.inv.near hx0 hp
  have e1 := nn.ep
  refine (lift_ok fb nb n N x p' b g c a sd T w h nn (hG.lt hp) (by rw [← e1]; exact hG.up_lt x) (by rw [← nn.eb]; exact hG.k_lt x _) (by rw [← nn.eg]; exact hG.up_lt _) (by rw [← nn.ec]; exact hG.k_lt _ _) (by rw [← nn.ea]; exact hG.k_lt _ _)).mono ?_
  rintro e w' ⟨rfl, h2, t2⟩
  exact ⟨rfl, _, sub', h2, m, s, t2⟩

/-- How far a node is from the top, at most. -/
def ms (nb x N : Nat) (w : World) : Nat := match w.cell? ⟨nb, x * 9 + 4, none⟩ with
  | some (.int _ k) => N + 1 - (k + 1).toNat
  | _ => 0

theorem ms_is {fb nb n N x : Nat} {T : Tb} {v : Nat → Int} {sub seq : Nat → List Nat} {w : World} (h : Fo w fb nb n N T) (hG : Gd N T v sub seq) (hx : x < N) : ms nb x N w = N + 1 - (sub x).length := by
  unfold ms
  rw [h.rest hx]
  have := (hG.inv.tal x).rest
  dsimp only
  omega

set_option maxRecDepth 100000 in
set_option maxHeartbeats 2000000 in
theorem raise_ok (fb nb n N x : Nat) (T : Tb) (v : Nat → Int) (sub seq : Nat → List Nat) (w : World) (h : Fo w fb nb n N T) (hG : Gd N T v sub seq) (hx0 : x ≠ 0) (hx : x < N) :
    Calls Tryz.prog 124 #[.pointer (some ⟨fb, 0, none⟩), .int .i32 (x : Int)] w fun e w' => e = .returned (.tuple #[]) ∧ ∃ T' sub', Fo w' fb nb n N T' ∧ Mv N v seq x T sub T' sub' ∧ (T' x).up = 0 ∧ (T' x).t = false ∧ Turned (fun k => k = nb) w w' := by
  have hbig := h.big
  have q1 : (0 : Int) ≤ (x : Int) := by omega
  have q2 : (x : Int) < (N : Int) := by omega
  have hx0h := hid hx0
  have st : Hid (∃ T1 sub1, Fo w fb nb n N T1 ∧ Mv N v seq x T sub T1 sub1 ∧ Turned (fun k => k = nb) w w) := ⟨T, sub, h, Mv.refl hG x, Turned.refl _ _⟩
  clear h hx0 hG
  go_enter Tryz.func124, Tryz.ntmps124
  go_wp2_with fail
  go_loopw [4, 5] (fun _ _ wr => Hid (∃ T1 sub1, Fo wr fb nb n N T1 ∧ Mv N v seq x T sub T1 sub1 ∧ Turned (fun k => k = nb) w wr)) (fun _ _ wr => ms nb x N wr)
  case atStart => exact st
  case round =>
    clear st
    obtain ⟨T1, sub1, h1, m1, t1⟩ := hrel.out
    clear hrel
    obtain ⟨p, ep⟩ : ∃ p, (T1 x).up = p := ⟨_, rfl⟩
    have hms := hid (ms_is h1 m1.gd hx)
    have c1 := h1.c1
    have cu : wr.cell? ⟨nb, x * 9 + 5, none⟩ = some (.int .i32 (p : Int)) := by rw [← ep]; exact h1.up hx
    by_cases hp : p = 0
    · subst hp
      have hh := hid h1
      have mh := hid m1
      have th := hid t1
      have eph := hid ep
      clear h1 m1 t1 ep
      go_wp2_with fail
      refine (settle_gd fb nb n N x T1 v sub1 seq _ hh.out mh.out.gd hx).mono ?_
      rintro e w2 ⟨rfl, T2, sub2, h2, m2, s2, t2⟩
      have fin : Hid (∃ T' sub', Fo w2 fb nb n N T' ∧ Mv N v seq x T sub T' sub' ∧ (T' x).up = 0 ∧ (T' x).t = false ∧ Turned (fun k => k = nb) w w2) := ⟨T2, sub2, h2, mh.out.trans m2, by rw [s2.up]; exact eph.out, s2.t, th.out.trans t2⟩
      clear h2 m2 s2 t2
      go_wp2_with fail
      go_end0
      exact ⟨rfl, fin.out⟩
    · have tp0 : ((p : Int) != 0) = true := by simp; omega
      have hpN : p < N := by rw [← ep]; exact m1.gd.up_lt x
      obtain ⟨g, eg⟩ : ∃ g, (T1 p).up = g := ⟨_, rfl⟩
      have hgN : g < N := by rw [← eg]; exact m1.gd.up_lt p
      have cg : wr.cell? ⟨nb, p * 9 + 5, none⟩ = some (.int .i32 (g : Int)) := by rw [← eg]; exact h1.up hpN
      have q3 : (0 : Int) ≤ (p : Int) := by omega
      have q4 : (p : Int) < (N : Int) := by omega
      have hph := hid hp
      have hh := hid h1
      have mh := hid m1
      have th := hid t1
      have eph := hid ep
      have egh := hid eg
      clear h1 m1 t1 ep eg hp
      go_wp2_with fail
      refine (settle_gd fb nb n N g T1 v sub1 seq _ hh.out mh.out.gd hgN).mono ?_
      rintro e w2 ⟨rfl, T2, sub2, h2, m2, s2, t2⟩
      have h2 := hid h2
      have m2 := hid m2
      have s2 := hid s2
      have t2 := hid (th.out.trans t2)
      clear hh th c1 cu cg
      go_wp2_with fail
      refine (settle_gd fb nb n N p T2 v sub2 seq _ h2.out m2.out.gd hpN).mono ?_
      rintro e w3 ⟨rfl, T3, sub3, h3, m3, s3, t3⟩
      have h3 := hid h3
      have m3 := hid m3
      have s3 := hid s3
      have t3 := hid (t2.out.trans t3)
      clear h2 t2
      go_wp2_with fail
      refine (settle_gd fb nb n N x T3 v sub3 seq _ h3.out m3.out.gd hx).mono ?_
      rintro e w4 ⟨rfl, T4, sub4, h4, m4, s4, t4⟩
      obtain ⟨mm, up, upp, tx, tp, tg, hlen⟩ := settle3 mh.out.gd hx0h.out eph.out hph.out egh.out m2.out s2.out m3.out s3.out m4 s4
      have h4 := hid h4
      have t4 := hid (t3.out.trans t4)
      have mm := hid mm
      have fl := hid (And.intro up (And.intro upp (And.intro tx (And.intro tp (And.intro tg hlen)))))
      clear m4 s4 h3 t3 m2 m3 s2 s3 up upp tx tp tg hlen
      have fin : Hid (∀ (y : World) (T5 T6 : Tb) (sub5 sub6 : Nat → List Nat) (q : Nat), Mv N v seq x T4 sub4 T5 sub5 → (sub4 x).length ≤ (sub5 x).length → (T5 x).up = q → q ≠ 0 → Mv N v seq x T5 sub5 T6 sub6 → Lft x q T5 sub5 T6 sub6 → Fo y fb nb n N T6 → Turned (fun k => k = nb) w y →
          Hid (∃ T1 sub1, Fo y fb nb n N T1 ∧ Mv N v seq x T sub T1 sub1 ∧ Turned (fun k => k = nb) w y) ∧ ms nb x N y < ms nb x N wr) := fun y T5 T6 sub5 sub6 q a1 a2 a3 a4 a5 a6 a7 a8 => by
        refine ⟨⟨T6, sub6, a7, ((mh.out.trans mm.out).trans a1).trans a5, a8⟩, ?_⟩
        rw [hms.out, ms_is a7 a5.gd hx, a6.sx]
        have h1 := a1.gd.inv.up_lt hx0h.out (by rw [a3]; exact a4)
        rw [a3] at h1
        have h2 := fl.out.2.2.2.2.2
        have h3 := a1.gd.len q
        omega
      by_cases hg : g = 0
      · have tg0 : ((g : Int) != 0) = false := by subst hg; rfl
        go_wp2_with fail
        refine (lift_gd fb nb n N x T4 v sub4 seq _ h4.out mm.out.gd hx0h.out p fl.out.1 hph.out fl.out.2.2.1 fl.out.2.2.2.1).mono ?_
        rintro e w5 ⟨rfl, T5, sub5, h5, m5, l5, t5⟩
        have fin2 := hid (fin.out w5 T4 T5 sub4 sub5 p (Mv.refl mm.out.gd x) (Nat.le_refl _) fl.out.1 hph.out m5 l5 h5 (t4.out.trans t5))
        clear h5 m5 l5 t5 fin
        go_wp2_with fail
        go_roundw
        case rel => exact fin2.out.1
        case measure => exact fin2.out.2
      · have tg0 : ((g : Int) != 0) = true := by simp; omega
        have hgh := hid hg
        clear hg
        have hw1 : Hid (∀ y, Fo y fb nb n N T4 → Calls Tryz.prog 129 #[.pointer (some ⟨fb, 0, none⟩), .int .i32 (p : Int)] y fun e w' => e = .returned (.int .i64 (sI (whr T4 p))) ∧ w' = y.drew) := fun y hy => where_ok fb nb n N p T4 y hy hpN (mm.out.gd.up_lt p)
        have hw2 : Hid (∀ y, Fo y fb nb n N T4 → Calls Tryz.prog 129 #[.pointer (some ⟨fb, 0, none⟩), .int .i32 (x : Int)] y fun e w' => e = .returned (.int .i64 (sI (whr T4 x))) ∧ w' = y.drew) := fun y hy => where_ok fb nb n N x T4 y hy hx (mm.out.gd.up_lt x)
        obtain ⟨P, hP⟩ : ∃ P, sI (whr T4 p) = P := ⟨_, rfl⟩
        obtain ⟨X, hX⟩ : ∃ X, sI (whr T4 x) = X := ⟨_, rfl⟩
        rw [hP] at hw1
        rw [hX] at hw2
        have h5 := hid h4.out.drew.drew
        have t5 := hid t4.out.drew.drew
        by_cases hz : whr T4 p = whr T4 x
        · have tz : (P == X) = true := by rw [← hP, ← hX, hz]; simp
          have hzh := hid hz
          clear hP hX hz
          go_wp2_with fail
          refine (hw1.out _ h4.out).mono ?_
          rintro e w' ⟨rfl, rfl⟩
          go_wp2_with fail
          refine (hw2.out _ h4.out.drew).mono ?_
          rintro e w' ⟨rfl, rfl⟩
          generalize w4.drew.drew = w5 at h5 t5 ⊢
          go_wp2_with fail
          refine (lift_gd fb nb n N p T4 v sub4 seq _ h5.out mm.out.gd hph.out g fl.out.2.1 hgh.out fl.out.2.2.2.1 (fl.out.2.2.2.2.1 hgh.out)).mono ?_
          rintro e w6 ⟨rfl, T6, sub6, h6, m6, l6, t6⟩
          obtain ⟨m7, u7, tx7, tp7, e7⟩ := zigzig mm.out.gd hx0h.out fl.out.1 hph.out fl.out.2.1 hgh.out fl.out.2.2.1 fl.out.2.2.2.1 hzh.out m6 l6
          have h6 := hid h6
          have t6 := hid (t5.out.trans t6)
          have m7 := hid m7
          have f7 := hid (And.intro u7 (And.intro tx7 (And.intro tp7 e7)))
          clear m6 l6 u7 tx7 tp7 e7 h5 t5
          go_wp2_with fail
          refine (lift_gd fb nb n N x T6 v sub6 seq _ h6.out m7.out.gd hx0h.out p f7.out.1 hph.out f7.out.2.1 f7.out.2.2.1).mono ?_
          rintro e w8 ⟨rfl, T8, sub8, h8, m8, l8, t8⟩
          have fin2 := hid (fin.out w8 T6 T8 sub6 sub8 p m7.out (by rw [f7.out.2.2.2]; exact Nat.le_refl _) f7.out.1 hph.out m8 l8 h8 (t6.out.trans t8))
          clear h8 m8 l8 t8 fin
          go_wp2_with fail
          go_roundw
          case rel => exact fin2.out.1
          case measure => exact fin2.out.2
        · have tz : (P == X) = false := by
            rw [← hP, ← hX]
            cases h1 : whr T4 p <;> cases h2 : whr T4 x <;> first | rfl | (exact absurd (h1.trans h2.symm) hz)
          clear hP hX hz
          go_wp2_with fail
          refine (hw1.out _ h4.out).mono ?_
          rintro e w' ⟨rfl, rfl⟩
          go_wp2_with fail
          refine (hw2.out _ h4.out.drew).mono ?_
          rintro e w' ⟨rfl, rfl⟩
          generalize w4.drew.drew = w5 at h5 t5 ⊢
          go_wp2_with fail
          refine (lift_gd fb nb n N x T4 v sub4 seq _ h5.out mm.out.gd hx0h.out p fl.out.1 hph.out fl.out.2.2.1 fl.out.2.2.2.1).mono ?_
          rintro e w6 ⟨rfl, T6, sub6, h6, m6, l6, t6⟩
          have h6 := hid h6
          have t6 := hid (t5.out.trans t6)
          have m7 := hid m6
          have f7 : Hid ((T6 x).up = g ∧ (T6 x).t = false ∧ (T6 g).t = false ∧ (sub4 x).length ≤ (sub6 x).length) := ⟨by rw [l6.up]; exact fl.out.2.1, by rw [l6.t]; exact fl.out.2.2.1, by rw [l6.t]; exact fl.out.2.2.2.2.1 hgh.out, by
            rw [l6.sx]
            have := mm.out.gd.inv.up_lt hx0h.out (by rw [fl.out.1]; exact hph.out)
            rw [fl.out.1] at this
            omega⟩
          clear m6 l6 h5 t5
          go_wp2_with fail
          refine (lift_gd fb nb n N x T6 v sub6 seq _ h6.out m7.out.gd hx0h.out g f7.out.1 hgh.out f7.out.2.1 f7.out.2.2.1).mono ?_
          rintro e w8 ⟨rfl, T8, sub8, h8, m8, l8, t8⟩
          have fin2 := hid (fin.out w8 T6 T8 sub6 sub8 g m7.out f7.out.2.2.2 f7.out.1 hgh.out m8 l8 h8 (t6.out.trans t8))
          clear h8 m8 l8 t8 fin
          go_wp2_with fail
          go_roundw
          case rel => exact fin2.out.1
          case measure => exact fin2.out.2

end Go.Proofs.YtdmkbcbgjdmgdaaGreatDoor

namespace Go.Proofs.YtdmkbcbgjdmgdaaGreatDoor
open Go.RowKit
set_option linter.unusedVariables false

theorem flat_add (T : Tb) (N : Nat) : ∀ d, flat T (N + d) = flat T N ++ flat (fun i => T (N + i)) d
  | 0 => by simp [flat]
  | d + 1 => by
    rw [show N + (d + 1) = (N + d) + 1 from rfl]
    simp only [flat]
    rw [flat_add T N d, List.append_assoc]

theorem flat_over {T Z : Tb} {N K : Nat} (h : N ≤ K) (hz : ∀ i, N ≤ i → T i = Z i) : flat T N ++ (flat Z K).drop (flat T N).length = flat T K := by
  obtain ⟨d, rfl⟩ : ∃ d, K = N + d := ⟨K - N, by omega⟩
  rw [flat_add Z N d, flat_add T N d, flat_length, List.drop_left' (flat_length Z N)]
  congr 1
  exact flat_congr (fun i _ => (hz (N + i) (by omega)).symm)

def zn : Array Value := #[.int .i64 0, .int .i64 0, .int .i64 0, .int .i64 0, .int .i32 0, .int .i32 0, .int .i32 0, .int .i32 0, .bool false]

theorem made_flat (K : Nat) : madeCells zn (K * 9) = (flat (fun _ => nd0) K).toArray := by
  apply Array.ext
  · simp [madeCells, flat_length]
  · intro j h1 h2
    have hj : j < K * 9 := by simpa [madeCells] using h1
    have e := flat_get (fun _ => nd0) K (j / 9) (j % 9) (by omega) (Nat.mod_lt _ (by decide))
    rw [show j / 9 * 9 + j % 9 = j from by omega] at e
    have e2 : (flat (fun _ => nd0) K)[j]? = some ((flat (fun _ => nd0) K).toArray[j]) := by simp
    rw [e2] at e
    have hm : j % 9 < 9 := Nat.mod_lt _ (by decide)
    have key : ∀ k, k < 9 → (nc nd0)[k]? = some (zn[k]!) := fun k hk => match k, hk with
      | 0, _ => rfl | 1, _ => rfl | 2, _ => rfl | 3, _ => rfl | 4, _ => rfl | 5, _ => rfl | 6, _ => rfl | 7, _ => rfl | 8, _ => rfl
    rw [key _ hm] at e
    injection e with e
    rw [e]
    simp [madeCells, zn]

theorem infoNode : (Tryz.prog.info? 140).map (fun i => (i.zero.map Value.cells, i.size, i.bytes)) = some (some zn, 9, 56) := by kernel_rfl

theorem sizeNode : (Tryz.prog.info? 140).map (·.size) = some 9 := by kernel_rfl

theorem make_nodes (K : Nat) (hK : K ≤ 8388609) (w : World) :
    (Instr.makeSlice 142 (.int .i64 (K : Int)) (.int .i64 (K : Int))).run Tryz.prog w = .ok (.slice (some ⟨w.heap.size, 0, none⟩) K K) (w.alloc (.cells (flat (fun _ => nd0) K).toArray 140)) := by
  obtain ⟨i0, hi, e⟩ : ∃ i, Tryz.prog.info? 140 = some i ∧ (i.zero.map Value.cells, i.size, i.bytes) = (some zn, 9, 56) := by
    have := infoNode
    cases h : Tryz.prog.info? 140 with
    | none => rw [h] at this; cases this
    | some i => rw [h] at this; exact ⟨i, rfl, Option.some.inj this⟩
  have e1 : i0.zero.map Value.cells = some zn := congrArg Prod.fst e
  have e2 : i0.size = 9 := congrArg (fun p => p.2.1) e
  have e3 : i0.bytes = 56 := congrArg (fun p => p.2.2) e
  clear e
  cases hz : i0.zero with
  | none => rw [hz] at e1; cases e1
  | some z =>
    rw [hz] at e1
    have ez : z.cells = zn := Option.some.inj e1
    have h := run_make (P := Tryz.prog) w 142 140 i0 z Tryz.underlying142 hi hz .i64 .i64 K K (by omega) (Int.le_refl _) (by rw [e3]; omega) (by omega)
    rw [h]
    simp only [Int.toNat_natCast, e2, ez, made_flat]

theorem nc_one (n : Nd) : ∀ u ∈ nc n, u.oneCell' = true := by
  intro u hu
  simp only [nc, List.mem_cons, List.mem_nil_iff, or_false] at hu
  rcases hu with rfl | rfl | rfl | rfl | rfl | rfl | rfl | rfl | rfl <;> rfl

theorem flat_one (T : Tb) : ∀ N, ∀ u ∈ flat T N, u.oneCell' = true
  | 0, u, hu => by cases hu
  | N + 1, u, hu => by
    rcases List.mem_append.1 hu with h | h
    · exact flat_one T N u h
    · exact nc_one _ u h

/-- Nodes copied over the begin of new ones. -/
theorem copy_nodes {w : World} {g b N K : Nat} {T : Tb} (h1 : w.heap[g]? = some (.cells (flat (fun _ => nd0) K).toArray 140 (0, 0))) (h2 : w.heap[b]? = some (.cells (flat T N).toArray 140 (0, 0))) (hNK : N ≤ K) (hz : ∀ i, N ≤ i → T i = nd0) (ty : TypeId) :
    (Builtin.copy_ #[142, 142] ty #[.slice (some ⟨g, 0, none⟩) K K, .slice (some ⟨b, 0, none⟩) N N]).run Tryz.prog w = .ok (goInt N) (w.setRow g (flat T K).toArray) := by
  have hsrc : ∀ j u, (flat T N)[j]? = some u → w.cell? ((⟨b, 0, none⟩ : Addr).add j) = some u := by
    intro j u hu
    rw [show (⟨b, 0, none⟩ : Addr).add j = ⟨b, j, none⟩ from by unfold Addr.add; split <;> simp_all]
    unfold World.cell?
    rw [h2]
    simpa using hu
  have hl := run_loadCells_list (P := Tryz.prog) w ⟨b, 0, none⟩ (flat T N) hsrc
  have hst := run_storeCells_at Tryz.prog g 0 140 (flat T N) 0 _ w h1 (by simp [flat_length]; omega) (flat_one T N)
  have e : (flat T N ++ (flat (fun _ => nd0) K).drop (flat T N).length) = flat T K := flat_over hNK hz
  have hmin : Nat.min N K = N := Nat.min_eq_left hNK
  rw [flat_length] at hl e
  simp only [List.take_zero, List.nil_append, Nat.zero_add, flat_length] at hst
  rw [e] at hst
  have hi : ∃ i, Tryz.prog.info? 140 = some i ∧ i.size = 9 := by
    have := sizeNode
    cases h : Tryz.prog.info? 140 with
    | none => rw [h] at this; cases this
    | some i => rw [h] at this; exact ⟨i, rfl, Option.some.inj this⟩
  obtain ⟨i, hq, hi⟩ := hi
  simp [Builtin.copy_, run_underlying Tryz.underlying142, Builtin.lenOf, Builtin.firstCells, sizeOf, typeInfo, hq, hi, hmin, hl, hst]

/-- The Forest with its table grown. -/
theorem Fo.grow {w : World} {fb nb n N K : Nat} {T : Tb} (h : Fo w fb nb n N T) (hK : K ≤ 8388609) :
    Fo (((w.alloc (.cells (flat (fun _ => nd0) K).toArray 140)).setRow w.heap.size (flat T K).toArray).setCell ⟨fb, 1, none⟩ (.slice (some ⟨w.heap.size, 0, none⟩) K K)) fb w.heap.size n K T ∧
    Turned (fun k => k = fb) w (((w.alloc (.cells (flat (fun _ => nd0) K).toArray 140)).setRow w.heap.size (flat T K).toArray).setCell ⟨fb, 1, none⟩ (.slice (some ⟨w.heap.size, 0, none⟩) K K)) := by
  have hlt := h.lt
  have hn := heap_alloc_new w (.cells (flat (fun _ => nd0) K).toArray 140)
  have o1 : ∀ k, k < w.heap.size → ((w.alloc (.cells (flat (fun _ => nd0) K).toArray 140)).setRow w.heap.size (flat T K).toArray).heap[k]? = w.heap[k]? := fun k hk =>
    (setRow_other _ _ _ _ (by omega)).trans (Below.heap_alloc _ _ _ hk)
  have e1 := setRow_heap _ w.heap.size _ (flat T K).toArray _ _ hn
  refine ⟨⟨?_, ?_, hK⟩, ⟨rfl, rfl, rfl, by simp [World.setRow], fun k hk hne => (Below.heap_setCell _ _ _ _ hne).trans (o1 k hk)⟩⟩
  · unfold World.setCell
    rw [Array.getElem?_modify, if_pos rfl, o1 fb hlt.1, h.self]
    simp
  · rw [Below.heap_setCell _ _ _ _ (by simp; omega)]
    exact e1

set_option maxRecDepth 100000 in
set_option maxHeartbeats 1000000 in
theorem reach_ok (fb nb n N x : Nat) (T : Tb) (w : World) (h : Fo w fb nb n N T) (hz : ∀ i, N ≤ i → T i = nd0) (hN1 : 1 ≤ N) (hNn : N ≤ n + 1) (hn : n ≤ 8388608) (hx : x < n) :
    Calls Tryz.prog 123 #[.pointer (some ⟨fb, 0, none⟩), .int .i64 (x : Int)] w fun e w' => e = .returned (.tuple #[]) ∧ ∃ nb' N', Fo w' fb nb' n N' T ∧ N ≤ N' ∧ N' ≤ n + 1 ∧ x + 1 < N' ∧ (nb' = nb ∨ w.heap.size ≤ nb') ∧ Turned (fun k => k = fb) w w' := by
  have hbig := h.big
  have c0 := h.c0
  have c1 := h.c1
  have f1 := h.f1
  by_cases hle : x + 2 ≤ N
  · have t1 : decide ((x : Int) + 2 ≤ (N : Int)) = true := decide_eq_true (by omega)
    have hh := hid h
    clear h
    go_enter Tryz.func123, Tryz.ntmps123
    go_wp2_with fail
    first | go_end0 | refine bodyPost_ret (results_none rfl _ _ _) rfl ?_
    exact ⟨rfl, nb, N, hh.out, Nat.le_refl _, hNn, by omega, Or.inl rfl, Turned.refl _ _⟩
  · have t1 : decide ((x : Int) + 2 ≤ (N : Int)) = false := decide_eq_false (by omega)
    have gr := hid (fun K (hK : K ≤ 8388609) => h.grow hK)
    have hne := h.ne
    have hlt := h.lt
    have hnew := hid (fun K => heap_alloc_new w (.cells (flat (fun _ => nd0) K).toArray 140))
    have hcp : Hid (∀ K, N ≤ K → ∀ ty, (Builtin.copy_ #[142, 142] ty #[.slice (some ⟨w.heap.size, 0, none⟩) K K, .slice (some ⟨nb, 0, none⟩) N N]).run Tryz.prog (w.alloc (.cells (flat (fun _ => nd0) K).toArray 140)) = .ok (goInt N) ((w.alloc (.cells (flat (fun _ => nd0) K).toArray 140)).setRow w.heap.size (flat T K).toArray)) :=
      fun K hK ty => copy_nodes (heap_alloc_new w _) ((Below.heap_alloc _ _ _ hlt.2).trans h.nodes) hK hz ty
    have hca : Hid (∀ K, (w.alloc (.cells (flat (fun _ => nd0) K).toArray 140)).cell? ⟨fb, 1, none⟩ = some (.slice (some ⟨nb, 0, none⟩) N N)) := fun K => (World.cell?_of_block (Below.heap_alloc _ _ _ hlt.1)).trans h.c1
    have hcb : Hid (∀ K, ((w.alloc (.cells (flat (fun _ => nd0) K).toArray 140)).setRow w.heap.size (flat T K).toArray).cell? ⟨fb, 1, none⟩ = some (.slice (some ⟨nb, 0, none⟩) N N)) := fun K => (World.cell?_of_block (setRow_other _ _ _ _ (by simp; omega))).trans (hca.out K)
    have hfb : Hid (∀ K, ((w.alloc (.cells (flat (fun _ => nd0) K).toArray 140)).setRow w.heap.size (flat T K).toArray).frozen? ⟨fb, 1, none⟩ = false) := fun K => by
      unfold World.frozen?
      rw [setRow_other _ _ _ _ (by simp; omega), Below.heap_alloc _ _ _ hlt.1, h.self]
      simp
    clear h hne hlt hnew
    have hcase : ∃ K : Nat, N ≤ K ∧ K ≤ n + 1 ∧ x + 1 < K ∧ ((K = x + 2 ∧ 2 * N ≤ K) ∨ (K = 2 * N ∧ x + 2 < K) ∨ (K = n + 1 ∧ x + 2 < 2 * N ∧ K < 2 * N)) := by
      by_cases h1 : 2 * N ≤ x + 2
      · exact ⟨x + 2, by omega, by omega, by omega, by omega⟩
      · by_cases h2 : 2 * N ≤ n + 1
        · exact ⟨2 * N, by omega, by omega, by omega, by omega⟩
        · exact ⟨n + 1, by omega, by omega, by omega, by omega⟩
    obtain ⟨K, k1, k2, k3, hc⟩ := hcase
    have hmk := make_nodes K (by omega) w
    have hcp := hcp.out K k1
    have hca := hid (hca.out K)
    have hcb := hid (hcb.out K)
    have hfb := hid (hfb.out K)
    have gr := hid (gr.out K (by omega))
    rcases hc with ⟨e, d⟩ | ⟨e, d⟩ | ⟨e, d, d2⟩
    · have eK : (x : Int) + 2 = (K : Int) := by omega
      have d1 : ¬ ((K : Int) < 2 * (N : Int)) := by omega
      have d2 : ¬ ((n : Int) + 1 < (K : Int)) := by omega
      have t1 : decide ((K : Int) ≤ (N : Int)) = false := decide_eq_false (by omega)
      clear e d hle
      go_enter Tryz.func123, Tryz.ntmps123
      go_upto_region 3 with fail
      have hca := hca.out
      generalize w.alloc (.cells (flat (fun _ => nd0) K).toArray 140) = w1 at hcp hca hcb hfb gr ⊢
      clear hmk c0 c1 f1
      go_upto_region 4 with fail
      have hcb := hcb.out
      have hfb := hfb.out
      generalize w1.setRow w.heap.size (flat T K).toArray = w2 at hcb hfb gr ⊢
      clear hcp hca
      go_wp2_with fail
      go_end0
      exact ⟨rfl, w.heap.size, K, gr.out.1, k1, k2, k3, Or.inr (Nat.le_refl _), gr.out.2⟩
    · have eK : 2 * (N : Int) = (K : Int) := by omega
      have d1 : (x : Int) + 2 < (K : Int) := by omega
      have d2 : ¬ ((n : Int) + 1 < (K : Int)) := by omega
      clear e d hle
      go_enter Tryz.func123, Tryz.ntmps123
      go_upto_region 3 with fail
      have hca := hca.out
      generalize w.alloc (.cells (flat (fun _ => nd0) K).toArray 140) = w1 at hcp hca hcb hfb gr ⊢
      clear hmk c0 c1 f1
      go_upto_region 4 with fail
      have hcb := hcb.out
      have hfb := hfb.out
      generalize w1.setRow w.heap.size (flat T K).toArray = w2 at hcb hfb gr ⊢
      clear hcp hca
      go_wp2_with fail
      go_end0
      exact ⟨rfl, w.heap.size, K, gr.out.1, k1, k2, k3, Or.inr (Nat.le_refl _), gr.out.2⟩
    · have eK : (n : Int) + 1 = (K : Int) := by omega
      have d1 : (x : Int) + 2 < 2 * (N : Int) := by omega
      have d3 : (K : Int) < 2 * (N : Int) := by omega
      clear e d d2 hle
      go_enter Tryz.func123, Tryz.ntmps123
      go_upto_region 3 with fail
      have hca := hca.out
      generalize w.alloc (.cells (flat (fun _ => nd0) K).toArray 140) = w1 at hcp hca hcb hfb gr ⊢
      clear hmk c0 c1 f1
      go_upto_region 4 with fail
      have hcb := hcb.out
      have hfb := hfb.out
      generalize w1.setRow w.heap.size (flat T K).toArray = w2 at hcb hfb gr ⊢
      clear hcp hca
      go_wp2_with fail
      go_end0
      exact ⟨rfl, w.heap.size, K, gr.out.1, k1, k2, k3, Or.inr (Nat.le_refl _), gr.out.2⟩
end Go.Proofs.YtdmkbcbgjdmgdaaGreatDoor

namespace Go.Proofs.YtdmkbcbgjdmgdaaGreatDoor
open Go.RowKit
set_option linter.unusedVariables false

/-- The block holds these numbers. -/
def Nums (w : World) (b : Nat) (xs : List Int) : Prop := w.heap[b]? = some (.cells (xs.map (fun z => Value.int .i64 z)).toArray 3 (0, 0))

theorem Nums.cell {w : World} {b j : Nat} {xs : List Int} {z : Int} (h : Nums w b xs) (hz : xs[j]? = some z) : w.cell? ⟨b, j, none⟩ = some (.int .i64 z) := by
  unfold World.cell?
  rw [h]
  simp [hz]

set_option maxRecDepth 100000 in
set_option maxHeartbeats 1000000 in
theorem look_nil (s : Value) (w : World) : Calls Tryz.prog 97 #[.pointer none, s] w fun e w' => e = .returned (.iface 63 (.int .i64 1)) ∧ w = w' := by
  go_enter Tryz.func97, Tryz.ntmps97
  go_wp2_with fail
  go_ret
  exact ⟨rfl, rfl⟩

set_option maxRecDepth 100000 in
set_option maxHeartbeats 1000000 in
theorem look_bad (fb b n : Nat) (xs : List Int) (w : World) (hn : w.cell? ⟨fb, 0, none⟩ = some (.int .i64 (n : Int))) (hb : Nums w b xs) (hl : xs.length ≤ 2) (hbad : ¬ ∀ z ∈ xs, 0 ≤ z ∧ z < (n : Int)) :
    Calls Tryz.prog 97 #[.pointer (some ⟨fb, 0, none⟩), .slice (some ⟨b, 0, none⟩) xs.length xs.length] w fun e w' => e = .returned (.iface 63 (.int .i64 12)) ∧ w = w' := by
  have hbh := hid hb
  have hbad := hid hbad
  clear hb
  go_enter Tryz.func97, Tryz.ntmps97
  go_wp2_with fail
  go_loop [6, 14] (fun _ u => ∃ j : Nat, j ≤ xs.length ∧ u = .int .i64 (j : Int) ∧ Hid (∀ k z, k < j → xs[k]? = some z → 0 ≤ z ∧ z < (n : Int))) (fun _ u => xs.length - (intOf u).toNat)
  case atStart => exact ⟨0, by omega, by go_num, fun k z hk => by omega⟩
  case round =>
    obtain ⟨j, hj, rfl, hok⟩ := hrel
    rcases Nat.lt_or_ge j xs.length with hlt | hge
    · obtain ⟨z, hz⟩ : ∃ z, xs[j]? = some z := ⟨_, List.getElem?_eq_getElem hlt⟩
      have hc := hbh.out.cell hz
      have hzh := hid hz
      clear hz
      by_cases h0 : z < 0
      · have t1 : decide (z < 0) = true := decide_eq_true h0
        go_wp2_with fail
        go_ret
        exact ⟨rfl, rfl⟩
      · have t1 : decide (z < 0) = false := decide_eq_false h0
        by_cases h1 : (n : Int) ≤ z
        · have t2 : decide ((n : Int) ≤ z) = true := decide_eq_true h1
          go_wp2_with fail
          go_ret
          exact ⟨rfl, rfl⟩
        · have t2 : decide ((n : Int) ≤ z) = false := decide_eq_false h1
          go_wp2_with fail
          go_round
          case rel =>
            refine ⟨j + 1, by omega, by go_num, fun k z' hk hz' => ?_⟩
            rcases Nat.lt_or_ge k j with h2 | h2
            · exact hok.out k z' h2 hz'
            · obtain rfl : k = j := by omega
              rw [hzh.out] at hz'
              cases hz'
              omega
          case measure => simp [intOf]; omega
    · refine absurd (fun z hz => ?_) hbad.out
      obtain ⟨k, hk⟩ := List.mem_iff_getElem?.1 hz
      exact hok.out k z (by have := (List.getElem?_eq_some_iff.1 hk).1; omega) hk

set_option maxRecDepth 100000 in
set_option maxHeartbeats 2000000 in
theorem look_ok (fb nb b n N : Nat) (T : Tb) (xs : List Int) (w : World) (h : Fo w fb nb n N T) (hz : ∀ i, N ≤ i → T i = nd0) (hN1 : 1 ≤ N) (hNn : N ≤ n + 1) (hn : n ≤ 8388608) (hb : Nums w b xs) (hl : xs.length ≤ 2) (hok : ∀ z ∈ xs, 0 ≤ z ∧ z < (n : Int)) :
    Calls Tryz.prog 97 #[.pointer (some ⟨fb, 0, none⟩), .slice (some ⟨b, 0, none⟩) xs.length xs.length] w fun e w' => e = .returned .nilIface ∧ ∃ nb' N', Fo w' fb nb' n N' T ∧ N ≤ N' ∧ N' ≤ n + 1 ∧ (∀ z ∈ xs, z + 1 < (N' : Int)) ∧ (nb' = nb ∨ w.heap.size ≤ nb') ∧ Turned (fun k => k = fb) w w' := by
  have c0 := h.c0
  have hbne : b ≠ fb := fun e => by
    have h1 := h.self
    rw [← e, hb] at h1
    injection h1 with h1
    injection h1 with _ h1
    cases h1
  have hh := hid h
  have hbh := hid hb
  have hokh := hid hok
  have hzh := hid hz
  clear h hb hok hz
  go_enter Tryz.func97, Tryz.ntmps97
  go_wp2_with fail
  go_loop [6, 14] (fun _ u => ∃ j : Nat, j ≤ xs.length ∧ u = .int .i64 (j : Int)) (fun _ u => xs.length - (intOf u).toNat)
  case atStart => exact ⟨0, by omega, by go_num⟩
  case round =>
    obtain ⟨j, hj, rfl⟩ := hrel
    rcases Nat.lt_or_ge j xs.length with hlt | hge
    · obtain ⟨z, hz⟩ : ∃ z, xs[j]? = some z := ⟨_, List.getElem?_eq_getElem hlt⟩
      have hc := hbh.out.cell hz
      have hzz := hokh.out z (List.mem_of_getElem? hz)
      have t1 : decide (z < 0) = false := decide_eq_false (by omega)
      have t2 : decide ((n : Int) ≤ z) = false := decide_eq_false (by omega)
      clear hz hzz
      go_wp2_with fail
      go_round
      case rel => exact ⟨j + 1, by omega, by go_num⟩
      case measure => simp [intOf]; omega
    · obtain rfl : j = xs.length := by omega
      clear hge hj
      go_wp2_with fail
      go_loopw [8, 32] (fun _ u wr => ∃ j : Nat, j ≤ xs.length ∧ u = .int .i64 (j : Int) ∧ Hid (∃ nb' N', Fo wr fb nb' n N' T ∧ N ≤ N' ∧ N' ≤ n + 1 ∧ (∀ k z, k < j → xs[k]? = some z → z + 1 < (N' : Int)) ∧ (nb' = nb ∨ w.heap.size ≤ nb') ∧ Turned (fun k => k = fb) w wr)) (fun _ u _ => xs.length - (intOf u).toNat)
      case atStart => exact ⟨0, by omega, by go_num, ⟨nb, N, hh.out, Nat.le_refl _, hNn, fun k z hk => by omega, Or.inl rfl, Turned.refl _ _⟩⟩
      case round =>
        obtain ⟨j, hj, rfl, hst⟩ := hrel
        obtain ⟨nb', N', g1, g2, g3, g4, g5, g6⟩ := hst.out
        rcases Nat.lt_or_ge j xs.length with hlt | hge
        · obtain ⟨z, hz⟩ : ∃ z, xs[j]? = some z := ⟨_, List.getElem?_eq_getElem hlt⟩
          obtain ⟨x, rfl⟩ : ∃ x : Nat, z = (x : Int) := ⟨z.toNat, by have := hokh.out z (List.mem_of_getElem? hz); omega⟩
          have hx := hokh.out _ (List.mem_of_getElem? hz)
          have hc : wr.cell? ⟨b, j, none⟩ = some (.int .i64 (x : Int)) := g6.cell (hbh.out.cell hz) hbne
          have hzz := hid hz
          have G := hid (And.intro g1 (And.intro g4 (And.intro g5 g6)))
          clear hz g1 g4 g5 g6 hst c0
          go_wp2_with fail
          refine (reach_ok fb nb' n N' x T _ G.out.1 (fun i hi => hzh.out i (by omega)) (by omega) g3 hn (by omega)).mono ?_
          rintro e w2 ⟨rfl, nb2, N2, r1, r2, r3, r4, r5, r6⟩
          have st2 : Hid (∃ nb' N', Fo w2 fb nb' n N' T ∧ N ≤ N' ∧ N' ≤ n + 1 ∧ (∀ k z, k < j + 1 → xs[k]? = some z → z + 1 < (N' : Int)) ∧ (nb' = nb ∨ w.heap.size ≤ nb') ∧ Turned (fun k => k = fb) w w2) := by
            refine ⟨nb2, N2, r1, by omega, r3, fun k z' hk hz' => ?_, ?_, G.out.2.2.2.trans r6⟩
            · rcases Nat.lt_or_ge k j with h2 | h2
              · have := G.out.2.1 k z' h2 hz'; omega
              · obtain rfl : k = j := by omega
                rw [hzz.out] at hz'
                cases hz'
                omega
            · rcases r5 with rfl | r5
              · exact G.out.2.2.1
              · exact Or.inr (by have := G.out.2.2.2.size; omega)
          clear r1 r4 r5 r6
          go_wp2_with fail
          go_roundw
          case rel => exact ⟨j + 1, by omega, by go_num, st2⟩
          case measure => simp [intOf]; omega
        · have fin : Hid (∃ nb' N', Fo wr fb nb' n N' T ∧ N ≤ N' ∧ N' ≤ n + 1 ∧ (∀ z ∈ xs, z + 1 < (N' : Int)) ∧ (nb' = nb ∨ w.heap.size ≤ nb') ∧ Turned (fun k => k = fb) w wr) := ⟨nb', N', g1, g2, g3, fun z hz => by
            obtain ⟨k, hk⟩ := List.mem_iff_getElem?.1 hz
            exact g4 k z (by have := (List.getElem?_eq_some_iff.1 hk).1; omega) hk, g5, g6⟩
          clear g1 g4 g5 g6 hst
          go_wp2_with fail
          go_ret
          exact ⟨rfl, fin.out⟩

end Go.Proofs.YtdmkbcbgjdmgdaaGreatDoor

namespace Go.Proofs.YtdmkbcbgjdmgdaaGreatDoor
open Go.RowKit

variable {T T' : Tb} {v : Nat → Int} {sub sub' seq : Nat → List Nat} {N : Nat}

theorem Gd.mem_iff (h : Gd N T v sub seq) {x y : Nat} (hx : x ≠ 0) (hy : y ≠ 0) : y ∈ seq x ↔ seq y = seq x :=
  ⟨fun e => (h.mem_seq hx e).1, fun e => by rw [← e]; exact h.self hy⟩

/-- What is beneath what is beneath. -/
theorem Inv.closed (h : Inv T v sub seq) : ∀ (n z : Nat), (sub z).length ≤ n → z ≠ 0 → ∀ u, u ∈ sub z → ∀ y, y ∈ sub u → y ∈ sub z
  | 0, z, hn, _, u, hu, _, _ => by have := List.length_pos_of_mem hu; omega
  | n + 1, z, hn, hz, u, hu, y, hy => by
    rcases (h.mem hz false u).1 hu with rfl | hk | hk
    · exact hy
    · have h0 : (T z).k false ≠ 0 := fun e => by rw [e, h.sub0] at hk; cases hk
      exact (h.mem hz false y).2 (Or.inr (Or.inl (h.closed n _ (by have := h.kid_lt hz false; omega) h0 u hk y hy)))
    · have h0 : (T z).k (!false) ≠ 0 := fun e => by rw [e, h.sub0] at hk; cases hk
      exact (h.mem hz false y).2 (Or.inr (Or.inr (h.closed n _ (by have := h.kid_lt hz (!false); omega) h0 u hk y hy)))

theorem Inv.kid_in (h : Inv T v sub seq) {z u y : Nat} (hz : z ≠ 0) (hu : u ∈ sub z) (hy : y ≠ 0) (e : (T y).up = u) : y ∈ sub z := by
  have hu0 := h.sub_ne hz hu
  obtain ⟨s, hs⟩ := h.kid y hy (by rw [e]; exact hu0)
  rw [e] at hs
  exact h.closed _ z (Nat.le_refl _) hz u hu y ((h.mem hu0 s y).2 (Or.inr (Or.inl (by rw [hs]; exact h.self hy))))

/-- The one above, of what is beneath. -/
theorem Inv.up_in (h : Inv T v sub seq) : ∀ (n z : Nat), (sub z).length ≤ n → z ≠ 0 → ∀ y, y ∈ sub z → y ≠ z → (T y).up ∈ sub z
  | 0, z, hn, _, y, hy, _ => by have := List.length_pos_of_mem hy; omega
  | n + 1, z, hn, hz, y, hy, hne => by
    have key : ∀ s, y ∈ sub ((T z).k s) → (T y).up ∈ sub z := fun s hk => by
      have h0 : (T z).k s ≠ 0 := fun e => by rw [e, h.sub0] at hk; cases hk
      by_cases e : y = (T z).k s
      · rw [e, h.upk z hz s h0]; exact h.self hz
      · exact (h.mem hz s _).2 (Or.inr (Or.inl (h.up_in n _ (by have := h.kid_lt hz s; omega) h0 y hk e)))
    rcases (h.mem hz false y).1 hy with rfl | hk | hk
    · exact absurd rfl hne
    · exact key _ hk
    · exact key _ hk

theorem Inv.parent (h : Inv T v sub seq) {z y : Nat} (hz : z ≠ 0) (hy : y ∈ sub z) (hne : y ≠ z) : (T y).up ∈ sub z := h.up_in _ z (Nat.le_refl _) hz y hy hne

theorem Inv.root_not (h : Inv T v sub seq) {z y : Nat} (hz : z ≠ 0) (hne : y ≠ z) (hu : (T y).up = 0) : y ∉ sub z := fun hy => h.sub_up hz hy hne hu

/-- The sequences behind a turn. -/
def revS (seq : Nat → List Nat) (x : Nat) : Nat → List Nat := fun y => if y ∈ seq x then (seq x).reverse else seq y

theorem Gd.turn (h : Gd N T v sub seq) {x : Nat} (hx : x ≠ 0) (hu : (T x).up = 0) (hxN : x < N) : ∃ sub', Gd N (turnT T x) v sub' (revS seq x) := by
  have hr := h.inv.root x hx hu
  have hT : ∀ y, turnT T x y = if y = x then { T x with t := !(T x).t } else T y := fun y => by
    rw [turnT_at]
    by_cases e : y = x <;> simp [e, hx]
  generalize turnT T x = T' at hT
  have up' : ∀ y, (T' y).up = (T y).up := fun y => by rw [hT]; split <;> simp_all
  have k' : ∀ y s, (T' y).k s = (T y).k s := fun y s => by
    rw [hT]
    split
    · next e => subst e; cases s <;> rfl
    · rfl
  have i := h.inv
  refine ⟨fun y => if y = x then (sub x).reverse else sub y, ⟨?_, ?_, fun y hy s => ?_, fun y hy s hk => ?_, fun y hy hu' => ?_, fun y => ?_, fun y hy => ?_, fun y => ?_, fun y hy hu' => ?_, fun y hy hu' => ?_⟩, fun y hy => ?_, h.pos, h.big⟩
  · rw [hT, if_neg (Ne.symm hx)]; exact i.none
  · rw [if_neg (Ne.symm hx)]; exact i.sub0
  · rw [k', k']
    have hkx : ∀ s, (T y).k s ≠ x := fun s e => by
      have := i.upk y hy s (by rw [e]; exact hx)
      rw [e, hu] at this
      exact hy this.symm
    simp only [hkx, if_false]
    by_cases e : y = x
    · subst e
      rw [if_pos rfl, hT, if_pos rfl]
      show _ = flp (!(T y).t) _
      rw [flp_not, ← i.eqn y hy s]
    · rw [if_neg e, hT, if_neg e]
      exact i.eqn y hy s
  · rw [k'] at hk ⊢
    rw [up']; exact i.upk y hy s hk
  · rw [up'] at hu' ⊢
    obtain ⟨s, hs⟩ := i.kid y hy hu'
    exact ⟨s, by rw [k']; exact hs⟩
  · split
    · rw [nodup_rev]; exact i.nd x
    · exact i.nd y
  · rw [hT]
    split
    · next e => subst e; exact i.val y hy
    · exact i.val y hy
  · rw [hT]
    split
    · exact (i.tal x).rev.of rfl rfl rfl rfl
    · exact i.tal y
  · rw [up'] at hu'
    unfold revS
    rw [hr]
    by_cases e : y = x
    · subst e
      rw [if_pos rfl, if_pos (i.self hy)]
    · rw [if_neg e, if_neg (i.root_not hx e hu')]
      exact i.root y hy hu'
  · rw [up'] at hu' ⊢
    have e := i.climb y hy hu'
    unfold revS
    have : y ∈ seq x ↔ (T y).up ∈ seq x := by rw [h.mem_iff hx hy, h.mem_iff hx hu', e]
    by_cases hm : y ∈ seq x
    · rw [if_pos hm, if_pos (this.1 hm)]
    · rw [if_neg hm, if_neg (fun e' => hm (this.2 e'))]
      exact e
  · rw [hT, if_neg (by omega)]
    exact h.zero y hy

/-- The sequences behind a cut. -/
def cutS (seq : Nat → List Nat) (A : List Nat) (x : Nat) (B : List Nat) : Nat → List Nat := fun y => if y ∈ A then A else if y ∈ x :: B then x :: B else seq y

/-- What 'shed' makes of the table. -/
def shedT (T : Tb) (x : Nat) : Tb := hangT (upd T (T x).l { T (T x).l with up := 0 }) x false 0

theorem Gd.shed (h : Gd N T v sub seq) {x : Nat} (hx : x ≠ 0) (hu : (T x).up = 0) (ht : (T x).t = false) (hxN : x < N) {L R : Nat} (eL : (T x).l = L) (eR : (T x).r = R) (hL : L ≠ 0) : ∃ sub', Gd N (shedT T x) v sub' (cutS seq (sub L) x (sub R)) := by
  have i := h.inv
  have hr := i.root x hx hu
  have ksf : (T x).k false = L := eL
  have kst : (T x).k true = R := eR
  have nLx : L ≠ x := by have := i.kid_ne hx false; rw [ksf] at this; exact this
  have nRx : R ≠ x := by have := i.kid_ne hx true; rw [kst] at this; exact this
  have nRL : R ≠ L := by have := i.kids hx false (by rw [ksf]; exact hL); rw [ksf, show (T x).k (!false) = R from kst] at this; exact this
  have uL : (T L).up = x := by have := i.upk x hx false (by rw [ksf]; exact hL); rw [ksf] at this; exact this
  have eqx : sub x = sub L ++ x :: sub R := by have := i.eqn x hx false; rw [ht, ksf, show (T x).k (!false) = R from kst] at this; exact this
  have LN : L < N := by rw [← eL]; exact h.l_lt x
  have hR0 : ∀ {y}, y ∈ sub R → R ≠ 0 := fun hy e => by rw [e, i.sub0] at hy; cases hy
  have ndx := i.nd x
  rw [eqx, List.nodup_append, List.nodup_cons] at ndx
  obtain ⟨nd1, ⟨nd2, nd3⟩, nd4⟩ := ndx
  have xL : x ∉ sub L := fun e => nd4 x e x List.mem_cons_self rfl
  have dLR : ∀ y, y ∈ sub L → y ∉ x :: sub R := fun y h1 h2 => nd4 y h1 y h2 rfl
  obtain ⟨T1, hT1⟩ : ∃ T1, upd T L { T L with up := 0 } = T1 := ⟨_, rfl⟩
  have o1 : ∀ y, y ≠ L → T1 y = T y := fun y hy => by rw [← hT1, upd_ne hy]
  have l1 : T1 L = { T L with up := 0 } := by rw [← hT1, upd_same]
  have es : shedT T x = hangT T1 x false 0 := by unfold shedT; rw [eL, hT1]
  rw [es]
  have x1 : T1 x = T x := o1 x nLx.symm
  have self := hangT_self (T := T1) (x := x) (k := 0) (s := false) (Ne.symm hx)
  rw [x1] at self
  have tal' : Tal (hangT T1 x false 0 x) v (cat false [] x (sub R)) :=
    hangT_tal (Ne.symm hx) (by rw [x1]; exact kst) nRx (by rw [x1]; exact i.val x hx) (by rw [o1 0 (Ne.symm hL)]; have := i.tal 0; rw [i.sub0] at this; exact this) (by rw [o1 R nRL]; exact i.tal R) (by have := h.len3 R; simp; omega)
  have o2 : ∀ y, y ≠ x → hangT T1 x false 0 y = T1 y := fun y hy => hangT_other hy (fun e => absurd rfl e)
  generalize hangT T1 x false 0 = T2 at self tal' o2
  have l2 : T2 L = { T L with up := 0 } := by rw [o2 L nLx, l1]
  have oo : ∀ y, y ≠ x → y ≠ L → T2 y = T y := fun y h1 h2 => by rw [o2 y h1, o1 y h2]
  have k2 : ∀ y, y ≠ x → ∀ s, (T2 y).k s = (T y).k s := fun y hy s => by
    by_cases e : y = L
    · rw [e, l2]; cases s <;> rfl
    · rw [oo y hy e]
  have nkx : ∀ y, y ≠ 0 → ∀ s, (T y).k s ≠ x := fun y hy s e => by
    have := i.upk y hy s (by rw [e]; exact hx)
    rw [e, hu] at this
    exact hy this.symm
  refine ⟨fun y => if y = x then x :: sub R else sub y, ⟨?_, ?_, fun y hy => ?_, fun y hy s hk => ?_, fun y hy hu' => ?_, fun y => ?_, fun y hy => ?_, fun y => ?_, fun y hy hu' => ?_, fun y hy hu' => ?_⟩, fun y hy => ?_, h.pos, h.big⟩
  · rw [oo 0 (Ne.symm hx) (Ne.symm hL)]; exact i.none
  · rw [if_neg (Ne.symm hx)]; exact i.sub0
  · by_cases e : y = x
    · subst e
      refine eqn_side (sub := fun d => if d = y then y :: sub R else sub d) false ?_
      try dsimp only
      rw [if_pos rfl, self.2.2.2.1, ht, self.1, self.2.1]
      show _ = flp false (cat false _ y _)
      rw [show (T y).k (!false) = R from kst, if_neg (Ne.symm hx), i.sub0, if_neg nRx]
      rfl
    · intro s
      rw [if_neg e, k2 y e, k2 y e, if_neg (nkx y hy s), if_neg (nkx y hy (!s))]
      have et : (T2 y).t = (T y).t := by
        by_cases e2 : y = L
        · rw [e2, l2]
        · rw [oo y e e2]
      rw [et]
      exact i.eqn y hy s
  · have upo : ∀ d, d ≠ x → d ≠ L → (T2 d).up = (T d).up := fun d h1 h2 => by rw [oo d h1 h2]
    by_cases e : y = x
    · subst e
      cases s
      · rw [self.1] at hk; exact absurd rfl hk
      · have e1 : (T2 y).k true = R := self.2.1.trans kst
        rw [e1] at hk ⊢
        rw [upo R nRx nRL]
        have := i.upk y hy true (by rw [kst]; exact hk)
        rw [kst] at this
        exact this
    · rw [k2 y e] at hk ⊢
      have := i.upk y hy s hk
      rw [upo _ (nkx y hy s) (fun e' => by rw [e', uL] at this; exact e this.symm)]
      exact this
  · have e1 : y ≠ x := fun e => by rw [e, self.2.2.1, hu] at hu'; exact hu' rfl
    have e2 : y ≠ L := fun e => by rw [e, l2] at hu'; exact hu' rfl
    rw [oo y e1 e2] at hu' ⊢
    obtain ⟨s, hs⟩ := i.kid y hy hu'
    by_cases e : (T y).up = x
    · rw [e] at hs ⊢
      cases s
      · exact absurd (hs.symm.trans ksf) e2
      · exact ⟨true, by rw [← hs, kst]; exact self.2.1.trans kst⟩
    · exact ⟨s, by rw [k2 _ e]; exact hs⟩
  · split
    · exact List.nodup_cons.2 ⟨nd2, nd3⟩
    · exact i.nd y
  · by_cases e : y = x
    · subst e; rw [self.2.2.2.2]; exact i.val y hy
    · by_cases e2 : y = L
      · rw [e2, l2]; exact i.val L hL
      · rw [oo y e e2]; exact i.val y hy
  · by_cases e : y = x
    · subst e; rw [if_pos rfl]; exact tal'
    · rw [if_neg e]
      by_cases e2 : y = L
      · rw [e2, l2]; exact (i.tal L).of rfl rfl rfl rfl
      · rw [oo y e e2]; exact i.tal y
  · unfold cutS
    by_cases e : y = x
    · subst e
      rw [if_pos rfl, if_neg xL, if_pos List.mem_cons_self]
    · rw [if_neg e]
      by_cases e2 : y = L
      · rw [e2, if_pos (i.self hL)]
      · rw [oo y e e2] at hu'
        have hny := i.root_not hx e hu'
        rw [eqx] at hny
        rw [if_neg (fun e' => hny (List.mem_append.2 (Or.inl e'))), if_neg (fun e' => hny (List.mem_append.2 (Or.inr e')))]
        exact i.root y hy hu'
  · have e1 : y ≠ x := fun e => by rw [e, self.2.2.1, hu] at hu'; exact hu' rfl
    have e2 : y ≠ L := fun e => by rw [e, l2] at hu'; exact hu' rfl
    rw [oo y e1 e2] at hu' ⊢
    have hA : y ∈ sub L ↔ (T y).up ∈ sub L := ⟨fun e => i.parent hL e e2, fun e => i.kid_in hL e hy rfl⟩
    have hB : y ∈ x :: sub R ↔ (T y).up ∈ x :: sub R := by
      constructor
      · intro e
        rcases List.mem_cons.1 e with e | e
        · exact absurd e e1
        · by_cases e3 : y = R
          · have hR := hR0 e
            have := i.upk x hx true (by rw [kst]; exact hR)
            rw [kst] at this
            rw [e3, this]; exact List.mem_cons_self
          · exact List.mem_cons_of_mem _ (i.parent (hR0 e) e e3)
      · intro e
        rcases List.mem_cons.1 e with e | e
        · obtain ⟨s, hs⟩ := i.kid y hy hu'
          rw [e] at hs
          cases s
          · exact absurd (hs.symm.trans ksf) e2
          · have : y = R := hs.symm.trans kst
            have hR : R ≠ 0 := this ▸ hy
            exact List.mem_cons_of_mem _ (by rw [this]; exact i.self hR)
        · exact List.mem_cons_of_mem _ (i.kid_in (hR0 e) e hy rfl)
    unfold cutS
    by_cases h1 : y ∈ sub L
    · rw [if_pos h1, if_pos (hA.1 h1)]
    · rw [if_neg h1, if_neg (fun e => h1 (hA.2 e))]
      by_cases h2 : y ∈ x :: sub R
      · rw [if_pos h2, if_pos (hB.1 h2)]
      · rw [if_neg h2, if_neg (fun e => h2 (hB.2 e))]
        exact i.climb y hy hu'
  · rw [oo y (by omega) (by omega)]
    exact h.zero y hy

/-- The sequences behind a join. -/
def joinS (seq : Nat → List Nat) (a b : Nat) : Nat → List Nat := fun y => if y ∈ seq a ∨ y ∈ seq b then seq a ++ seq b else seq y

theorem Gd.join (h : Gd N T v sub seq) {p q : Nat} (hp : p ≠ 0) (hq : q ≠ 0) (up : (T p).up = 0) (uq : (T q).up = 0) (tp : (T p).t = false) (rp : (T p).r = 0) (hne : seq p ≠ seq q) (hpN : p < N) (hqN : q < N) : ∃ sub', Gd N (hangT T p true q) v sub' (joinS seq p q) := by
  have i := h.inv
  have sp := i.root p hp up
  have sq := i.root q hq uq
  have npq : q ≠ p := fun e => hne (by rw [e])
  obtain ⟨L, eL⟩ : ∃ L, (T p).l = L := ⟨_, rfl⟩
  have ksf : (T p).k false = L := eL
  have kst : (T p).k true = 0 := rp
  have nLp : L ≠ p := by have := i.kid_ne hp false; rw [ksf] at this; exact this
  have eqp : sub p = sub L ++ [p] := by have := i.eqn p hp false; rw [tp, ksf, show (T p).k (!false) = 0 from kst, i.sub0] at this; exact this
  have self := hangT_self (T := T) (x := p) (k := q) (s := true) npq
  have tal' : Tal (hangT T p true q p) v (cat true (sub q) p (sub L)) := hangT_tal npq (show (T p).k (!true) = L from eL) nLp (i.val p hp) (i.tal q) (i.tal L) (by have := h.len3 q; have := h.len3 L; omega)
  have q2 : hangT T p true q q = { T q with up := p } := hangT_kid hq npq
  have oo : ∀ y, y ≠ p → y ≠ q → hangT T p true q y = T y := fun y h1 h2 => hangT_other h1 (fun _ => h2)
  generalize hangT T p true q = T2 at self tal' q2 oo
  have dis : ∀ y, y ∈ sub p → y ∉ sub q := fun y h1 h2 => hne ((i.sub_seq hp h1).symm.trans (i.sub_seq hq h2))
  have k2 : ∀ y, y ≠ p → ∀ s, (T2 y).k s = (T y).k s := fun y hy s => by
    by_cases e : y = q
    · rw [e, q2]; cases s <;> rfl
    · rw [oo y hy e]
  have nkp : ∀ y, y ≠ 0 → ∀ s, (T y).k s ≠ p := fun y hy s e => by
    have := i.upk y hy s (by rw [e]; exact hp)
    rw [e, up] at this
    exact hy this.symm
  have nkq : ∀ y, y ≠ 0 → ∀ s, (T y).k s ≠ q := fun y hy s e => by
    have := i.upk y hy s (by rw [e]; exact hq)
    rw [e, uq] at this
    exact hy this.symm
  refine ⟨fun y => if y = p then sub p ++ sub q else sub y, ⟨?_, ?_, fun y hy => ?_, fun y hy s hk => ?_, fun y hy hu' => ?_, fun y => ?_, fun y hy => ?_, fun y => ?_, fun y hy hu' => ?_, fun y hy hu' => ?_⟩, fun y hy => ?_, h.pos, h.big⟩
  · rw [oo 0 (Ne.symm hp) (Ne.symm hq)]; exact i.none
  · rw [if_neg (Ne.symm hp)]; exact i.sub0
  · by_cases e : y = p
    · subst e
      refine eqn_side (sub := fun d => if d = y then sub y ++ sub q else sub d) true ?_
      try dsimp only
      rw [if_pos rfl, self.2.2.2.1, tp, self.1, self.2.1]
      show _ = flp false (cat true _ y _)
      rw [show (T y).k (!true) = L from eL, if_neg npq, if_neg nLp, eqp]
      simp [flp, cat]
    · intro s
      rw [if_neg e, k2 y e, k2 y e, if_neg (nkp y hy s), if_neg (nkp y hy (!s))]
      have et : (T2 y).t = (T y).t := by
        by_cases e2 : y = q
        · rw [e2, q2]
        · rw [oo y e e2]
      rw [et]
      exact i.eqn y hy s
  · by_cases e : y = p
    · subst e
      cases s
      · have e1 : (T2 y).k false = L := self.2.1.trans ksf
        rw [e1] at hk ⊢
        have hLq : L ≠ q := by rw [← ksf]; exact nkq y hy false
        rw [oo L nLp hLq]
        have := i.upk y hy false (by rw [ksf]; exact hk)
        rw [ksf] at this
        exact this
      · rw [self.1, q2]
    · rw [k2 y e] at hk ⊢
      rw [oo _ (nkp y hy s) (nkq y hy s)]
      exact i.upk y hy s hk
  · by_cases e1 : y = p
    · rw [e1, self.2.2.1, up] at hu'; exact absurd rfl hu'
    · by_cases e2 : y = q
      · rw [e2, q2]; exact ⟨true, self.1⟩
      · rw [oo y e1 e2] at hu' ⊢
        obtain ⟨s, hs⟩ := i.kid y hy hu'
        by_cases e : (T y).up = p
        · rw [e] at hs ⊢
          cases s
          · exact ⟨false, by rw [← hs]; exact self.2.1⟩
          · rw [kst] at hs; exact absurd hs.symm hy
        · exact ⟨s, by rw [k2 _ e]; exact hs⟩
  · split
    · rw [List.nodup_append]
      exact ⟨i.nd p, i.nd q, fun a ha b hb e => dis a ha (e ▸ hb)⟩
    · exact i.nd y
  · by_cases e : y = p
    · subst e; rw [self.2.2.2.2]; exact i.val y hy
    · by_cases e2 : y = q
      · rw [e2, q2]; exact i.val q hq
      · rw [oo y e e2]; exact i.val y hy
  · by_cases e : y = p
    · subst e
      rw [if_pos rfl, eqp]
      have : cat true (sub q) y (sub L) = sub L ++ [y] ++ sub q := by simp [cat]
      rw [← this]; exact tal'
    · rw [if_neg e]
      by_cases e2 : y = q
      · rw [e2, q2]; exact (i.tal q).of rfl rfl rfl rfl
      · rw [oo y e e2]; exact i.tal y
  · unfold joinS
    rw [sp, sq]
    by_cases e : y = p
    · subst e
      rw [if_pos rfl, if_pos (Or.inl (i.self hy))]
    · by_cases e2 : y = q
      · rw [e2, q2] at hu'; exact absurd hu' hp
      · rw [oo y e e2] at hu'
        rw [if_neg e, if_neg (fun e' => by rcases e' with e' | e'; exact i.root_not hp e hu' e'; exact i.root_not hq e2 hu' e')]
        exact i.root y hy hu'
  · unfold joinS
    rw [sp, sq]
    have e1 : y ≠ p := fun e => by rw [e, self.2.2.1, up] at hu'; exact hu' rfl
    by_cases e2 : y = q
    · rw [e2, q2]
      rw [if_pos (Or.inr (i.self hq)), if_pos (Or.inl (i.self hp))]
    · rw [oo y e1 e2] at hu' ⊢
      have hA : y ∈ sub p ↔ (T y).up ∈ sub p := ⟨fun e => i.parent hp e e1, fun e => i.kid_in hp e hy rfl⟩
      have hB : y ∈ sub q ↔ (T y).up ∈ sub q := ⟨fun e => i.parent hq e e2, fun e => i.kid_in hq e hy rfl⟩
      by_cases h1 : y ∈ sub p ∨ y ∈ sub q
      · rw [if_pos h1, if_pos (h1.imp hA.1 hB.1)]
      · rw [if_neg h1, if_neg (fun e => h1 (e.imp hA.2 hB.2))]
        exact i.climb y hy hu'
  · rw [oo y (by omega) (by omega)]
    exact h.zero y hy

/-- A value set at the top. -/
def setV (v : Nat → Int) (x : Nat) (z : Int) : Nat → Int := fun y => if y = x then z else v y

theorem sumV_congr {v v' : Nat → Int} : ∀ {l : List Nat}, (∀ y ∈ l, v y = v' y) → sumV v l = sumV v' l ∧ lowV v l = lowV v' l ∧ highV v l = highV v' l
  | [], _ => ⟨rfl, rfl, rfl⟩
  | x :: l, h => by
    obtain ⟨h1, h2, h3⟩ := sumV_congr (l := l) (fun y hy => h y (List.mem_cons_of_mem _ hy))
    have h0 := h x List.mem_cons_self
    simp only [sumV, lowV, highV, h0, h1, h2, h3, and_self]

theorem Gd.setv (h : Gd N T v sub seq) {x : Nat} (hx : x ≠ 0) (hu : (T x).up = 0) (hxN : x < N) (z : Int) : ∃ sub', Gd N (tallyT (upd T x { T x with v := z }) x) (setV v x z) sub' seq := by
  have i := h.inv
  have nl : (T x).l ≠ x := i.kid_ne hx false
  have nr : (T x).r ≠ x := i.kid_ne hx true
  have hT : ∀ y, tallyT (upd T x { T x with v := z }) x y = if y = x then tally { T x with v := z } (T (T x).l) (T (T x).r) else T y := fun y => by
    unfold tallyT
    by_cases e : y = x
    · subst e
      rw [upd_same, upd_same, if_pos rfl]
      show tally _ (upd T y _ (T y).l) (upd T y _ (T y).r) = _
      rw [upd_ne nl, upd_ne nr]
    · rw [upd_ne e, upd_ne e, if_neg e]
  generalize tallyT (upd T x { T x with v := z }) x = T' at hT
  have up' : ∀ y, (T' y).up = (T y).up := fun y => by
    rw [hT]
    split
    · next e => rw [e]; rfl
    · rfl
  have k' : ∀ y s, (T' y).k s = (T y).k s := fun y s => by
    rw [hT]
    split
    · next e => rw [e, tally_k]; cases s <;> rfl
    · rfl
  have t' : ∀ y, (T' y).t = (T y).t := fun y => by
    rw [hT]
    split
    · next e => rw [e]; rfl
    · rfl
  have tl : ∀ y, y ≠ x → Tal (T y) (setV v x z) (sub y) := fun y hy => by
    by_cases h0 : y = 0
    · have := i.tal y
      rw [h0, i.sub0] at this ⊢
      exact ⟨this.rest, this.s, this.lo, this.hi⟩
    · have hn := i.root_not h0 (Ne.symm hy) hu
      obtain ⟨e1, e2, e3⟩ := sumV_congr (v := setV v x z) (v' := v) (l := sub y) (fun d hd => by unfold setV; rw [if_neg (fun e : d = x => hn (e ▸ hd))])
      have := i.tal y
      exact ⟨this.rest, by rw [e1]; exact this.s, by rw [e2]; exact this.lo, by rw [e3]; exact this.hi⟩
  refine ⟨sub, ⟨?_, i.sub0, fun y hy s => ?_, fun y hy s hk => ?_, fun y hy hu' => ?_, i.nd, fun y hy => ?_, fun y => ?_, fun y hy hu' => ?_, fun y hy hu' => ?_⟩, fun y hy => ?_, h.pos, h.big⟩
  · rw [hT, if_neg (Ne.symm hx)]; exact i.none
  · rw [k', k', t']; exact i.eqn y hy s
  · rw [k'] at hk ⊢
    rw [up']; exact i.upk y hy s hk
  · rw [up'] at hu' ⊢
    obtain ⟨s, hs⟩ := i.kid y hy hu'
    exact ⟨s, by rw [k']; exact hs⟩
  · rw [hT]
    split
    · next e => subst e; simp [tally, setV]
    · next e => simp [setV, e]; exact i.val y hy
  · by_cases e : y = x
    · subst e
      rw [hT, if_pos rfl, i.eqn y hx false]
      exact (tally_tal (n := { T y with v := z }) (v := setV v y z) (x := y) (by simp [setV]) (tl _ nl) (tl _ nr) (by have := h.len3 (T y).l; have := h.len3 (T y).r; omega) false).1.flp _
    · rw [hT, if_neg e]; exact tl y e
  · rw [up'] at hu'; exact i.root y hy hu'
  · rw [up'] at hu' ⊢; exact i.climb y hy hu'
  · rw [hT, if_neg (by omega)]; exact h.zero y hy

end Go.Proofs.YtdmkbcbgjdmgdaaGreatDoor

namespace Go.Proofs.YtdmkbcbgjdmgdaaGreatDoor
open Go.RowKit
set_option linter.unusedVariables false

theorem ret_int {k : IntKind} {a b : Int} (h : a = b) : Ending.returned (.int k a) = .returned (.int k b) := by rw [h]

/-- What is neither nodes nor a Forest is as it was. -/
def Keep (w w' : World) : Prop := ∀ (k : Nat) (cs : Array Value) (t : TypeId) (fr : Nat × Nat), w.heap[k]? = some (.cells cs t fr) → t ≠ 140 → t ≠ 144 → w'.heap[k]? = some (.cells cs t fr)

theorem Keep.refl (w : World) : Keep w w := fun _ _ _ _ h _ _ => h
theorem Keep.trans {a b c : World} (h : Keep a b) (k : Keep b c) : Keep a c := fun i cs t fr hi h1 h2 => k i cs t fr (h i cs t fr hi h1 h2) h1 h2
theorem Keep.ofBelow {w w' : World} (h : Below w.heap.size w w') : Keep w w' := fun k cs t fr hk _ _ => (h.block k (Array.getElem?_eq_some_iff.1 hk).1).trans hk
theorem Keep.alloc {a w : World} (h : Keep a w) (o : Obj) : Keep a (w.alloc o) := h.trans (Keep.ofBelow ((Below.refl _ _).alloc (Nat.le_refl _) o))

theorem Keep.ofNodes {w w' : World} {fb nb n N : Nat} {T : Tb} (h : Fo w fb nb n N T) (ht : Turned (fun k => k = nb) w w') : Keep w w' := fun k cs t fr hk h1 _ =>
  (ht.block k (Array.getElem?_eq_some_iff.1 hk).1 (fun e => by rw [e, h.nodes] at hk; injection hk with hk; injection hk with _ hk; exact h1 hk.symm)).trans hk

theorem Keep.ofSelf {w w' : World} {fb nb n N : Nat} {T : Tb} (h : Fo w fb nb n N T) (ht : Turned (fun k => k = fb) w w') : Keep w w' := fun k cs t fr hk _ h2 =>
  (ht.block k (Array.getElem?_eq_some_iff.1 hk).1 (fun e => by rw [e, h.self] at hk; injection hk with hk; injection hk with _ hk; exact h2 hk.symm)).trans hk

/-- A Forest that was made since w. -/
structure FS (lo : Nat) (w : World) (fb n : Nat) (v : Nat → Int) (seq : Nat → List Nat) (wr : World) : Prop where
  st : ∃ nb N T sub, Fo wr fb nb n N T ∧ Gd N T v sub seq ∧ N ≤ n + 1 ∧ lo ≤ nb
  flo : lo ≤ fb
  below : Below lo w wr
  n1 : 1 ≤ n
  n2 : n ≤ 8388608
  lw : lo ≤ w.heap.size

/-- In a call that began at w0. -/
structure HS (lo : Nat) (w w0 : World) (fb n nb N : Nat) (T : Tb) (v : Nat → Int) (sub seq : Nat → List Nat) (wr : World) : Prop where
  fo : Fo wr fb nb n N T
  gd : Gd N T v sub seq
  hN : N ≤ n + 1
  nlo : lo ≤ nb
  flo : lo ≤ fb
  below : Below lo w wr
  n1 : 1 ≤ n
  n2 : n ≤ 8388608
  lw : lo ≤ w.heap.size
  keep : Keep w0 wr

section
variable {lo fb n nb N : Nat} {w w0 wr : World} {T : Tb} {v : Nat → Int} {sub seq : Nat → List Nat}

theorem FS.start (h : FS lo w fb n v seq wr) : ∃ nb N T sub, HS lo w wr fb n nb N T v sub seq wr := by
  obtain ⟨nb, N, T, sub, h1, h2, h3, h4⟩ := h.st
  exact ⟨nb, N, T, sub, h1, h2, h3, h4, h.flo, h.below, h.n1, h.n2, h.lw, Keep.refl _⟩

theorem HS.end_ (h : HS lo w w0 fb n nb N T v sub seq wr) : FS lo w fb n v seq wr := ⟨⟨nb, N, T, sub, h.fo, h.gd, h.hN, h.nlo⟩, h.flo, h.below, h.n1, h.n2, h.lw⟩

theorem HS.more (h : HS lo w w0 fb n nb N T v sub seq wr) {w' : World} (hb : Below wr.heap.size wr w') : HS lo w w0 fb n nb N T v sub seq w' :=
  ⟨h.fo.of (Turned.ofBelow hb (fun _ => False)) (fun e => e) (fun e => e), h.gd, h.hN, h.nlo, h.flo, h.below.trans (hb.mono (Nat.le_trans h.lw h.below.size)), h.n1, h.n2, h.lw, h.keep.trans (Keep.ofBelow hb)⟩

theorem HS.alloc (h : HS lo w w0 fb n nb N T v sub seq wr) (o : Obj) : HS lo w w0 fb n nb N T v sub seq (wr.alloc o) := h.more ((Below.refl _ _).alloc (Nat.le_refl _) o)
theorem HS.drew (h : HS lo w w0 fb n nb N T v sub seq wr) : HS lo w w0 fb n nb N T v sub seq wr.drew := h.more (Below.refl _ _).drew

/-- The nodes turn. -/
theorem HS.turn (h : HS lo w w0 fb n nb N T v sub seq wr) {w' : World} {T' : Tb} {v' : Nat → Int} {sub' seq' : Nat → List Nat} (hf : Fo w' fb nb n N T') (hg : Gd N T' v' sub' seq') (ht : Turned (fun k => k = nb) wr w') : HS lo w w0 fb n nb N T' v' sub' seq' w' :=
  ⟨hf, hg, h.hN, h.nlo, h.flo, h.below.trans (ht.below (fun k hk => by rw [hk]; exact h.nlo) (Nat.le_trans h.lw h.below.size)), h.n1, h.n2, h.lw, h.keep.trans (Keep.ofNodes h.fo ht)⟩

theorem FS.more (h : FS lo w fb n v seq wr) {w' : World} (hb : Below wr.heap.size wr w') : FS lo w fb n v seq w' := by
  obtain ⟨nb, N, T, sub, hs⟩ := h.start
  exact (hs.more hb).end_

theorem FS.alloc (h : FS lo w fb n v seq wr) (o : Obj) : FS lo w fb n v seq (wr.alloc o) := h.more ((Below.refl _ _).alloc (Nat.le_refl _) o)

theorem HS.raise (h : HS lo w w0 fb n nb N T v sub seq wr) (x : Nat) (hx0 : x ≠ 0) (hx : x < N) :
    Calls Tryz.prog 124 #[.pointer (some ⟨fb, 0, none⟩), .int .i32 (x : Int)] wr fun e w' => e = .returned (.tuple #[]) ∧ ∃ T' sub', HS lo w w0 fb n nb N T' v sub' seq w' ∧ Mv N v seq x T sub T' sub' ∧ (T' x).up = 0 ∧ (T' x).t = false := by
  refine (raise_ok fb nb n N x T v sub seq wr h.fo h.gd hx0 hx).mono ?_
  rintro e w' ⟨rfl, T', sub', h1, h2, h3, h4, h5⟩
  exact ⟨rfl, T', sub', h.turn h1 h2.gd h5, h2, h3, h4⟩

set_option maxRecDepth 100000 in
set_option maxHeartbeats 1000000 in
theorem HS.top (h : HS lo w w0 fb n nb N T v sub seq wr) (x : Nat) (hx : x + 1 < N) :
    Calls Tryz.prog 98 #[.pointer (some ⟨fb, 0, none⟩), .int .i64 (x : Int)] wr fun e w' => e = .returned (.int .i32 ((x + 1 : Nat) : Int)) ∧ ∃ T' sub', HS lo w w0 fb n nb N T' v sub' seq w' ∧ Mv N v seq (x + 1) T sub T' sub' ∧ (T' (x + 1)).up = 0 ∧ (T' (x + 1)).t = false := by
  have hbig := h.fo.big
  have hr := hid (h.raise (x + 1) (by omega) hx)
  rw [show ((x + 1 : Nat) : Int) = (x : Int) + 1 from by omega] at hr ⊢
  clear h
  go_enter Tryz.func98, Tryz.ntmps98
  go_wp2_with fail
  refine hr.out.mono ?_
  rintro e w' ⟨rfl, hst⟩
  have hst := hid hst
  go_wp2_with fail
  go_ret
  exact ⟨rfl, hst.out⟩

/-- The one item is there. -/
theorem FS.look1 (h : FS lo w fb n v seq w0) (x : Nat) (hx : x < n) :
    Calls Tryz.prog 97 #[.pointer (some ⟨fb, 0, none⟩), .slice (some ⟨w0.heap.size, 0, none⟩) 1 1] (w0.alloc (.cells #[.int .i64 (x : Int)] 3)) fun e w' => e = .returned .nilIface ∧ ∃ nb N T sub, HS lo w w0 fb n nb N T v sub seq w' ∧ x + 1 < N := by
  obtain ⟨nb, N, T, sub, hs⟩ := h.start
  have ha := hs.alloc (.cells #[.int .i64 (x : Int)] 3)
  refine (look_ok fb nb w0.heap.size n N T [(x : Int)] _ ha.fo ha.gd.zero ha.gd.pos ha.hN ha.n2 (heap_alloc_new w0 _) (by simp) (by intro z hz; simp at hz; subst hz; omega)).mono ?_
  rintro e w' ⟨rfl, nb', N', h1, h2, h3, h4, h5, h6⟩
  refine ⟨rfl, nb', N', T, sub, ⟨h1, ⟨ha.gd.inv, fun i hi => ha.gd.zero i (by omega), by have := ha.gd.pos; omega, h1.big⟩, h3, ?_, ha.flo, ha.below.trans (h6.below (fun k hk => by rw [hk]; exact ha.flo) (Nat.le_trans ha.lw ha.below.size)), ha.n1, ha.n2, ha.lw, ha.keep.trans (Keep.ofSelf ha.fo h6)⟩, ?_⟩
  · rcases h5 with rfl | h5
    · exact ha.nlo
    · have := ha.below.size; have := ha.lw; omega
  · have := h4 (x : Int) (by simp); omega

theorem FS.look2 (h : FS lo w fb n v seq w0) (x y : Nat) (hx : x < n) (hy : y < n) :
    Calls Tryz.prog 97 #[.pointer (some ⟨fb, 0, none⟩), .slice (some ⟨w0.heap.size, 0, none⟩) 2 2] (w0.alloc (.cells #[.int .i64 (x : Int), .int .i64 (y : Int)] 3)) fun e w' => e = .returned .nilIface ∧ ∃ nb N T sub, HS lo w w0 fb n nb N T v sub seq w' ∧ x + 1 < N ∧ y + 1 < N := by
  obtain ⟨nb, N, T, sub, hs⟩ := h.start
  have ha := hs.alloc (.cells #[.int .i64 (x : Int), .int .i64 (y : Int)] 3)
  refine (look_ok fb nb w0.heap.size n N T [(x : Int), (y : Int)] _ ha.fo ha.gd.zero ha.gd.pos ha.hN ha.n2 (heap_alloc_new w0 _) (by simp) (by intro z hz; simp at hz; rcases hz with rfl | rfl <;> omega)).mono ?_
  rintro e w' ⟨rfl, nb', N', h1, h2, h3, h4, h5, h6⟩
  refine ⟨rfl, nb', N', T, sub, ⟨h1, ⟨ha.gd.inv, fun i hi => ha.gd.zero i (by omega), by have := ha.gd.pos; omega, h1.big⟩, h3, ?_, ha.flo, ha.below.trans (h6.below (fun k hk => by rw [hk]; exact ha.flo) (Nat.le_trans ha.lw ha.below.size)), ha.n1, ha.n2, ha.lw, ha.keep.trans (Keep.ofSelf ha.fo h6)⟩, ?_, ?_⟩
  · rcases h5 with rfl | h5
    · exact ha.nlo
    · have := ha.below.size; have := ha.lw; omega
  · have := h4 (x : Int) (by simp); omega
  · have := h4 (y : Int) (by simp); omega

/-- The one item is none. -/
theorem FS.bad1 (h : FS lo w fb n v seq w0) (x : Int) (hx : ¬ (0 ≤ x ∧ x < (n : Int))) :
    Calls Tryz.prog 97 #[.pointer (some ⟨fb, 0, none⟩), .slice (some ⟨w0.heap.size, 0, none⟩) 1 1] (w0.alloc (.cells #[.int .i64 x] 3)) fun e w' => e = .returned (.iface 63 (.int .i64 12)) ∧ w0.alloc (.cells #[.int .i64 x] 3) = w' := by
  obtain ⟨nb, N, T, sub, hs⟩ := h.start
  have ha := hs.alloc (.cells #[.int .i64 x] 3)
  exact look_bad fb w0.heap.size n [x] _ ha.fo.c0 (heap_alloc_new w0 _) (by simp) (by simpa using hx)

theorem FS.bad2 (h : FS lo w fb n v seq w0) (x y : Int) (hx : ¬ ((0 ≤ x ∧ x < (n : Int)) ∧ (0 ≤ y ∧ y < (n : Int)))) :
    Calls Tryz.prog 97 #[.pointer (some ⟨fb, 0, none⟩), .slice (some ⟨w0.heap.size, 0, none⟩) 2 2] (w0.alloc (.cells #[.int .i64 x, .int .i64 y] 3)) fun e w' => e = .returned (.iface 63 (.int .i64 12)) ∧ w0.alloc (.cells #[.int .i64 x, .int .i64 y] 3) = w' := by
  obtain ⟨nb, N, T, sub, hs⟩ := h.start
  have ha := hs.alloc (.cells #[.int .i64 x, .int .i64 y] 3)
  exact look_bad fb w0.heap.size n [x, y] _ ha.fo.c0 (heap_alloc_new w0 _) (by simp) (by simpa using hx)
end

set_option maxRecDepth 100000 in
set_option maxHeartbeats 1000000 in
theorem size_ok (fb nb n N x : Nat) (T : Tb) (v : Nat → Int) (sub seq : Nat → List Nat) (w : World) (h : Fo w fb nb n N T) (hG : Gd N T v sub seq) (hx : x < N) :
    Calls Tryz.prog 122 #[.pointer (some ⟨fb, 0, none⟩), .int .i32 (x : Int)] w fun e w' => e = .returned (.int .i64 ((sub x).length : Int)) ∧ w = w' := by
  have hbig := h.big
  have c1 := h.c1
  have cr := h.rest hx
  have ht := (hG.inv.tal x).rest
  have hl := hG.len x
  obtain ⟨R, hR⟩ : ∃ R, (T x).rest = R := ⟨_, rfl⟩
  rw [hR] at cr ht
  obtain ⟨M, hM⟩ : ∃ M, (sub x).length = M := ⟨_, rfl⟩
  rw [hM] at ht hl ⊢
  have q1 : (0 : Int) ≤ (x : Int) := by omega
  have q2 : (x : Int) < (N : Int) := by omega
  have b1 : -1 ≤ R := by omega
  have b2 : R ≤ 8388610 := by omega
  have hth := hid ht
  clear h hG hR hM ht
  go_enter Tryz.func122, Tryz.ntmps122
  go_wp2_with fail
  go_ret
  have := hth.out
  exact ⟨ret_int (by omega), rfl⟩

set_option maxRecDepth 100000 in
set_option maxHeartbeats 1000000 in
theorem item_ok (x : Nat) (hx : x + 1 < 8388700) (w : World) : Calls Tryz.prog 107 #[.int .i32 ((x + 1 : Nat) : Int)] w fun e w' => e = .returned (.int .i64 (x : Int)) ∧ w = w' := by
  rw [show ((x + 1 : Nat) : Int) = (x : Int) + 1 from by omega]
  go_enter Tryz.func107, Tryz.ntmps107
  go_wp2_with fail
  go_ret
  exact ⟨ret_int (by omega), rfl⟩

set_option maxRecDepth 100000 in
set_option maxHeartbeats 1000000 in
theorem leads_ok (fb nb n N x : Nat) (T : Tb) (v : Nat → Int) (sub seq : Nat → List Nat) (w : World) (h : Fo w fb nb n N T) (hG : Gd N T v sub seq) (hx : x < N) :
    Calls Tryz.prog 131 #[.pointer (some ⟨fb, 0, none⟩), .int .i32 (x : Int)] w fun e w' => e = .returned (.int .i64 ((sub (T x).l).length : Int)) ∧ w = w' := by
  have hbig := h.big
  have c1 := h.c1
  have cl := h.l hx
  have hs := hid (size_ok fb nb n N (T x).l T v sub seq w h hG (hG.l_lt x))
  have q1 : (0 : Int) ≤ (x : Int) := by omega
  have q2 : (x : Int) < (N : Int) := by omega
  clear h hG
  generalize (T x).l = L at cl hs ⊢
  go_enter Tryz.func131, Tryz.ntmps131
  go_wp2_with fail
  refine hs.out.mono ?_
  rintro e w' ⟨rfl, rfl⟩
  go_wp2_with fail
  go_ret
  exact ⟨rfl, rfl⟩

set_option maxRecDepth 100000 in
set_option maxHeartbeats 1000000 in
theorem shed_no (fb nb n N x : Nat) (T : Tb) (w : World) (h : Fo w fb nb n N T) (hx : x < N) (hl : (T x).l = 0) :
    Calls Tryz.prog 114 #[.pointer (some ⟨fb, 0, none⟩), .int .i32 (x : Int), .int .i64 0] w fun e w' => e = .returned (.bool false) ∧ w = w' := by
  have hbig := h.big
  have c1 := h.c1
  have cl := h.l hx
  rw [hl] at cl
  have q1 : (0 : Int) ≤ (x : Int) := by omega
  have q2 : (x : Int) < (N : Int) := by omega
  clear h hl
  go_enter Tryz.func114, Tryz.ntmps114
  go_wp2_with fail
  go_ret
  exact ⟨rfl, rfl⟩

set_option maxRecDepth 100000 in
set_option maxHeartbeats 1000000 in
theorem shed_yes (fb nb n N x L : Nat) (T : Tb) (w : World) (h : Fo w fb nb n N T) (hx : x < N) (hl : (T x).l = L) (hL0 : L ≠ 0) (hLN : L < N) (hLx : L ≠ x) (hr : (T x).r < N) (hrx : (T x).r ≠ x) (hx0 : x ≠ 0) :
    Calls Tryz.prog 114 #[.pointer (some ⟨fb, 0, none⟩), .int .i32 (x : Int), .int .i64 0] w fun e w' => e = .returned (.bool true) ∧ Fo w' fb nb n N (shedT T x) ∧ Turned (fun k => k = nb) w w' := by
  have hbig := h.big
  have c1 := h.c1
  have cl := h.l hx
  rw [hl] at cl
  have cu := h.up hLN
  have fu := h.fro (L * 9 + 5)
  have q1 : (0 : Int) ≤ (x : Int) := by omega
  have q2 : (x : Int) < (N : Int) := by omega
  have q3 : (0 : Int) ≤ (L : Int) := by omega
  have q4 : (L : Int) < (N : Int) := by omega
  have t1 : ((L : Int) == 0) = false := by simp; omega
  have hs := hid (h.set 5 { T L with up := 0 } (u := .int .i32 0) hLN (by decide) rfl)
  have ts := hid ((Turned.refl (fun k => k = nb) w).setCell (p := ⟨nb, L * 9 + 5, none⟩) rfl (.int .i32 0))
  have es : Hid (shedT T x = hangT (upd T L { T L with up := 0 }) x false 0) := hid (by unfold shedT; rw [hl])
  have hh : Hid (∀ y, Fo y fb nb n N (upd T L { T L with up := 0 }) → Calls Tryz.prog 117 #[.pointer (some ⟨fb, 0, none⟩), .int .i32 (x : Int), .int .i64 0, .int .i32 0] y fun e w' => e = .returned (.tuple #[]) ∧ Fo w' fb nb n N (hangT (upd T L { T L with up := 0 }) x false 0) ∧ Turned (fun k => k = nb) y w') := fun y hy =>
    hang_ok fb nb n N x 0 false _ y hy hx (by omega) (Ne.symm hx0) (by rw [upd_ne hLx.symm]; exact hr) (by rw [upd_ne hLx.symm]; exact hrx)
  clear h hl hr hrx
  go_enter Tryz.func114, Tryz.ntmps114
  go_upto_region 5 with fail
  generalize w.setCell ⟨nb, L * 9 + 5, none⟩ (.int .i32 0) = w1 at hs ts ⊢
  clear c1 cl cu fu
  go_wp2_with fail
  refine (hh.out _ hs.out).mono ?_
  rintro e w2 ⟨rfl, h2, t2⟩
  have h2 := hid h2
  have t2 := hid (ts.out.trans t2)
  go_wp2_with fail
  go_ret
  exact ⟨rfl, by rw [es.out]; exact h2.out, t2.out⟩

end Go.Proofs.YtdmkbcbgjdmgdaaGreatDoor
