/- Rows of handles; where 'ArenaOnce' stands. -/
import Derived.Test.YtldflphjnanfbaaDoorGive3
import Derived.Deep.AppendLies
namespace Go.Proofs.YtldflphjnanfbaaDoor
open Go.RowKit

/-- The cells of handles. -/
def hcs : List (Int × Nat) → List Value
  | [] => []
  | p :: ps => .int .u32 p.1 :: .int .u32 (p.2 : Int) :: hcs ps

theorem hcs_length : ∀ ps : List (Int × Nat), (hcs ps).length = ps.length * 2
  | [] => rfl
  | p :: ps => by simp [hcs, hcs_length ps]; omega

theorem hcs_append : ∀ (a b : List (Int × Nat)), hcs (a ++ b) = hcs a ++ hcs b
  | [], _ => rfl
  | p :: a, b => by simp [hcs, hcs_append a b]

theorem hcs_get : ∀ (ps : List (Int × Nat)) (i : Nat) (p : Int × Nat), ps[i]? = some p → (hcs ps)[i * 2]? = some (.int .u32 p.1) ∧ (hcs ps)[i * 2 + 1]? = some (.int .u32 (p.2 : Int))
  | [], i, p, h => by simp at h
  | q :: ps, 0, p, h => by simp at h; subst h; simp [hcs]
  | q :: ps, i + 1, p, h => by
    have := hcs_get ps i p (by simpa using h)
    rw [show (i + 1) * 2 = i * 2 + 2 from by omega]
    simpa [hcs] using this

theorem hcs_take (ps : List (Int × Nat)) : ∀ i, (hcs ps).take (i * 2) = hcs (ps.take i) := by
  induction ps with
  | nil => intro i; simp [hcs]
  | cons p ps ih =>
    intro i
    cases i with
    | zero => simp [hcs]
    | succ i => rw [show (i + 1) * 2 = i * 2 + 2 from by omega]; simp [hcs, ih i]

theorem hcs_drop (ps : List (Int × Nat)) : ∀ i, (hcs ps).drop (i * 2) = hcs (ps.drop i) := by
  induction ps with
  | nil => intro i; simp [hcs]
  | cons p ps ih =>
    intro i
    cases i with
    | zero => simp [hcs]
    | succ i => rw [show (i + 1) * 2 = i * 2 + 2 from by omega]; simp [hcs, ih i]

theorem hcs_one (ps : List (Int × Nat)) : ∀ u ∈ hcs ps, u.oneCell' = true := by
  induction ps with
  | nil => simp [hcs]
  | cons p ps ih =>
    intro u hu
    simp only [hcs, List.mem_cons] at hu
    rcases hu with rfl | rfl | h
    · rfl
    · rfl
    · exact ih u h

/-- A row of handles from hi on stays. -/
theorem Keep.row {hi : Nat} {w w' : World} (h : Keep hi w w') {v : Value} {n : Nat} {xs : List Value} (ho : w.ownsRow hi 43 2 v n xs) : w'.ownsRow hi 43 2 v n xs := by
  refine ⟨ho.1, ?_⟩
  rcases ho.2 with hn | ⟨g, cap, cur, rfl, hb, hgg, rest⟩
  · exact .inl hn
  · exact .inr ⟨g, cap, cur, rfl, hb, h g _ _ _ hb hgg (by decide), rest⟩

/-- What lies in memory: the Arena, the rows of the live and of the dead handles. -/
structure OM (lo hi ab n : Nat) (w : World) (ps : List (Int × Int)) (L D : List (Int × Nat)) (nL nD : Nat) (vL vD : Value) (wr : World) : Prop where
  sa : SA lo hi ab n w ps wr
  rl : wr.ownsRow hi 43 2 vL nL (hcs L)
  rd : wr.ownsRow hi 43 2 vD nD (hcs D)
  ap : vL.ownBlock = none ∨ vL.ownBlock ≠ vD.ownBlock

/-- What is known of them. -/
structure OL (n : Nat) (ps : List (Int × Int)) (L D : List (Int × Nat)) : Prop where
  live : ∀ p ∈ L, atP ps p.2 = (p.1, 1)
  nd : L.Nodup
  dead : ∀ p ∈ D, p.1 ≤ (atP ps p.2).1 ∧ atP ps p.2 ≠ (p.1, 1) ∧ p.2 < n

theorem OM.more {lo hi ab n : Nat} {w wr w' : World} {ps : List (Int × Int)} {L D : List (Int × Nat)} {nL nD : Nat} {vL vD : Value} (h : OM lo hi ab n w ps L D nL nD vL vD wr) (hb : Below wr.heap.size wr w') : OM lo hi ab n w ps L D nL nD vL vD w' :=
  ⟨h.sa.more hb, (Keep.below hb).row h.rl, (Keep.below hb).row h.rd, h.ap⟩

theorem OM.turn {lo hi ab n : Nat} {w wr w' : World} {ps ps' : List (Int × Int)} {L D : List (Int × Nat)} {nL nD : Nat} {vL vD : Value} (h : OM lo hi ab n w ps L D nL nD vL vD wr) (hs : SA lo hi ab n w ps' w') (hk : Keep hi wr w') : OM lo hi ab n w ps' L D nL nD vL vD w' :=
  ⟨hs, hk.row h.rl, hk.row h.rd, h.ap⟩

/-- A row of handles grows: the Arena stays. -/
theorem SA.grown {lo hi ab n : Nat} {w wr w' : World} {ps : List (Int × Int)} (h : SA lo hi ab n w ps wr) {v : Value} {k : Nat} {xs : List Value} (ho : wr.ownsRow hi 43 2 v k xs) (hg : wr.grownBy w' v.ownBlock) : SA lo hi ab n w ps w' := by
  obtain ⟨ob, ha⟩ := h.arena
  have hp := ha.pos
  have htwo := h.two
  have hbl : ∀ j, v.ownBlock = some j → hi ≤ j ∧ ¬ own lo hi ob j := by
    intro j hj
    have hlt := ho.lt j hj
    rcases ho.2 with ⟨rfl, _⟩ | ⟨g, cap, cur, rfl, _, hgg, _⟩
    · simp [Value.ownBlock] at hj
    · simp [Value.ownBlock] at hj
      subst hj
      exact ⟨hlt.1, ha.apart hgg (by decide) hlt.1⟩
  have ht : Turned (fun j => v.ownBlock = some j) wr w' := Turned.ofGrown hg (fun j hj => hj)
  refine ⟨⟨ob, ha.of ht (fun j hj e => (hbl j e).2 hj)⟩, h.env.turned ht (fun j hj => by have := (hbl j hj).1; omega), h.below.trans (ht.below (fun j hj => by have := (hbl j hj).1; omega) (by omega)), h.two⟩

theorem OM.lens {lo hi ab n : Nat} {w wr : World} {ps : List (Int × Int)} {L D : List (Int × Nat)} {nL nD : Nat} {vL vD : Value} (h : OM lo hi ab n w ps L D nL nD vL vD wr) : L.length = nL ∧ D.length = nD := by
  have h1 := h.rl.1
  have h2 := h.rd.1
  rw [hcs_length] at h1 h2
  omega

theorem row_slice {w : World} {base : Nat} {e : TypeId} {size n : Nat} {v : Value} {xs : List Value} (h : w.ownsRow base e size v n xs) : ∃ ad cap, v = .slice ad n cap := by
  rcases h.2 with ⟨rfl, rfl⟩ | ⟨g, cap, cur, rfl, _⟩
  · exact ⟨_, _, rfl⟩
  · exact ⟨_, _, rfl⟩

/-- What a row of handles holds. -/
theorem row_hand {w : World} {hi n cap : Nat} {ad : Option Addr} {L : List (Int × Nat)} (h : w.ownsRow hi 43 2 (.slice ad n cap) n (hcs L)) {j : Nat} {a : Int} {x : Nat} (hj : L[j]? = some (a, x)) :
    ∃ g, ad = some ⟨g, 0, none⟩ ∧ w.cell? ⟨g, j * 2, none⟩ = some (.int .u32 a) ∧ w.cell? ⟨g, j * 2 + 1, none⟩ = some (.int .u32 (x : Int)) := by
  have hl := h.1
  rw [hcs_length] at hl
  have hjl := (List.getElem?_eq_some_iff.1 hj).1
  obtain ⟨g, cap', hv, _, _⟩ := h.form (by omega)
  injection hv with e1 _ e3
  subst e1 e3
  obtain ⟨h1, h2⟩ := hcs_get L j _ hj
  exact ⟨g, rfl, (h.cellAt _ (by omega)).trans h1, (h.cellAt _ (by omega)).trans h2⟩

/-- A handle more among the live ones. -/
theorem OM.push {lo hi ab n : Nat} {w wr w' : World} {ps : List (Int × Int)} {L D : List (Int × Nat)} {nL nD g cap : Nat} {vL vD : Value} {o : Obj} {p : Int × Nat} (h : OM lo hi ab n w ps L D nL nD vL vD wr)
    (ho : w'.ownsRow hi 43 2 (.slice (some ⟨g, 0, none⟩) (nL + 1) cap) (nL + 1) (hcs L ++ hcs [p])) (hg : (wr.alloc o).grownBy w' vL.ownBlock) (hb : vL.ownBlock = some g ∨ g = (wr.alloc o).heap.size) :
    OM lo hi ab n w ps (L ++ [p]) D (nL + 1) nD (.slice (some ⟨g, 0, none⟩) (nL + 1) cap) vD w' := by
  have hal := h.sa.alloc o
  refine ⟨hal.grown (h.rl.alloc o) hg, by rw [hcs_append]; exact ho, (h.rd.alloc o).kept hg (by rcases h.ap with e | e; rw [e]; cases vD.ownBlock <;> simp; exact Or.inr (fun e' => e e'.symm)), Or.inr (fun e => ?_)⟩
  have e' : vD.ownBlock = some g := e.symm
  rcases hb with hb | hb
  · rcases h.ap with e2 | e2
    · rw [e2] at hb; cases hb
    · exact e2 (hb.trans e'.symm)
  · have := (h.rd.lt g e').2
    simp at hb
    omega

/-- A handle more among the dead ones. -/
theorem OM.pushD {lo hi ab n : Nat} {w wr w' : World} {ps : List (Int × Int)} {L D : List (Int × Nat)} {nL nD g cap : Nat} {vL vD : Value} {o : Obj} {p : Int × Nat} (h : OM lo hi ab n w ps L D nL nD vL vD wr)
    (ho : w'.ownsRow hi 43 2 (.slice (some ⟨g, 0, none⟩) (nD + 1) cap) (nD + 1) (hcs D ++ hcs [p])) (hg : (wr.alloc o).grownBy w' vD.ownBlock) (hb : vD.ownBlock = some g ∨ g = (wr.alloc o).heap.size) :
    OM lo hi ab n w ps L (D ++ [p]) nL (nD + 1) vL (.slice (some ⟨g, 0, none⟩) (nD + 1) cap) w' := by
  have hal := h.sa.alloc o
  refine ⟨hal.grown (h.rd.alloc o) hg, (h.rl.alloc o).kept hg h.ap, by rw [hcs_append]; exact ho, ?_⟩
  rcases h.ap with e | e
  · exact Or.inl e
  · refine Or.inr (fun e' => ?_)
    have e'' : vL.ownBlock = some g := e'
    rcases hb with hb | hb
    · exact e (e''.trans hb.symm)
    · have := (h.rl.lt g e'').2
      simp at hb
      omega

theorem OL.nil (n : Nat) (ps : List (Int × Int)) : OL n ps [] [] := ⟨by simp, by simp, by simp⟩

/-- A place is given: nothing that was known falls. -/
theorem OL.give {n : Nat} {ps : List (Int × Int)} {L D : List (Int × Nat)} (h : OL n ps L D) (x : Nat) (hx : lowP ps = x) {A : Int} (hA : (atP ps x).1 + 1 = A) :
    OL n (putP ps x (A, 1)) (L ++ [(A, x)]) D ∧ (A, x) ∉ L ∧ (A, x) ∉ D := by
  have hxl : x ≤ ps.length := hx ▸ lowP_le ps
  have h0 : (atP ps x).2 = 0 := hx ▸ lowP_at ps
  have hat := fun j => putP_at (p := (A, 1)) hxl j
  have hnx : ∀ p ∈ L, p.2 ≠ x := fun p hp e => by have := h.live p hp; rw [e] at this; rw [this] at h0; simp at h0
  have hnd : ∀ p ∈ D, p.2 = x → p.1 < A := fun p hp e => by have := (h.dead p hp).1; rw [e] at this; omega
  refine ⟨⟨fun p hp => ?_, ?_, fun p hp => ?_⟩, fun hp => hnx _ hp rfl, fun hp => by have := hnd _ hp rfl; simp at this⟩
  · rw [hat]
    rcases List.mem_append.1 hp with hp | hp
    · rw [if_neg (hnx p hp)]; exact h.live p hp
    · rw [List.mem_singleton.1 hp, if_pos rfl]
  · rw [List.nodup_append]
    refine ⟨h.nd, by simp, fun a ha b hb e => ?_⟩
    rw [List.mem_singleton.1 hb] at e
    subst e
    exact hnx _ ha rfl
  · rw [hat]
    obtain ⟨h1, h2, h3⟩ := h.dead p hp
    by_cases e : p.2 = x
    · rw [if_pos e]
      have := hnd p hp e
      refine ⟨by simp; omega, fun e' => ?_, h3⟩
      have := congrArg Prod.fst e'
      simp at this
      omega
    · rw [if_neg e]; exact ⟨h1, h2, h3⟩

/-- A live one is taken back. -/
theorem OL.take {n : Nat} {ps : List (Int × Int)} {L D : List (Int × Nat)} (h : OL n ps L D) (i : Nat) {A : Int} {x : Nat} (hi : L[i]? = some (A, x)) (hn : ps.length ≤ n) {s : Int} (hs : s ≠ 1) :
    OL n (putP ps x (A, s)) (L.take i ++ L.drop (i + 1)) (D ++ [(A, x)]) := by
  have hat := h.live _ (List.mem_of_getElem? hi)
  have hxl : x < ps.length := live_lt (by rw [hat])
  have hput := fun j => putP_at (p := (A, s)) (Nat.le_of_lt hxl) j
  have hi' := (List.getElem?_eq_some_iff.1 hi).1
  have hsplit : L = L.take i ++ ((A, x) :: L.drop (i + 1)) := by
    have e := List.take_append_drop i L
    rw [List.drop_eq_getElem_cons hi', (List.getElem?_eq_some_iff.1 hi).2] at e
    exact e.symm
  have hnd := h.nd
  rw [hsplit, List.nodup_append] at hnd
  obtain ⟨n1, n2, n3⟩ := hnd
  have hmem : ∀ p, p ∈ L.take i ++ L.drop (i + 1) → p ∈ L ∧ p ≠ (A, x) := by
    intro p hp
    rcases List.mem_append.1 hp with hp | hp
    · exact ⟨List.mem_of_mem_take hp, fun e => n3 p hp (A, x) List.mem_cons_self e⟩
    · exact ⟨List.mem_of_mem_drop hp, fun e => by subst e; exact (List.nodup_cons.1 n2).1 hp⟩
  refine ⟨fun p hp => ?_, ?_, fun p hp => ?_⟩
  · obtain ⟨h1, h2⟩ := hmem p hp
    have := h.live p h1
    rw [hput, if_neg (fun e => h2 (by rw [e, hat] at this; have := congrArg Prod.fst this; simp at this; exact Prod.ext this.symm e))]
    exact this
  · rw [List.nodup_append]
    exact ⟨n1, (List.nodup_cons.1 n2).2, fun a ha b hb => n3 a ha b (List.mem_cons_of_mem _ hb)⟩
  · rw [hput]
    rcases List.mem_append.1 hp with hp | hp
    · obtain ⟨h1, h2, h3⟩ := h.dead p hp
      by_cases e : p.2 = x
      · rw [if_pos e]
        rw [e, hat] at h1
        exact ⟨h1, fun e' => hs (congrArg Prod.snd e'), h3⟩
      · rw [if_neg e]; exact ⟨h1, h2, h3⟩
    · rw [List.mem_singleton.1 hp, if_pos rfl]
      exact ⟨Int.le_refl _, fun e' => hs (congrArg Prod.snd e'), by omega⟩

/-- Two handles that are not the same. -/
theorem hand_ne {a A : Int} {x y : Nat} (h : (a, x) ≠ (A, y)) : (a == A) = false ∨ ((a == A) = true ∧ ((x : Int) == (y : Int)) = false) := by
  by_cases e : a = A
  · subst e
    refine Or.inr ⟨by simp, ?_⟩
    have : x ≠ y := fun e => h (by rw [e])
    simp; omega
  · exact Or.inl (by simpa using e)

end Go.Proofs.YtldflphjnanfbaaDoor
