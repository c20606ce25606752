/- sphere's components: the closure that adds to a component's counts. sphere's components: what the map holds. sphere's components, walked. -/
import Derived.Test.YtboafgimjadboaaGreatDoorBface
import Derived.Test.YtboafgimjadboaaGreatDoorBlink
import Derived.Test.YtboafgimjadboaaGreatDoorCheck12
import Derived.Test.YtboafgimjadboaaGreatDoorRegion
namespace Go.Proofs.YtboafgimjadboaaGreatDoor
open Go.RowKit
set_option linter.unusedVariables false

/-- Where components stands: the groups, the two captured variables, the map. -/
structure Cs (w0 : World) (gb gc pc mb V : Nat) (f : Nat → Nat) (dom : Nat → Bool) (g : Nat → Qd) (wr : World) : Prop where
  gd : ∃ wg, Gd w0 gb V f wg ∧ Below wg.heap.size wg wr ∧ wg.heap.size ≤ mb
  gcell : wr.cell? ⟨gc, 0, none⟩ = some (.pointer (some ⟨gb, 0, none⟩))
  pcell : wr.cell? ⟨pc, 0, none⟩ = some (.map (some mb))
  pm : PM wr mb V dom g
  bel : Below w0.heap.size w0 wr

section
variable {w0 wr w' : World} {gb gc pc mb V : Nat} {f : Nat → Nat} {dom dom' : Nat → Bool} {g g' : Nat → Qd}

theorem Cs.more (h : Cs w0 gb gc pc mb V f dom g wr) (hb : Below wr.heap.size wr w') : Cs w0 gb gc pc mb V f dom g w' := by
  obtain ⟨wg, h1, h2, h3⟩ := h.gd
  exact ⟨⟨wg, h1, h2.trans (hb.mono h2.size), h3⟩, (hb.cell (World.block_lt_of_cell? _ _ h.gcell)).trans h.gcell, (hb.cell (World.block_lt_of_cell? _ _ h.pcell)).trans h.pcell, h.pm.more hb, h.bel.trans (hb.mono h.bel.size)⟩

theorem cell_map_ne {w : World} {mb b o : Nat} {v : Value} (h : PM w mb V dom g) (hc : w.cell? ⟨b, o, none⟩ = some v) : b ≠ mb := by
  rintro rfl
  obtain ⟨D, ⟨es, clock, hb, _⟩, _⟩ := h
  simp [World.cell?, hb] at hc

theorem below_grown {w w' : World} (h : Below w.heap.size w w') (row : Option Nat) : w.grownBy w' row := ⟨h.os, h.tape, h.output, h.size, fun i hi _ => h.block i hi⟩

theorem grown_cell0 {w w' : World} {mb b o : Nat} {v : Value} (hg : w.grownBy w' (some mb)) (hc : w.cell? ⟨b, o, none⟩ = some v) (hne : b ≠ mb) : w'.cell? ⟨b, o, none⟩ = some v :=
  hg.cell hc (fun e => hne (by cases e; rfl))

theorem Cs.put (h : Cs w0 gb gc pc mb V f dom g wr) (hp : PM w' mb V dom' g') (hg : wr.grownBy w' (some mb)) : Cs w0 gb gc pc mb V f dom' g' w' := by
  obtain ⟨wg, h1, h2, h3⟩ := h.gd
  have hmb : w0.heap.size ≤ mb := Nat.le_trans h1.bel.size h3
  refine ⟨⟨wg, h1, h2.grown hg h2.size (fun j hj => by cases hj; exact h3), h3⟩, grown_cell0 hg h.gcell (cell_map_ne h.pm h.gcell), grown_cell0 hg h.pcell (cell_map_ne h.pm h.pcell), hp, h.bel.grown hg h.bel.size (fun j hj => by cases hj; exact hmb)⟩

theorem Cs.least (h : Cs w0 gb gc pc mb V f dom g wr) {y : World} (hy : Below wr.heap.size wr y) (x : Nat) (hx : x < V) :
    Calls Tryz.prog 108 #[.pointer (some ⟨gb, 0, none⟩), .int .i64 (x : Int)] y fun e w' => e = .returned (.tuple #[.int .i64 (f x : Int), .nilIface]) ∧ Below y.heap.size y w' := by
  obtain ⟨wg, h1, h2, h3⟩ := (h.more hy).gd
  exact h1.least h2 x hx

set_option maxRecDepth 100000 in
set_option maxHeartbeats 4000000 in
theorem add_ok (h : Cs w0 gb gc pc mb V f dom g wr) (hV : V ≤ 1073741824) (v : Nat) (hv : v < V) (hf : f v < V) (q : Qd) (hq : smQ q) (hg : smQ (g (f v))) :
    Calls Tryz.prog 107 #[.int .i64 (v : Int), mkC q, .pointer (some ⟨gc, 0, none⟩), .pointer (some ⟨pc, 0, none⟩)] wr fun e w' => e = .returned (.tuple #[]) ∧ Cs w0 gb gc pc mb V f (fun x => dom x || x == f v) (fun x => if x = f v then addQ (g (f v)) q else g x) w' ∧ wr.grownBy w' (some mb) := by
  obtain ⟨q0, q1, q2, q3⟩ := q
  have hb1 := (Below.refl wr.heap.size wr).alloc (Nat.le_refl _) (.cells #[.int .i64 q0, .int .i64 q1, .int .i64 q2, .int .i64 q3] 172)
  obtain ⟨w1, hw1⟩ : ∃ w1, wr.alloc (.cells #[.int .i64 q0, .int .i64 q1, .int .i64 q2, .int .i64 q3] 172) = w1 := ⟨_, rfl⟩
  have hbk : Hid (w1.heap[wr.heap.size]? = some (.cells #[.int .i64 q0, .int .i64 q1, .int .i64 q2, .int .i64 q3] 172 (0, 0))) := by rw [← hw1]; exact hid (MapKept.heap_alloc wr _).1
  rw [hw1] at hb1
  have hb1h := hid hb1
  have hc1 := hid (h.more hb1)
  have c1 := hc1.out.gcell
  have hl := hid (hc1.out.least (Below.refl _ _) v hv)
  replace hw1 := hid hw1
  have hsz : wr.heap.size < w1.heap.size := (Array.getElem?_eq_some_iff.1 hbk.out).1
  obtain ⟨k, hk⟩ : ∃ k, f v = k := ⟨_, rfl⟩
  rw [hk] at hl hf hg ⊢
  obtain ⟨gk, hgk⟩ : ∃ gk, g k = gk := ⟨_, rfl⟩
  rw [hgk] at hg ⊢
  obtain ⟨qn, hqn⟩ : ∃ qn, addQ gk (q0, q1, q2, q3) = qn := ⟨_, rfl⟩
  rw [hqn]
  replace hgk := hid hgk
  replace hqn := hid hqn
  clear hk h hb1
  show Calls _ _ #[.int .i64 (v : Int), .agg #[.int .i64 q0, .int .i64 q1, .int .i64 q2, .int .i64 q3], .pointer (some ⟨gc, 0, none⟩), .pointer (some ⟨pc, 0, none⟩)] wr _
  go_enter Tryz.func107, Tryz.ntmps107
  go_upto_region 1 with fail
  rw [hw1.out]
  clear hw1
  go_wp2_with fail
  refine hl.out.mono ?_
  rintro e w2 ⟨rfl, b2⟩
  have hc2 := hid (hc1.out.more b2)
  have hb2h := hid (hb1h.out.trans (b2.mono hb1h.out.size))
  have hbk2 : Hid (w2.heap[wr.heap.size]? = some (.cells #[.int .i64 q0, .int .i64 q1, .int .i64 q2, .int .i64 q3] 172 (0, 0))) := hid ((b2.block _ hsz).trans hbk.out)
  clear hl b2 hc1 hbk c1 hsz
  go_upto_region 2 with fail
  have hS0 : Hid (∀ y : World, Below w2.heap.size w2 y → y.cell? ⟨pc, 0, none⟩ = some (.map (some mb)) ∧ (y.cell? ⟨wr.heap.size, 0, none⟩ = some (.int .i64 q0) ∧ y.cell? ⟨wr.heap.size, 1, none⟩ = some (.int .i64 q1) ∧ y.cell? ⟨wr.heap.size, 2, none⟩ = some (.int .i64 q2) ∧ y.cell? ⟨wr.heap.size, 3, none⟩ = some (.int .i64 q3))) := hid (fun y hy => by
    have hb' : y.heap[wr.heap.size]? = some (.cells #[.int .i64 q0, .int .i64 q1, .int .i64 q2, .int .i64 q3] 172 (0, 0)) := (hy.block _ (Array.getElem?_eq_some_iff.1 hbk2.out).1).trans hbk2.out
    exact ⟨(hc2.out.more hy).pcell, (blk4 hb').1⟩)
  have hS1 : Hid (∀ y y2 : World, Below w2.heap.size w2 y → y.grownBy y2 (some mb) → y2.cell? ⟨pc, 0, none⟩ = some (.map (some mb)) ∧ (y2.cell? ⟨wr.heap.size, 0, none⟩ = some (.int .i64 q0) ∧ y2.cell? ⟨wr.heap.size, 1, none⟩ = some (.int .i64 q1) ∧ y2.cell? ⟨wr.heap.size, 2, none⟩ = some (.int .i64 q2) ∧ y2.cell? ⟨wr.heap.size, 3, none⟩ = some (.int .i64 q3))) := hid (fun y y2 hy hg => by
    have h2 := hc2.out.more hy
    have hb' : y.heap[wr.heap.size]? = some (.cells #[.int .i64 q0, .int .i64 q1, .int .i64 q2, .int .i64 q3] 172 (0, 0)) := (hy.block _ (Array.getElem?_eq_some_iff.1 hbk2.out).1).trans hbk2.out
    have hne := cell_map_ne h2.pm (blk4 hb').1.1
    have hb2 := (hg.block _ (Array.getElem?_eq_some_iff.1 hb').1 (fun e => hne (by cases e; rfl))).trans hb'
    exact ⟨grown_cell0 hg h2.pcell (cell_map_ne h2.pm h2.pcell), (blk4 hb2).1⟩)
  have hlk : Hid (∀ y, Below w2.heap.size w2 y → PM y mb V dom g) := hid (fun y hy => hc2.out.pm.more hy)
  have hsm : Hid (∀ y, Calls Tryz.prog 109 #[mkC gk, .agg #[.int .i64 q0, .int .i64 q1, .int .i64 q2, .int .i64 q3]] y fun x w' => x = .returned (mkC qn) ∧ Below y.heap.size y w') := hid (fun y => by rw [← hqn.out]; exact sum_ok gk (q0, q1, q2, q3) y hg hq)
  have hfin : Hid (∀ y y2, Below w2.heap.size w2 y → PM y2 mb V (fun x => dom x || x == k) (fun x => if x = k then qn else g x) → y.grownBy y2 (some mb) → Cs w0 gb gc pc mb V f (fun x => dom x || x == k) (fun x => if x = k then qn else g x) y2 ∧ wr.grownBy y2 (some mb)) := hid (fun y y2 h1 h2 h3 => ⟨(hc2.out.more h1).put h2 h3, (below_grown (hb2h.out.trans (h1.mono hb2h.out.size)) (some mb)).andThen h3 (fun j hj => .inr hj)⟩)
  have hlook : Hid (∀ y, Below w2.heap.size w2 y → (Instr.lookup 168 (.map (some mb)) (.int .i64 (k : Int)) false).run Tryz.prog y = .ok (mkC gk) y) := hid (fun y hy => by rw [← hgk.out]; exact (hlk.out y hy).look hV hf)
  have hput : Hid (∀ y, Below w2.heap.size w2 y → ∃ w', (Instr.mapUpdate 168 (.map (some mb)) (.int .i64 (k : Int)) (mkC qn)).run Tryz.prog y = .ok () w' ∧ PM w' mb V (fun x => dom x || x == k) (fun x => if x = k then qn else g x) ∧ y.grownBy w' (some mb)) := hid (fun y hy => (hlk.out y hy).put hV hf qn)
  clear hc2 hbk2 hg hq hf hV hgk hqn hlk
  refine wp_region_noPanic ?_
  refine wp_region_held_drew (S := fun w' => w'.cell? ⟨pc, 0, none⟩ = some (.map (some mb)) ∧ (w'.cell? ⟨wr.heap.size, 0, none⟩ = some (.int .i64 q0) ∧ w'.cell? ⟨wr.heap.size, 1, none⟩ = some (.int .i64 q1) ∧ w'.cell? ⟨wr.heap.size, 2, none⟩ = some (.int .i64 q2) ∧ w'.cell? ⟨wr.heap.size, 3, none⟩ = some (.int .i64 q3))) (by kernel_rfl) (hS0.out _ (Below.refl _ _).drew) (fun hHeld => ?_)
  refine takeH (i := 0) (v := ?_) (a' := ?_) ({ dst := some 14, op := Op.load 168 (Operand.tmp 3), type := 168, pos := "sphere.go:73", after := #[], guard := none }) rfl (by kernel_rfl) (by kernel_rfl) (by kernel_rfl) (fun _ _ _ h => h) (by rfl) ?_ (by assumption) ?_ ?_
  rotate_left 2
  · (intro w' hSw; obtain ⟨z0, z1, z2, z3, z4⟩ := hSw; go_simp; try with_reducible rfl)
  · (simp only [Act.put, List.setIfInBounds_toArray, List.set_cons_zero, List.set_cons_succ]; try rfl)
  refine takeH (i := 1) (v := ?_) (a' := ?_) ({ dst := some 15, op := Op.move (Operand.tmp 6), type := 3, pos := "sphere.go:73", after := #[], guard := none }) rfl (by kernel_rfl) (by kernel_rfl) (by kernel_rfl) (fun _ _ _ h => h) (by rfl) ?_ (by assumption) ?_ ?_
  rotate_left 2
  · (intro w' hSw; obtain ⟨z0, z1, z2, z3, z4⟩ := hSw; go_simp; try with_reducible rfl)
  · (simp only [Act.put, List.setIfInBounds_toArray, List.set_cons_zero, List.set_cons_succ]; try rfl)
  refine takeH (i := 2) (v := ?_) (a' := ?_) ({ dst := some 16, op := Op.load 168 (Operand.tmp 3), type := 168, pos := "sphere.go:73", after := #[], guard := none }) rfl (by kernel_rfl) (by kernel_rfl) (by kernel_rfl) (fun _ _ _ h => h) (by rfl) ?_ (by assumption) ?_ ?_
  rotate_left 2
  · (intro w' hSw; obtain ⟨z0, z1, z2, z3, z4⟩ := hSw; go_simp; try with_reducible rfl)
  · (simp only [Act.put, List.setIfInBounds_toArray, List.set_cons_zero, List.set_cons_succ]; try rfl)
  refine takeH (i := 3) (v := ?_) (a' := ?_) ({ dst := some 17, op := Op.move (Operand.tmp 6), type := 3, pos := "sphere.go:73", after := #[], guard := none }) rfl (by kernel_rfl) (by kernel_rfl) (by kernel_rfl) (fun _ _ _ h => h) (by rfl) ?_ (by assumption) ?_ ?_
  rotate_left 2
  · (intro w' hSw; obtain ⟨z0, z1, z2, z3, z4⟩ := hSw; go_simp; try with_reducible rfl)
  · (simp only [Act.put, List.setIfInBounds_toArray, List.set_cons_zero, List.set_cons_succ]; try rfl)
  refine takeH (i := 5) (v := ?_) (a' := ?_) ({ dst := some 19, op := Op.load 172 (Operand.tmp 5), type := 172, pos := "sphere.go:73", after := #[], guard := none }) rfl (by kernel_rfl) (by kernel_rfl) (by kernel_rfl) (fun _ _ _ h => h) (by rfl) ?_ (by assumption) ?_ ?_
  rotate_left 2
  · (intro w' hSw; obtain ⟨z0, z1, z2, z3, z4⟩ := hSw; go_simp; try with_reducible rfl)
  · (simp only [Act.put, List.setIfInBounds_toArray, List.set_cons_zero, List.set_cons_succ]; try rfl)
  have hB0 : Hid (Below w2.heap.size w2 w2.drew) := hid (Below.refl _ _).drew
  generalize w2.drew = y0 at hB0 hHeld ⊢
  have hrun := hlook.out _ hB0.out
  refine wpAnyH_ready (rs := [4]) (by kernel_rfl) (by simp) ?_
  refine AllReadyH.cons (o := { dst := some 18, op := Op.lookup 168 (Operand.tmp 16) (Operand.tmp 17) false, type := 172, pos := "sphere.go:73", after := #[{ on := 2, ground := Ground.data }, { on := 3, ground := Ground.data }], guard := none }) rfl (fun K hK => ?_) AllReadyH.nil
  go_simp
  refine hK.out _ _ (hS0.out _ hB0.out) (fun hHeld => ?_)
  clear hK K hrun
  try simp only [Act.put, List.setIfInBounds_toArray, List.set_cons_zero, List.set_cons_succ]
  refine wpAnyH_ready (rs := [6]) (by kernel_rfl) (by simp) ?_
  refine AllReadyH.cons (o := { dst := some 20, op := Op.call { callee := Callee.value (Operand.func 109), args := #[Operand.tmp 18, Operand.tmp 19], argTypes := #[172, 172] }, type := 172, pos := "sphere.go:73", after := #[{ on := 4, ground := Ground.data }, { on := 5, ground := Ground.data }], guard := none }) rfl (fun K hK => ?_) AllReadyH.nil
  go_simp
  refine (hsm.out y0).mono ?_
  rintro x y1 ⟨rfl, b1⟩
  have hB1 : Hid (Below w2.heap.size w2 y1) := hid (hB0.out.trans (b1.mono hB0.out.size))
  clear b1
  try go_wp2_with fail
  refine hK.out _ _ (hS0.out _ hB1.out) (fun hHeld => ?_)
  clear hK K
  try simp only [Act.put, List.setIfInBounds_toArray, List.set_cons_zero, List.set_cons_succ]
  obtain ⟨y2, hrun, hpm3, hg3⟩ := hput.out _ hB1.out
  have hend := hid (hfin.out _ _ hB1.out hpm3 hg3)
  have hS2 := hid (hS1.out _ _ hB1.out hg3)
  clear hpm3 hg3
  refine wpAnyH_ready (rs := [7]) (by kernel_rfl) (by simp) ?_
  refine AllReadyH.cons (o := { dst := none, op := Op.mapUpdate 168 (Operand.tmp 14) (Operand.tmp 15) (Operand.tmp 20), type := 0, pos := "sphere.go:73", after := #[{ on := 0, ground := Ground.data }, { on := 1, ground := Ground.data }, { on := 6, ground := Ground.data }, { on := 6, ground := Ground.chain }, { on := 0, ground := Ground.phase }, { on := 1, ground := Ground.phase }, { on := 2, ground := Ground.phase }, { on := 3, ground := Ground.phase }, { on := 4, ground := Ground.phase }, { on := 5, ground := Ground.phase }, { on := 6, ground := Ground.phase }], guard := none }) rfl (fun K hK => ?_) AllReadyH.nil
  go_simp
  refine hK.out _ _ hS2.out (fun hHeld => ?_)
  clear hK K hrun hHeld
  try simp only [Act.put, List.setIfInBounds_toArray, List.set_cons_zero, List.set_cons_succ]
  refine wpAnyH_done (by kernel_rfl) ?_ _
  refine NoPanic.normal ?_
  go_wp2_with fail
  go_end0
  exact ⟨rfl, hend.out.1, hend.out.2⟩
end
end Go.Proofs.YtboafgimjadboaaGreatDoor

namespace Go.Proofs.YtboafgimjadboaaGreatDoor
open Go.RowKit
set_option linter.unusedVariables false

section
variable (V E : Nat) (R : Nat → List Nat)
/-- Which components were met. -/
noncomputable def D1 (lv : List Nat) : Nat → Bool := fun c => lv.any (fun v => decide (lb V E R v = c))
/-- Their counts. -/
noncomputable def G1 (lv le : List Nat) (lf : List (List Nat)) : Nat → Qd := fun c =>
  ((lv.countP (fun v => decide (lb V E R v = c)) : Int), (le.countP (fun e => decide (lb V E R (og V R (2 * e)) = c)) : Int), ((lv.countP (fun v => (R v).isEmpty && decide (lb V E R v = c)) + lf.countP (fun f => decide (lb V E R (og V R (f.headD 0)) = c)) : Nat) : Int), 0)
end

section
variable {V E : Nat} {R : Nat → List Nat}

theorem d1_step (lv : List Nat) (v c : Nat) : D1 V E R (lv ++ [v]) c = (D1 V E R lv c || c == lb V E R v) := by
  unfold D1
  rw [List.any_append]
  congr 1
  by_cases e : c = lb V E R v
  · subst e; simp
  · simp [e, show lb V E R v ≠ c from fun q => e q.symm]

theorem g1_v (lv le : List Nat) (lf : List (List Nat)) (v c : Nat) (s : Bool) (hs : s = true ↔ R v = []) : G1 V E R (lv ++ [v]) le lf c = if c = lb V E R v then addQ (G1 V E R lv le lf (lb V E R v)) (ownQ s) else G1 V E R lv le lf c := by
  have hs' : (R v).isEmpty = s := by
    cases s
    · cases h : R v with
      | nil => have := hs.2 h; cases this
      | cons a b => rfl
    · rw [hs.1 rfl]; rfl
  unfold G1 addQ ownQ
  simp only [List.countP_append, List.countP_cons, List.countP_nil, hs']
  by_cases e : c = lb V E R v
  · subst e
    rw [if_pos rfl]
    cases s <;> simp <;> omega
  · rw [if_neg e]
    simp [show lb V E R v ≠ c from fun q => e q.symm]

theorem g1_e (lv le : List Nat) (lf : List (List Nat)) (x c : Nat) : G1 V E R lv (le ++ [x]) lf c = if c = lb V E R (og V R (2 * x)) then addQ (G1 V E R lv le lf (lb V E R (og V R (2 * x)))) (0, 1, 0, 0) else G1 V E R lv le lf c := by
  unfold G1 addQ
  simp only [List.countP_append, List.countP_cons, List.countP_nil]
  by_cases e : c = lb V E R (og V R (2 * x))
  · subst e
    rw [if_pos rfl]
    simp
  · rw [if_neg e]
    simp [show lb V E R (og V R (2 * x)) ≠ c from fun q => e q.symm]

theorem g1_f (lv le : List Nat) (lf : List (List Nat)) (f : List Nat) (c : Nat) : G1 V E R lv le (lf ++ [f]) c = if c = lb V E R (og V R (f.headD 0)) then addQ (G1 V E R lv le lf (lb V E R (og V R (f.headD 0)))) (0, 0, 1, 0) else G1 V E R lv le lf c := by
  unfold G1 addQ
  simp only [List.countP_append, List.countP_cons, List.countP_nil]
  by_cases e : c = lb V E R (og V R (f.headD 0))
  · subst e
    rw [if_pos rfl]
    simp
    omega
  · have e' : decide (lb V E R (og V R (f.headD 0)) = c) = false := decide_eq_false (fun q => e q.symm)
    rw [if_neg e, e']
    simp

theorem g1_small (lv le : List Nat) (lf : List (List Nat)) (c : Nat) (h1 : lv.length ≤ 100000) (h2 : le.length ≤ 100000) (h3 : lf.length ≤ 100000) : smQ (G1 V E R lv le lf c) := by
  have a1 := List.countP_le_length (p := fun v => decide (lb V E R v = c)) (l := lv)
  have a2 := List.countP_le_length (p := fun e => decide (lb V E R (og V R (2 * e)) = c)) (l := le)
  have a3 := List.countP_le_length (p := fun v => (R v).isEmpty && decide (lb V E R v = c)) (l := lv)
  have a4 := List.countP_le_length (p := fun f => decide (lb V E R (og V R (f.headD 0)) = c)) (l := lf)
  unfold G1 smQ
  dsimp only
  refine ⟨⟨by omega, by omega⟩, ⟨by omega, by omega⟩, ⟨by omega, by omega⟩, by omega, by omega⟩

theorem rl_form {w : World} {v : Value} {ms : List (List Nat)} (h : RL w v ms) : ∃ ad cap, v = .slice ad ms.length cap := by
  obtain ⟨ad, cap, e, _⟩ := h
  exact ⟨ad, cap, e⟩

theorem d1_of {lv : List Nat} {v : Nat} (h : v ∈ lv) : D1 V E R lv (lb V E R v) = true := List.any_eq_true.2 ⟨v, h, by simp⟩

theorem map_inj : ∀ {l l' : List Nat}, l.map (fun x : Nat => (x : Int)) = l'.map (fun x : Nat => (x : Int)) → l = l'
  | [], [], _ => rfl
  | [], b :: s, h => by simp at h
  | a :: r, [], h => by simp at h
  | a :: r, b :: s, h => by
    simp only [List.map_cons, List.cons.injEq] at h
    rw [map_inj h.2, Int.ofNat_inj.1 h.1]

theorem ck_good {zs : List Int} (h : Ck12 V R zs 0) : ∃ l : List Nat, zs = l.map (fun x : Nat => (x : Int)) ∧ Vl V R l := by
  rcases h with ⟨h, _⟩ | ⟨l, h1, h2, ⟨h, _⟩ | ⟨h3, ⟨h, _⟩ | ⟨_, h4⟩⟩⟩
  · omega
  · omega
  · omega
  · exact ⟨l, h1, ⟨h3, h2, h4⟩⟩

theorem ck_zero {l : List Nat} (hl : Vl V R l) {c : Int} (h : Ck12 V R (l.map (fun x : Nat => (x : Int))) c) : c = 0 := by
  obtain ⟨k1, k2, k3⟩ := hl
  rcases h with ⟨h, x, hx, hq⟩ | ⟨l', h1, h2, h3⟩
  · obtain ⟨y, hy, rfl⟩ := List.mem_map.1 hx
    have := k2 y hy
    omega
  · obtain rfl := map_inj h1
    rcases h3 with ⟨_, h⟩ | ⟨h3, ⟨_, v, hv, hne, hq⟩ | ⟨h, _⟩⟩
    · exact absurd k1 h
    · exact absurd (k3 v hv hne) hq
    · exact h
end
end Go.Proofs.YtboafgimjadboaaGreatDoor

namespace Go.Proofs.YtboafgimjadboaaGreatDoor
open Go.RowKit
set_option linter.unusedVariables false

section
variable {w : World} {lo tb V E : Nat} {R : Nat → List Nat}

set_option maxRecDepth 100000 in
set_option maxHeartbeats 8000000 in
theorem comp_any (h : TA w lo tb V E R) (hw : Tw V E R) (hE8 : E ≤ 1000) (hV1 : 1 ≤ V) (vv : Value) (zs : List Int) (hL : IV w vv zs) (hln : zs.length ≤ 1000) :
    Calls Tryz.prog 84 #[.pointer (some ⟨tb, 0, none⟩), vv] w fun e w' => ∃ c, Ck12 V R zs c ∧ Below w.heap.size w w' ∧ ((c ≠ 0 ∧ e = .returned (.tuple #[.map none, .iface 67 (.int .i64 c)])) ∨
      (c = 0 ∧ ∃ mb l, e = .returned (.tuple #[.map (some mb), .nilIface]) ∧ zs = l.map (fun x : Nat => (x : Int)) ∧ Vl V R l ∧ w.heap.size ≤ mb ∧ PM w' mb V (D1 V E R l) (G1 V E R l (es V R E) (fcs V R (2 * E))))) := by
  have hV := h.hV
  have hck := hid (scheck_any h vv zs hL hln)
  have hjo := hid (fun y (hy : Below w.heap.size w y) => joined_ok (h.more hy) hw hE8 hV1)
  have hown := hid (fun (v : Nat) (s : Bool) (hv : v < V) (hs : s = true ↔ R v = []) y (hy : Below w.heap.size w y) => own_ok (h.more hy) v hv s hs)
  have hrm := hid (fun y (hy : Below w.heap.size w y) => room_ok (h.more hy))
  have heY := hid (fun (e : Nat) (he : e < E) (hi : In V R (2 * e)) y (hy : Below w.heap.size w y) => ends_yes (h.more hy) hw e he hi)
  have heN := hid (fun (e : Nat) (he : e < E) (hi : ¬ In V R (2 * e)) y (hy : Below w.heap.size w y) => ends_no (h.more hy) e he hi)
  have hal := hid (fun y (hy : Below w.heap.size w y) => all_ok (h.more hy) hw hE8)
  have hor := hid (fun (k : Nat) (hk : In V R k) y (hy : Below w.heap.size w y) => origin_in (h.more hy) k hk)
  have htn := hid h.tn
  have htw := hid hw
  obtain ⟨lad, n, lcap, rfl, hsl⟩ := hL
  have hlen := hid hsl.len
  have hn : n ≤ 1000 := by rw [← hlen.out]; exact hln
  have hC : Hid (∀ y, Below w.heap.size w y → ∀ (j : Nat) z, zs[j]? = some z → ∃ b o, lad = some ⟨b, o, none⟩ ∧ y.cell? ⟨b, o + j, none⟩ = some (.int .i64 z)) := hid (fun y hy j z hz => by
    obtain ⟨b, o, e, c⟩ := hsl.cell j z hz
    exact ⟨b, o, e, (hy.cell (World.block_lt_of_cell? _ _ c)).trans c⟩)
  have hlb : Hid (∀ v, v < V → lb V E R v < V) := hid (fun v hv => lb_lt v hv)
  have hmm := @run_makeMap Tryz.prog
  clear h hw hsl hln
  go_enter Tryz.func84, Tryz.ntmps84
  go_wp2_with fail
  refine hck.out.mono ?_
  rintro e w1 ⟨c, r, rfl, her, hckc, b1⟩
  replace b1 := hid b1
  clear hck
  rcases her with ⟨rfl, rfl⟩ | ⟨hc0, rfl⟩
  · obtain ⟨l, hzl, hl⟩ := ck_good hckc
    have hckh := hid hckc
    have hll : Hid (l.length = n) := hid (by rw [← hlen.out, hzl]; simp)
    have hget : Hid (∀ (j : Nat) x, l[j]? = some x → zs[j]? = some (x : Int)) := hid (fun j x hx => by rw [hzl]; simp [hx])
    replace hl := hid hl
    replace hzl := hid hzl
    clear hckc
    go_wp2_with fail
    refine (hjo.out _ b1.out).mono ?_
    rintro e w2 ⟨gb, rfl, hg⟩
    replace hg := hid hg
    clear hjo
    go_upto_region 8 with fail
    obtain ⟨wa, hwa⟩ : ∃ wa, w2.alloc (.cells #[.pointer (some ⟨gb, 0, none⟩)] 210) = wa := ⟨_, rfl⟩
    have sa : wa.heap.size = w2.heap.size + 1 := by rw [← hwa]; simp
    have ka : wa.cell? ⟨w2.heap.size, 0, none⟩ = some (.pointer (some ⟨gb, 0, none⟩)) := by rw [← hwa]; exact cell_one_new _ _ _ 0 _ rfl
    have ba : Below w2.heap.size w2 wa := by rw [← hwa]; exact (Below.refl _ _).alloc (Nat.le_refl _) _
    obtain ⟨wb, hwb⟩ : ∃ wb, wa.alloc (.map #[] 0) = wb := ⟨_, rfl⟩
    have kb : PM wb (w2.heap.size + 1) V (fun _ => false) (fun _ => (0, 0, 0, 0)) := by rw [← hwb, ← sa]; exact pm_made wa V
    have sb : wb.heap.size = w2.heap.size + 2 := by rw [← hwb]; simp; omega
    have bb : Below wa.heap.size wa wb := by rw [← hwb]; exact (Below.refl _ _).alloc (Nat.le_refl _) _
    obtain ⟨wc, hwc⟩ : ∃ wc, wb.alloc (.cells #[.map (some (w2.heap.size + 1))] 168) = wc := ⟨_, rfl⟩
    have kc : wc.cell? ⟨w2.heap.size + 2, 0, none⟩ = some (.map (some (w2.heap.size + 1))) := by rw [← hwc, ← sb]; exact cell_one_new _ _ _ 0 _ rfl
    have bc : Below wb.heap.size wb wc := by rw [← hwc]; exact (Below.refl _ _).alloc (Nat.le_refl _) _
    have b12 : Below w.heap.size w w2 := b1.out.trans (hg.out.bel.mono b1.out.size)
    have b2c : Below w2.heap.size w2 wc := ba.trans ((bb.mono (by omega)).trans (bc.mono (by omega)))
    have hcs0 : Hid (Cs w gb w2.heap.size (w2.heap.size + 2) (w2.heap.size + 1) V (lb V E R) (D1 V E R (l.take 0)) (G1 V E R (l.take 0) (es V R 0) ((fcs V R (2 * E)).take 0)) wc) := hid (by
      refine ⟨⟨w2, hg.out.since b1.out, b2c, by omega⟩, ?_, kc, ?_, b12.trans (b2c.mono b12.size)⟩
      · have h1 := (bb.cell (World.block_lt_of_cell? _ _ ka)).trans ka
        exact (bc.cell (World.block_lt_of_cell? _ _ h1)).trans h1
      · exact (kb.more bc).congr (fun v hv => by simp [D1]) (fun v hv => by simp [G1, es]))
    rw [hwa, hwb, hwc]
    clear hwa hwb hwc ka kb kc ba bb bc b2c b12 hg sa sb
    obtain ⟨gc, hgc⟩ : ∃ gc, w2.heap.size = gc := ⟨_, rfl⟩
    rw [hgc] at hcs0 ⊢
    obtain ⟨mb, hmb⟩ : ∃ mb, gc + 1 = mb := ⟨_, rfl⟩
    have hwmb : w.heap.size ≤ mb := by
      obtain ⟨wg, h1, h2, h3⟩ := hcs0.out.gd
      have := h1.bel.size
      omega
    rw [hmb] at hcs0
    obtain ⟨pc, hpc⟩ : ∃ pc, gc + 2 = pc := ⟨_, rfl⟩
    rw [hpc] at hcs0 ⊢
    clear hgc hmb hpc
    replace hwmb := hid hwmb
    go_wp2_with fail
    go_loopw [12, 39] (fun _ u wr => ∃ j : Nat, j ≤ n ∧ u = .int .i64 (j : Int) ∧ Hid (Cs w gb gc pc mb V (lb V E R) (D1 V E R (l.take j)) (G1 V E R (l.take j) (es V R 0) ((fcs V R (2 * E)).take 0)) wr)) (fun _ u _ => n - (intOf u).toNat)
    case atStart => exact ⟨0, by omega, by go_num, hcs0⟩
    case round =>
      obtain ⟨j, hj, rfl, hcs⟩ := hrel
      clear hcs0
      rcases Nat.lt_or_ge j n with hjl | hjg
      · obtain ⟨x, hx⟩ : ∃ x, l[j]? = some x := ⟨_, List.getElem?_eq_getElem (by rw [hll.out]; exact hjl)⟩
        have hxV := hl.out.low x (List.mem_of_getElem? hx)
        obtain ⟨b, o, rfl, cx⟩ := hC.out _ hcs.out.bel j _ (hget.out j x hx)
        have j1 : (0 : Int) ≤ (j : Int) := by omega
        have j2 : (j : Int) < (n : Int) := by omega
        have v2 : decide ((j : Int) < (n : Int)) = true := decide_eq_true (by omega)
        obtain ⟨s, hs⟩ : ∃ s : Bool, s = true ↔ R x = [] := ⟨(R x).isEmpty, by simp⟩
        have ho := hid (hown.out x s hxV hs _ hcs.out.bel)
        have hstep : Hid (∀ y, Cs w gb gc pc mb V (lb V E R) (fun c => D1 V E R (l.take j) c || c == lb V E R x) (fun c => if c = lb V E R x then addQ (G1 V E R (l.take j) (es V R 0) ((fcs V R (2 * E)).take 0) (lb V E R x)) (ownQ s) else G1 V E R (l.take j) (es V R 0) ((fcs V R (2 * E)).take 0) c) y → Cs w gb gc pc mb V (lb V E R) (D1 V E R (l.take (j + 1))) (G1 V E R (l.take (j + 1)) (es V R 0) ((fcs V R (2 * E)).take 0)) y) := hid (fun y hy => by
          refine ⟨hy.gd, hy.gcell, hy.pcell, hy.pm.congr (fun v hv => ?_) (fun v hv => ?_), hy.bel⟩
          · rw [ntake hx, d1_step]
          · rw [ntake hx, g1_v _ _ _ _ _ s hs])
        have hsm1 : Hid (smQ (ownQ s)) := hid (by unfold ownQ smQ; cases s <;> simp)
        have hsm2 : Hid (smQ (G1 V E R (l.take j) (es V R 0) ((fcs V R (2 * E)).take 0) (lb V E R x))) := hid (g1_small _ _ _ _ (by rw [List.length_take]; omega) (by simp [es]) (by simp))
        have hlx := hid (hlb.out x hxV)
        replace hs := hid hs
        clear hx
        go_wp2_with fail
        refine ho.out.mono ?_
        rintro e w4 ⟨rfl, b4⟩
        have hcs4 := hid (hcs.out.more b4)
        clear b4 ho cx hcs
        go_wp2_with fail
        refine (add_ok hcs4.out (by omega) x hxV hlx.out (ownQ s) hsm1.out hsm2.out).mono ?_
        rintro e w5 ⟨rfl, h5, _⟩
        have hcs5 := hid (hstep.out _ h5)
        clear h5 hstep hsm1 hsm2 hcs4 hlx hs
        go_wp2_with fail
        go_roundw
        case rel => exact ⟨j + 1, by omega, by go_num, hcs5⟩
        case measure => simp [intOf]; omega
      · obtain rfl : j = n := by omega
        have v2 : decide ((j : Int) < (j : Int)) = false := decide_eq_false (by omega)
        have hcsl : Hid (Cs w gb gc pc mb V (lb V E R) (D1 V E R l) (G1 V E R l (es V R 0) ((fcs V R (2 * E)).take 0)) wr) := by
          have h := hcs.out
          rw [List.take_of_length_le (by rw [hll.out]; exact Nat.le_refl _)] at h
          exact hid h
        have hln : l.length ≤ 1000 := by rw [hll.out]; exact hn
        replace hln := hid hln
        clear hcs
        go_wp2_with fail
        refine (hrm.out _ hcsl.out.bel).mono ?_
        rintro e w4 ⟨rfl, b4⟩
        replace hcsl := hid (hcsl.out.more b4)
        clear b4 hrm
        have hmem : Hid (∀ k, In V R k → og V R k < V ∧ D1 V E R l (lb V E R (og V R k)) = true) := hid (fun k hk => by
          obtain ⟨h1, h2⟩ := og_is hk
          exact ⟨h1, d1_of (hl.out.all _ h1 (fun q => by rw [q] at h2; simp at h2))⟩)
        go_wp2_with fail
        go_loopw [13, 14, 15, 16, 52] (fun _ _ _ _ u wr => ∃ x : Nat, x ≤ E ∧ u = .int .i64 (x : Int) ∧ Hid (Cs w gb gc pc mb V (lb V E R) (D1 V E R l) (G1 V E R l (es V R x) ((fcs V R (2 * E)).take 0)) wr)) (fun _ _ _ _ u _ => E - (intOf u).toNat)
        case atStart => exact ⟨0, by omega, by go_num, hcsl⟩
        case round =>
          obtain ⟨x, hx, rfl, hcs⟩ := hrel
          clear hcsl
          rcases Nat.lt_or_ge x E with hlt | hge
          · have v3 : decide ((x : Int) < (E : Int)) = true := decide_eq_true (by omega)
            by_cases hi : In V R (2 * x)
            · have hc := hid (heY.out x hlt hi _ hcs.out.bel)
              obtain ⟨hp1, hp2⟩ := hmem.out _ hi
              have hes : es V R (x + 1) = es V R x ++ [x] := by
                unfold es
                rw [List.range_succ, List.filter_append]
                simp [hi]
              have hstep : Hid (∀ y, Cs w gb gc pc mb V (lb V E R) (fun c => D1 V E R l c || c == lb V E R (og V R (2 * x))) (fun c => if c = lb V E R (og V R (2 * x)) then addQ (G1 V E R l (es V R x) ((fcs V R (2 * E)).take 0) (lb V E R (og V R (2 * x)))) (0, 1, 0, 0) else G1 V E R l (es V R x) ((fcs V R (2 * E)).take 0) c) y → Cs w gb gc pc mb V (lb V E R) (D1 V E R l) (G1 V E R l (es V R (x + 1)) ((fcs V R (2 * E)).take 0)) y) := hid (fun y hy => by
                refine ⟨hy.gd, hy.gcell, hy.pcell, hy.pm.congr (fun v hv => ?_) (fun v hv => ?_), hy.bel⟩
                · by_cases e : v = lb V E R (og V R (2 * x))
                  · subst e; rw [hp2]; simp
                  · simp [e]
                · rw [hes, g1_e])
              have hsm1 : Hid (smQ (0, 1, 0, 0)) := hid (by unfold smQ; simp)
              have hsm2 : Hid (smQ (G1 V E R l (es V R x) ((fcs V R (2 * E)).take 0) (lb V E R (og V R (2 * x))))) := hid (g1_small _ _ _ _ (by have := hln.out; omega) (by unfold es; exact Nat.le_trans (List.length_filter_le _ _) (by simp; omega)) (by simp))
              have hlx := hid (hlb.out _ hp1)
              obtain ⟨p, hp⟩ : ∃ p, og V R (2 * x) = p := ⟨_, rfl⟩
              obtain ⟨q, hq⟩ : ∃ q, og V R (2 * x + 1) = q := ⟨_, rfl⟩
              rw [hp] at hc hstep hsm2 hlx hp1
              rw [hq] at hc
              clear hp hq hi hes hp2
              go_wp2_with fail
              refine hc.out.mono ?_
              rintro e w5 ⟨rfl, b5⟩
              have hcs5 := hid (hcs.out.more b5)
              clear b5 hc hcs
              go_wp2_with fail
              refine (add_ok hcs5.out (by omega) p hp1 hlx.out (0, 1, 0, 0) hsm1.out hsm2.out).mono ?_
              rintro e w6 ⟨rfl, h6, _⟩
              have hcs6 := hid (hstep.out _ h6)
              clear h6 hstep hsm1 hsm2 hcs5 hlx
              go_wp2_with fail
              go_roundw
              case rel => exact ⟨x + 1, by omega, by go_num, hcs6⟩
              case measure => simp [intOf]; omega
            · have hc := hid (heN.out x hlt hi _ hcs.out.bel)
              rw [← lb_step_no hi] at hcs
              clear hi
              go_wp2_with fail
              refine hc.out.mono ?_
              rintro e w5 ⟨rfl, b5⟩
              have hcs5 := hid (hcs.out.more b5)
              clear b5 hc hcs
              go_wp2_with fail
              go_roundw
              case rel => exact ⟨x + 1, by omega, by go_num, hcs5⟩
              case measure => simp [intOf]; omega
          · obtain rfl : x = E := by omega
            have v3 : decide ((x : Int) < (x : Int)) = false := decide_eq_false (by omega)
            have hff : Hid (∀ (i : Nat) (c : List Nat), (fcs V R (2 * x))[i]? = some c → ∃ z, c[0]? = some z ∧ c.headD 0 = z ∧ In V R z) := hid (fun i c hc => by
              obtain ⟨z, _, hi, hl, rfl⟩ := mem_fcs.1 (List.mem_of_getElem? hc)
              have hp := ((fx_pm htn.out htw.out).per_is (hi.low htn.out)).1.pos
              have h0 : (Pq.orb (fx V R) z)[0]? = some z := by
                unfold Pq.orb
                rw [Pq.fl_get hp]
                rfl
              refine ⟨z, h0, ?_, hi⟩
              cases hq : Pq.orb (fx V R) z with
              | nil => rw [hq] at h0; simp at h0
              | cons a b => rw [hq] at h0; simp at h0; simp [h0])
            have hml := fcs_le V R (2 * x)
            have hcsE := hcs
            clear hcs
            go_wp2_with fail
            refine (hal.out _ hcsE.out.bel).mono ?_
            rintro e w5 ⟨av, rfl, hrg, b5⟩
            replace hcsE := hid (hcsE.out.more b5)
            obtain ⟨ms, hms⟩ : ∃ ms, fcs V R (2 * x) = ms := ⟨_, rfl⟩
            rw [hms] at hff hcsE hrg hml
            obtain ⟨aA, cA, hav⟩ := rl_form hrg.rl
            subst hav
            obtain ⟨nA, hnA⟩ : ∃ nA, ms.length = nA := ⟨_, rfl⟩
            rw [hnA] at hrg hml ⊢
            have hrd : Hid (∀ y, w5.grownBy y (some mb) → ∀ (i : Nat) c, ms[i]? = some c → ∃ g o ad2 cap2, aA = some ⟨g, o, none⟩ ∧ y.cell? ⟨g, o + i, none⟩ = some (.slice ad2 c.length cap2) ∧ ∀ j x : Nat, c[j]? = some x → ∃ g2 o2, ad2 = some ⟨g2, o2, none⟩ ∧ y.cell? ⟨g2, o2 + j, none⟩ = some (.int .i64 (x : Int))) := hid (fun y hy i c hc => by
              obtain ⟨g, o, ad2, cap2, e1, e2, e3⟩ := Rg.rd hrg hc
              refine ⟨g, o, ad2, cap2, e1, grown_cell0 hy e2 (cell_map_ne hcsE.out.pm e2), fun j x hx => ?_⟩
              obtain ⟨g2, o2, e4, e5⟩ := e3 j x hx
              exact ⟨g2, o2, e4, grown_cell0 hy e5 (cell_map_ne hcsE.out.pm e5)⟩)
            have hgr0 : Hid (w5.grownBy w5 (some mb)) := hid (below_grown (Below.refl _ _) _)
            replace hnA := hid hnA
            clear hrg b5 hal
            go_wp2_with fail
            go_loopw [18, 19, 20, 71] (fun _ _ _ u wr => ∃ m : Nat, m ≤ nA ∧ u = .int .i64 (m : Int) ∧ Hid (Cs w gb gc pc mb V (lb V x R) (D1 V x R l) (G1 V x R l (es V R x) (ms.take m)) wr) ∧ Hid (w5.grownBy wr (some mb))) (fun _ _ _ u _ => nA - (intOf u).toNat)
            case atStart => exact ⟨0, by omega, by go_num, hcsE, hgr0⟩
            case round =>
              obtain ⟨m, hm, rfl, hcs, hgr⟩ := hrel
              clear hcsE hgr0
              rcases Nat.lt_or_ge m nA with hml2 | hmg
              · obtain ⟨c, hc⟩ : ∃ c, ms[m]? = some c := ⟨_, List.getElem?_eq_getElem (by rw [hnA.out]; exact hml2)⟩
                obtain ⟨z, hz0, hzh, hzi⟩ := hff.out m c hc
                obtain ⟨g, o, ad2, cap2, rfl, e2, e3⟩ := hrd.out _ hgr.out m c hc
                obtain ⟨g2, o2, rfl, e5⟩ := e3 0 z hz0
                rw [Nat.add_zero] at e5
                have hcl : 0 < c.length := (List.getElem?_eq_some_iff.1 hz0).1
                obtain ⟨cn, hcn⟩ : ∃ cn, c.length = cn := ⟨_, rfl⟩
                rw [hcn] at e2 hcl
                have hzo := hid (hor.out z hzi _ hcs.out.bel)
                obtain ⟨hp1, hp2⟩ := hmem.out _ hzi
                have m1 : (0 : Int) ≤ (m : Int) := by omega
                have m2 : (m : Int) < (nA : Int) := by omega
                have m3 : (0 : Int) < (cn : Int) := by omega
                have v4 : decide ((m : Int) < (nA : Int)) = true := decide_eq_true (by omega)
                have hstep : Hid (∀ y, Cs w gb gc pc mb V (lb V x R) (fun c => D1 V x R l c || c == lb V x R (og V R z)) (fun c => if c = lb V x R (og V R z) then addQ (G1 V x R l (es V R x) (ms.take m) (lb V x R (og V R z))) (0, 0, 1, 0) else G1 V x R l (es V R x) (ms.take m) c) y → Cs w gb gc pc mb V (lb V x R) (D1 V x R l) (G1 V x R l (es V R x) (ms.take (m + 1))) y) := hid (fun y hy => by
                  refine ⟨hy.gd, hy.gcell, hy.pcell, hy.pm.congr (fun v hv => ?_) (fun v hv => ?_), hy.bel⟩
                  · by_cases e : v = lb V x R (og V R z)
                    · subst e; rw [hp2]; simp
                    · simp [e]
                  · rw [show ms.take (m + 1) = ms.take m ++ [c] from by rw [List.take_add_one, hc]; rfl, g1_f, hzh])
                have hsm1 : Hid (smQ (0, 0, 1, 0)) := hid (by unfold smQ; simp)
                have hsm2 : Hid (smQ (G1 V x R l (es V R x) (ms.take m) (lb V x R (og V R z)))) := hid (g1_small _ _ _ _ (by have := hln.out; omega) (by unfold es; exact Nat.le_trans (List.length_filter_le _ _) (by simp; omega)) (by rw [List.length_take]; omega))
                have hlx := hid (hlb.out _ hp1)
                obtain ⟨p, hp⟩ : ∃ p, og V R z = p := ⟨_, rfl⟩
                rw [hp] at hzo hstep hsm2 hlx hp1
                clear hp hzi hp2 hc hz0 hzh e3 hcn
                go_wp2_with fail
                refine hzo.out.mono ?_
                rintro e w7 ⟨rfl, b7⟩
                have hcs7 := hid (hcs.out.more b7)
                have hgr7 := hid (hgr.out.andThen (below_grown b7 none) (fun j hj => by cases hj))
                clear b7 hzo hcs hgr e2 e5
                go_wp2_with fail
                refine (add_ok hcs7.out (by omega) p hp1 hlx.out (0, 0, 1, 0) hsm1.out hsm2.out).mono ?_
                rintro e w8 ⟨rfl, h8, g8⟩
                have hcs8 := hid (hstep.out _ h8)
                have hgr8 := hid (hgr7.out.andThen g8 (fun j hj => .inr hj))
                clear h8 g8 hstep hsm1 hsm2 hcs7 hgr7 hlx
                go_wp2_with fail
                go_roundw
                case rel => exact ⟨m + 1, by omega, by go_num, hcs8, hgr8⟩
                case measure => simp [intOf]; omega
              · obtain rfl : m = nA := by omega
                have v4 : decide ((m : Int) < (m : Int)) = false := decide_eq_false (by omega)
                have cp := hcs.out.pcell
                have hfin : Hid (PM wr mb V (D1 V x R l) (G1 V x R l (es V R x) ms)) := by
                  have h := hcs.out.pm
                  rw [List.take_of_length_le (by rw [hnA.out]; exact Nat.le_refl _)] at h
                  exact hid h
                have hbf := hid hcs.out.bel
                replace hms := hid hms
                clear hcs hgr hrd hff
                go_wp2_with fail
                go_ret2
                refine ⟨0, hckh.out, hbf.out, .inr ⟨rfl, mb, l, rfl, hzl.out, hl.out, hwmb.out, ?_⟩⟩
                try rw [hms.out]
                exact hfin.out
  · replace hckc := hid hckc
    replace hc0 := hid hc0
    go_wp2_with fail
    go_ret2
    exact ⟨c, hckc.out, b1.out, .inl ⟨hc0.out, rfl⟩⟩
end
end Go.Proofs.YtboafgimjadboaaGreatDoor
