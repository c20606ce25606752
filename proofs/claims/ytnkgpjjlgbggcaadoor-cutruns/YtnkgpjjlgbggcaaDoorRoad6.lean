/- 'Road', walked. -/
import Derived.Test.YtnkgpjjlgbggcaaDoorBack6
import Derived.OwnWalk
namespace Go.Proofs.YtnkgpjjlgbggcaaDoor
open Go.RowKit Go.Shelf
set_option linter.unusedVariables false
attribute [local go_sem] Oper.semAt_some

theorem infoInt : (Tryd.prog.info? 3).map (fun i => (i.zero, i.size, i.bytes)) = some (some (.int .i64 0), 1, 8) := by kernel_rfl

/-- A spot's node as a cell. -/
def itm (d : Nat) : Value := .int .i64 ((d : Int) - 1)

/-- A row of these nodes. -/
def Rb (w : World) (u : Value) (l : List Nat) : Prop := ∃ b, u = .slice (some ⟨b, 0, none⟩) l.length l.length ∧ w.heap[b]? = some (.cells (l.map itm).toArray 3 (0, 0))

theorem Rb.keep {w w' : World} {u : Value} {l : List Nat} (h : Rb w u l) (k : Keep w w') : Rb w' u l := by
  obtain ⟨b, e, hb⟩ := h
  exact ⟨b, e, k b _ _ _ hb (by decide) (by decide)⟩

set_option maxRecDepth 100000 in
theorem make_ints (M : Nat) (hM : M ≤ 8388700) (w : World) :
    (Instr.makeSlice 40 (.int .i64 (M : Int)) (.int .i64 (M : Int))).run Tryd.prog w = .ok (.slice (some ⟨w.heap.size, 0, none⟩) M M) (w.alloc (.cells (Array.replicate M (.int .i64 0)) 3)) := by
  obtain ⟨i0, hi, hz0, hz1, hz2⟩ := info_parts infoInt
  have h := run_make (P := Tryd.prog) w 40 3 i0 _ Tryd.underlying40 hi hz0 .i64 .i64 M M (by omega) (Int.le_refl _) (by rw [hz2]; omega) (by omega)
  rw [h]
  simp only [Int.toNat_natCast, hz1]
  congr 3
  apply Array.ext
  · simp [madeCells]
  · intro j h1 h2
    simp [madeCells, Value.cells, Nat.mod_one]

set_option maxRecDepth 100000 in
theorem backwards_ok (fb x : Nat) (w : World) : Calls Tryd.prog 49 #[.pointer (some ⟨fb, 0, none⟩), .int .i32 (x : Int)] w fun e w' => e = .returned (.func (.func 57) #[] #[.pointer (some ⟨w.heap.size, 0, none⟩), .pointer (some ⟨w.heap.size + 1, 0, none⟩)]) ∧ (w.alloc (.cells #[.pointer (some ⟨fb, 0, none⟩)] 24)).alloc (.cells #[.int .i32 (x : Int)] 21) = w' := by
  go_enter Tryd.func49, Tryd.ntmps49
  go_wp2_with fail
  go_ret
  exact ⟨rfl, rfl⟩

theorem Turned.putObj (w : World) (l : Nat) (o : Obj) : Turned (fun k => k = l) w (w.putObj l o) :=
  ⟨rfl, rfl, rfl, by simp, fun k _ hk => World.putObj_heap_other hk⟩

/-- A range over a function whose body is never left: what holds between two rounds, and what the function itself may turn. -/
theorem ranged {P : Program} {g : Operand} {p : Tmp} {assign body : Code} {Q : Exit → Act → World → Prop} {a : Act} {w : World} {m gf : Nat} {lb : Array Value}
    (hg : a.eval g = .func (.func gf) #[] lb) (eg : ∀ args w, (callFunc gf args).run P w = .ok (.enter gf args) w)
    (enc : Nat → Value) (a1 : Nat → Act) (xs : List Nat) (I : List Nat → World → Prop) (Z : World → Prop) (S U : Nat → Prop) (h0 : I [] w)
    (hI : ∀ pre W W', I pre W → Turned (fun k => k = w.heap.size ∨ k = w.heap.size + 1) W W' → I pre W') (hZ : ∀ W W', Z W → Turned (fun k => k = w.heap.size ∨ k = w.heap.size + 1) W W' → Z W') (hIU : ∀ pre W W', I pre W → Turned U W W' → I pre W')
    (hS0 : ¬ S w.heap.size) (hS1 : ¬ S (w.heap.size + 1)) (hU0 : ¬ U w.heap.size) (hU1 : ¬ U (w.heap.size + 1))
    (hassign : ∀ (l x : Nat) (W : World) (K : Act → World → Prop), K (a1 x) W → assign.wpIn (Fence.wide.inRound l) m P (Exit.then K (fun _ _ _ => False)) { tmps := a.tmps.setIfInBounds p (enc x), defers := [] } W)
    (hbody : ∀ (l : Nat) (pre : List Nat) (x : Nat) (W : World), I pre W → (∃ suf, xs = pre ++ x :: suf) → body.wpIn (Fence.wide.inRound l) m P (fun e _ W' => e = .normal ∧ I (pre ++ [x]) W' ∧ Turned S W W') (a1 x) W)
    (hiter : ∀ (W1 : World) (J : List Nat → World → Prop), Below w.heap.size w W1 → J [] W1 → (∀ pre W, J pre W → I pre W) → (∀ pre W W', J pre W → Turned U W W' → J pre W') →
      (∀ (pre : List Nat) (d : Nat) (W : World), J pre W → (∃ suf, xs = pre ++ d :: suf) → YieldAt Fence.wide m P (w.heap.size + 1) #[enc d] W fun e W' => e = .returned (.bool true) ∧ J (pre ++ [d]) W' ∧ Turned (fun k => S k ∨ k = w.heap.size + 1) W W') →
      CallsIn Fence.wide (m + 1) P gf (#[.func (.yield (w.heap.size + 1)) #[] #[]] ++ lb) W1 fun e W' => (∃ u, e = .returned u) ∧ J xs W' ∧ Z W')
    (hdone : ∀ W, I xs W → Z W → W.heap[w.heap.size]? = some (.deferred (some [])) → Q .normal { a with defers := { target := .collected w.heap.size, args := #[] } :: a.defers } W) :
    (Code.rangeFunc g #[p] assign body).wpIn Fence.wide (m + 2) P Q a w := by
  refine wpIn_rangeFunc (fun fn hfn => ?_)
  have he := run_enterLoop_outer (P := P) (w := w) fn a.tmps #[p] assign body
  obtain ⟨r, hr⟩ : ∃ r : Loop, { state := .ready, pending := none, fn := fn, tmps := a.tmps, params := #[p], assign := assign, body := body, defers := w.heap.size } = r := ⟨_, rfl⟩
  rw [hr] at he
  have r1 : r.state = .ready := by rw [← hr]
  have r2 : r.params = #[p] := by rw [← hr]
  have r3 : r.pending = none := by rw [← hr]
  have r4 : r.fn = fn ∧ r.tmps = a.tmps ∧ r.assign = assign ∧ r.body = body := by rw [← hr]; exact ⟨rfl, rfl, rfl, rfl⟩
  clear hr
  obtain ⟨W1, hW1⟩ : ∃ W1, (w.alloc (.deferred (some []))).alloc (.loop r) = W1 := ⟨_, rfl⟩
  have hb1 : Below w.heap.size w W1 := by rw [← hW1]; exact ((Below.refl _ w).alloc (Nat.le_refl _) _).alloc (by simp) _
  have hl1 : W1.heap[w.heap.size + 1]? = some (.loop r) := by
    rw [← hW1]; have := World.alloc_heap_new (w.alloc (.deferred (some []))) (.loop r); rwa [World.size_alloc] at this
  have hd1 : W1.heap[w.heap.size]? = some (.deferred (some [])) := by
    rw [← hW1]; exact (Below.heap_alloc _ _ _ (by simp)).trans (World.alloc_heap_new w _)
  have ht1 : Turned (fun k => k = w.heap.size ∨ k = w.heap.size + 1) w W1 := Turned.ofBelow hb1 _
  rw [hW1] at he
  refine ⟨w.heap.size + 1, _, W1, { target := .fn (.func gf) lb, args := #[.func (.yield (w.heap.size + 1)) #[] #[]] }, W1, gf, #[.func (.yield (w.heap.size + 1)) #[] #[]] ++ lb, W1, he, ?_, fun _ _ => trivial, ?_, (fun h => by cases h), ?_⟩
  · simp only [resolve, hg]
    simp [go_sem]
  · simp [invoke, go_sem, eg]
  have hit := hiter W1 (fun pre W => I pre W ∧ W.heap[w.heap.size + 1]? = some (.loop r) ∧ W.heap[w.heap.size]? = some (.deferred (some []))) hb1 ⟨hI _ _ _ h0 ht1, hl1, hd1⟩ (fun _ _ h => h.1)
    (fun pre W W' h ht => ⟨hIU pre W W' h.1 ht, (ht.block _ (Array.getElem?_eq_some_iff.1 h.2.1).1 hU1).trans h.2.1, (ht.block _ (Array.getElem?_eq_some_iff.1 h.2.2).1 hU0).trans h.2.2⟩) ?_
  · refine hit.mono ?_
    rintro e W ⟨⟨u, rfl⟩, ⟨hi, hl, hd⟩, hz⟩
    have hend := run_endLoop (P := P) hl (by rw [r1]; simp)
    have tp := (Turned.putObj W (w.heap.size + 1) (.loop { r with state := .exhausted })).mono (S' := fun k => k = w.heap.size ∨ k = w.heap.size + 1) (fun k hk => Or.inr hk)
    have hd4 : (W.putObj (w.heap.size + 1) (.loop { r with state := .exhausted })).heap[w.heap.size]? = some (.deferred (some [])) := (World.putObj_heap_other (by omega)).trans hd
    generalize W.putObj (w.heap.size + 1) (.loop { r with state := .exhausted }) = W' at hend tp hd4
    rw [r3] at hend
    exact ⟨none, W', hend, hdone _ (hI _ _ _ hi tp) (hZ _ _ hz tp) hd4⟩
  · rintro pre d W ⟨hi, hl, hd⟩ hsp
    have hy := run_yield (P := P) (args := #[enc d]) hl (by rw [r2]; rfl)
    refine ⟨_, _, _, _, hy, ?_⟩
    rw [r2, r4.1, r4.2.1, r4.2.2.1, r4.2.2.2]
    obtain ⟨W2, hW2⟩ : ∃ W2, W.putObj (w.heap.size + 1) (.loop { r with state := .busy }) = W2 := ⟨_, rfl⟩
    have t2 : Turned (fun k => k = w.heap.size + 1) W W2 := by rw [← hW2]; exact Turned.putObj _ _ _
    have hl2 : W2.heap[w.heap.size + 1]? = some (.loop { r with state := .busy }) := by rw [← hW2]; exact World.putObj_heap_same (Array.getElem?_eq_some_iff.1 hl).1
    have hd2 : W2.heap[w.heap.size]? = some (.deferred (some [])) := (t2.block _ (Array.getElem?_eq_some_iff.1 hd).1 (by omega)).trans hd
    have hi2 := hI _ _ _ hi (t2.mono (S' := fun k => k = w.heap.size ∨ k = w.heap.size + 1) (fun k hk => Or.inr hk))
    rw [show ((#[p] : Array Tmp).zip #[enc d]).foldl (fun tmps (t, a) => tmps.setIfInBounds t a) a.tmps = a.tmps.setIfInBounds p (enc d) from by simp]
    refine roundIn_of_wpIn hfn (hassign _ d W _ ?_)
    refine ⟨W2, by rw [← hW2]; exact run_beginRound hl r1, ?_⟩
    refine wpIn_mono (hbody _ pre d W2 hi2 hsp) ?_
    rintro e a3 W3 ⟨rfl, hi3, t3⟩
    have hl3 : W3.heap[w.heap.size + 1]? = some (.loop { r with state := .busy }) := (t3.block _ (Array.getElem?_eq_some_iff.1 hl2).1 hS1).trans hl2
    have hd3 : W3.heap[w.heap.size]? = some (.deferred (some [])) := (t3.block _ (Array.getElem?_eq_some_iff.1 hd2).1 hS0).trans hd2
    have t4 := Turned.putObj W3 (w.heap.size + 1) (.loop r)
    have hend := run_endRound (P := P) none hl3
    have er : ({ { r with state := .busy } with state := if (none : Option Code).isNone then .ready else .done, pending := none } : Loop) = r := by
      cases r
      simp_all
    rw [er] at hend
    refine ⟨_, _, hend, rfl, ⟨hI _ _ _ hi3 (t4.mono (S' := fun k => k = w.heap.size ∨ k = w.heap.size + 1) (fun k hk => Or.inr hk)), World.putObj_heap_same (Array.getElem?_eq_some_iff.1 hl3).1, (World.putObj_heap_other (by omega)).trans hd3⟩, ?_⟩
    exact ((t2.mono (fun k hk => Or.inr hk)).trans (t3.mono (fun k hk => Or.inl hk))).trans (t4.mono (fun k hk => Or.inr hk))

/-- The row while it is filled from its end on. -/
def rowAt (M : Nat) (pre : List Nat) : List Value := List.replicate (M - pre.length) (.int .i64 0) ++ (pre.map itm).reverse

theorem rowAt_step {M j d : Nat} {pre : List Nat} (hM : M = pre.length + (j + 1)) : (rowAt M pre).set j (itm d) = rowAt M (pre ++ [d]) := by
  unfold rowAt
  have e1 : M - pre.length = j + 1 := by omega
  have e2 : M - (pre ++ [d]).length = j := by simp; omega
  rw [e1, e2, List.set_append_left _ _ (by simp), List.map_append, List.reverse_append]
  have : (List.replicate (j + 1) (Value.int .i64 0)).set j (itm d) = List.replicate j (.int .i64 0) ++ [itm d] := by
    rw [List.replicate_succ', List.set_append_right _ _ (by simp)]
    simp
  rw [this]; simp

/-- What the loop keeps: how many are left; the row; where the row is kept. -/
def Fill (s M : Nat) (pre : List Nat) (W : World) : Prop := W.heap[s]? = some (.cells #[.int .i64 ((M - pre.length : Nat) : Int)] 3 (0, 0)) ∧ W.heap[s + 1]? = some (.cells (rowAt M pre).toArray 3 (0, 0)) ∧ W.heap[s + 1 + 1]? = some (.cells #[.slice (some ⟨s + 1, 0, none⟩) M M] 40 (0, 0))

theorem Fill.turned {s M : Nat} {pre : List Nat} {W W' : World} {S : Nat → Prop} (h : Fill s M pre W) (ht : Turned S W W') (h1 : ¬ S s) (h2 : ¬ S (s + 1)) (h3 : ¬ S (s + 1 + 1)) : Fill s M pre W' :=
  ⟨(ht.block _ (Array.getElem?_eq_some_iff.1 h.1).1 h1).trans h.1, (ht.block _ (Array.getElem?_eq_some_iff.1 h.2.1).1 h2).trans h.2.1, (ht.block _ (Array.getElem?_eq_some_iff.1 h.2.2).1 h3).trans h.2.2⟩

theorem Fill.step {s M j d : Nat} {pre : List Nat} {W : World} (h : Fill s M pre W) (hM : M = pre.length + (j + 1)) :
    Fill s M (pre ++ [d]) ((W.setCell ⟨s, 0, none⟩ (.int .i64 (j : Int))).setCell ⟨s + 1, j, none⟩ (itm d)) ∧ Turned (fun k => k = s ∨ k = s + 1) W ((W.setCell ⟨s, 0, none⟩ (.int .i64 (j : Int))).setCell ⟨s + 1, j, none⟩ (itm d)) := by
  obtain ⟨h1, h2, h3⟩ := h
  refine ⟨⟨?_, ?_, ?_⟩, ((Turned.refl _ _).setCell (p := ⟨s, 0, none⟩) (Or.inl rfl) _).setCell (p := ⟨s + 1, j, none⟩) (Or.inr rfl) _⟩
  · rw [Below.heap_setCell _ _ _ _ (by show s ≠ s + 1; omega)]
    unfold World.setCell
    rw [Array.getElem?_modify, if_pos rfl, h1]
    simp only [Option.map_some]
    rw [show M - (pre ++ [d]).length = j from by simp; omega]
    simp
  · unfold World.setCell
    rw [Array.getElem?_modify, if_pos rfl, Array.getElem?_modify, if_neg (by show ¬ s = s + 1; omega), h2]
    simp only [Option.map_some, Option.some.injEq]
    rw [← rowAt_step hM]
    simp
  · rw [Below.heap_setCell _ _ _ _ (by show s + 1 + 1 ≠ s + 1; omega), Below.heap_setCell _ _ _ _ (by show s + 1 + 1 ≠ s; omega)]
    exact h3

/-- How many are left, read off memory. -/
def lefts (s : Nat) (W : World) : Nat := match W.cell? ⟨s, 0, none⟩ with
  | some (.int _ k) => k.toNat
  | _ => 0

theorem Fill.lefts {s M : Nat} {pre : List Nat} {W : World} (h : Fill s M pre W) : lefts s W = M - pre.length := by
  have : W.cell? ⟨s, 0, none⟩ = some (.int .i64 ((M - pre.length : Nat) : Int)) := by unfold World.cell?; rw [h.1]; simp
  unfold Go.Proofs.YtnkgpjjlgbggcaaDoor.lefts
  rw [this]
  simp

section
variable {lo fb n : Nat} {w w0 : World} {v : Nat → Int} {adj : Nat → Nat → Prop}

set_option maxRecDepth 100000 in
set_option maxHeartbeats 2000000 in
theorem FS.listY (h : FS lo w fb n v adj w0) (x y : Nat) (hx : x < n) (hy : y < n) (l : List Nat) (hl : Rd adj (x + 1) (y + 1) l) :
    Calls Tryd.prog 29 #[.pointer (some ⟨fb, 0, none⟩), .int .i64 (x : Int), .int .i64 (y : Int)] w0 fun e w' => ∃ u, e = .returned (.tuple #[u, .nilIface]) ∧ Rb w' u l ∧ FS lo w fb n v adj w' ∧ Keep w0 w' := by
  have hr := h.roadY x y hx hy l hl
  obtain ⟨Y, hY⟩ : ∃ Y, y + 1 = Y := ⟨_, rfl⟩
  rw [hY] at hr
  have hr := hid hr
  have hYh := hid hY
  clear h hl hY
  refine (callsIn_wide (n := 9)).1 ?_
  refine callsIn_of_wp_marks Tryd.func29 rfl trivial ?_ rfl
  simp only [Tryd.ntmps29, List.size_toArray, List.length_cons, List.length_nil, Nat.reduceAdd, Nat.reduceSub, Array.replicate_succ, Array.replicate_zero, List.push_toArray, List.append_toArray, List.nil_append, List.cons_append]
  gi_wp2_with (refine ⟨trivial, ?_⟩; gi_at_call 20; refine (callsIn_wide.2 hr.out).mono ?_; rintro e w1 ⟨rfl, h1⟩)
  have hz := h1.size
  rw [hYh.out] at hz
  obtain ⟨nb, N, T, sub, seq, pp, par, h1, hxN, hyN, hu, ht, hp, hs, _⟩ := h1
  have hM : l.length ≤ 8388700 := by
    rw [← hs]
    have := h1.lc.gd.seq_len (x := y + 1) (by omega)
    have := h1.fo.big
    omega
  rw [hYh.out] at hyN hu ht hp hs
  obtain ⟨M, hMl⟩ : ∃ M, l.length = M := ⟨_, rfl⟩
  rw [hMl] at hz hM
  have hmk := make_ints M hM
  have hz := hid hz
  have hY0 : Hid (Y ≠ 0) := hid (by have := hYh.out; omega)
  have h1 := hid h1
  have hu := hid hu
  have hp := hid hp
  have hs := hid hs
  have hMl := hid hMl
  clear hr ht
  gi_wp2_with (refine ⟨trivial, ?_⟩; gi_at_call 17; refine (callsIn_wide.2 hz.out).mono ?_; rintro e w2 ⟨rfl, rfl⟩)
  obtain ⟨s, hs0⟩ : ∃ s, w1.heap.size = s := ⟨_, rfl⟩
  gi_wp2_with (refine ⟨trivial, ?_⟩; gi_at_call 49; refine (callsIn_wide.2 (backwards_ok fb Y _)).mono ?_; rintro e w5 ⟨rfl, hw5⟩)
  rw [hs0] at hw5
  have hsz : w5.heap.size = s + 5 := by rw [← hw5]; simp [hs0]
  have hcl : w5.heap[s]? = some (.cells #[.int .i64 (M : Int)] 3 (0, 0)) := by
    rw [← hw5, Below.heap_alloc _ _ _ (by simp; omega), Below.heap_alloc _ _ _ (by simp; omega), Below.heap_alloc _ _ _ (by simp; omega), Below.heap_alloc _ _ _ (by simp; omega), ← hs0]
    exact World.alloc_heap_new _ _
  have hco : w5.heap[s + 1]? = some (.cells (Array.replicate M (.int .i64 0)) 3 (0, 0)) := by
    rw [← hw5, Below.heap_alloc _ _ _ (by simp; omega), Below.heap_alloc _ _ _ (by simp; omega), Below.heap_alloc _ _ _ (by simp; omega)]
    have := World.alloc_heap_new (w1.alloc (.cells #[.int .i64 (M : Int)] 3)) (.cells (Array.replicate M (.int .i64 0)) 3)
    rw [World.size_alloc, hs0] at this
    exact this
  have hcx : w5.heap[s + 1 + 1]? = some (.cells #[.slice (some ⟨s + 1, 0, none⟩) M M] 40 (0, 0)) := by
    rw [← hw5, Below.heap_alloc _ _ _ (by simp; omega), Below.heap_alloc _ _ _ (by simp; omega)]
    have := World.alloc_heap_new ((w1.alloc (.cells #[.int .i64 (M : Int)] 3)).alloc (.cells (Array.replicate M (.int .i64 0)) 3)) (.cells #[.slice (some ⟨s + 1, 0, none⟩) M M] 40)
    rw [World.size_alloc, World.size_alloc, hs0] at this
    exact this
  have hcf : FBox w5 (s + 1 + 1 + 1) fb := by
    rw [← hw5]
    unfold FBox
    rw [Below.heap_alloc _ _ _ (by simp; omega)]
    have := World.alloc_heap_new (((w1.alloc (.cells #[.int .i64 (M : Int)] 3)).alloc (.cells (Array.replicate M (.int .i64 0)) 3)).alloc (.cells #[.slice (some ⟨s + 1, 0, none⟩) M M] 40)) (.cells #[.pointer (some ⟨fb, 0, none⟩)] 24)
    rw [World.size_alloc, World.size_alloc, World.size_alloc, hs0] at this
    exact this
  have hct : XBox w5 (s + 1 + 1 + 1 + 1) Y := by
    rw [← hw5]
    unfold XBox
    have := World.alloc_heap_new ((((w1.alloc (.cells #[.int .i64 (M : Int)] 3)).alloc (.cells (Array.replicate M (.int .i64 0)) 3)).alloc (.cells #[.slice (some ⟨s + 1, 0, none⟩) M M] 40)).alloc (.cells #[.pointer (some ⟨fb, 0, none⟩)] 24)) (.cells #[.int .i32 (Y : Int)] 21)
    rw [World.size_alloc, World.size_alloc, World.size_alloc, World.size_alloc, hs0] at this
    exact this
  have h5 : HS lo w w0 fb n nb N T v sub seq pp par adj w5 := by rw [← hw5]; exact ((((h1.out.alloc _).alloc _).alloc _).alloc _).alloc _
  have hfbs : fb < s := by rw [← hs0]; exact h1.out.fo.lt.1
  have hnbs : nb < s := by rw [← hs0]; exact h1.out.fo.lt.2
  have hlos : lo ≤ s := by rw [← hs0]; exact Nat.le_trans h1.out.lw h1.out.below.size
  have hks : ∀ (k : Nat) (cs : Array Value) (t : TypeId) (fr : Nat × Nat), w0.heap[k]? = some (.cells cs t fr) → t ≠ 49 → t ≠ 53 → k < s := fun k cs t fr hk a b => by rw [← hs0]; exact (Array.getElem?_eq_some_iff.1 (h1.out.keep k cs t fr hk a b)).1
  have hf0 : Fill s M [] w5 := ⟨by rw [hcl]; simp, by rw [hco]; simp [rowAt], hcx⟩
  have hlr : seq Y = l := hs.out
  have hlM : l.length = M := hMl.out
  have hlast : ∀ d, d ∈ l → d ≠ 0 ∧ d < 8388700 := fun d hd => by
    rw [← hlr] at hd
    refine ⟨h1.out.lc.ne hY0.out d hd, ?_⟩
    have : d < N := by
      rw [h1.out.lc.gd.inv.root Y hY0.out hu.out] at hd
      by_cases e : d = Y
      · rw [e]; exact hyN
      · exact h1.out.lc.gd.lt (h1.out.lc.gd.inv.sub_up hY0.out hd e)
    have := h1.out.fo.big
    omega
  have h5 := hid h5
  have hfbs := hid hfbs
  have hnbs := hid hnbs
  have hlos := hid hlos
  have hks := hid hks
  have hf0 := hid hf0
  have hcf := hid hcf
  have hct := hid hct
  have hlr := hid hlr
  have hlM := hid hlM
  have hlast := hid hlast
  have hszh := hid hsz
  clear hw5 hcl hco hcx hs0 hmk hz
  refine ranged (m := 7) (gf := 57) (lb := #[.pointer (some ⟨s + 1 + 1 + 1, 0, none⟩), .pointer (some ⟨s + 1 + 1 + 1 + 1, 0, none⟩)]) rfl (enters_of Tryd.func57 (by kernel_rfl) rfl) (fun d => .int .i32 (d : Int))
    (fun d => { tmps := #[.pointer (some ⟨fb, 0, none⟩), .int .i64 (x : Int), .int .i64 (y : Int), undef, undef, undef, .slice none 0 0, .nilIface, .int .i32 (Y : Int), .nilIface, .pointer (some ⟨s, 0, none⟩), .pointer (some ⟨s + 1 + 1, 0, none⟩), .int .i32 (d : Int), .tuple #[.int .i32 (Y : Int), .nilIface], .pointer (some ⟨fb, 0, none⟩), .int .i64 (x : Int), .int .i64 (y : Int), .tuple #[.int .i32 (Y : Int), .nilIface], .int .i32 (Y : Int), .nilIface, .nilIface, .bool false, undef, .pointer (some ⟨fb, 0, none⟩), .int .i32 (Y : Int), .int .i64 (M : Int), .int .i64 (M : Int), .slice (some ⟨s + 1, 0, none⟩) M M, .pointer (some ⟨fb, 0, none⟩), .int .i32 (Y : Int), .func (.func 57) #[] #[.pointer (some ⟨s + 1 + 1 + 1, 0, none⟩), .pointer (some ⟨s + 1 + 1 + 1 + 1, 0, none⟩)], .int .i32 (d : Int), undef, undef, undef, undef, undef, undef, undef, undef], defers := [] })
    l.reverse (Fill s M) (fun W => ∃ T' sub', HS lo w w0 fb n nb N T' v sub' seq pp par adj W) (fun k => k = s ∨ k = s + 1) (fun k => k = nb) hf0.out ?hI ?hZ ?hIU ?hS0 ?hS1 ?hU0 ?hU1 ?assign ?body ?iter ?done
  case assign =>
    intro l0 d W K hK
    gi_wp2
    exact hK
  case hI => exact fun pre W W' h ht => h.turned ht (by have := hszh.out; omega) (by have := hszh.out; omega) (by have := hszh.out; omega)
  case hZ =>
    rintro W W' ⟨T', sub', h'⟩ ht
    have e1 := hszh.out
    have e2 := hfbs.out
    have e3 := hnbs.out
    have e4 := hlos.out
    exact ⟨T', sub', h'.under ht (by omega) (by omega) (fun k hk => ⟨by omega, fun cs t fr a b c => by have := hks.out k cs t fr a b c; omega⟩)⟩
  case hIU => exact fun pre W W' h ht => h.turned ht (by have := hnbs.out; omega) (by have := hnbs.out; omega) (by have := hnbs.out; omega)
  case hS0 => have := hszh.out; omega
  case hS1 => have := hszh.out; omega
  case hU0 => have := hszh.out; have := hnbs.out; omega
  case hU1 => have := hszh.out; have := hnbs.out; omega
  case body =>
    rintro l0 pre d W hi ⟨suf, hsp⟩
    have hdl : d ∈ l := by rw [← List.mem_reverse, hsp]; simp
    obtain ⟨hd0, hdN⟩ := hlast.out d hdl
    obtain ⟨j, hj⟩ : ∃ j, M = pre.length + (j + 1) := ⟨suf.length, by rw [← hlM.out, ← List.length_reverse, hsp]; simp⟩
    have hst := hid (hi.step (d := d) hj)
    have hjM : j < M := by omega
    obtain ⟨e, rfl⟩ : ∃ e, d = e + 1 := ⟨d - 1, by omega⟩
    have hit := item_ok e (by omega)
    have cl : W.cell? ⟨s, 0, none⟩ = some (.int .i64 ((j : Int) + 1)) := by
      unfold World.cell?; rw [hi.1, show M - pre.length = j + 1 from by omega]; simp
    have fl : W.frozen? ⟨s, 0, none⟩ = false := by unfold World.frozen?; rw [hi.1]; simp
    have cx : (W.setCell ⟨s, 0, none⟩ (.int .i64 (j : Int))).cell? ⟨s + 1 + 1, 0, none⟩ = some (.slice (some ⟨s + 1, 0, none⟩) M M) := by
      rw [World.cell?_setCell_far _ _ _ _ (by show s ≠ s + 1 + 1; omega)]; unfold World.cell?; rw [hi.2.2]; simp
    have cl2 : (W.setCell ⟨s, 0, none⟩ (.int .i64 (j : Int))).cell? ⟨s, 0, none⟩ = some (.int .i64 (j : Int)) := World.cell?_setCell_same' _ _ _ (by rw [cl]; rfl)
    have co : ∃ u, (W.setCell ⟨s, 0, none⟩ (.int .i64 (j : Int))).cell? ⟨s + 1, j, none⟩ = some u := by
      rw [World.cell?_setCell_far _ _ _ _ (by show s ≠ s + 1; omega)]; unfold World.cell?; rw [hi.2.1]; simp
      refine ⟨_, List.getElem?_eq_getElem (by simp [rowAt]; omega)⟩
    obtain ⟨u, co⟩ := co
    have fo : (W.setCell ⟨s, 0, none⟩ (.int .i64 (j : Int))).frozen? ⟨s + 1, j, none⟩ = false := by
      rw [World.frozen?_setCell]; unfold World.frozen?; rw [hi.2.1]; simp
    rw [show ((e + 1 : Nat) : Int) = (e : Int) + 1 from by omega] at hit ⊢
    have eit : itm (e + 1) = .int .i64 (e : Int) := by unfold itm; congr 1; omega
    rw [eit] at hst
    have q1 : (0 : Int) ≤ (j : Int) := by omega
    have q2 : (j : Int) < (M : Int) := by omega
    have q3 : (j : Int) < 8388700 := by omega
    have hmx : Tryd.prog.follows .mixedOrders = true := by kernel_rfl
    have hit := hid hit
    clear hi hsp hj eit hdl hd0
    gi_wp2
    generalize W.setCell ⟨s, 0, none⟩ (.int .i64 (j : Int)) = W2 at cx cl2 co fo hst ⊢
    gi_region_with_o (refine ⟨trivial, ?_⟩; gi_at_call 50; refine (CallsIn.inRound l0 (callsIn_wide.2 (hit.out _))).mono ?_; rintro e w' ⟨rfl, rfl⟩)
    all_goals gi_wp2
    all_goals exact ⟨hst.out.1, hst.out.2.drew⟩
  case iter =>
    intro W1 J hb hj0 hji hju hjy
    have e1 := hszh.out
    have e2 := hfbs.out
    have e3 := hnbs.out
    have e4 := hlos.out
    have hback := back1_in (m := 8) (l := w5.heap.size + 1) (b1 := s + 1 + 1 + 1) (b2 := s + 1 + 1 + 1 + 1) (x := Y) (S := fun k => (k = s ∨ k = s + 1) ∨ k = w5.heap.size + 1) (J := J) (mu := lefts s) (by omega)
      (h5.out.more hb) hY0.out hyN hu.out hp.out ((hb.block _ (by omega)).trans hcf.out) ((hb.block _ (by omega)).trans hct.out) (by omega) (by omega) (by omega) (by omega) (fun k hk => ⟨by omega, fun cs t fr a b c => by have := hks.out k cs t fr a b c; omega⟩) (by omega) (by omega)
      hju (fun pre W h => by rw [(hji pre W h).lefts, hlr.out, hlM.out]) hj0 (by rw [hlr.out]; exact hjy)
    rw [hlr.out] at hback
    exact hback
  case done =>
    rintro W hi ⟨T', sub', h'⟩ hdf
    have cx : W.cell? ⟨s + 1 + 1, 0, none⟩ = some (.slice (some ⟨s + 1, 0, none⟩) M M) := by unfold World.cell?; rw [hi.2.2]; simp
    have e1 := hszh.out
    have e2 := hfbs.out
    have e3 := hnbs.out
    have e4 := hlos.out
    have ht := (Turned.putObj W w5.heap.size (.deferred none))
    have h6 := hid (h'.under ht (by omega) (by omega) (fun k hk => ⟨by omega, fun cs t fr a b c => by have := hks.out k cs t fr a b c; omega⟩))
    have hrb : Hid (Rb (W.putObj w5.heap.size (.deferred none)) (.slice (some ⟨s + 1, 0, none⟩) M M) l) := hid (by
      refine ⟨s + 1, by rw [hlM.out], ?_⟩
      rw [ht.block _ (Array.getElem?_eq_some_iff.1 hi.2.1).1 (by omega), hi.2.1]
      unfold rowAt
      rw [List.length_reverse, hlM.out]
      simp)
    have hdf := hid hdf
    clear hi h' ht
    gi_wp2
    refine ⟨by simp, .inl ⟨_, _, rfl, run_takeDeferred hdf.out, ?_⟩⟩
    exact ⟨_, results_tmp2 rfl _ _ _, _, rfl, hrb.out, h6.out.end_, h6.out.keep⟩
set_option maxRecDepth 100000 in
set_option maxHeartbeats 1000000 in
theorem FS.listN (h : FS lo w fb n v adj w0) (x y : Nat) (hx : x < n) (hy : y < n) (hl : ∀ l, ¬ Rd adj (x + 1) (y + 1) l) :
    Calls Tryd.prog 29 #[.pointer (some ⟨fb, 0, none⟩), .int .i64 (x : Int), .int .i64 (y : Int)] w0 fun e w' => e = .returned (.tuple #[.slice none 0 0, (.iface 46 (.int .i64 21))]) ∧ FS lo w fb n v adj w' ∧ Keep w0 w' := by
  have hs := hid (h.roadN x y hx hy hl)
  go_enter Tryd.func29, Tryd.ntmps29
  go_wp2_with fail
  refine hs.out.mono ?_
  rintro e w1 ⟨rfl, h1⟩
  have h1 := hid h1
  go_wp2_with fail
  go_ret2
  exact ⟨rfl, h1.out⟩

set_option maxRecDepth 100000 in
set_option maxHeartbeats 1000000 in
theorem FS.list_bad (h : FS lo w fb n v adj w0) (x y : Int) (hx : ¬ ((0 ≤ x ∧ x < (n : Int)) ∧ (0 ≤ y ∧ y < (n : Int)))) :
    Calls Tryd.prog 29 #[.pointer (some ⟨fb, 0, none⟩), .int .i64 x, .int .i64 y] w0 fun e w' => e = .returned (.tuple #[.slice none 0 0, (.iface 46 (.int .i64 12))]) ∧ FS lo w fb n v adj w' ∧ Keep w0 w' := by
  have hs := hid (h.road_bad x y hx)
  go_enter Tryd.func29, Tryd.ntmps29
  go_wp2_with fail
  refine hs.out.mono ?_
  rintro e w1 ⟨rfl, h1⟩
  have h1 := hid h1
  go_wp2_with fail
  go_ret2
  exact ⟨rfl, h1.out⟩

set_option maxRecDepth 100000 in
set_option maxHeartbeats 1000000 in
theorem list_nil (x y : Int) (w0 : World) :
    Calls Tryd.prog 29 #[.pointer none, .int .i64 x, .int .i64 y] w0 fun e w' => e = .returned (.tuple #[.slice none 0 0, (.iface 46 (.int .i64 1))]) ∧ Below w0.heap.size w0 w' := by
  have hs := hid (road_nil x y w0)
  go_enter Tryd.func29, Tryd.ntmps29
  go_wp2_with fail
  refine hs.out.mono ?_
  rintro e w1 ⟨rfl, h1⟩
  have h1 := hid h1
  go_wp2_with fail
  go_ret2
  exact ⟨rfl, h1.out⟩

end

end Go.Proofs.YtnkgpjjlgbggcaaDoor
