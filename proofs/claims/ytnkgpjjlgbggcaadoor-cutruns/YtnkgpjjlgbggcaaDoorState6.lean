/- Where a call of the Forest stands; 'expose', 'root', 'size', 'node', 'place', walked. -/
import Derived.Test.YtnkgpjjlgbggcaaDoorRaise
import Derived.Test.YtnkgpjjlgbggcaaDoorLook4
import Derived.Test.YtnkgpjjlgbggcaaDoorActs
namespace Go.Proofs.YtnkgpjjlgbggcaaDoor
open Go.RowKit
set_option linter.unusedVariables false

theorem ret_int {k : IntKind} {a b : Int} (h : a = b) : Ending.returned (.int k a) = .returned (.int k b) := by rw [h]

/-- What is neither nodes nor a Forest is as it was. -/
def Keep (w w' : World) : Prop := ∀ (k : Nat) (cs : Array Value) (t : TypeId) (fr : Nat × Nat), w.heap[k]? = some (.cells cs t fr) → t ≠ 49 → t ≠ 53 → w'.heap[k]? = some (.cells cs t fr)

theorem Keep.refl (w : World) : Keep w w := fun _ _ _ _ h _ _ => h
theorem Keep.trans {a b c : World} (h : Keep a b) (k : Keep b c) : Keep a c := fun i cs t fr hi h1 h2 => k i cs t fr (h i cs t fr hi h1 h2) h1 h2
theorem Keep.ofBelow {w w' : World} (h : Below w.heap.size w w') : Keep w w' := fun k cs t fr hk _ _ => (h.block k (Array.getElem?_eq_some_iff.1 hk).1).trans hk
theorem Keep.alloc {a w : World} (h : Keep a w) (o : Obj) : Keep a (w.alloc o) := h.trans (Keep.ofBelow ((Below.refl _ _).alloc (Nat.le_refl _) o))

theorem Keep.ofNodes {w w' : World} {fb nb n N : Nat} {T : Tb} (h : Fo w fb nb n N T) (ht : Turned (fun k => k = nb) w w') : Keep w w' := fun k cs t fr hk h1 _ =>
  (ht.block k (Array.getElem?_eq_some_iff.1 hk).1 (fun e => by rw [e, h.nodes] at hk; injection hk with hk; injection hk with _ hk; exact h1 hk.symm)).trans hk

theorem Keep.ofSelf {w w' : World} {fb nb n N : Nat} {T : Tb} (h : Fo w fb nb n N T) (ht : Turned (fun k => k = fb) w w') : Keep w w' := fun k cs t fr hk _ h2 =>
  (ht.block k (Array.getElem?_eq_some_iff.1 hk).1 (fun e => by rw [e, h.self] at hk; injection hk with hk; injection hk with _ hk; exact h2 hk.symm)).trans hk

/-- A Forest that was made since w: its values, its links. -/
structure FS (lo : Nat) (w : World) (fb n : Nat) (v : Nat → Int) (adj : Nat → Nat → Prop) (wr : World) : Prop where
  st : ∃ nb N T sub seq pp par, Fo wr fb nb n N (real T pp) ∧ Lc N T v sub seq pp par ∧ (∀ x y, adj x y ↔ Adj par x y) ∧ N ≤ n + 1 ∧ lo ≤ nb
  flo : lo ≤ fb
  below : Below lo w wr
  n1 : 1 ≤ n
  n2 : n ≤ 8388608
  lw : lo ≤ w.heap.size

/-- In a call that began at w0. -/
structure HS (lo : Nat) (w w0 : World) (fb n nb N : Nat) (T : Tb) (v : Nat → Int) (sub seq : Nat → List Nat) (pp par : Nat → Nat) (adj : Nat → Nat → Prop) (wr : World) : Prop where
  fo : Fo wr fb nb n N (real T pp)
  lc : Lc N T v sub seq pp par
  he : ∀ x y, adj x y ↔ Adj par x y
  hN : N ≤ n + 1
  nlo : lo ≤ nb
  flo : lo ≤ fb
  below : Below lo w wr
  n1 : 1 ≤ n
  n2 : n ≤ 8388608
  lw : lo ≤ w.heap.size
  keep : Keep w0 wr

section
variable {lo fb n nb N : Nat} {w w0 wr : World} {T : Tb} {v : Nat → Int} {sub seq : Nat → List Nat} {pp par : Nat → Nat} {adj : Nat → Nat → Prop}

theorem FS.start (h : FS lo w fb n v adj wr) : ∃ nb N T sub seq pp par, HS lo w wr fb n nb N T v sub seq pp par adj wr := by
  obtain ⟨nb, N, T, sub, seq, pp, par, h1, h2, h3, h4, h5⟩ := h.st
  exact ⟨nb, N, T, sub, seq, pp, par, h1, h2, h3, h4, h5, h.flo, h.below, h.n1, h.n2, h.lw, Keep.refl _⟩

theorem FS.wood (h : FS lo w fb n v adj wr) : Wood adj := by
  obtain ⟨nb, N, T, sub, seq, pp, par, h1, h2, h3, h4, h5⟩ := h.st
  exact ⟨par, h3, h2.acy⟩

theorem HS.wood (h : HS lo w w0 fb n nb N T v sub seq pp par adj wr) : Wood adj := ⟨par, h.he, h.lc.acy⟩

theorem HS.end_ (h : HS lo w w0 fb n nb N T v sub seq pp par adj wr) : FS lo w fb n v adj wr := ⟨⟨nb, N, T, sub, seq, pp, par, h.fo, h.lc, h.he, h.hN, h.nlo⟩, h.flo, h.below, h.n1, h.n2, h.lw⟩

theorem HS.more (h : HS lo w w0 fb n nb N T v sub seq pp par adj wr) {w' : World} (hb : Below wr.heap.size wr w') : HS lo w w0 fb n nb N T v sub seq pp par adj w' :=
  ⟨h.fo.of (Turned.ofBelow hb (fun _ => False)) (fun e => e) (fun e => e), h.lc, h.he, h.hN, h.nlo, h.flo, h.below.trans (hb.mono (Nat.le_trans h.lw h.below.size)), h.n1, h.n2, h.lw, h.keep.trans (Keep.ofBelow hb)⟩

theorem HS.alloc (h : HS lo w w0 fb n nb N T v sub seq pp par adj wr) (o : Obj) : HS lo w w0 fb n nb N T v sub seq pp par adj (wr.alloc o) := h.more ((Below.refl _ _).alloc (Nat.le_refl _) o)
theorem HS.drew (h : HS lo w w0 fb n nb N T v sub seq pp par adj wr) : HS lo w w0 fb n nb N T v sub seq pp par adj wr.drew := h.more (Below.refl _ _).drew

/-- The spots turn. -/
theorem HS.turn (h : HS lo w w0 fb n nb N T v sub seq pp par adj wr) {w' : World} {T' : Tb} {v' : Nat → Int} {sub' seq' : Nat → List Nat} {pp' par' : Nat → Nat} {adj' : Nat → Nat → Prop} (hf : Fo w' fb nb n N (real T' pp')) (hg : Lc N T' v' sub' seq' pp' par') (he : ∀ x y, adj' x y ↔ Adj par' x y) (ht : Turned (fun k => k = nb) wr w') : HS lo w w0 fb n nb N T' v' sub' seq' pp' par' adj' w' :=
  ⟨hf, hg, he, h.hN, h.nlo, h.flo, h.below.trans (ht.below (fun k hk => by rw [hk]; exact h.nlo) (Nat.le_trans h.lw h.below.size)), h.n1, h.n2, h.lw, h.keep.trans (Keep.ofNodes h.fo ht)⟩

theorem FS.more (h : FS lo w fb n v adj wr) {w' : World} (hb : Below wr.heap.size wr w') : FS lo w fb n v adj w' := by
  obtain ⟨nb, N, T, sub, seq, pp, par, hs⟩ := h.start
  exact (hs.more hb).end_

theorem FS.alloc (h : FS lo w fb n v adj wr) (o : Obj) : FS lo w fb n v adj (wr.alloc o) := h.more ((Below.refl _ _).alloc (Nat.le_refl _) o)
theorem FS.drew (h : FS lo w fb n v adj wr) : FS lo w fb n v adj wr.drew := h.more (Below.refl _ _).drew

theorem HS.raise (h : HS lo w w0 fb n nb N T v sub seq pp par adj wr) (x : Nat) (hx0 : x ≠ 0) (hx : x < N) :
    Calls Tryd.prog 23 #[.pointer (some ⟨fb, 0, none⟩), .int .i32 (x : Int)] wr fun e w' => e = .returned (.tuple #[]) ∧ ∃ T' sub', HS lo w w0 fb n nb N T' v sub' seq pp par adj w' ∧ Ms N v seq x T T' sub' ∧ (T' x).up = 0 ∧ (T' x).t = false := by
  refine (raise_ok fb nb n N x T v sub seq pp par wr h.fo h.lc hx0 hx).mono ?_
  rintro e w' ⟨rfl, T', sub', h1, h2, h3, h4, h5⟩
  exact ⟨rfl, T', sub', h.turn h1 (h.lc.of h2.gd) h.he h5, h2, h3, h4⟩

set_option maxRecDepth 100000 in
set_option maxHeartbeats 1000000 in
theorem place_ok (x : Nat) (hx : x + 1 < 8388700) (w : World) : Calls Tryd.prog 19 #[.int .i64 (x : Int)] w fun e w' => e = .returned (.int .i32 ((x + 1 : Nat) : Int)) ∧ w = w' := by
  rw [show ((x + 1 : Nat) : Int) = (x : Int) + 1 from by omega]
  go_enter Tryd.func19, Tryd.ntmps19
  go_wp2_with fail
  go_ret
  exact ⟨ret_int (by omega), rfl⟩

/-- The nodes are there. -/
theorem HS.grew (h : HS lo w w0 fb n nb N T v sub seq pp par adj wr) {nb' N' : Nat} {w' : World} (h1 : Fo w' fb nb' n N' (real T pp)) (h2 : N ≤ N') (h3 : N' ≤ n + 1) (h5 : nb' = nb ∨ wr.heap.size ≤ nb') (h6 : Turned (fun k => k = fb) wr w') : HS lo w w0 fb n nb' N' T v sub seq pp par adj w' := by
  have hp := h.lc.gd.pos
  refine ⟨h1, ⟨⟨h.lc.gd.inv, fun i hi => h.lc.gd.zero i (by omega), by omega, h1.big⟩, h.lc.p0, fun x => by have := h.lc.plt x; omega, fun x hx => h.lc.pN x (by omega), h.lc.pst, h.lc.chn, h.lc.acy⟩, h.he, h3, ?_, h.flo, h.below.trans (h6.below (fun k hk => by rw [hk]; exact h.flo) (Nat.le_trans h.lw h.below.size)), h.n1, h.n2, h.lw, h.keep.trans (Keep.ofSelf h.fo h6)⟩
  rcases h5 with rfl | h5
  · exact h.nlo
  · have := h.below.size; have := h.lw; omega

/-- The one node is there. -/
theorem FS.look1 (h : FS lo w fb n v adj w0) (x : Nat) (hx : x < n) :
    Calls Tryd.prog 22 #[.pointer (some ⟨fb, 0, none⟩), .slice (some ⟨w0.heap.size, 0, none⟩) 1 1] (w0.alloc (.cells #[.int .i64 (x : Int)] 3)) fun e w' => e = .returned .nilIface ∧ ∃ nb N T sub seq pp par, HS lo w w0 fb n nb N T v sub seq pp par adj w' ∧ x + 1 < N := by
  obtain ⟨nb, N, T, sub, seq, pp, par, hs⟩ := h.start
  have ha := hs.alloc (.cells #[.int .i64 (x : Int)] 3)
  refine (look_ok fb nb w0.heap.size n N (real T pp) [(x : Int)] _ ha.fo ha.lc.zero ha.lc.gd.pos ha.hN ha.n2 (heap_alloc_new w0 _) (by simp) (by intro z hz; simp at hz; subst hz; omega)).mono ?_
  rintro e w' ⟨rfl, nb', N', h1, h2, h3, h4, h5, h6⟩
  refine ⟨rfl, nb', N', T, sub, seq, pp, par, ha.grew h1 h2 h3 (by simpa using h5) h6, ?_⟩
  have := h4 (x : Int) (by simp); omega

theorem FS.look2 (h : FS lo w fb n v adj w0) (x y : Nat) (hx : x < n) (hy : y < n) :
    Calls Tryd.prog 22 #[.pointer (some ⟨fb, 0, none⟩), .slice (some ⟨w0.heap.size, 0, none⟩) 2 2] (w0.alloc (.cells #[.int .i64 (x : Int), .int .i64 (y : Int)] 3)) fun e w' => e = .returned .nilIface ∧ ∃ nb N T sub seq pp par, HS lo w w0 fb n nb N T v sub seq pp par adj w' ∧ x + 1 < N ∧ y + 1 < N := by
  obtain ⟨nb, N, T, sub, seq, pp, par, hs⟩ := h.start
  have ha := hs.alloc (.cells #[.int .i64 (x : Int), .int .i64 (y : Int)] 3)
  refine (look_ok fb nb w0.heap.size n N (real T pp) [(x : Int), (y : Int)] _ ha.fo ha.lc.zero ha.lc.gd.pos ha.hN ha.n2 (heap_alloc_new w0 _) (by simp) (by intro z hz; simp at hz; rcases hz with rfl | rfl <;> omega)).mono ?_
  rintro e w' ⟨rfl, nb', N', h1, h2, h3, h4, h5, h6⟩
  refine ⟨rfl, nb', N', T, sub, seq, pp, par, ha.grew h1 h2 h3 (by simpa using h5) h6, ?_, ?_⟩
  · have := h4 (x : Int) (by simp); omega
  · have := h4 (y : Int) (by simp); omega

/-- The one node is none. -/
theorem FS.bad1 (h : FS lo w fb n v adj w0) (x : Int) (hx : ¬ (0 ≤ x ∧ x < (n : Int))) :
    Calls Tryd.prog 22 #[.pointer (some ⟨fb, 0, none⟩), .slice (some ⟨w0.heap.size, 0, none⟩) 1 1] (w0.alloc (.cells #[.int .i64 x] 3)) fun e w' => e = .returned (.iface 46 (.int .i64 12)) ∧ w0.alloc (.cells #[.int .i64 x] 3) = w' := by
  obtain ⟨nb, N, T, sub, seq, pp, par, hs⟩ := h.start
  have ha := hs.alloc (.cells #[.int .i64 x] 3)
  exact look_bad fb w0.heap.size n [x] _ ha.fo.c0 (heap_alloc_new w0 _) (by simp) (by simpa using hx)

theorem FS.bad2 (h : FS lo w fb n v adj w0) (x y : Int) (hx : ¬ ((0 ≤ x ∧ x < (n : Int)) ∧ (0 ≤ y ∧ y < (n : Int)))) :
    Calls Tryd.prog 22 #[.pointer (some ⟨fb, 0, none⟩), .slice (some ⟨w0.heap.size, 0, none⟩) 2 2] (w0.alloc (.cells #[.int .i64 x, .int .i64 y] 3)) fun e w' => e = .returned (.iface 46 (.int .i64 12)) ∧ w0.alloc (.cells #[.int .i64 x, .int .i64 y] 3) = w' := by
  obtain ⟨nb, N, T, sub, seq, pp, par, hs⟩ := h.start
  have ha := hs.alloc (.cells #[.int .i64 x, .int .i64 y] 3)
  exact look_bad fb w0.heap.size n [x, y] _ ha.fo.c0 (heap_alloc_new w0 _) (by simp) (by simpa using hx)
end

set_option maxRecDepth 100000 in
set_option maxHeartbeats 1000000 in
theorem size_ok (fb nb n N x : Nat) (T : Tb) (pp : Nat → Nat) (v : Nat → Int) (sub seq : Nat → List Nat) (w : World) (h : Fo w fb nb n N (real T pp)) (hG : Gd N T v sub seq) (hx : x < N) :
    Calls Tryd.prog 17 #[.pointer (some ⟨fb, 0, none⟩), .int .i32 (x : Int)] w fun e w' => e = .returned (.int .i64 ((sub x).length : Int)) ∧ w = w' := by
  have hbig := h.big
  have c1 := h.c1
  have cr : w.cell? ⟨nb, x * 9 + 4, none⟩ = some (.int .i32 (T x).rest) := h.rest hx
  have ht := (hG.inv.tal x).rest
  have hl := hG.len x
  obtain ⟨R, hR⟩ : ∃ R, (T x).rest = R := ⟨_, rfl⟩
  rw [hR] at cr ht
  obtain ⟨M, hM⟩ : ∃ M, (sub x).length = M := ⟨_, rfl⟩
  rw [hM] at ht hl ⊢
  have q1 : (0 : Int) ≤ (x : Int) := by omega
  have q2 : (x : Int) < (N : Int) := by omega
  have b1 : -1 ≤ R := by omega
  have b2 : R ≤ 8388610 := by omega
  have hth := hid ht
  clear h hG hR hM ht
  go_enter Tryd.func17, Tryd.ntmps17
  go_wp2_with fail
  go_ret
  have := hth.out
  exact ⟨ret_int (by omega), rfl⟩

set_option maxRecDepth 100000 in
set_option maxHeartbeats 1000000 in
theorem item_ok (x : Nat) (hx : x + 1 < 8388700) (w : World) : Calls Tryd.prog 50 #[.int .i32 ((x + 1 : Nat) : Int)] w fun e w' => e = .returned (.int .i64 (x : Int)) ∧ w = w' := by
  rw [show ((x + 1 : Nat) : Int) = (x : Int) + 1 from by omega]
  go_enter Tryd.func50, Tryd.ntmps50
  go_wp2_with fail
  go_ret
  exact ⟨ret_int (by omega), rfl⟩

/-- How much is beneath a spot that a slot names. -/
def ml (nb : Nat) (a : Value) (w : World) : Nat := match w.cell? ⟨nb, (intOf a).toNat * 9 + 4, none⟩ with
  | some (.int _ k) => (k + 1).toNat
  | _ => 0

theorem ml_is {fb nb n N x : Nat} {T : Tb} {pp : Nat → Nat} {v : Nat → Int} {sub seq : Nat → List Nat} {w : World} (h : Fo w fb nb n N (real T pp)) (hG : Gd N T v sub seq) (hx : x < N) : ml nb (.int .i32 (x : Int)) w = (sub x).length := by
  unfold ml
  rw [show (intOf (.int .i32 (x : Int))).toNat = x from by simp [intOf], h.rest hx]
  have := (hG.inv.tal x).rest
  show ((T x).rest + 1).toNat = _
  omega

/-- The node's road laid out: outside its tree all stays. -/
def Frm (par : Nat → Nat) (r : Nat) (T : Tb) (seq : Nat → List Nat) (pp : Nat → Nat) (T' : Tb) (seq' : Nat → List Nat) (pp' : Nat → Nat) : Prop := ∀ y, y ≠ 0 → ¬ Top par y r → (T' y).up = (T y).up ∧ seq' y = seq y ∧ pp' y = pp y

section
variable {lo fb n nb N : Nat} {w w0 wr : World} {T : Tb} {v : Nat → Int} {sub seq : Nat → List Nat} {pp par : Nat → Nat} {adj : Nat → Nat → Prop}

set_option maxRecDepth 100000 in
set_option maxHeartbeats 2000000 in
theorem HS.expose (h : HS lo w w0 fb n nb N T v sub seq pp par adj wr) (x r : Nat) (hx0 : x ≠ 0) (hx : x < N) (hr : Top par x r) :
    Calls Tryd.prog 36 #[.pointer (some ⟨fb, 0, none⟩), .int .i32 (x : Int)] wr fun e w' => e = .returned (.tuple #[]) ∧ ∃ T' sub' seq' pp', HS lo w w0 fb n nb N T' v sub' seq' pp' par adj w' ∧ (T' x).up = 0 ∧ (T' x).t = false ∧ pp' x = 0 ∧ (∃ A, seq' x = A ++ [x]) ∧ Frm par r T seq pp T' seq' pp' := by
  have hbig := h.fo.big
  have hN0 : 0 < N := by omega
  have q1 : (0 : Int) ≤ (x : Int) := by omega
  have q2 : (x : Int) < (N : Int) := by omega
  have hx0h := hid hx0
  have hrh := hid hr
  have st : Hid (∃ T1 sub1 seq1 pp1, HS lo w w0 fb n nb N T1 v sub1 seq1 pp1 par adj wr ∧ x < N ∧ (x ≠ 0 → Top par x r) ∧ Frm par r T seq pp T1 seq1 pp1) := ⟨T, sub, seq, pp, h, hx, fun _ => hr, fun y _ _ => ⟨rfl, rfl, rfl⟩⟩
  clear h hx0 hr
  go_enter Tryd.func36, Tryd.ntmps36
  go_wp2_with fail
  go_loopw [4, 5] (fun a b wr => ∃ k z : Nat, a = .int .i32 (k : Int) ∧ b = .int .i32 (z : Int) ∧ Hid (∃ T1 sub1 seq1 pp1, HS lo w w0 fb n nb N T1 v sub1 seq1 pp1 par adj wr ∧ z < N ∧ (z ≠ 0 → Top par z r) ∧ ((k = 0 ∧ z = x) ∨ (k ≠ 0 ∧ k < N ∧ (T1 k).up = 0 ∧ pp1 k = z ∧ ∃ A, seq1 k = A ++ [x])) ∧ Frm par r T seq pp T1 seq1 pp1)) (fun a _ wr => N + 1 - ml nb a wr)
  case atStart => exact ⟨0, x, rfl, rfl, by obtain ⟨T1, sub1, seq1, pp1, a1, a2, a3, a4⟩ := st.out; exact ⟨T1, sub1, seq1, pp1, a1, a2, a3, Or.inl ⟨rfl, rfl⟩, a4⟩⟩
  case round =>
    clear st
    obtain ⟨k, z, rfl, rfl, hst⟩ := hrel
    obtain ⟨T1, sub1, seq1, pp1, h1, hzN, hz, hk, hf⟩ := hst.out
    have hkN : k < N := by rcases hk with ⟨e, _⟩ | ⟨_, e, _⟩ <;> omega
    have hml := hid (ml_is h1.fo h1.lc.gd hkN)
    by_cases hz0 : z = 0
    · subst hz0
      rcases hk with ⟨_, e⟩ | ⟨hk0, _, hku, hkp, A, hkA⟩
      · exact absurd e.symm hx0h.out
      · have hxk : seq1 x = seq1 k := (h1.lc.gd.mem_seq hk0 (by rw [hkA]; simp)).1
        have hxA := hid (hxk.trans hkA)
        have hxp := hid ((h1.lc.pst x k hx0h.out hk0 hxk).trans hkp)
        have h1 := hid h1
        have hf := hid hf
        clear hst hz hkp hkA hxk hku hk0
        go_wp2_with fail
        refine (h1.out.raise x hx0h.out hx).mono ?_
        rintro e w2 ⟨rfl, T2, sub2, h2, m2, u2, t2⟩
        have hxt : Hid (Frm par r T seq pp T2 seq1 pp1) := hid (fun y hy hn => by
          obtain ⟨f1, f2, f3⟩ := hf.out y hy hn
          exact ⟨(m2.fr y hy (fun e => hn (h1.out.lc.one hx0h.out hy e.symm hrh.out))).trans f1, f2, f3⟩)
        have fin : Hid (∃ T' sub' seq' pp', HS lo w w0 fb n nb N T' v sub' seq' pp' par adj w2 ∧ (T' x).up = 0 ∧ (T' x).t = false ∧ pp' x = 0 ∧ (∃ A, seq' x = A ++ [x]) ∧ Frm par r T seq pp T' seq' pp') := ⟨T2, sub2, seq1, pp1, h2, u2, t2, hxp.out, ⟨A, hxA.out⟩, hxt.out⟩
        clear h2 m2 u2 t2 hxt
        go_wp2_with fail
        go_end0
        exact ⟨rfl, fin.out⟩
    · have tz : ((z : Int) != 0) = true := by simp; omega
      have q3 : (0 : Int) ≤ (z : Int) := by omega
      have q4 : (z : Int) < (N : Int) := by omega
      have hzr := hid (hz hz0)
      have hz0h := hid hz0
      have h1 := hid h1
      have hf := hid hf
      have hk := hid hk
      clear hst hz hz0
      go_wp2_with fail
      refine (h1.out.raise z hz0h.out hzN).mono ?_
      rintro e w2 ⟨rfl, T2, sub2, h2, m2, u2, t2⟩
      have hkz : k ≠ 0 → seq1 k ≠ seq1 z ∧ pp1 k = z ∧ (T2 k).up = 0 ∧ ∃ A, seq1 k = A ++ [x] := fun hk0 => by
        rcases hk.out with ⟨e, _⟩ | ⟨_, _, hku, hkp, hkA⟩
        · exact absurd e hk0
        · have e1 : seq1 k ≠ seq1 z := fun e => h1.out.lc.not hk0 (by rw [hkp, e]; exact h1.out.lc.gd.self hz0h.out)
          exact ⟨e1, hkp, by rw [m2.fr k hk0 e1]; exact hku, hkA⟩
      obtain ⟨T3, sub3, seq3, pp3, e3, l3, u3, t3, p3, ⟨A, a3⟩, f3⟩ := h2.lc.hang (k := k) hz0h.out hzN u2 t2 (by
        by_cases hk0 : k = 0
        · exact Or.inl hk0
        · obtain ⟨_, b2, b3, _⟩ := hkz hk0
          exact Or.inr ⟨hk0, hkN, b3, b2⟩)
      have hkne : k ≠ z := fun e => by
        by_cases hk0 : k = 0
        · exact hz0h.out (e.symm.trans hk0)
        · exact (hkz hk0).1 (by rw [e])
      have hh := hang_ok fb nb n N z k true (real T2 pp1) w2 h2.fo hzN hkN hkne (h2.lc.gd.l_lt z) (h2.lc.gd.inv.kid_ne hz0h.out false)
      rw [← e3, show sI true = 1 from rfl] at hh
      have hh := hid hh
      have fr3 : Hid (Frm par r T seq pp T3 seq3 pp3) := hid (fun y hy hn => by
        obtain ⟨g1, g2, g3⟩ := hf.out y hy hn
        have n1 : seq1 y ≠ seq1 z := fun e => hn (h1.out.lc.one hz0h.out hy e.symm hzr.out)
        have n2 : k ≠ 0 → seq1 y ≠ seq1 k := fun hk0 e => by
          obtain ⟨_, _, _, B, hB⟩ := hkz hk0
          have hxk : seq1 x = seq1 k := (h1.out.lc.gd.mem_seq hk0 (by rw [hB]; simp)).1
          exact hn (h1.out.lc.one hx0h.out hy (hxk.trans e.symm) hrh.out)
        obtain ⟨k1, k2, k3⟩ := f3 y hy n1 n2
        exact ⟨by rw [k1, m2.fr y hy n1, g1], k2.trans g2, k3.trans g3⟩)
      have hA3 : Hid (∃ A, seq3 z = A ++ [x]) := hid (by
        by_cases hk0 : k = 0
        · rcases hk.out with ⟨_, e⟩ | ⟨e, _⟩
          · exact ⟨A, by rw [a3, if_pos hk0, e]⟩
          · exact absurd hk0 e
        · obtain ⟨_, _, _, B, hB⟩ := hkz hk0
          exact ⟨A ++ z :: B, by rw [a3, if_neg hk0, hB]; simp⟩)
      have hlen : Hid ((sub1 k).length < (sub3 z).length) := hid (by
        rw [← l3.gd.inv.root z hz0h.out u3, a3]
        by_cases hk0 : k = 0
        · rw [hk0, h1.out.lc.gd.inv.sub0]; simp
        · rcases hk.out with ⟨e, _⟩ | ⟨_, _, hku, _, _⟩
          · exact absurd e hk0
          · rw [if_neg hk0, h1.out.lc.gd.inv.root k hk0 hku]; simp; omega)
      have hmore := hid (l3.gd.len z)
      have hPz : Hid (pp3 z ≠ 0 → Top par (pp3 z) r) := hid (fun hp => l3.hangs hz0h.out hp hzr.out)
      have hPN := l3.plt z
      have h2 := hid h2
      have l3 := hid l3
      have u3 := hid u3
      clear m2 u2 t2 hkz e3 f3 a3 t3 p3
      go_wp2_with fail
      refine hh.out.mono ?_
      rintro e w3 ⟨rfl, f3, t3⟩
      have h3 := hid (h2.out.turn f3 l3.out h2.out.he t3)
      have c1 := h3.out.fo.c1
      have cu : w3.cell? ⟨nb, z * 9 + 5, none⟩ = some (.int .i32 (pp3 z : Int)) := by rw [← real_up0 (pp := pp3) u3.out]; exact h3.out.fo.up hzN
      obtain ⟨P, hP⟩ : ∃ P, pp3 z = P := ⟨_, rfl⟩
      rw [hP] at cu hPN
      have hPh := hid hP
      have hd := hid h3.out.drew
      have hml3 : Hid (ml nb (.int .i32 (z : Int)) w3.drew = (sub3 z).length) := hid (ml_is hd.out.fo hd.out.lc.gd hzN)
      clear f3 t3 hh h1 hf hk h2 hP
      go_wp2_with fail
      go_region
      all_goals
        generalize w3.drew = w4 at hd hml3 ⊢
        go_wp2_with fail
        go_roundw
        case rel => exact ⟨z, P, rfl, rfl, ⟨T3, sub3, seq3, pp3, hd.out, hPN, by rw [← hPh.out]; exact hPz.out, Or.inr ⟨hz0h.out, hzN, u3.out, hPh.out, hA3.out⟩, fr3.out⟩⟩
        case measure => rw [hml3.out, hml.out]; have := hlen.out; have := hmore.out; omega

set_option maxRecDepth 100000 in
set_option maxHeartbeats 1000000 in
theorem HS.root (h : HS lo w w0 fb n nb N T v sub seq pp par adj wr) (x : Nat) (hx0 : x ≠ 0) (hx : x < N) :
    Calls Tryd.prog 35 #[.pointer (some ⟨fb, 0, none⟩), .int .i32 (x : Int)] wr fun e w' => e = .returned (.tuple #[]) ∧ ∃ T' sub' seq' pp' par', HS lo w w0 fb n nb N T' v sub' seq' pp' par' adj w' ∧ (T' x).up = 0 ∧ pp' x = 0 ∧ (∃ A, seq' x = x :: A) ∧ par' x = 0 := by
  obtain ⟨r, hr⟩ := h.lc.acy.top hx0
  have he := hid (h.expose x r hx0 hx hr)
  have hx0 := hid hx0
  clear h hr
  go_enter Tryd.func35, Tryd.ntmps35
  go_wp2_with fail
  refine he.out.mono ?_
  rintro e w2 ⟨rfl, T2, sub2, seq2, pp2, h2, u2, t2, p2, ⟨A, a2⟩, f2⟩
  obtain ⟨sub3, par3, l3, e3⟩ := h2.lc.turn hx0.out hx u2 p2
  have ht := turn_ok fb nb n N x (real T2 pp2) w2 h2.fo hx
  rw [← real_turn] at ht
  have ht := hid ht
  have s3 : revS seq2 x x = x :: A.reverse := by
    unfold revS
    rw [if_pos (h2.lc.gd.self hx0.out), a2]; simp
  have u3 : (turnT T2 x x).up = 0 := by rw [turnT_at, if_pos ⟨rfl, hx0.out⟩]; exact u2
  have px : par3 x = 0 := by
    have := l3.chn x hx0.out
    rw [s3, p2] at this
    exact this.1
  have fin : Hid (∀ w', Fo w' fb nb n N (real (turnT T2 x) pp2) → Turned (fun k => k = nb) w2 w' → ∃ T' sub' seq' pp' par', HS lo w w0 fb n nb N T' v sub' seq' pp' par' adj w' ∧ (T' x).up = 0 ∧ pp' x = 0 ∧ (∃ A, seq' x = x :: A) ∧ par' x = 0) := hid (fun w' k1 k2 =>
    ⟨_, _, _, _, _, h2.turn k1 l3 (fun a b => (h2.he a b).trans (e3 a b).symm) k2, u3, p2, ⟨_, s3⟩, px⟩)
  clear he h2 u2 t2 p2 a2 f2 l3 e3 s3 u3 px
  go_wp2_with fail
  refine ht.out.mono ?_
  rintro e w3 ⟨rfl, f3, t3⟩
  have fin2 := hid (fin.out w3 f3 t3)
  clear f3 t3 ht fin
  go_wp2_with fail
  go_end0
  exact ⟨rfl, fin2.out⟩
end

end Go.Proofs.YtnkgpjjlgbggcaaDoor
