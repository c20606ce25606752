/- Where a call of the Forest stands; 'top', 'size', 'leads', 'item', 'shed', walked. -/
import Derived.Test.YtpelpcplagfdiaaDoorRaise
import Derived.Test.YtpelpcplagfdiaaDoorLook4
import Derived.Test.YtpelpcplagfdiaaDoorActs
namespace Go.Proofs.YtpelpcplagfdiaaDoor
open Go.RowKit
set_option linter.unusedVariables false

theorem ret_int {k : IntKind} {a b : Int} (h : a = b) : Ending.returned (.int k a) = .returned (.int k b) := by rw [h]

/-- What is neither nodes nor a Forest is as it was. -/
def Keep (w w' : World) : Prop := ∀ (k : Nat) (cs : Array Value) (t : TypeId) (fr : Nat × Nat), w.heap[k]? = some (.cells cs t fr) → t ≠ 53 → t ≠ 57 → w'.heap[k]? = some (.cells cs t fr)

theorem Keep.refl (w : World) : Keep w w := fun _ _ _ _ h _ _ => h
theorem Keep.trans {a b c : World} (h : Keep a b) (k : Keep b c) : Keep a c := fun i cs t fr hi h1 h2 => k i cs t fr (h i cs t fr hi h1 h2) h1 h2
theorem Keep.ofBelow {w w' : World} (h : Below w.heap.size w w') : Keep w w' := fun k cs t fr hk _ _ => (h.block k (Array.getElem?_eq_some_iff.1 hk).1).trans hk
theorem Keep.alloc {a w : World} (h : Keep a w) (o : Obj) : Keep a (w.alloc o) := h.trans (Keep.ofBelow ((Below.refl _ _).alloc (Nat.le_refl _) o))

theorem Keep.ofNodes {w w' : World} {fb nb n N : Nat} {T : Tb} (h : Fo w fb nb n N T) (ht : Turned (fun k => k = nb) w w') : Keep w w' := fun k cs t fr hk h1 _ =>
  (ht.block k (Array.getElem?_eq_some_iff.1 hk).1 (fun e => by rw [e, h.nodes] at hk; injection hk with hk; injection hk with _ hk; exact h1 hk.symm)).trans hk

theorem Keep.ofSelf {w w' : World} {fb nb n N : Nat} {T : Tb} (h : Fo w fb nb n N T) (ht : Turned (fun k => k = fb) w w') : Keep w w' := fun k cs t fr hk _ h2 =>
  (ht.block k (Array.getElem?_eq_some_iff.1 hk).1 (fun e => by rw [e, h.self] at hk; injection hk with hk; injection hk with _ hk; exact h2 hk.symm)).trans hk

/-- A Forest that was made since w. -/
structure FS (lo : Nat) (w : World) (fb n : Nat) (v : Nat → Int) (seq : Nat → List Nat) (wr : World) : Prop where
  st : ∃ nb N T sub, Fo wr fb nb n N T ∧ Gd N T v sub seq ∧ N ≤ n + 1 ∧ lo ≤ nb
  flo : lo ≤ fb
  below : Below lo w wr
  n1 : 1 ≤ n
  n2 : n ≤ 8388608
  lw : lo ≤ w.heap.size

/-- In a call that began at w0. -/
structure HS (lo : Nat) (w w0 : World) (fb n nb N : Nat) (T : Tb) (v : Nat → Int) (sub seq : Nat → List Nat) (wr : World) : Prop where
  fo : Fo wr fb nb n N T
  gd : Gd N T v sub seq
  hN : N ≤ n + 1
  nlo : lo ≤ nb
  flo : lo ≤ fb
  below : Below lo w wr
  n1 : 1 ≤ n
  n2 : n ≤ 8388608
  lw : lo ≤ w.heap.size
  keep : Keep w0 wr

section
variable {lo fb n nb N : Nat} {w w0 wr : World} {T : Tb} {v : Nat → Int} {sub seq : Nat → List Nat}

theorem FS.start (h : FS lo w fb n v seq wr) : ∃ nb N T sub, HS lo w wr fb n nb N T v sub seq wr := by
  obtain ⟨nb, N, T, sub, h1, h2, h3, h4⟩ := h.st
  exact ⟨nb, N, T, sub, h1, h2, h3, h4, h.flo, h.below, h.n1, h.n2, h.lw, Keep.refl _⟩

theorem HS.end_ (h : HS lo w w0 fb n nb N T v sub seq wr) : FS lo w fb n v seq wr := ⟨⟨nb, N, T, sub, h.fo, h.gd, h.hN, h.nlo⟩, h.flo, h.below, h.n1, h.n2, h.lw⟩

theorem HS.more (h : HS lo w w0 fb n nb N T v sub seq wr) {w' : World} (hb : Below wr.heap.size wr w') : HS lo w w0 fb n nb N T v sub seq w' :=
  ⟨h.fo.of (Turned.ofBelow hb (fun _ => False)) (fun e => e) (fun e => e), h.gd, h.hN, h.nlo, h.flo, h.below.trans (hb.mono (Nat.le_trans h.lw h.below.size)), h.n1, h.n2, h.lw, h.keep.trans (Keep.ofBelow hb)⟩

theorem HS.alloc (h : HS lo w w0 fb n nb N T v sub seq wr) (o : Obj) : HS lo w w0 fb n nb N T v sub seq (wr.alloc o) := h.more ((Below.refl _ _).alloc (Nat.le_refl _) o)
theorem HS.drew (h : HS lo w w0 fb n nb N T v sub seq wr) : HS lo w w0 fb n nb N T v sub seq wr.drew := h.more (Below.refl _ _).drew

/-- The nodes turn. -/
theorem HS.turn (h : HS lo w w0 fb n nb N T v sub seq wr) {w' : World} {T' : Tb} {v' : Nat → Int} {sub' seq' : Nat → List Nat} (hf : Fo w' fb nb n N T') (hg : Gd N T' v' sub' seq') (ht : Turned (fun k => k = nb) wr w') : HS lo w w0 fb n nb N T' v' sub' seq' w' :=
  ⟨hf, hg, h.hN, h.nlo, h.flo, h.below.trans (ht.below (fun k hk => by rw [hk]; exact h.nlo) (Nat.le_trans h.lw h.below.size)), h.n1, h.n2, h.lw, h.keep.trans (Keep.ofNodes h.fo ht)⟩

theorem FS.more (h : FS lo w fb n v seq wr) {w' : World} (hb : Below wr.heap.size wr w') : FS lo w fb n v seq w' := by
  obtain ⟨nb, N, T, sub, hs⟩ := h.start
  exact (hs.more hb).end_

theorem FS.alloc (h : FS lo w fb n v seq wr) (o : Obj) : FS lo w fb n v seq (wr.alloc o) := h.more ((Below.refl _ _).alloc (Nat.le_refl _) o)

theorem HS.raise (h : HS lo w w0 fb n nb N T v sub seq wr) (x : Nat) (hx0 : x ≠ 0) (hx : x < N) :
    Calls Tryd.prog 41 #[.pointer (some ⟨fb, 0, none⟩), .int .i32 (x : Int)] wr fun e w' => e = .returned (.tuple #[]) ∧ ∃ T' sub', HS lo w w0 fb n nb N T' v sub' seq w' ∧ Mv N v seq x T sub T' sub' ∧ (T' x).up = 0 ∧ (T' x).t = false := by
  refine (raise_ok fb nb n N x T v sub seq wr h.fo h.gd hx0 hx).mono ?_
  rintro e w' ⟨rfl, T', sub', h1, h2, h3, h4, h5⟩
  exact ⟨rfl, T', sub', h.turn h1 h2.gd h5, h2, h3, h4⟩

set_option maxRecDepth 100000 in
set_option maxHeartbeats 1000000 in
theorem HS.top (h : HS lo w w0 fb n nb N T v sub seq wr) (x : Nat) (hx : x + 1 < N) :
    Calls Tryd.prog 20 #[.pointer (some ⟨fb, 0, none⟩), .int .i64 (x : Int)] wr fun e w' => e = .returned (.int .i32 ((x + 1 : Nat) : Int)) ∧ ∃ T' sub', HS lo w w0 fb n nb N T' v sub' seq w' ∧ Mv N v seq (x + 1) T sub T' sub' ∧ (T' (x + 1)).up = 0 ∧ (T' (x + 1)).t = false := by
  have hbig := h.fo.big
  have hr := hid (h.raise (x + 1) (by omega) hx)
  rw [show ((x + 1 : Nat) : Int) = (x : Int) + 1 from by omega] at hr ⊢
  clear h
  go_enter Tryd.func20, Tryd.ntmps20
  go_wp2_with fail
  refine hr.out.mono ?_
  rintro e w' ⟨rfl, hst⟩
  have hst := hid hst
  go_wp2_with fail
  go_ret
  exact ⟨rfl, hst.out⟩

/-- The one item is there. -/
theorem FS.look1 (h : FS lo w fb n v seq w0) (x : Nat) (hx : x < n) :
    Calls Tryd.prog 19 #[.pointer (some ⟨fb, 0, none⟩), .slice (some ⟨w0.heap.size, 0, none⟩) 1 1] (w0.alloc (.cells #[.int .i64 (x : Int)] 3)) fun e w' => e = .returned .nilIface ∧ ∃ nb N T sub, HS lo w w0 fb n nb N T v sub seq w' ∧ x + 1 < N := by
  obtain ⟨nb, N, T, sub, hs⟩ := h.start
  have ha := hs.alloc (.cells #[.int .i64 (x : Int)] 3)
  refine (look_ok fb nb w0.heap.size n N T [(x : Int)] _ ha.fo ha.gd.zero ha.gd.pos ha.hN ha.n2 (heap_alloc_new w0 _) (by simp) (by intro z hz; simp at hz; subst hz; omega)).mono ?_
  rintro e w' ⟨rfl, nb', N', h1, h2, h3, h4, h5, h6⟩
  refine ⟨rfl, nb', N', T, sub, ⟨h1, ⟨ha.gd.inv, fun i hi => ha.gd.zero i (by omega), by have := ha.gd.pos; omega, h1.big⟩, h3, ?_, ha.flo, ha.below.trans (h6.below (fun k hk => by rw [hk]; exact ha.flo) (Nat.le_trans ha.lw ha.below.size)), ha.n1, ha.n2, ha.lw, ha.keep.trans (Keep.ofSelf ha.fo h6)⟩, ?_⟩
  · rcases h5 with rfl | h5
    · exact ha.nlo
    · have := ha.below.size; have := ha.lw; omega
  · have := h4 (x : Int) (by simp); omega

theorem FS.look2 (h : FS lo w fb n v seq w0) (x y : Nat) (hx : x < n) (hy : y < n) :
    Calls Tryd.prog 19 #[.pointer (some ⟨fb, 0, none⟩), .slice (some ⟨w0.heap.size, 0, none⟩) 2 2] (w0.alloc (.cells #[.int .i64 (x : Int), .int .i64 (y : Int)] 3)) fun e w' => e = .returned .nilIface ∧ ∃ nb N T sub, HS lo w w0 fb n nb N T v sub seq w' ∧ x + 1 < N ∧ y + 1 < N := by
  obtain ⟨nb, N, T, sub, hs⟩ := h.start
  have ha := hs.alloc (.cells #[.int .i64 (x : Int), .int .i64 (y : Int)] 3)
  refine (look_ok fb nb w0.heap.size n N T [(x : Int), (y : Int)] _ ha.fo ha.gd.zero ha.gd.pos ha.hN ha.n2 (heap_alloc_new w0 _) (by simp) (by intro z hz; simp at hz; rcases hz with rfl | rfl <;> omega)).mono ?_
  rintro e w' ⟨rfl, nb', N', h1, h2, h3, h4, h5, h6⟩
  refine ⟨rfl, nb', N', T, sub, ⟨h1, ⟨ha.gd.inv, fun i hi => ha.gd.zero i (by omega), by have := ha.gd.pos; omega, h1.big⟩, h3, ?_, ha.flo, ha.below.trans (h6.below (fun k hk => by rw [hk]; exact ha.flo) (Nat.le_trans ha.lw ha.below.size)), ha.n1, ha.n2, ha.lw, ha.keep.trans (Keep.ofSelf ha.fo h6)⟩, ?_, ?_⟩
  · rcases h5 with rfl | h5
    · exact ha.nlo
    · have := ha.below.size; have := ha.lw; omega
  · have := h4 (x : Int) (by simp); omega
  · have := h4 (y : Int) (by simp); omega

/-- The one item is none. -/
theorem FS.bad1 (h : FS lo w fb n v seq w0) (x : Int) (hx : ¬ (0 ≤ x ∧ x < (n : Int))) :
    Calls Tryd.prog 19 #[.pointer (some ⟨fb, 0, none⟩), .slice (some ⟨w0.heap.size, 0, none⟩) 1 1] (w0.alloc (.cells #[.int .i64 x] 3)) fun e w' => e = .returned (.iface 50 (.int .i64 12)) ∧ w0.alloc (.cells #[.int .i64 x] 3) = w' := by
  obtain ⟨nb, N, T, sub, hs⟩ := h.start
  have ha := hs.alloc (.cells #[.int .i64 x] 3)
  exact look_bad fb w0.heap.size n [x] _ ha.fo.c0 (heap_alloc_new w0 _) (by simp) (by simpa using hx)

theorem FS.bad2 (h : FS lo w fb n v seq w0) (x y : Int) (hx : ¬ ((0 ≤ x ∧ x < (n : Int)) ∧ (0 ≤ y ∧ y < (n : Int)))) :
    Calls Tryd.prog 19 #[.pointer (some ⟨fb, 0, none⟩), .slice (some ⟨w0.heap.size, 0, none⟩) 2 2] (w0.alloc (.cells #[.int .i64 x, .int .i64 y] 3)) fun e w' => e = .returned (.iface 50 (.int .i64 12)) ∧ w0.alloc (.cells #[.int .i64 x, .int .i64 y] 3) = w' := by
  obtain ⟨nb, N, T, sub, hs⟩ := h.start
  have ha := hs.alloc (.cells #[.int .i64 x, .int .i64 y] 3)
  exact look_bad fb w0.heap.size n [x, y] _ ha.fo.c0 (heap_alloc_new w0 _) (by simp) (by simpa using hx)
end

set_option maxRecDepth 100000 in
set_option maxHeartbeats 1000000 in
theorem size_ok (fb nb n N x : Nat) (T : Tb) (v : Nat → Int) (sub seq : Nat → List Nat) (w : World) (h : Fo w fb nb n N T) (hG : Gd N T v sub seq) (hx : x < N) :
    Calls Tryd.prog 49 #[.pointer (some ⟨fb, 0, none⟩), .int .i32 (x : Int)] w fun e w' => e = .returned (.int .i64 ((sub x).length : Int)) ∧ w = w' := by
  have hbig := h.big
  have c1 := h.c1
  have cr := h.rest hx
  have ht := (hG.inv.tal x).rest
  have hl := hG.len x
  obtain ⟨R, hR⟩ : ∃ R, (T x).rest = R := ⟨_, rfl⟩
  rw [hR] at cr ht
  obtain ⟨M, hM⟩ : ∃ M, (sub x).length = M := ⟨_, rfl⟩
  rw [hM] at ht hl ⊢
  have q1 : (0 : Int) ≤ (x : Int) := by omega
  have q2 : (x : Int) < (N : Int) := by omega
  have b1 : -1 ≤ R := by omega
  have b2 : R ≤ 8388610 := by omega
  have hth := hid ht
  clear h hG hR hM ht
  go_enter Tryd.func49, Tryd.ntmps49
  go_wp2_with fail
  go_ret
  have := hth.out
  exact ⟨ret_int (by omega), rfl⟩

set_option maxRecDepth 100000 in
set_option maxHeartbeats 1000000 in
theorem item_ok (x : Nat) (hx : x + 1 < 8388700) (w : World) : Calls Tryd.prog 54 #[.int .i32 ((x + 1 : Nat) : Int)] w fun e w' => e = .returned (.int .i64 (x : Int)) ∧ w = w' := by
  rw [show ((x + 1 : Nat) : Int) = (x : Int) + 1 from by omega]
  go_enter Tryd.func54, Tryd.ntmps54
  go_wp2_with fail
  go_ret
  exact ⟨ret_int (by omega), rfl⟩

set_option maxRecDepth 100000 in
set_option maxHeartbeats 1000000 in
theorem leads_ok (fb nb n N x : Nat) (T : Tb) (v : Nat → Int) (sub seq : Nat → List Nat) (w : World) (h : Fo w fb nb n N T) (hG : Gd N T v sub seq) (hx : x < N) :
    Calls Tryd.prog 48 #[.pointer (some ⟨fb, 0, none⟩), .int .i32 (x : Int)] w fun e w' => e = .returned (.int .i64 ((sub (T x).l).length : Int)) ∧ w = w' := by
  have hbig := h.big
  have c1 := h.c1
  have cl := h.l hx
  have hs := hid (size_ok fb nb n N (T x).l T v sub seq w h hG (hG.l_lt x))
  have q1 : (0 : Int) ≤ (x : Int) := by omega
  have q2 : (x : Int) < (N : Int) := by omega
  clear h hG
  generalize (T x).l = L at cl hs ⊢
  go_enter Tryd.func48, Tryd.ntmps48
  go_wp2_with fail
  refine hs.out.mono ?_
  rintro e w' ⟨rfl, rfl⟩
  go_wp2_with fail
  go_ret
  exact ⟨rfl, rfl⟩

set_option maxRecDepth 100000 in
set_option maxHeartbeats 1000000 in
theorem shed_no (fb nb n N x : Nat) (T : Tb) (w : World) (h : Fo w fb nb n N T) (hx : x < N) (hl : (T x).l = 0) :
    Calls Tryd.prog 25 #[.pointer (some ⟨fb, 0, none⟩), .int .i32 (x : Int), .int .i64 0] w fun e w' => e = .returned (.bool false) ∧ w = w' := by
  have hbig := h.big
  have c1 := h.c1
  have cl := h.l hx
  rw [hl] at cl
  have q1 : (0 : Int) ≤ (x : Int) := by omega
  have q2 : (x : Int) < (N : Int) := by omega
  clear h hl
  go_enter Tryd.func25, Tryd.ntmps25
  go_wp2_with fail
  go_ret
  exact ⟨rfl, rfl⟩

set_option maxRecDepth 100000 in
set_option maxHeartbeats 1000000 in
theorem shed_yes (fb nb n N x L : Nat) (T : Tb) (w : World) (h : Fo w fb nb n N T) (hx : x < N) (hl : (T x).l = L) (hL0 : L ≠ 0) (hLN : L < N) (hLx : L ≠ x) (hr : (T x).r < N) (hrx : (T x).r ≠ x) (hx0 : x ≠ 0) :
    Calls Tryd.prog 25 #[.pointer (some ⟨fb, 0, none⟩), .int .i32 (x : Int), .int .i64 0] w fun e w' => e = .returned (.bool true) ∧ Fo w' fb nb n N (shedT T x) ∧ Turned (fun k => k = nb) w w' := by
  have hbig := h.big
  have c1 := h.c1
  have cl := h.l hx
  rw [hl] at cl
  have cu := h.up hLN
  have fu := h.fro (L * 9 + 5)
  have q1 : (0 : Int) ≤ (x : Int) := by omega
  have q2 : (x : Int) < (N : Int) := by omega
  have q3 : (0 : Int) ≤ (L : Int) := by omega
  have q4 : (L : Int) < (N : Int) := by omega
  have t1 : ((L : Int) == 0) = false := by simp; omega
  have hs := hid (h.set 5 { T L with up := 0 } (u := .int .i32 0) hLN (by decide) rfl)
  have ts := hid ((Turned.refl (fun k => k = nb) w).setCell (p := ⟨nb, L * 9 + 5, none⟩) rfl (.int .i32 0))
  have es : Hid (shedT T x = hangT (upd T L { T L with up := 0 }) x false 0) := hid (by unfold shedT; rw [hl])
  have hh : Hid (∀ y, Fo y fb nb n N (upd T L { T L with up := 0 }) → Calls Tryd.prog 24 #[.pointer (some ⟨fb, 0, none⟩), .int .i32 (x : Int), .int .i64 0, .int .i32 0] y fun e w' => e = .returned (.tuple #[]) ∧ Fo w' fb nb n N (hangT (upd T L { T L with up := 0 }) x false 0) ∧ Turned (fun k => k = nb) y w') := fun y hy =>
    hang_ok fb nb n N x 0 false _ y hy hx (by omega) (Ne.symm hx0) (by rw [upd_ne hLx.symm]; exact hr) (by rw [upd_ne hLx.symm]; exact hrx)
  clear h hl hr hrx
  go_enter Tryd.func25, Tryd.ntmps25
  go_upto_region 5 with fail
  generalize w.setCell ⟨nb, L * 9 + 5, none⟩ (.int .i32 0) = w1 at hs ts ⊢
  clear c1 cl cu fu
  go_wp2_with fail
  refine (hh.out _ hs.out).mono ?_
  rintro e w2 ⟨rfl, h2, t2⟩
  have h2 := hid h2
  have t2 := hid (ts.out.trans t2)
  go_wp2_with fail
  go_ret
  exact ⟨rfl, by rw [es.out]; exact h2.out, t2.out⟩

end Go.Proofs.YtpelpcplagfdiaaDoor
