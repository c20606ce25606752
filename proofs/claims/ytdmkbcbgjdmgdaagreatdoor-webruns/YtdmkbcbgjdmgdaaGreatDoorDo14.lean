/- 'do' of the laws, walked: an act, done to both: the errors are the same. -/
import Derived.Test.YtdmkbcbgjdmgdaaGreatDoorTold14
namespace Go.Proofs.YtdmkbcbgjdmgdaaGreatDoor
open Go.RowKit
set_option linter.unusedVariables false

/-- All but the document's Webs is as it was. -/
def KeepV (w w' : World) : Prop := ∀ (k : Nat) (cs : Array Value) (t : TypeId) (fr : Nat × Nat), w.heap[k]? = some (.cells cs t fr) → t ≠ 32 → w'.heap[k]? = some (.cells cs t fr)

theorem KeepD.ofV {a b : World} (h : KeepV a b) : KeepD a b := fun k cs t fr hk ht => h k cs t fr hk (by rcases ht with rfl | rfl | rfl <;> decide)

theorem WQ.ofV {lo wb n m : Nat} {w w0 w' : World} {sq : Nat → List Nat} {tt : Nat → Option (Nat × Nat)} {ky : Nat → Int} (h : WQ lo w wb n m sq tt ky w0) (k : KeepV w0 w') (hb : Below lo w0 w') : WQ lo w wb n m sq tt ky w' := by
  obtain ⟨seq, h1, h2, rb, fb, cb, N, vz, v, ⟨hm, hr, hc⟩, h5⟩ := h
  refine ⟨seq, h1, h2, rb, fb, cb, N, vz, v, ⟨?_, ?_, ?_⟩, h5⟩
  · obtain ⟨tv, T, q1, q2, q3⟩ := hm.st
    exact ⟨hm.lw, tv, T, k _ _ _ _ q1 (by decide), row_of q2 (fun b cs hb => k _ _ _ _ hb (by decide)), q3⟩
  · obtain ⟨nb, M, T, sub, f1, f2, f3, f4⟩ := hr.fs.st
    exact ⟨⟨⟨nb, M, T, sub, ⟨k _ _ _ _ f1.self (by decide), k _ _ _ _ f1.nodes (by decide), f1.big⟩, f2, f3, f4⟩, hr.fs.flo, hr.fs.below.trans hb, hr.fs.n1, hr.fs.n2, hr.fs.lw⟩, k _ _ _ _ hr.rb (by decide)⟩
  · obtain ⟨nb, M, T, sub, seq, pp, par, f1, f2, f3, f4, f5⟩ := hc.st
    exact ⟨⟨nb, M, T, sub, seq, pp, par, ⟨k _ _ _ _ f1.self (by decide), k _ _ _ _ f1.nodes (by decide), f1.big⟩, f2, f3, f4, f5⟩, hc.flo, hc.below.trans hb, hc.n1, hc.n2, hc.lw⟩

/-- The four cells of a document's Web stored. -/
abbrev put4 (w : World) (g : Nat) (a b c d : Value) : World := (((w.setCell ⟨g, 0, none⟩ a).setCell ⟨g, 1, none⟩ b).setCell ⟨g, 2, none⟩ c).setCell ⟨g, 3, none⟩ d

theorem put4_keep {w : World} {g : Nat} {cs : Array Value} {fr : Nat × Nat} (h : w.heap[g]? = some (.cells cs 32 fr)) (a b c d : Value) : (∀ k, k ≠ g → (put4 w g a b c d).heap[k]? = w.heap[k]?) ∧ KeepV w (put4 w g a b c d) := by
  have other : ∀ k, k ≠ g → (put4 w g a b c d).heap[k]? = w.heap[k]? := fun k hk => by
    unfold put4
    rw [Below.heap_setCell _ _ _ _ hk, Below.heap_setCell _ _ _ _ hk, Below.heap_setCell _ _ _ _ hk, Below.heap_setCell _ _ _ _ hk]
  refine ⟨other, fun k cs' t fr' hk ht => (other k (fun q => ?_)).trans hk⟩
  rw [q, h] at hk
  injection hk with hk
  injection hk with _ hk
  exact ht hk.symm

theorem cell_put4 {w : World} {g : Nat} {p : Addr} (h : p.block ≠ g) (a b c d : Value) : (put4 w g a b c d).cell? p = w.cell? p := by
  refine World.cell?_of_block ?_
  unfold put4
  rw [Below.heap_setCell _ _ _ _ h, Below.heap_setCell _ _ _ _ h, Below.heap_setCell _ _ _ _ h, Below.heap_setCell _ _ _ _ h]

/-- A block of five cells. -/
theorem blk5 {w : World} {g : Nat} {t : TypeId} {a b c d e : Value} (h : w.heap[g]? = some (.cells #[a, b, c, d, e] t (0, 0))) : w.cell? ⟨g, 0, none⟩ = some a ∧ w.cell? ⟨g, 1, none⟩ = some b ∧ w.cell? ⟨g, 2, none⟩ = some c ∧ w.cell? ⟨g, 3, none⟩ = some d ∧ w.cell? ⟨g, 4, none⟩ = some e := by
  refine ⟨?_, ?_, ?_, ?_, ?_⟩ <;> (unfold World.cell?; rw [h]; simp)

theorem KeepW.act {a b : World} (h : KeepW a b) {g : Nat} {cs : Array Value} {fr : Nat × Nat} (hg : a.heap[g]? = some (.cells cs 37 fr)) : b.heap[g]? = some (.cells cs 37 fr) := h g cs _ fr hg (by decide) (by decide) (by decide) (by decide) (by decide) (by decide)

section
variable {wb n m : Nat} {w w0 w' : World} {sq : Nat → List Nat} {tt : Nat → Option (Nat × Nat)} {ky : Nat → Int} {xv : Value}

/-- What 'do' answers. -/
def DoIs (w : World) (wb n m : Nat) (w0 : World) (x : Ending) (w' : World) : Prop := ∃ xv' sq' tt' ky', x = .returned (.tuple #[xv', .bool true]) ∧ WQ w.heap.size w wb n m sq' tt' ky' w' ∧ Dc n m sq' tt' ky' w' xv' ∧ KeepW w0 w'

/-- Behind the last store: what is answered. -/
theorem do_end {w1 w5 : World} {R : Nat} {sq' : Nat → List Nat} {tt' : Nat → Option (Nat × Nat)} {ky' : Nat → Int} {u0 u1 u2 u3 a b c d : Value} (hR : w0.heap.size ≤ R) (hlw : w.heap.size ≤ w0.heap.size) (h5 : WQ w.heap.size w wb n m sq' tt' ky' w5) (hd : Dc n m sq' tt' ky' w5 (.agg #[a, b, c, d])) (K5 : KeepW w0 w5) (kr : w5.heap[R]? = some (.cells #[u0, u1, u2, u3] 32 (0, 0))) :
    (put4 w5 R a b c d).heap[R]? = some (.cells #[a, b, c, d] 32 (0, 0)) ∧ DoIs w wb n m w0 (.returned (.tuple #[.agg #[a, b, c, d], .bool true])) (put4 w5 R a b c d) := by
  obtain ⟨o, kv⟩ := put4_keep kr a b c d
  have hb : Below w.heap.size w5 (put4 w5 R a b c d) := Wd.below4 (Below.refl _ _) (by omega) a b c d
  exact ⟨Wd.set4_block kr a b c d, _, sq', tt', ky', rfl, h5.ofV kv hb, hd.keepD (.ofV kv), fun k cs t fr hk h1 h2 h3 h4 h5 h6 => (o k (fun q => by have := (Array.getElem?_eq_some_iff.1 hk).1; omega)).trans (K5 k cs t fr hk h1 h2 h3 h4 h5 h6)⟩

set_option maxRecDepth 100000 in
set_option maxHeartbeats 1000000 in
theorem do_split2 (h : WQ w.heap.size w wb n m sq tt ky w0) (d : Dc n m sq tt ky w0 xv) (hg : Handle w) (hn : n ≤ 1000) (hm : m ≤ 1000) (qk qa qb qe key : Int) (hk1 : -9223372036854775808 ≤ key) (hk2 : key ≤ 9223372036854775807) (hK : wrap64 ((IntKind.u64.wrap qk).tmod 8) = 2) :
    Calls Tryz.prog 10 #[.pointer (some ⟨wb, 0, none⟩), xv, .agg #[.int .i64 qk, .int .i64 qa, .int .i64 qb, .int .i64 qe, .int .i64 key]] w0 fun x w' => DoIs w wb n m w0 x w' := by
  obtain ⟨sq', er, s1, s2⟩ := split_step h d hn qa qb
  obtain ⟨fad, F, fcap, tad, T, tcap, rfl⟩ := d.form
  have hlw := h.below.size
  obtain ⟨w1, hw1⟩ : ∃ w1, ((w0.alloc (.cells #[.int .i64 (n : Int), .int .i64 (m : Int), .slice fad F fcap, .slice tad T tcap] 32)).alloc (.cells #[.int .i64 qk, .int .i64 qa, .int .i64 qb, .int .i64 qe, .int .i64 key] 37)).alloc (.cells #[.int .i64 0, .int .i64 0, .slice none 0 0, .slice none 0 0] 32) = w1 := ⟨_, rfl⟩
  have bA : Below w0.heap.size w0 (w0.alloc (.cells #[.int .i64 (n : Int), .int .i64 (m : Int), .slice fad F fcap, .slice tad T tcap] 32)) := (Below.refl _ _).alloc (Nat.le_refl _) _
  have bB : Below w0.heap.size w0 ((w0.alloc (.cells #[.int .i64 (n : Int), .int .i64 (m : Int), .slice fad F fcap, .slice tad T tcap] 32)).alloc (.cells #[.int .i64 qk, .int .i64 qa, .int .i64 qb, .int .i64 qe, .int .i64 key] 37)) := bA.alloc bA.size _
  have b1 : Below w0.heap.size w0 w1 := by rw [← hw1]; exact bB.alloc bB.size _
  have kx : w1.heap[w0.heap.size]? = some (.cells #[.int .i64 (n : Int), .int .i64 (m : Int), .slice fad F fcap, .slice tad T tcap] 32 (0, 0)) := by
    rw [← hw1, Below.heap_alloc _ _ _ (by simp; omega), Below.heap_alloc _ _ _ (by simp)]
    exact heap_alloc_new w0 _
  have ka : w1.heap[w0.heap.size + 1]? = some (.cells #[.int .i64 qk, .int .i64 qa, .int .i64 qb, .int .i64 qe, .int .i64 key] 37 (0, 0)) := by
    rw [← hw1, Below.heap_alloc _ _ _ (by simp)]
    have := heap_alloc_new (w0.alloc (.cells #[.int .i64 (n : Int), .int .i64 (m : Int), .slice fad F fcap, .slice tad T tcap] 32)) (.cells #[.int .i64 qk, .int .i64 qa, .int .i64 qb, .int .i64 qe, .int .i64 key] 37)
    rw [show (w0.alloc (.cells #[.int .i64 (n : Int), .int .i64 (m : Int), .slice fad F fcap, .slice tad T tcap] 32)).heap.size = w0.heap.size + 1 by simp] at this
    exact this
  have kr : w1.heap[w0.heap.size + 2]? = some (.cells #[.int .i64 0, .int .i64 0, .slice none 0 0, .slice none 0 0] 32 (0, 0)) := by
    rw [← hw1]
    have := heap_alloc_new ((w0.alloc (.cells #[.int .i64 (n : Int), .int .i64 (m : Int), .slice fad F fcap, .slice tad T tcap] 32)).alloc (.cells #[.int .i64 qk, .int .i64 qa, .int .i64 qb, .int .i64 qe, .int .i64 key] 37)) (.cells #[.int .i64 0, .int .i64 0, .slice none 0 0, .slice none 0 0] 32)
    rw [show ((w0.alloc (.cells #[.int .i64 (n : Int), .int .i64 (m : Int), .slice fad F fcap, .slice tad T tcap] 32)).alloc (.cells #[.int .i64 qk, .int .i64 qa, .int .i64 qb, .int .i64 qe, .int .i64 key] 37)).heap.size = w0.heap.size + 2 by simp] at this
    exact this
  have h1 := hid (h.more b1)
  obtain ⟨x0, x1, x2, x3⟩ := blk4 kx
  obtain ⟨a0, a1, a2, a3, a4⟩ := blk5 ka
  have hdoc := hid (s1 w1 b1)
  replace s2 := hid s2
  replace b1 := hid b1
  replace ka := hid ka
  replace kr := hid kr
  replace hw1 := hid hw1
  replace hg := hid hg
  clear kx bA bB h d s1
  go_enter Tryz.func10, Tryz.ntmps10
  go_upto_region 1 with fail
  rw [hw1.out]
  clear hw1
  go_wp2_with fail
  refine hdoc.out.mono ?_
  rintro x w2 ⟨xv', rfl, d2, b2⟩
  obtain ⟨fad', F', fcap', tad', T', tcap', rfl⟩ := d2.form
  obtain ⟨w3, hw3⟩ : ∃ w3, w2.alloc (.cells #[.int .i64 (n : Int), .int .i64 (m : Int), .slice fad' F' fcap', .slice tad' T' tcap'] 32) = w3 := ⟨_, rfl⟩
  have b23 : Below w2.heap.size w2 w3 := by rw [← hw3]; exact (Below.refl _ _).alloc (Nat.le_refl _) _
  have b13 : Below w1.heap.size w1 w3 := b2.trans (b23.mono b2.size)
  have ky3 : w3.heap[w2.heap.size]? = some (.cells #[.int .i64 (n : Int), .int .i64 (m : Int), .slice fad' F' fcap', .slice tad' T' tcap'] 32 (0, 0)) := by rw [← hw3]; exact heap_alloc_new w2 _
  have ka3 := Below.web b13 ka.out
  have kr3 := hid (Below.web b13 kr.out)
  have h3 := h1.out.more b13
  have d3 := hid (d2.below b23)
  have hYR : w2.heap.size ≠ w0.heap.size + 2 := by
    have q1 := (Array.getElem?_eq_some_iff.1 kr.out).1
    have q2 := b2.size
    omega
  have hprog := hid (s2.out w3.drew h3.drew)
  have K3 := hid (KeepW.ofBelow (b1.out.trans (b13.mono b1.out.size)))
  have hAR : w0.heap.size + 1 ≠ w0.heap.size + 2 := by omega
  have hRw : Hid (w0.heap.size ≤ w0.heap.size + 2 ∧ w.heap.size ≤ w0.heap.size) := hid ⟨by omega, hlw⟩
  obtain ⟨y0, y1, y2, y3⟩ := blk4 ky3
  obtain ⟨c0, c1, c2, c3, c4⟩ := blk5 ka3
  replace hw3 := hid hw3
  replace ky3 := hid ky3
  replace ka3 := hid ka3
  have hee : (er == er) = true := by simp
  clear hdoc d2 b2 b23 b13 h1 h3 s2 x0 x1 x2 x3 a0 a1 a2 a3 a4 ka kr b1 hK hlw
  go_upto_region 5 with fail
  rw [hw3.out]
  clear hw3
  go_region_held3 (fun w' => w'.cell? ⟨w2.heap.size, 0, none⟩ = some (.int .i64 (n : Int)) ∧ w'.cell? ⟨w2.heap.size, 1, none⟩ = some (.int .i64 (m : Int)) ∧ w'.cell? ⟨w2.heap.size, 2, none⟩ = some (.slice fad' F' fcap') ∧ w'.cell? ⟨w2.heap.size, 3, none⟩ = some (.slice tad' T' tcap') ∧ w'.cell? ⟨w0.heap.size + 1, 1, none⟩ = some (.int .i64 qa) ∧ w'.cell? ⟨w0.heap.size + 1, 2, none⟩ = some (.int .i64 qb)) (first | with_reducible exact ⟨y0, y1, y2, y3, c1, c2⟩ | with_reducible exact ⟨m0, m1, m2, m3, n1, n2⟩ | with_reducible exact ⟨o0, o1, o2, o3, p1, p2⟩ | with_reducible exact ⟨P0, P1, P2, P3, Q1, Q2⟩ | go_keep) ((first
    | (go_at_call 20; refine hprog.out.mono ?_; rintro x w4 ⟨rfl, h4, k4⟩; have kr4 := hid (k4.web kr3.out); have ky4 := hid (k4.web ky3.out); have ka4 := hid (k4.act ka3.out); obtain ⟨m0, m1, m2, m3⟩ := blk4 ky4.out; obtain ⟨n0, n1, n2, n3, n4⟩ := blk5 ka4.out; have K4 := hid (K3.out.drew.trans k4); have d4 := hid (d3.out.keepD (.ofW k4)); replace h4 := hid h4; clear k4)
    | (go_at_call 19; refine (num_any er _ (hg.out.below h4.out.below)).mono ?_; rintro x w5 ⟨rfl, b5⟩; obtain ⟨o0, o1, o2, o3⟩ := blk4 (Below.web b5 ky4.out); obtain ⟨p0, p1, p2, p3, p4⟩ := blk5 (Below.web b5 ka4.out); have P0 := (cell_put4 (w := w5) (g := w0.heap.size + 2) (p := ⟨w2.heap.size, 0, none⟩) hYR (.int .i64 (n : Int)) (.int .i64 (m : Int)) (.slice fad' F' fcap') (.slice tad' T' tcap')).trans o0; have P1 := (cell_put4 (w := w5) (g := w0.heap.size + 2) (p := ⟨w2.heap.size, 1, none⟩) hYR (.int .i64 (n : Int)) (.int .i64 (m : Int)) (.slice fad' F' fcap') (.slice tad' T' tcap')).trans o1; have P2 := (cell_put4 (w := w5) (g := w0.heap.size + 2) (p := ⟨w2.heap.size, 2, none⟩) hYR (.int .i64 (n : Int)) (.int .i64 (m : Int)) (.slice fad' F' fcap') (.slice tad' T' tcap')).trans o2; have P3 := (cell_put4 (w := w5) (g := w0.heap.size + 2) (p := ⟨w2.heap.size, 3, none⟩) hYR (.int .i64 (n : Int)) (.int .i64 (m : Int)) (.slice fad' F' fcap') (.slice tad' T' tcap')).trans o3; have Q1 := (cell_put4 (w := w5) (g := w0.heap.size + 2) (p := ⟨w0.heap.size + 1, 1, none⟩) hAR (.int .i64 (n : Int)) (.int .i64 (m : Int)) (.slice fad' F' fcap') (.slice tad' T' tcap')).trans p1; have Q2 := (cell_put4 (w := w5) (g := w0.heap.size + 2) (p := ⟨w0.heap.size + 1, 2, none⟩) hAR (.int .i64 (n : Int)) (.int .i64 (m : Int)) (.slice fad' F' fcap') (.slice tad' T' tcap')).trans p2; have kr5 := Below.web b5 kr4.out; have hfin := hid (do_end (w1 := w1) hRw.out.1 hRw.out.2 (h4.out.more b5) (d4.out.below b5) (K4.out.trans (.ofBelow b5)) kr5); obtain ⟨⟨r0, r1, r2, r3⟩, g0, g1, g2, g3⟩ := Wd.blk4 kr5; replace kr5 := hid kr5; clear b5)))
  all_goals
    go_wp2_with fail
    refine bodyPost_ret (results_cellT rfl _ _ (w0.heap.size + 2) 32 _ (0, 0) _ rfl hfin.out.1 Tryz.underlying32 rfl (by kernel_rfl)) rfl ?_
    exact hfin.out.2

set_option maxRecDepth 100000 in
set_option maxHeartbeats 1000000 in
theorem do_split3 (h : WQ w.heap.size w wb n m sq tt ky w0) (d : Dc n m sq tt ky w0 xv) (hg : Handle w) (hn : n ≤ 1000) (hm : m ≤ 1000) (qk qa qb qe key : Int) (hk1 : -9223372036854775808 ≤ key) (hk2 : key ≤ 9223372036854775807) (hK : wrap64 ((IntKind.u64.wrap qk).tmod 8) = 3) :
    Calls Tryz.prog 10 #[.pointer (some ⟨wb, 0, none⟩), xv, .agg #[.int .i64 qk, .int .i64 qa, .int .i64 qb, .int .i64 qe, .int .i64 key]] w0 fun x w' => DoIs w wb n m w0 x w' := by
  obtain ⟨sq', er, s1, s2⟩ := split_step h d hn qa qb
  obtain ⟨fad, F, fcap, tad, T, tcap, rfl⟩ := d.form
  have hlw := h.below.size
  obtain ⟨w1, hw1⟩ : ∃ w1, ((w0.alloc (.cells #[.int .i64 (n : Int), .int .i64 (m : Int), .slice fad F fcap, .slice tad T tcap] 32)).alloc (.cells #[.int .i64 qk, .int .i64 qa, .int .i64 qb, .int .i64 qe, .int .i64 key] 37)).alloc (.cells #[.int .i64 0, .int .i64 0, .slice none 0 0, .slice none 0 0] 32) = w1 := ⟨_, rfl⟩
  have bA : Below w0.heap.size w0 (w0.alloc (.cells #[.int .i64 (n : Int), .int .i64 (m : Int), .slice fad F fcap, .slice tad T tcap] 32)) := (Below.refl _ _).alloc (Nat.le_refl _) _
  have bB : Below w0.heap.size w0 ((w0.alloc (.cells #[.int .i64 (n : Int), .int .i64 (m : Int), .slice fad F fcap, .slice tad T tcap] 32)).alloc (.cells #[.int .i64 qk, .int .i64 qa, .int .i64 qb, .int .i64 qe, .int .i64 key] 37)) := bA.alloc bA.size _
  have b1 : Below w0.heap.size w0 w1 := by rw [← hw1]; exact bB.alloc bB.size _
  have kx : w1.heap[w0.heap.size]? = some (.cells #[.int .i64 (n : Int), .int .i64 (m : Int), .slice fad F fcap, .slice tad T tcap] 32 (0, 0)) := by
    rw [← hw1, Below.heap_alloc _ _ _ (by simp; omega), Below.heap_alloc _ _ _ (by simp)]
    exact heap_alloc_new w0 _
  have ka : w1.heap[w0.heap.size + 1]? = some (.cells #[.int .i64 qk, .int .i64 qa, .int .i64 qb, .int .i64 qe, .int .i64 key] 37 (0, 0)) := by
    rw [← hw1, Below.heap_alloc _ _ _ (by simp)]
    have := heap_alloc_new (w0.alloc (.cells #[.int .i64 (n : Int), .int .i64 (m : Int), .slice fad F fcap, .slice tad T tcap] 32)) (.cells #[.int .i64 qk, .int .i64 qa, .int .i64 qb, .int .i64 qe, .int .i64 key] 37)
    rw [show (w0.alloc (.cells #[.int .i64 (n : Int), .int .i64 (m : Int), .slice fad F fcap, .slice tad T tcap] 32)).heap.size = w0.heap.size + 1 by simp] at this
    exact this
  have kr : w1.heap[w0.heap.size + 2]? = some (.cells #[.int .i64 0, .int .i64 0, .slice none 0 0, .slice none 0 0] 32 (0, 0)) := by
    rw [← hw1]
    have := heap_alloc_new ((w0.alloc (.cells #[.int .i64 (n : Int), .int .i64 (m : Int), .slice fad F fcap, .slice tad T tcap] 32)).alloc (.cells #[.int .i64 qk, .int .i64 qa, .int .i64 qb, .int .i64 qe, .int .i64 key] 37)) (.cells #[.int .i64 0, .int .i64 0, .slice none 0 0, .slice none 0 0] 32)
    rw [show ((w0.alloc (.cells #[.int .i64 (n : Int), .int .i64 (m : Int), .slice fad F fcap, .slice tad T tcap] 32)).alloc (.cells #[.int .i64 qk, .int .i64 qa, .int .i64 qb, .int .i64 qe, .int .i64 key] 37)).heap.size = w0.heap.size + 2 by simp] at this
    exact this
  have h1 := hid (h.more b1)
  obtain ⟨x0, x1, x2, x3⟩ := blk4 kx
  obtain ⟨a0, a1, a2, a3, a4⟩ := blk5 ka
  have hdoc := hid (s1 w1 b1)
  replace s2 := hid s2
  replace b1 := hid b1
  replace ka := hid ka
  replace kr := hid kr
  replace hw1 := hid hw1
  replace hg := hid hg
  clear kx bA bB h d s1
  go_enter Tryz.func10, Tryz.ntmps10
  go_upto_region 1 with fail
  rw [hw1.out]
  clear hw1
  go_wp2_with fail
  refine hdoc.out.mono ?_
  rintro x w2 ⟨xv', rfl, d2, b2⟩
  obtain ⟨fad', F', fcap', tad', T', tcap', rfl⟩ := d2.form
  obtain ⟨w3, hw3⟩ : ∃ w3, w2.alloc (.cells #[.int .i64 (n : Int), .int .i64 (m : Int), .slice fad' F' fcap', .slice tad' T' tcap'] 32) = w3 := ⟨_, rfl⟩
  have b23 : Below w2.heap.size w2 w3 := by rw [← hw3]; exact (Below.refl _ _).alloc (Nat.le_refl _) _
  have b13 : Below w1.heap.size w1 w3 := b2.trans (b23.mono b2.size)
  have ky3 : w3.heap[w2.heap.size]? = some (.cells #[.int .i64 (n : Int), .int .i64 (m : Int), .slice fad' F' fcap', .slice tad' T' tcap'] 32 (0, 0)) := by rw [← hw3]; exact heap_alloc_new w2 _
  have ka3 := Below.web b13 ka.out
  have kr3 := hid (Below.web b13 kr.out)
  have h3 := h1.out.more b13
  have d3 := hid (d2.below b23)
  have hYR : w2.heap.size ≠ w0.heap.size + 2 := by
    have q1 := (Array.getElem?_eq_some_iff.1 kr.out).1
    have q2 := b2.size
    omega
  have hprog := hid (s2.out w3.drew h3.drew)
  have K3 := hid (KeepW.ofBelow (b1.out.trans (b13.mono b1.out.size)))
  have hAR : w0.heap.size + 1 ≠ w0.heap.size + 2 := by omega
  have hRw : Hid (w0.heap.size ≤ w0.heap.size + 2 ∧ w.heap.size ≤ w0.heap.size) := hid ⟨by omega, hlw⟩
  obtain ⟨y0, y1, y2, y3⟩ := blk4 ky3
  obtain ⟨c0, c1, c2, c3, c4⟩ := blk5 ka3
  replace hw3 := hid hw3
  replace ky3 := hid ky3
  replace ka3 := hid ka3
  have hee : (er == er) = true := by simp
  clear hdoc d2 b2 b23 b13 h1 h3 s2 x0 x1 x2 x3 a0 a1 a2 a3 a4 ka kr b1 hK hlw
  go_upto_region 5 with fail
  rw [hw3.out]
  clear hw3
  go_region_held3 (fun w' => w'.cell? ⟨w2.heap.size, 0, none⟩ = some (.int .i64 (n : Int)) ∧ w'.cell? ⟨w2.heap.size, 1, none⟩ = some (.int .i64 (m : Int)) ∧ w'.cell? ⟨w2.heap.size, 2, none⟩ = some (.slice fad' F' fcap') ∧ w'.cell? ⟨w2.heap.size, 3, none⟩ = some (.slice tad' T' tcap') ∧ w'.cell? ⟨w0.heap.size + 1, 1, none⟩ = some (.int .i64 qa) ∧ w'.cell? ⟨w0.heap.size + 1, 2, none⟩ = some (.int .i64 qb)) (first | with_reducible exact ⟨y0, y1, y2, y3, c1, c2⟩ | with_reducible exact ⟨m0, m1, m2, m3, n1, n2⟩ | with_reducible exact ⟨o0, o1, o2, o3, p1, p2⟩ | with_reducible exact ⟨P0, P1, P2, P3, Q1, Q2⟩ | go_keep) ((first
    | (go_at_call 20; refine hprog.out.mono ?_; rintro x w4 ⟨rfl, h4, k4⟩; have kr4 := hid (k4.web kr3.out); have ky4 := hid (k4.web ky3.out); have ka4 := hid (k4.act ka3.out); obtain ⟨m0, m1, m2, m3⟩ := blk4 ky4.out; obtain ⟨n0, n1, n2, n3, n4⟩ := blk5 ka4.out; have K4 := hid (K3.out.drew.trans k4); have d4 := hid (d3.out.keepD (.ofW k4)); replace h4 := hid h4; clear k4)
    | (go_at_call 19; refine (num_any er _ (hg.out.below h4.out.below)).mono ?_; rintro x w5 ⟨rfl, b5⟩; obtain ⟨o0, o1, o2, o3⟩ := blk4 (Below.web b5 ky4.out); obtain ⟨p0, p1, p2, p3, p4⟩ := blk5 (Below.web b5 ka4.out); have P0 := (cell_put4 (w := w5) (g := w0.heap.size + 2) (p := ⟨w2.heap.size, 0, none⟩) hYR (.int .i64 (n : Int)) (.int .i64 (m : Int)) (.slice fad' F' fcap') (.slice tad' T' tcap')).trans o0; have P1 := (cell_put4 (w := w5) (g := w0.heap.size + 2) (p := ⟨w2.heap.size, 1, none⟩) hYR (.int .i64 (n : Int)) (.int .i64 (m : Int)) (.slice fad' F' fcap') (.slice tad' T' tcap')).trans o1; have P2 := (cell_put4 (w := w5) (g := w0.heap.size + 2) (p := ⟨w2.heap.size, 2, none⟩) hYR (.int .i64 (n : Int)) (.int .i64 (m : Int)) (.slice fad' F' fcap') (.slice tad' T' tcap')).trans o2; have P3 := (cell_put4 (w := w5) (g := w0.heap.size + 2) (p := ⟨w2.heap.size, 3, none⟩) hYR (.int .i64 (n : Int)) (.int .i64 (m : Int)) (.slice fad' F' fcap') (.slice tad' T' tcap')).trans o3; have Q1 := (cell_put4 (w := w5) (g := w0.heap.size + 2) (p := ⟨w0.heap.size + 1, 1, none⟩) hAR (.int .i64 (n : Int)) (.int .i64 (m : Int)) (.slice fad' F' fcap') (.slice tad' T' tcap')).trans p1; have Q2 := (cell_put4 (w := w5) (g := w0.heap.size + 2) (p := ⟨w0.heap.size + 1, 2, none⟩) hAR (.int .i64 (n : Int)) (.int .i64 (m : Int)) (.slice fad' F' fcap') (.slice tad' T' tcap')).trans p2; have kr5 := Below.web b5 kr4.out; have hfin := hid (do_end (w1 := w1) hRw.out.1 hRw.out.2 (h4.out.more b5) (d4.out.below b5) (K4.out.trans (.ofBelow b5)) kr5); obtain ⟨⟨r0, r1, r2, r3⟩, g0, g1, g2, g3⟩ := Wd.blk4 kr5; replace kr5 := hid kr5; clear b5)))
  all_goals
    go_wp2_with fail
    refine bodyPost_ret (results_cellT rfl _ _ (w0.heap.size + 2) 32 _ (0, 0) _ rfl hfin.out.1 Tryz.underlying32 rfl (by kernel_rfl)) rfl ?_
    exact hfin.out.2

set_option maxRecDepth 100000 in
set_option maxHeartbeats 1000000 in
theorem do_apart4 (h : WQ w.heap.size w wb n m sq tt ky w0) (d : Dc n m sq tt ky w0 xv) (hg : Handle w) (hn : n ≤ 1000) (hm : m ≤ 1000) (qk qa qb qe key : Int) (hk1 : -9223372036854775808 ≤ key) (hk2 : key ≤ 9223372036854775807) (hK : wrap64 ((IntKind.u64.wrap qk).tmod 8) = 4) :
    Calls Tryz.prog 10 #[.pointer (some ⟨wb, 0, none⟩), xv, .agg #[.int .i64 qk, .int .i64 qa, .int .i64 qb, .int .i64 qe, .int .i64 key]] w0 fun x w' => DoIs w wb n m w0 x w' := by
  obtain ⟨sq', er, s1, s2⟩ := apart_step h d hn qa
  obtain ⟨fad, F, fcap, tad, T, tcap, rfl⟩ := d.form
  have hlw := h.below.size
  obtain ⟨w1, hw1⟩ : ∃ w1, ((w0.alloc (.cells #[.int .i64 (n : Int), .int .i64 (m : Int), .slice fad F fcap, .slice tad T tcap] 32)).alloc (.cells #[.int .i64 qk, .int .i64 qa, .int .i64 qb, .int .i64 qe, .int .i64 key] 37)).alloc (.cells #[.int .i64 0, .int .i64 0, .slice none 0 0, .slice none 0 0] 32) = w1 := ⟨_, rfl⟩
  have bA : Below w0.heap.size w0 (w0.alloc (.cells #[.int .i64 (n : Int), .int .i64 (m : Int), .slice fad F fcap, .slice tad T tcap] 32)) := (Below.refl _ _).alloc (Nat.le_refl _) _
  have bB : Below w0.heap.size w0 ((w0.alloc (.cells #[.int .i64 (n : Int), .int .i64 (m : Int), .slice fad F fcap, .slice tad T tcap] 32)).alloc (.cells #[.int .i64 qk, .int .i64 qa, .int .i64 qb, .int .i64 qe, .int .i64 key] 37)) := bA.alloc bA.size _
  have b1 : Below w0.heap.size w0 w1 := by rw [← hw1]; exact bB.alloc bB.size _
  have kx : w1.heap[w0.heap.size]? = some (.cells #[.int .i64 (n : Int), .int .i64 (m : Int), .slice fad F fcap, .slice tad T tcap] 32 (0, 0)) := by
    rw [← hw1, Below.heap_alloc _ _ _ (by simp; omega), Below.heap_alloc _ _ _ (by simp)]
    exact heap_alloc_new w0 _
  have ka : w1.heap[w0.heap.size + 1]? = some (.cells #[.int .i64 qk, .int .i64 qa, .int .i64 qb, .int .i64 qe, .int .i64 key] 37 (0, 0)) := by
    rw [← hw1, Below.heap_alloc _ _ _ (by simp)]
    have := heap_alloc_new (w0.alloc (.cells #[.int .i64 (n : Int), .int .i64 (m : Int), .slice fad F fcap, .slice tad T tcap] 32)) (.cells #[.int .i64 qk, .int .i64 qa, .int .i64 qb, .int .i64 qe, .int .i64 key] 37)
    rw [show (w0.alloc (.cells #[.int .i64 (n : Int), .int .i64 (m : Int), .slice fad F fcap, .slice tad T tcap] 32)).heap.size = w0.heap.size + 1 by simp] at this
    exact this
  have kr : w1.heap[w0.heap.size + 2]? = some (.cells #[.int .i64 0, .int .i64 0, .slice none 0 0, .slice none 0 0] 32 (0, 0)) := by
    rw [← hw1]
    have := heap_alloc_new ((w0.alloc (.cells #[.int .i64 (n : Int), .int .i64 (m : Int), .slice fad F fcap, .slice tad T tcap] 32)).alloc (.cells #[.int .i64 qk, .int .i64 qa, .int .i64 qb, .int .i64 qe, .int .i64 key] 37)) (.cells #[.int .i64 0, .int .i64 0, .slice none 0 0, .slice none 0 0] 32)
    rw [show ((w0.alloc (.cells #[.int .i64 (n : Int), .int .i64 (m : Int), .slice fad F fcap, .slice tad T tcap] 32)).alloc (.cells #[.int .i64 qk, .int .i64 qa, .int .i64 qb, .int .i64 qe, .int .i64 key] 37)).heap.size = w0.heap.size + 2 by simp] at this
    exact this
  have h1 := hid (h.more b1)
  obtain ⟨x0, x1, x2, x3⟩ := blk4 kx
  obtain ⟨a0, a1, a2, a3, a4⟩ := blk5 ka
  have hdoc := hid (s1 w1 b1)
  replace s2 := hid s2
  replace b1 := hid b1
  replace ka := hid ka
  replace kr := hid kr
  replace hw1 := hid hw1
  replace hg := hid hg
  clear kx bA bB h d s1
  go_enter Tryz.func10, Tryz.ntmps10
  go_upto_region 1 with fail
  rw [hw1.out]
  clear hw1
  go_wp2_with fail
  refine hdoc.out.mono ?_
  rintro x w2 ⟨xv', rfl, d2, b2⟩
  obtain ⟨fad', F', fcap', tad', T', tcap', rfl⟩ := d2.form
  obtain ⟨w3, hw3⟩ : ∃ w3, w2.alloc (.cells #[.int .i64 (n : Int), .int .i64 (m : Int), .slice fad' F' fcap', .slice tad' T' tcap'] 32) = w3 := ⟨_, rfl⟩
  have b23 : Below w2.heap.size w2 w3 := by rw [← hw3]; exact (Below.refl _ _).alloc (Nat.le_refl _) _
  have b13 : Below w1.heap.size w1 w3 := b2.trans (b23.mono b2.size)
  have ky3 : w3.heap[w2.heap.size]? = some (.cells #[.int .i64 (n : Int), .int .i64 (m : Int), .slice fad' F' fcap', .slice tad' T' tcap'] 32 (0, 0)) := by rw [← hw3]; exact heap_alloc_new w2 _
  have ka3 := Below.web b13 ka.out
  have kr3 := hid (Below.web b13 kr.out)
  have h3 := h1.out.more b13
  have d3 := hid (d2.below b23)
  have hYR : w2.heap.size ≠ w0.heap.size + 2 := by
    have q1 := (Array.getElem?_eq_some_iff.1 kr.out).1
    have q2 := b2.size
    omega
  have hprog := hid (s2.out w3.drew h3.drew)
  have K3 := hid (KeepW.ofBelow (b1.out.trans (b13.mono b1.out.size)))
  have hAR : w0.heap.size + 1 ≠ w0.heap.size + 2 := by omega
  have hRw : Hid (w0.heap.size ≤ w0.heap.size + 2 ∧ w.heap.size ≤ w0.heap.size) := hid ⟨by omega, hlw⟩
  obtain ⟨y0, y1, y2, y3⟩ := blk4 ky3
  obtain ⟨c0, c1, c2, c3, c4⟩ := blk5 ka3
  replace hw3 := hid hw3
  replace ky3 := hid ky3
  replace ka3 := hid ka3
  have hee : (er == er) = true := by simp
  clear hdoc d2 b2 b23 b13 h1 h3 s2 x0 x1 x2 x3 a0 a1 a2 a3 a4 ka kr b1 hK hlw
  go_upto_region 8 with fail
  rw [hw3.out]
  clear hw3
  go_region_held3 (fun w' => w'.cell? ⟨w2.heap.size, 0, none⟩ = some (.int .i64 (n : Int)) ∧ w'.cell? ⟨w2.heap.size, 1, none⟩ = some (.int .i64 (m : Int)) ∧ w'.cell? ⟨w2.heap.size, 2, none⟩ = some (.slice fad' F' fcap') ∧ w'.cell? ⟨w2.heap.size, 3, none⟩ = some (.slice tad' T' tcap') ∧ w'.cell? ⟨w0.heap.size + 1, 1, none⟩ = some (.int .i64 qa)) (first | with_reducible exact ⟨y0, y1, y2, y3, c1⟩ | with_reducible exact ⟨m0, m1, m2, m3, n1⟩ | with_reducible exact ⟨o0, o1, o2, o3, p1⟩ | with_reducible exact ⟨P0, P1, P2, P3, Q1⟩ | go_keep) ((first
    | (go_at_call 22; refine hprog.out.mono ?_; rintro x w4 ⟨rfl, h4, k4⟩; have kr4 := hid (k4.web kr3.out); have ky4 := hid (k4.web ky3.out); have ka4 := hid (k4.act ka3.out); obtain ⟨m0, m1, m2, m3⟩ := blk4 ky4.out; obtain ⟨n0, n1, n2, n3, n4⟩ := blk5 ka4.out; have K4 := hid (K3.out.drew.trans k4); have d4 := hid (d3.out.keepD (.ofW k4)); replace h4 := hid h4; clear k4)
    | (go_at_call 19; refine (num_any er _ (hg.out.below h4.out.below)).mono ?_; rintro x w5 ⟨rfl, b5⟩; obtain ⟨o0, o1, o2, o3⟩ := blk4 (Below.web b5 ky4.out); obtain ⟨p0, p1, p2, p3, p4⟩ := blk5 (Below.web b5 ka4.out); have P0 := (cell_put4 (w := w5) (g := w0.heap.size + 2) (p := ⟨w2.heap.size, 0, none⟩) hYR (.int .i64 (n : Int)) (.int .i64 (m : Int)) (.slice fad' F' fcap') (.slice tad' T' tcap')).trans o0; have P1 := (cell_put4 (w := w5) (g := w0.heap.size + 2) (p := ⟨w2.heap.size, 1, none⟩) hYR (.int .i64 (n : Int)) (.int .i64 (m : Int)) (.slice fad' F' fcap') (.slice tad' T' tcap')).trans o1; have P2 := (cell_put4 (w := w5) (g := w0.heap.size + 2) (p := ⟨w2.heap.size, 2, none⟩) hYR (.int .i64 (n : Int)) (.int .i64 (m : Int)) (.slice fad' F' fcap') (.slice tad' T' tcap')).trans o2; have P3 := (cell_put4 (w := w5) (g := w0.heap.size + 2) (p := ⟨w2.heap.size, 3, none⟩) hYR (.int .i64 (n : Int)) (.int .i64 (m : Int)) (.slice fad' F' fcap') (.slice tad' T' tcap')).trans o3; have Q1 := (cell_put4 (w := w5) (g := w0.heap.size + 2) (p := ⟨w0.heap.size + 1, 1, none⟩) hAR (.int .i64 (n : Int)) (.int .i64 (m : Int)) (.slice fad' F' fcap') (.slice tad' T' tcap')).trans p1; have kr5 := Below.web b5 kr4.out; have hfin := hid (do_end (w1 := w1) hRw.out.1 hRw.out.2 (h4.out.more b5) (d4.out.below b5) (K4.out.trans (.ofBelow b5)) kr5); obtain ⟨⟨r0, r1, r2, r3⟩, g0, g1, g2, g3⟩ := Wd.blk4 kr5; replace kr5 := hid kr5; clear b5)))
  all_goals
    go_wp2_with fail
    refine bodyPost_ret (results_cellT rfl _ _ (w0.heap.size + 2) 32 _ (0, 0) _ rfl hfin.out.1 Tryz.underlying32 rfl (by kernel_rfl)) rfl ?_
    exact hfin.out.2

set_option maxRecDepth 100000 in
set_option maxHeartbeats 1000000 in
theorem do_tie5 (h : WQ w.heap.size w wb n m sq tt ky w0) (d : Dc n m sq tt ky w0 xv) (hg : Handle w) (hn : n ≤ 1000) (hm : m ≤ 1000) (qk qa qb qe key : Int) (hk1 : -9223372036854775808 ≤ key) (hk2 : key ≤ 9223372036854775807) (hK : wrap64 ((IntKind.u64.wrap qk).tmod 8) = 5) :
    Calls Tryz.prog 10 #[.pointer (some ⟨wb, 0, none⟩), xv, .agg #[.int .i64 qk, .int .i64 qa, .int .i64 qb, .int .i64 qe, .int .i64 key]] w0 fun x w' => DoIs w wb n m w0 x w' := by
  obtain ⟨tt', ky', er, s1, s2⟩ := tie_step h d hn hm qe qa qb key hk1 hk2
  obtain ⟨fad, F, fcap, tad, T, tcap, rfl⟩ := d.form
  have hlw := h.below.size
  obtain ⟨w1, hw1⟩ : ∃ w1, ((w0.alloc (.cells #[.int .i64 (n : Int), .int .i64 (m : Int), .slice fad F fcap, .slice tad T tcap] 32)).alloc (.cells #[.int .i64 qk, .int .i64 qa, .int .i64 qb, .int .i64 qe, .int .i64 key] 37)).alloc (.cells #[.int .i64 0, .int .i64 0, .slice none 0 0, .slice none 0 0] 32) = w1 := ⟨_, rfl⟩
  have bA : Below w0.heap.size w0 (w0.alloc (.cells #[.int .i64 (n : Int), .int .i64 (m : Int), .slice fad F fcap, .slice tad T tcap] 32)) := (Below.refl _ _).alloc (Nat.le_refl _) _
  have bB : Below w0.heap.size w0 ((w0.alloc (.cells #[.int .i64 (n : Int), .int .i64 (m : Int), .slice fad F fcap, .slice tad T tcap] 32)).alloc (.cells #[.int .i64 qk, .int .i64 qa, .int .i64 qb, .int .i64 qe, .int .i64 key] 37)) := bA.alloc bA.size _
  have b1 : Below w0.heap.size w0 w1 := by rw [← hw1]; exact bB.alloc bB.size _
  have kx : w1.heap[w0.heap.size]? = some (.cells #[.int .i64 (n : Int), .int .i64 (m : Int), .slice fad F fcap, .slice tad T tcap] 32 (0, 0)) := by
    rw [← hw1, Below.heap_alloc _ _ _ (by simp; omega), Below.heap_alloc _ _ _ (by simp)]
    exact heap_alloc_new w0 _
  have ka : w1.heap[w0.heap.size + 1]? = some (.cells #[.int .i64 qk, .int .i64 qa, .int .i64 qb, .int .i64 qe, .int .i64 key] 37 (0, 0)) := by
    rw [← hw1, Below.heap_alloc _ _ _ (by simp)]
    have := heap_alloc_new (w0.alloc (.cells #[.int .i64 (n : Int), .int .i64 (m : Int), .slice fad F fcap, .slice tad T tcap] 32)) (.cells #[.int .i64 qk, .int .i64 qa, .int .i64 qb, .int .i64 qe, .int .i64 key] 37)
    rw [show (w0.alloc (.cells #[.int .i64 (n : Int), .int .i64 (m : Int), .slice fad F fcap, .slice tad T tcap] 32)).heap.size = w0.heap.size + 1 by simp] at this
    exact this
  have kr : w1.heap[w0.heap.size + 2]? = some (.cells #[.int .i64 0, .int .i64 0, .slice none 0 0, .slice none 0 0] 32 (0, 0)) := by
    rw [← hw1]
    have := heap_alloc_new ((w0.alloc (.cells #[.int .i64 (n : Int), .int .i64 (m : Int), .slice fad F fcap, .slice tad T tcap] 32)).alloc (.cells #[.int .i64 qk, .int .i64 qa, .int .i64 qb, .int .i64 qe, .int .i64 key] 37)) (.cells #[.int .i64 0, .int .i64 0, .slice none 0 0, .slice none 0 0] 32)
    rw [show ((w0.alloc (.cells #[.int .i64 (n : Int), .int .i64 (m : Int), .slice fad F fcap, .slice tad T tcap] 32)).alloc (.cells #[.int .i64 qk, .int .i64 qa, .int .i64 qb, .int .i64 qe, .int .i64 key] 37)).heap.size = w0.heap.size + 2 by simp] at this
    exact this
  have h1 := hid (h.more b1)
  obtain ⟨x0, x1, x2, x3⟩ := blk4 kx
  obtain ⟨a0, a1, a2, a3, a4⟩ := blk5 ka
  have hdoc := hid (s1 w1 b1)
  replace s2 := hid s2
  replace b1 := hid b1
  replace ka := hid ka
  replace kr := hid kr
  replace hw1 := hid hw1
  replace hg := hid hg
  clear kx bA bB h d s1
  go_enter Tryz.func10, Tryz.ntmps10
  go_upto_region 1 with fail
  rw [hw1.out]
  clear hw1
  go_wp2_with fail
  refine hdoc.out.mono ?_
  rintro x w2 ⟨xv', rfl, d2, b2⟩
  obtain ⟨fad', F', fcap', tad', T', tcap', rfl⟩ := d2.form
  obtain ⟨w3, hw3⟩ : ∃ w3, w2.alloc (.cells #[.int .i64 (n : Int), .int .i64 (m : Int), .slice fad' F' fcap', .slice tad' T' tcap'] 32) = w3 := ⟨_, rfl⟩
  have b23 : Below w2.heap.size w2 w3 := by rw [← hw3]; exact (Below.refl _ _).alloc (Nat.le_refl _) _
  have b13 : Below w1.heap.size w1 w3 := b2.trans (b23.mono b2.size)
  have ky3 : w3.heap[w2.heap.size]? = some (.cells #[.int .i64 (n : Int), .int .i64 (m : Int), .slice fad' F' fcap', .slice tad' T' tcap'] 32 (0, 0)) := by rw [← hw3]; exact heap_alloc_new w2 _
  have ka3 := Below.web b13 ka.out
  have kr3 := hid (Below.web b13 kr.out)
  have h3 := h1.out.more b13
  have d3 := hid (d2.below b23)
  have hYR : w2.heap.size ≠ w0.heap.size + 2 := by
    have q1 := (Array.getElem?_eq_some_iff.1 kr.out).1
    have q2 := b2.size
    omega
  have hprog := hid (s2.out w3.drew h3.drew)
  have K3 := hid (KeepW.ofBelow (b1.out.trans (b13.mono b1.out.size)))
  have hAR : w0.heap.size + 1 ≠ w0.heap.size + 2 := by omega
  have hRw : Hid (w0.heap.size ≤ w0.heap.size + 2 ∧ w.heap.size ≤ w0.heap.size) := hid ⟨by omega, hlw⟩
  obtain ⟨y0, y1, y2, y3⟩ := blk4 ky3
  obtain ⟨c0, c1, c2, c3, c4⟩ := blk5 ka3
  replace hw3 := hid hw3
  replace ky3 := hid ky3
  replace ka3 := hid ka3
  have hee : (er == er) = true := by simp
  clear hdoc d2 b2 b23 b13 h1 h3 s2 x0 x1 x2 x3 a0 a1 a2 a3 a4 ka kr b1 hK hlw
  go_upto_region 12 with fail
  rw [hw3.out]
  clear hw3
  go_region_held3 (fun w' => w'.cell? ⟨w2.heap.size, 0, none⟩ = some (.int .i64 (n : Int)) ∧ w'.cell? ⟨w2.heap.size, 1, none⟩ = some (.int .i64 (m : Int)) ∧ w'.cell? ⟨w2.heap.size, 2, none⟩ = some (.slice fad' F' fcap') ∧ w'.cell? ⟨w2.heap.size, 3, none⟩ = some (.slice tad' T' tcap') ∧ w'.cell? ⟨w0.heap.size + 1, 1, none⟩ = some (.int .i64 qa) ∧ w'.cell? ⟨w0.heap.size + 1, 2, none⟩ = some (.int .i64 qb) ∧ w'.cell? ⟨w0.heap.size + 1, 3, none⟩ = some (.int .i64 qe) ∧ w'.cell? ⟨w0.heap.size + 1, 4, none⟩ = some (.int .i64 key)) (first | with_reducible exact ⟨y0, y1, y2, y3, c1, c2, c3, c4⟩ | with_reducible exact ⟨m0, m1, m2, m3, n1, n2, n3, n4⟩ | with_reducible exact ⟨o0, o1, o2, o3, p1, p2, p3, p4⟩ | with_reducible exact ⟨P0, P1, P2, P3, Q1, Q2, Q3, Q4⟩ | go_keep) ((first
    | (go_at_call 23; refine hprog.out.mono ?_; rintro x w4 ⟨rfl, h4, k4⟩; have kr4 := hid (k4.web kr3.out); have ky4 := hid (k4.web ky3.out); have ka4 := hid (k4.act ka3.out); obtain ⟨m0, m1, m2, m3⟩ := blk4 ky4.out; obtain ⟨n0, n1, n2, n3, n4⟩ := blk5 ka4.out; have K4 := hid (K3.out.drew.trans k4); have d4 := hid (d3.out.keepD (.ofW k4)); replace h4 := hid h4; clear k4)
    | (go_at_call 19; refine (num_any er _ (hg.out.below h4.out.below)).mono ?_; rintro x w5 ⟨rfl, b5⟩; obtain ⟨o0, o1, o2, o3⟩ := blk4 (Below.web b5 ky4.out); obtain ⟨p0, p1, p2, p3, p4⟩ := blk5 (Below.web b5 ka4.out); have P0 := (cell_put4 (w := w5) (g := w0.heap.size + 2) (p := ⟨w2.heap.size, 0, none⟩) hYR (.int .i64 (n : Int)) (.int .i64 (m : Int)) (.slice fad' F' fcap') (.slice tad' T' tcap')).trans o0; have P1 := (cell_put4 (w := w5) (g := w0.heap.size + 2) (p := ⟨w2.heap.size, 1, none⟩) hYR (.int .i64 (n : Int)) (.int .i64 (m : Int)) (.slice fad' F' fcap') (.slice tad' T' tcap')).trans o1; have P2 := (cell_put4 (w := w5) (g := w0.heap.size + 2) (p := ⟨w2.heap.size, 2, none⟩) hYR (.int .i64 (n : Int)) (.int .i64 (m : Int)) (.slice fad' F' fcap') (.slice tad' T' tcap')).trans o2; have P3 := (cell_put4 (w := w5) (g := w0.heap.size + 2) (p := ⟨w2.heap.size, 3, none⟩) hYR (.int .i64 (n : Int)) (.int .i64 (m : Int)) (.slice fad' F' fcap') (.slice tad' T' tcap')).trans o3; have Q1 := (cell_put4 (w := w5) (g := w0.heap.size + 2) (p := ⟨w0.heap.size + 1, 1, none⟩) hAR (.int .i64 (n : Int)) (.int .i64 (m : Int)) (.slice fad' F' fcap') (.slice tad' T' tcap')).trans p1; have Q2 := (cell_put4 (w := w5) (g := w0.heap.size + 2) (p := ⟨w0.heap.size + 1, 2, none⟩) hAR (.int .i64 (n : Int)) (.int .i64 (m : Int)) (.slice fad' F' fcap') (.slice tad' T' tcap')).trans p2; have Q3 := (cell_put4 (w := w5) (g := w0.heap.size + 2) (p := ⟨w0.heap.size + 1, 3, none⟩) hAR (.int .i64 (n : Int)) (.int .i64 (m : Int)) (.slice fad' F' fcap') (.slice tad' T' tcap')).trans p3; have Q4 := (cell_put4 (w := w5) (g := w0.heap.size + 2) (p := ⟨w0.heap.size + 1, 4, none⟩) hAR (.int .i64 (n : Int)) (.int .i64 (m : Int)) (.slice fad' F' fcap') (.slice tad' T' tcap')).trans p4; have kr5 := Below.web b5 kr4.out; have hfin := hid (do_end (w1 := w1) hRw.out.1 hRw.out.2 (h4.out.more b5) (d4.out.below b5) (K4.out.trans (.ofBelow b5)) kr5); obtain ⟨⟨r0, r1, r2, r3⟩, g0, g1, g2, g3⟩ := Wd.blk4 kr5; replace kr5 := hid kr5; clear b5)))
  all_goals
    go_wp2_with fail
    refine bodyPost_ret (results_cellT rfl _ _ (w0.heap.size + 2) 32 _ (0, 0) _ rfl hfin.out.1 Tryz.underlying32 rfl (by kernel_rfl)) rfl ?_
    exact hfin.out.2

set_option maxRecDepth 100000 in
set_option maxHeartbeats 1000000 in
theorem do_tie6 (h : WQ w.heap.size w wb n m sq tt ky w0) (d : Dc n m sq tt ky w0 xv) (hg : Handle w) (hn : n ≤ 1000) (hm : m ≤ 1000) (qk qa qb qe key : Int) (hk1 : -9223372036854775808 ≤ key) (hk2 : key ≤ 9223372036854775807) (hK : wrap64 ((IntKind.u64.wrap qk).tmod 8) = 6) :
    Calls Tryz.prog 10 #[.pointer (some ⟨wb, 0, none⟩), xv, .agg #[.int .i64 qk, .int .i64 qa, .int .i64 qb, .int .i64 qe, .int .i64 key]] w0 fun x w' => DoIs w wb n m w0 x w' := by
  obtain ⟨tt', ky', er, s1, s2⟩ := tie_step h d hn hm qe qa qb key hk1 hk2
  obtain ⟨fad, F, fcap, tad, T, tcap, rfl⟩ := d.form
  have hlw := h.below.size
  obtain ⟨w1, hw1⟩ : ∃ w1, ((w0.alloc (.cells #[.int .i64 (n : Int), .int .i64 (m : Int), .slice fad F fcap, .slice tad T tcap] 32)).alloc (.cells #[.int .i64 qk, .int .i64 qa, .int .i64 qb, .int .i64 qe, .int .i64 key] 37)).alloc (.cells #[.int .i64 0, .int .i64 0, .slice none 0 0, .slice none 0 0] 32) = w1 := ⟨_, rfl⟩
  have bA : Below w0.heap.size w0 (w0.alloc (.cells #[.int .i64 (n : Int), .int .i64 (m : Int), .slice fad F fcap, .slice tad T tcap] 32)) := (Below.refl _ _).alloc (Nat.le_refl _) _
  have bB : Below w0.heap.size w0 ((w0.alloc (.cells #[.int .i64 (n : Int), .int .i64 (m : Int), .slice fad F fcap, .slice tad T tcap] 32)).alloc (.cells #[.int .i64 qk, .int .i64 qa, .int .i64 qb, .int .i64 qe, .int .i64 key] 37)) := bA.alloc bA.size _
  have b1 : Below w0.heap.size w0 w1 := by rw [← hw1]; exact bB.alloc bB.size _
  have kx : w1.heap[w0.heap.size]? = some (.cells #[.int .i64 (n : Int), .int .i64 (m : Int), .slice fad F fcap, .slice tad T tcap] 32 (0, 0)) := by
    rw [← hw1, Below.heap_alloc _ _ _ (by simp; omega), Below.heap_alloc _ _ _ (by simp)]
    exact heap_alloc_new w0 _
  have ka : w1.heap[w0.heap.size + 1]? = some (.cells #[.int .i64 qk, .int .i64 qa, .int .i64 qb, .int .i64 qe, .int .i64 key] 37 (0, 0)) := by
    rw [← hw1, Below.heap_alloc _ _ _ (by simp)]
    have := heap_alloc_new (w0.alloc (.cells #[.int .i64 (n : Int), .int .i64 (m : Int), .slice fad F fcap, .slice tad T tcap] 32)) (.cells #[.int .i64 qk, .int .i64 qa, .int .i64 qb, .int .i64 qe, .int .i64 key] 37)
    rw [show (w0.alloc (.cells #[.int .i64 (n : Int), .int .i64 (m : Int), .slice fad F fcap, .slice tad T tcap] 32)).heap.size = w0.heap.size + 1 by simp] at this
    exact this
  have kr : w1.heap[w0.heap.size + 2]? = some (.cells #[.int .i64 0, .int .i64 0, .slice none 0 0, .slice none 0 0] 32 (0, 0)) := by
    rw [← hw1]
    have := heap_alloc_new ((w0.alloc (.cells #[.int .i64 (n : Int), .int .i64 (m : Int), .slice fad F fcap, .slice tad T tcap] 32)).alloc (.cells #[.int .i64 qk, .int .i64 qa, .int .i64 qb, .int .i64 qe, .int .i64 key] 37)) (.cells #[.int .i64 0, .int .i64 0, .slice none 0 0, .slice none 0 0] 32)
    rw [show ((w0.alloc (.cells #[.int .i64 (n : Int), .int .i64 (m : Int), .slice fad F fcap, .slice tad T tcap] 32)).alloc (.cells #[.int .i64 qk, .int .i64 qa, .int .i64 qb, .int .i64 qe, .int .i64 key] 37)).heap.size = w0.heap.size + 2 by simp] at this
    exact this
  have h1 := hid (h.more b1)
  obtain ⟨x0, x1, x2, x3⟩ := blk4 kx
  obtain ⟨a0, a1, a2, a3, a4⟩ := blk5 ka
  have hdoc := hid (s1 w1 b1)
  replace s2 := hid s2
  replace b1 := hid b1
  replace ka := hid ka
  replace kr := hid kr
  replace hw1 := hid hw1
  replace hg := hid hg
  clear kx bA bB h d s1
  go_enter Tryz.func10, Tryz.ntmps10
  go_upto_region 1 with fail
  rw [hw1.out]
  clear hw1
  go_wp2_with fail
  refine hdoc.out.mono ?_
  rintro x w2 ⟨xv', rfl, d2, b2⟩
  obtain ⟨fad', F', fcap', tad', T', tcap', rfl⟩ := d2.form
  obtain ⟨w3, hw3⟩ : ∃ w3, w2.alloc (.cells #[.int .i64 (n : Int), .int .i64 (m : Int), .slice fad' F' fcap', .slice tad' T' tcap'] 32) = w3 := ⟨_, rfl⟩
  have b23 : Below w2.heap.size w2 w3 := by rw [← hw3]; exact (Below.refl _ _).alloc (Nat.le_refl _) _
  have b13 : Below w1.heap.size w1 w3 := b2.trans (b23.mono b2.size)
  have ky3 : w3.heap[w2.heap.size]? = some (.cells #[.int .i64 (n : Int), .int .i64 (m : Int), .slice fad' F' fcap', .slice tad' T' tcap'] 32 (0, 0)) := by rw [← hw3]; exact heap_alloc_new w2 _
  have ka3 := Below.web b13 ka.out
  have kr3 := hid (Below.web b13 kr.out)
  have h3 := h1.out.more b13
  have d3 := hid (d2.below b23)
  have hYR : w2.heap.size ≠ w0.heap.size + 2 := by
    have q1 := (Array.getElem?_eq_some_iff.1 kr.out).1
    have q2 := b2.size
    omega
  have hprog := hid (s2.out w3.drew h3.drew)
  have K3 := hid (KeepW.ofBelow (b1.out.trans (b13.mono b1.out.size)))
  have hAR : w0.heap.size + 1 ≠ w0.heap.size + 2 := by omega
  have hRw : Hid (w0.heap.size ≤ w0.heap.size + 2 ∧ w.heap.size ≤ w0.heap.size) := hid ⟨by omega, hlw⟩
  obtain ⟨y0, y1, y2, y3⟩ := blk4 ky3
  obtain ⟨c0, c1, c2, c3, c4⟩ := blk5 ka3
  replace hw3 := hid hw3
  replace ky3 := hid ky3
  replace ka3 := hid ka3
  have hee : (er == er) = true := by simp
  clear hdoc d2 b2 b23 b13 h1 h3 s2 x0 x1 x2 x3 a0 a1 a2 a3 a4 ka kr b1 hK hlw
  go_upto_region 12 with fail
  rw [hw3.out]
  clear hw3
  go_region_held3 (fun w' => w'.cell? ⟨w2.heap.size, 0, none⟩ = some (.int .i64 (n : Int)) ∧ w'.cell? ⟨w2.heap.size, 1, none⟩ = some (.int .i64 (m : Int)) ∧ w'.cell? ⟨w2.heap.size, 2, none⟩ = some (.slice fad' F' fcap') ∧ w'.cell? ⟨w2.heap.size, 3, none⟩ = some (.slice tad' T' tcap') ∧ w'.cell? ⟨w0.heap.size + 1, 1, none⟩ = some (.int .i64 qa) ∧ w'.cell? ⟨w0.heap.size + 1, 2, none⟩ = some (.int .i64 qb) ∧ w'.cell? ⟨w0.heap.size + 1, 3, none⟩ = some (.int .i64 qe) ∧ w'.cell? ⟨w0.heap.size + 1, 4, none⟩ = some (.int .i64 key)) (first | with_reducible exact ⟨y0, y1, y2, y3, c1, c2, c3, c4⟩ | with_reducible exact ⟨m0, m1, m2, m3, n1, n2, n3, n4⟩ | with_reducible exact ⟨o0, o1, o2, o3, p1, p2, p3, p4⟩ | with_reducible exact ⟨P0, P1, P2, P3, Q1, Q2, Q3, Q4⟩ | go_keep) ((first
    | (go_at_call 23; refine hprog.out.mono ?_; rintro x w4 ⟨rfl, h4, k4⟩; have kr4 := hid (k4.web kr3.out); have ky4 := hid (k4.web ky3.out); have ka4 := hid (k4.act ka3.out); obtain ⟨m0, m1, m2, m3⟩ := blk4 ky4.out; obtain ⟨n0, n1, n2, n3, n4⟩ := blk5 ka4.out; have K4 := hid (K3.out.drew.trans k4); have d4 := hid (d3.out.keepD (.ofW k4)); replace h4 := hid h4; clear k4)
    | (go_at_call 19; refine (num_any er _ (hg.out.below h4.out.below)).mono ?_; rintro x w5 ⟨rfl, b5⟩; obtain ⟨o0, o1, o2, o3⟩ := blk4 (Below.web b5 ky4.out); obtain ⟨p0, p1, p2, p3, p4⟩ := blk5 (Below.web b5 ka4.out); have P0 := (cell_put4 (w := w5) (g := w0.heap.size + 2) (p := ⟨w2.heap.size, 0, none⟩) hYR (.int .i64 (n : Int)) (.int .i64 (m : Int)) (.slice fad' F' fcap') (.slice tad' T' tcap')).trans o0; have P1 := (cell_put4 (w := w5) (g := w0.heap.size + 2) (p := ⟨w2.heap.size, 1, none⟩) hYR (.int .i64 (n : Int)) (.int .i64 (m : Int)) (.slice fad' F' fcap') (.slice tad' T' tcap')).trans o1; have P2 := (cell_put4 (w := w5) (g := w0.heap.size + 2) (p := ⟨w2.heap.size, 2, none⟩) hYR (.int .i64 (n : Int)) (.int .i64 (m : Int)) (.slice fad' F' fcap') (.slice tad' T' tcap')).trans o2; have P3 := (cell_put4 (w := w5) (g := w0.heap.size + 2) (p := ⟨w2.heap.size, 3, none⟩) hYR (.int .i64 (n : Int)) (.int .i64 (m : Int)) (.slice fad' F' fcap') (.slice tad' T' tcap')).trans o3; have Q1 := (cell_put4 (w := w5) (g := w0.heap.size + 2) (p := ⟨w0.heap.size + 1, 1, none⟩) hAR (.int .i64 (n : Int)) (.int .i64 (m : Int)) (.slice fad' F' fcap') (.slice tad' T' tcap')).trans p1; have Q2 := (cell_put4 (w := w5) (g := w0.heap.size + 2) (p := ⟨w0.heap.size + 1, 2, none⟩) hAR (.int .i64 (n : Int)) (.int .i64 (m : Int)) (.slice fad' F' fcap') (.slice tad' T' tcap')).trans p2; have Q3 := (cell_put4 (w := w5) (g := w0.heap.size + 2) (p := ⟨w0.heap.size + 1, 3, none⟩) hAR (.int .i64 (n : Int)) (.int .i64 (m : Int)) (.slice fad' F' fcap') (.slice tad' T' tcap')).trans p3; have Q4 := (cell_put4 (w := w5) (g := w0.heap.size + 2) (p := ⟨w0.heap.size + 1, 4, none⟩) hAR (.int .i64 (n : Int)) (.int .i64 (m : Int)) (.slice fad' F' fcap') (.slice tad' T' tcap')).trans p4; have kr5 := Below.web b5 kr4.out; have hfin := hid (do_end (w1 := w1) hRw.out.1 hRw.out.2 (h4.out.more b5) (d4.out.below b5) (K4.out.trans (.ofBelow b5)) kr5); obtain ⟨⟨r0, r1, r2, r3⟩, g0, g1, g2, g3⟩ := Wd.blk4 kr5; replace kr5 := hid kr5; clear b5)))
  all_goals
    go_wp2_with fail
    refine bodyPost_ret (results_cellT rfl _ _ (w0.heap.size + 2) 32 _ (0, 0) _ rfl hfin.out.1 Tryz.underlying32 rfl (by kernel_rfl)) rfl ?_
    exact hfin.out.2

set_option maxRecDepth 100000 in
set_option maxHeartbeats 1000000 in
theorem do_untie7 (h : WQ w.heap.size w wb n m sq tt ky w0) (d : Dc n m sq tt ky w0 xv) (hg : Handle w) (hn : n ≤ 1000) (hm : m ≤ 1000) (qk qa qb qe key : Int) (hk1 : -9223372036854775808 ≤ key) (hk2 : key ≤ 9223372036854775807) (hK : wrap64 ((IntKind.u64.wrap qk).tmod 8) = 7) :
    Calls Tryz.prog 10 #[.pointer (some ⟨wb, 0, none⟩), xv, .agg #[.int .i64 qk, .int .i64 qa, .int .i64 qb, .int .i64 qe, .int .i64 key]] w0 fun x w' => DoIs w wb n m w0 x w' := by
  obtain ⟨tt', er, s1, s2⟩ := untie_step h d hm qe
  obtain ⟨fad, F, fcap, tad, T, tcap, rfl⟩ := d.form
  have hlw := h.below.size
  obtain ⟨w1, hw1⟩ : ∃ w1, ((w0.alloc (.cells #[.int .i64 (n : Int), .int .i64 (m : Int), .slice fad F fcap, .slice tad T tcap] 32)).alloc (.cells #[.int .i64 qk, .int .i64 qa, .int .i64 qb, .int .i64 qe, .int .i64 key] 37)).alloc (.cells #[.int .i64 0, .int .i64 0, .slice none 0 0, .slice none 0 0] 32) = w1 := ⟨_, rfl⟩
  have bA : Below w0.heap.size w0 (w0.alloc (.cells #[.int .i64 (n : Int), .int .i64 (m : Int), .slice fad F fcap, .slice tad T tcap] 32)) := (Below.refl _ _).alloc (Nat.le_refl _) _
  have bB : Below w0.heap.size w0 ((w0.alloc (.cells #[.int .i64 (n : Int), .int .i64 (m : Int), .slice fad F fcap, .slice tad T tcap] 32)).alloc (.cells #[.int .i64 qk, .int .i64 qa, .int .i64 qb, .int .i64 qe, .int .i64 key] 37)) := bA.alloc bA.size _
  have b1 : Below w0.heap.size w0 w1 := by rw [← hw1]; exact bB.alloc bB.size _
  have kx : w1.heap[w0.heap.size]? = some (.cells #[.int .i64 (n : Int), .int .i64 (m : Int), .slice fad F fcap, .slice tad T tcap] 32 (0, 0)) := by
    rw [← hw1, Below.heap_alloc _ _ _ (by simp; omega), Below.heap_alloc _ _ _ (by simp)]
    exact heap_alloc_new w0 _
  have ka : w1.heap[w0.heap.size + 1]? = some (.cells #[.int .i64 qk, .int .i64 qa, .int .i64 qb, .int .i64 qe, .int .i64 key] 37 (0, 0)) := by
    rw [← hw1, Below.heap_alloc _ _ _ (by simp)]
    have := heap_alloc_new (w0.alloc (.cells #[.int .i64 (n : Int), .int .i64 (m : Int), .slice fad F fcap, .slice tad T tcap] 32)) (.cells #[.int .i64 qk, .int .i64 qa, .int .i64 qb, .int .i64 qe, .int .i64 key] 37)
    rw [show (w0.alloc (.cells #[.int .i64 (n : Int), .int .i64 (m : Int), .slice fad F fcap, .slice tad T tcap] 32)).heap.size = w0.heap.size + 1 by simp] at this
    exact this
  have kr : w1.heap[w0.heap.size + 2]? = some (.cells #[.int .i64 0, .int .i64 0, .slice none 0 0, .slice none 0 0] 32 (0, 0)) := by
    rw [← hw1]
    have := heap_alloc_new ((w0.alloc (.cells #[.int .i64 (n : Int), .int .i64 (m : Int), .slice fad F fcap, .slice tad T tcap] 32)).alloc (.cells #[.int .i64 qk, .int .i64 qa, .int .i64 qb, .int .i64 qe, .int .i64 key] 37)) (.cells #[.int .i64 0, .int .i64 0, .slice none 0 0, .slice none 0 0] 32)
    rw [show ((w0.alloc (.cells #[.int .i64 (n : Int), .int .i64 (m : Int), .slice fad F fcap, .slice tad T tcap] 32)).alloc (.cells #[.int .i64 qk, .int .i64 qa, .int .i64 qb, .int .i64 qe, .int .i64 key] 37)).heap.size = w0.heap.size + 2 by simp] at this
    exact this
  have h1 := hid (h.more b1)
  obtain ⟨x0, x1, x2, x3⟩ := blk4 kx
  obtain ⟨a0, a1, a2, a3, a4⟩ := blk5 ka
  have hdoc := hid (s1 w1 b1)
  replace s2 := hid s2
  replace b1 := hid b1
  replace ka := hid ka
  replace kr := hid kr
  replace hw1 := hid hw1
  replace hg := hid hg
  clear kx bA bB h d s1
  go_enter Tryz.func10, Tryz.ntmps10
  go_upto_region 1 with fail
  rw [hw1.out]
  clear hw1
  go_wp2_with fail
  refine hdoc.out.mono ?_
  rintro x w2 ⟨xv', rfl, d2, b2⟩
  obtain ⟨fad', F', fcap', tad', T', tcap', rfl⟩ := d2.form
  obtain ⟨w3, hw3⟩ : ∃ w3, w2.alloc (.cells #[.int .i64 (n : Int), .int .i64 (m : Int), .slice fad' F' fcap', .slice tad' T' tcap'] 32) = w3 := ⟨_, rfl⟩
  have b23 : Below w2.heap.size w2 w3 := by rw [← hw3]; exact (Below.refl _ _).alloc (Nat.le_refl _) _
  have b13 : Below w1.heap.size w1 w3 := b2.trans (b23.mono b2.size)
  have ky3 : w3.heap[w2.heap.size]? = some (.cells #[.int .i64 (n : Int), .int .i64 (m : Int), .slice fad' F' fcap', .slice tad' T' tcap'] 32 (0, 0)) := by rw [← hw3]; exact heap_alloc_new w2 _
  have ka3 := Below.web b13 ka.out
  have kr3 := hid (Below.web b13 kr.out)
  have h3 := h1.out.more b13
  have d3 := hid (d2.below b23)
  have hYR : w2.heap.size ≠ w0.heap.size + 2 := by
    have q1 := (Array.getElem?_eq_some_iff.1 kr.out).1
    have q2 := b2.size
    omega
  have hprog := hid (s2.out w3.drew h3.drew)
  have K3 := hid (KeepW.ofBelow (b1.out.trans (b13.mono b1.out.size)))
  have hAR : w0.heap.size + 1 ≠ w0.heap.size + 2 := by omega
  have hRw : Hid (w0.heap.size ≤ w0.heap.size + 2 ∧ w.heap.size ≤ w0.heap.size) := hid ⟨by omega, hlw⟩
  obtain ⟨y0, y1, y2, y3⟩ := blk4 ky3
  obtain ⟨c0, c1, c2, c3, c4⟩ := blk5 ka3
  replace hw3 := hid hw3
  replace ky3 := hid ky3
  replace ka3 := hid ka3
  have hee : (er == er) = true := by simp
  clear hdoc d2 b2 b23 b13 h1 h3 s2 x0 x1 x2 x3 a0 a1 a2 a3 a4 ka kr b1 hK hlw
  go_upto_region 15 with fail
  rw [hw3.out]
  clear hw3
  go_region_held3 (fun w' => w'.cell? ⟨w2.heap.size, 0, none⟩ = some (.int .i64 (n : Int)) ∧ w'.cell? ⟨w2.heap.size, 1, none⟩ = some (.int .i64 (m : Int)) ∧ w'.cell? ⟨w2.heap.size, 2, none⟩ = some (.slice fad' F' fcap') ∧ w'.cell? ⟨w2.heap.size, 3, none⟩ = some (.slice tad' T' tcap') ∧ w'.cell? ⟨w0.heap.size + 1, 3, none⟩ = some (.int .i64 qe)) (first | with_reducible exact ⟨y0, y1, y2, y3, c3⟩ | with_reducible exact ⟨m0, m1, m2, m3, n3⟩ | with_reducible exact ⟨o0, o1, o2, o3, p3⟩ | with_reducible exact ⟨P0, P1, P2, P3, Q3⟩ | go_keep) ((first
    | (go_at_call 24; refine hprog.out.mono ?_; rintro x w4 ⟨rfl, h4, k4⟩; have kr4 := hid (k4.web kr3.out); have ky4 := hid (k4.web ky3.out); have ka4 := hid (k4.act ka3.out); obtain ⟨m0, m1, m2, m3⟩ := blk4 ky4.out; obtain ⟨n0, n1, n2, n3, n4⟩ := blk5 ka4.out; have K4 := hid (K3.out.drew.trans k4); have d4 := hid (d3.out.keepD (.ofW k4)); replace h4 := hid h4; clear k4)
    | (go_at_call 19; refine (num_any er _ (hg.out.below h4.out.below)).mono ?_; rintro x w5 ⟨rfl, b5⟩; obtain ⟨o0, o1, o2, o3⟩ := blk4 (Below.web b5 ky4.out); obtain ⟨p0, p1, p2, p3, p4⟩ := blk5 (Below.web b5 ka4.out); have P0 := (cell_put4 (w := w5) (g := w0.heap.size + 2) (p := ⟨w2.heap.size, 0, none⟩) hYR (.int .i64 (n : Int)) (.int .i64 (m : Int)) (.slice fad' F' fcap') (.slice tad' T' tcap')).trans o0; have P1 := (cell_put4 (w := w5) (g := w0.heap.size + 2) (p := ⟨w2.heap.size, 1, none⟩) hYR (.int .i64 (n : Int)) (.int .i64 (m : Int)) (.slice fad' F' fcap') (.slice tad' T' tcap')).trans o1; have P2 := (cell_put4 (w := w5) (g := w0.heap.size + 2) (p := ⟨w2.heap.size, 2, none⟩) hYR (.int .i64 (n : Int)) (.int .i64 (m : Int)) (.slice fad' F' fcap') (.slice tad' T' tcap')).trans o2; have P3 := (cell_put4 (w := w5) (g := w0.heap.size + 2) (p := ⟨w2.heap.size, 3, none⟩) hYR (.int .i64 (n : Int)) (.int .i64 (m : Int)) (.slice fad' F' fcap') (.slice tad' T' tcap')).trans o3; have Q3 := (cell_put4 (w := w5) (g := w0.heap.size + 2) (p := ⟨w0.heap.size + 1, 3, none⟩) hAR (.int .i64 (n : Int)) (.int .i64 (m : Int)) (.slice fad' F' fcap') (.slice tad' T' tcap')).trans p3; have kr5 := Below.web b5 kr4.out; have hfin := hid (do_end (w1 := w1) hRw.out.1 hRw.out.2 (h4.out.more b5) (d4.out.below b5) (K4.out.trans (.ofBelow b5)) kr5); obtain ⟨⟨r0, r1, r2, r3⟩, g0, g1, g2, g3⟩ := Wd.blk4 kr5; replace kr5 := hid kr5; clear b5)))
  all_goals
    go_wp2_with fail
    refine bodyPost_ret (results_cellT rfl _ _ (w0.heap.size + 2) 32 _ (0, 0) _ rfl hfin.out.1 Tryz.underlying32 rfl (by kernel_rfl)) rfl ?_
    exact hfin.out.2

set_option maxRecDepth 100000 in
set_option maxHeartbeats 1000000 in
theorem do_merge0 (h : WQ w.heap.size w wb n m sq tt ky w0) (d : Dc n m sq tt ky w0 xv) (hg : Handle w) (hn : n ≤ 1000) (hm : m ≤ 1000) (qk qa qb qe key : Int) (hk1 : -9223372036854775808 ≤ key) (hk2 : key ≤ 9223372036854775807) (hK : wrap64 ((IntKind.u64.wrap qk).tmod 8) = 0) :
    Calls Tryz.prog 10 #[.pointer (some ⟨wb, 0, none⟩), xv, .agg #[.int .i64 qk, .int .i64 qa, .int .i64 qb, .int .i64 qe, .int .i64 key]] w0 fun x w' => DoIs w wb n m w0 x w' := by
  obtain ⟨sq', er, s1, s2⟩ := merge_step h d hn hm qa qb
  obtain ⟨fad, F, fcap, tad, T, tcap, rfl⟩ := d.form
  have hlw := h.below.size
  obtain ⟨w1, hw1⟩ : ∃ w1, ((w0.alloc (.cells #[.int .i64 (n : Int), .int .i64 (m : Int), .slice fad F fcap, .slice tad T tcap] 32)).alloc (.cells #[.int .i64 qk, .int .i64 qa, .int .i64 qb, .int .i64 qe, .int .i64 key] 37)).alloc (.cells #[.int .i64 0, .int .i64 0, .slice none 0 0, .slice none 0 0] 32) = w1 := ⟨_, rfl⟩
  have bA : Below w0.heap.size w0 (w0.alloc (.cells #[.int .i64 (n : Int), .int .i64 (m : Int), .slice fad F fcap, .slice tad T tcap] 32)) := (Below.refl _ _).alloc (Nat.le_refl _) _
  have bB : Below w0.heap.size w0 ((w0.alloc (.cells #[.int .i64 (n : Int), .int .i64 (m : Int), .slice fad F fcap, .slice tad T tcap] 32)).alloc (.cells #[.int .i64 qk, .int .i64 qa, .int .i64 qb, .int .i64 qe, .int .i64 key] 37)) := bA.alloc bA.size _
  have b1 : Below w0.heap.size w0 w1 := by rw [← hw1]; exact bB.alloc bB.size _
  have kx : w1.heap[w0.heap.size]? = some (.cells #[.int .i64 (n : Int), .int .i64 (m : Int), .slice fad F fcap, .slice tad T tcap] 32 (0, 0)) := by
    rw [← hw1, Below.heap_alloc _ _ _ (by simp; omega), Below.heap_alloc _ _ _ (by simp)]
    exact heap_alloc_new w0 _
  have ka : w1.heap[w0.heap.size + 1]? = some (.cells #[.int .i64 qk, .int .i64 qa, .int .i64 qb, .int .i64 qe, .int .i64 key] 37 (0, 0)) := by
    rw [← hw1, Below.heap_alloc _ _ _ (by simp)]
    have := heap_alloc_new (w0.alloc (.cells #[.int .i64 (n : Int), .int .i64 (m : Int), .slice fad F fcap, .slice tad T tcap] 32)) (.cells #[.int .i64 qk, .int .i64 qa, .int .i64 qb, .int .i64 qe, .int .i64 key] 37)
    rw [show (w0.alloc (.cells #[.int .i64 (n : Int), .int .i64 (m : Int), .slice fad F fcap, .slice tad T tcap] 32)).heap.size = w0.heap.size + 1 by simp] at this
    exact this
  have kr : w1.heap[w0.heap.size + 2]? = some (.cells #[.int .i64 0, .int .i64 0, .slice none 0 0, .slice none 0 0] 32 (0, 0)) := by
    rw [← hw1]
    have := heap_alloc_new ((w0.alloc (.cells #[.int .i64 (n : Int), .int .i64 (m : Int), .slice fad F fcap, .slice tad T tcap] 32)).alloc (.cells #[.int .i64 qk, .int .i64 qa, .int .i64 qb, .int .i64 qe, .int .i64 key] 37)) (.cells #[.int .i64 0, .int .i64 0, .slice none 0 0, .slice none 0 0] 32)
    rw [show ((w0.alloc (.cells #[.int .i64 (n : Int), .int .i64 (m : Int), .slice fad F fcap, .slice tad T tcap] 32)).alloc (.cells #[.int .i64 qk, .int .i64 qa, .int .i64 qb, .int .i64 qe, .int .i64 key] 37)).heap.size = w0.heap.size + 2 by simp] at this
    exact this
  have h1 := hid (h.more b1)
  obtain ⟨x0, x1, x2, x3⟩ := blk4 kx
  obtain ⟨a0, a1, a2, a3, a4⟩ := blk5 ka
  have hdoc := hid (s1 w1 b1)
  replace s2 := hid s2
  replace b1 := hid b1
  replace ka := hid ka
  replace kr := hid kr
  replace hw1 := hid hw1
  replace hg := hid hg
  clear kx bA bB h d s1
  go_enter Tryz.func10, Tryz.ntmps10
  go_upto_region 1 with fail
  rw [hw1.out]
  clear hw1
  go_wp2_with fail
  refine hdoc.out.mono ?_
  rintro x w2 ⟨xv', rfl, d2, b2⟩
  obtain ⟨fad', F', fcap', tad', T', tcap', rfl⟩ := d2.form
  obtain ⟨w3, hw3⟩ : ∃ w3, w2.alloc (.cells #[.int .i64 (n : Int), .int .i64 (m : Int), .slice fad' F' fcap', .slice tad' T' tcap'] 32) = w3 := ⟨_, rfl⟩
  have b23 : Below w2.heap.size w2 w3 := by rw [← hw3]; exact (Below.refl _ _).alloc (Nat.le_refl _) _
  have b13 : Below w1.heap.size w1 w3 := b2.trans (b23.mono b2.size)
  have ky3 : w3.heap[w2.heap.size]? = some (.cells #[.int .i64 (n : Int), .int .i64 (m : Int), .slice fad' F' fcap', .slice tad' T' tcap'] 32 (0, 0)) := by rw [← hw3]; exact heap_alloc_new w2 _
  have ka3 := Below.web b13 ka.out
  have kr3 := hid (Below.web b13 kr.out)
  have h3 := h1.out.more b13
  have d3 := hid (d2.below b23)
  have hYR : w2.heap.size ≠ w0.heap.size + 2 := by
    have q1 := (Array.getElem?_eq_some_iff.1 kr.out).1
    have q2 := b2.size
    omega
  have hprog := hid (s2.out w3.drew h3.drew)
  have K3 := hid (KeepW.ofBelow (b1.out.trans (b13.mono b1.out.size)))
  have hAR : w0.heap.size + 1 ≠ w0.heap.size + 2 := by omega
  have hRw : Hid (w0.heap.size ≤ w0.heap.size + 2 ∧ w.heap.size ≤ w0.heap.size) := hid ⟨by omega, hlw⟩
  obtain ⟨y0, y1, y2, y3⟩ := blk4 ky3
  obtain ⟨c0, c1, c2, c3, c4⟩ := blk5 ka3
  replace hw3 := hid hw3
  replace ky3 := hid ky3
  replace ka3 := hid ka3
  have hee : (er == er) = true := by simp
  clear hdoc d2 b2 b23 b13 h1 h3 s2 x0 x1 x2 x3 a0 a1 a2 a3 a4 ka kr b1 hK hlw
  go_upto_region 17 with fail
  rw [hw3.out]
  clear hw3
  go_region_held3 (fun w' => w'.cell? ⟨w2.heap.size, 0, none⟩ = some (.int .i64 (n : Int)) ∧ w'.cell? ⟨w2.heap.size, 1, none⟩ = some (.int .i64 (m : Int)) ∧ w'.cell? ⟨w2.heap.size, 2, none⟩ = some (.slice fad' F' fcap') ∧ w'.cell? ⟨w2.heap.size, 3, none⟩ = some (.slice tad' T' tcap') ∧ w'.cell? ⟨w0.heap.size + 1, 1, none⟩ = some (.int .i64 qa) ∧ w'.cell? ⟨w0.heap.size + 1, 2, none⟩ = some (.int .i64 qb)) (first | with_reducible exact ⟨y0, y1, y2, y3, c1, c2⟩ | with_reducible exact ⟨m0, m1, m2, m3, n1, n2⟩ | with_reducible exact ⟨o0, o1, o2, o3, p1, p2⟩ | with_reducible exact ⟨P0, P1, P2, P3, Q1, Q2⟩ | go_keep) ((first
    | (go_at_call 21; refine hprog.out.mono ?_; rintro x w4 ⟨rfl, h4, k4⟩; have kr4 := hid (k4.web kr3.out); have ky4 := hid (k4.web ky3.out); have ka4 := hid (k4.act ka3.out); obtain ⟨m0, m1, m2, m3⟩ := blk4 ky4.out; obtain ⟨n0, n1, n2, n3, n4⟩ := blk5 ka4.out; have K4 := hid (K3.out.drew.trans k4); have d4 := hid (d3.out.keepD (.ofW k4)); replace h4 := hid h4; clear k4)
    | (go_at_call 19; refine (num_any er _ (hg.out.below h4.out.below)).mono ?_; rintro x w5 ⟨rfl, b5⟩; obtain ⟨o0, o1, o2, o3⟩ := blk4 (Below.web b5 ky4.out); obtain ⟨p0, p1, p2, p3, p4⟩ := blk5 (Below.web b5 ka4.out); have P0 := (cell_put4 (w := w5) (g := w0.heap.size + 2) (p := ⟨w2.heap.size, 0, none⟩) hYR (.int .i64 (n : Int)) (.int .i64 (m : Int)) (.slice fad' F' fcap') (.slice tad' T' tcap')).trans o0; have P1 := (cell_put4 (w := w5) (g := w0.heap.size + 2) (p := ⟨w2.heap.size, 1, none⟩) hYR (.int .i64 (n : Int)) (.int .i64 (m : Int)) (.slice fad' F' fcap') (.slice tad' T' tcap')).trans o1; have P2 := (cell_put4 (w := w5) (g := w0.heap.size + 2) (p := ⟨w2.heap.size, 2, none⟩) hYR (.int .i64 (n : Int)) (.int .i64 (m : Int)) (.slice fad' F' fcap') (.slice tad' T' tcap')).trans o2; have P3 := (cell_put4 (w := w5) (g := w0.heap.size + 2) (p := ⟨w2.heap.size, 3, none⟩) hYR (.int .i64 (n : Int)) (.int .i64 (m : Int)) (.slice fad' F' fcap') (.slice tad' T' tcap')).trans o3; have Q1 := (cell_put4 (w := w5) (g := w0.heap.size + 2) (p := ⟨w0.heap.size + 1, 1, none⟩) hAR (.int .i64 (n : Int)) (.int .i64 (m : Int)) (.slice fad' F' fcap') (.slice tad' T' tcap')).trans p1; have Q2 := (cell_put4 (w := w5) (g := w0.heap.size + 2) (p := ⟨w0.heap.size + 1, 2, none⟩) hAR (.int .i64 (n : Int)) (.int .i64 (m : Int)) (.slice fad' F' fcap') (.slice tad' T' tcap')).trans p2; have kr5 := Below.web b5 kr4.out; have hfin := hid (do_end (w1 := w1) hRw.out.1 hRw.out.2 (h4.out.more b5) (d4.out.below b5) (K4.out.trans (.ofBelow b5)) kr5); obtain ⟨⟨r0, r1, r2, r3⟩, g0, g1, g2, g3⟩ := Wd.blk4 kr5; replace kr5 := hid kr5; clear b5)))
  all_goals
    go_wp2_with fail
    refine bodyPost_ret (results_cellT rfl _ _ (w0.heap.size + 2) 32 _ (0, 0) _ rfl hfin.out.1 Tryz.underlying32 rfl (by kernel_rfl)) rfl ?_
    exact hfin.out.2

set_option maxRecDepth 100000 in
set_option maxHeartbeats 1000000 in
theorem do_merge1 (h : WQ w.heap.size w wb n m sq tt ky w0) (d : Dc n m sq tt ky w0 xv) (hg : Handle w) (hn : n ≤ 1000) (hm : m ≤ 1000) (qk qa qb qe key : Int) (hk1 : -9223372036854775808 ≤ key) (hk2 : key ≤ 9223372036854775807) (hK : wrap64 ((IntKind.u64.wrap qk).tmod 8) = 1) :
    Calls Tryz.prog 10 #[.pointer (some ⟨wb, 0, none⟩), xv, .agg #[.int .i64 qk, .int .i64 qa, .int .i64 qb, .int .i64 qe, .int .i64 key]] w0 fun x w' => DoIs w wb n m w0 x w' := by
  obtain ⟨sq', er, s1, s2⟩ := merge_step h d hn hm qa qb
  obtain ⟨fad, F, fcap, tad, T, tcap, rfl⟩ := d.form
  have hlw := h.below.size
  obtain ⟨w1, hw1⟩ : ∃ w1, ((w0.alloc (.cells #[.int .i64 (n : Int), .int .i64 (m : Int), .slice fad F fcap, .slice tad T tcap] 32)).alloc (.cells #[.int .i64 qk, .int .i64 qa, .int .i64 qb, .int .i64 qe, .int .i64 key] 37)).alloc (.cells #[.int .i64 0, .int .i64 0, .slice none 0 0, .slice none 0 0] 32) = w1 := ⟨_, rfl⟩
  have bA : Below w0.heap.size w0 (w0.alloc (.cells #[.int .i64 (n : Int), .int .i64 (m : Int), .slice fad F fcap, .slice tad T tcap] 32)) := (Below.refl _ _).alloc (Nat.le_refl _) _
  have bB : Below w0.heap.size w0 ((w0.alloc (.cells #[.int .i64 (n : Int), .int .i64 (m : Int), .slice fad F fcap, .slice tad T tcap] 32)).alloc (.cells #[.int .i64 qk, .int .i64 qa, .int .i64 qb, .int .i64 qe, .int .i64 key] 37)) := bA.alloc bA.size _
  have b1 : Below w0.heap.size w0 w1 := by rw [← hw1]; exact bB.alloc bB.size _
  have kx : w1.heap[w0.heap.size]? = some (.cells #[.int .i64 (n : Int), .int .i64 (m : Int), .slice fad F fcap, .slice tad T tcap] 32 (0, 0)) := by
    rw [← hw1, Below.heap_alloc _ _ _ (by simp; omega), Below.heap_alloc _ _ _ (by simp)]
    exact heap_alloc_new w0 _
  have ka : w1.heap[w0.heap.size + 1]? = some (.cells #[.int .i64 qk, .int .i64 qa, .int .i64 qb, .int .i64 qe, .int .i64 key] 37 (0, 0)) := by
    rw [← hw1, Below.heap_alloc _ _ _ (by simp)]
    have := heap_alloc_new (w0.alloc (.cells #[.int .i64 (n : Int), .int .i64 (m : Int), .slice fad F fcap, .slice tad T tcap] 32)) (.cells #[.int .i64 qk, .int .i64 qa, .int .i64 qb, .int .i64 qe, .int .i64 key] 37)
    rw [show (w0.alloc (.cells #[.int .i64 (n : Int), .int .i64 (m : Int), .slice fad F fcap, .slice tad T tcap] 32)).heap.size = w0.heap.size + 1 by simp] at this
    exact this
  have kr : w1.heap[w0.heap.size + 2]? = some (.cells #[.int .i64 0, .int .i64 0, .slice none 0 0, .slice none 0 0] 32 (0, 0)) := by
    rw [← hw1]
    have := heap_alloc_new ((w0.alloc (.cells #[.int .i64 (n : Int), .int .i64 (m : Int), .slice fad F fcap, .slice tad T tcap] 32)).alloc (.cells #[.int .i64 qk, .int .i64 qa, .int .i64 qb, .int .i64 qe, .int .i64 key] 37)) (.cells #[.int .i64 0, .int .i64 0, .slice none 0 0, .slice none 0 0] 32)
    rw [show ((w0.alloc (.cells #[.int .i64 (n : Int), .int .i64 (m : Int), .slice fad F fcap, .slice tad T tcap] 32)).alloc (.cells #[.int .i64 qk, .int .i64 qa, .int .i64 qb, .int .i64 qe, .int .i64 key] 37)).heap.size = w0.heap.size + 2 by simp] at this
    exact this
  have h1 := hid (h.more b1)
  obtain ⟨x0, x1, x2, x3⟩ := blk4 kx
  obtain ⟨a0, a1, a2, a3, a4⟩ := blk5 ka
  have hdoc := hid (s1 w1 b1)
  replace s2 := hid s2
  replace b1 := hid b1
  replace ka := hid ka
  replace kr := hid kr
  replace hw1 := hid hw1
  replace hg := hid hg
  clear kx bA bB h d s1
  go_enter Tryz.func10, Tryz.ntmps10
  go_upto_region 1 with fail
  rw [hw1.out]
  clear hw1
  go_wp2_with fail
  refine hdoc.out.mono ?_
  rintro x w2 ⟨xv', rfl, d2, b2⟩
  obtain ⟨fad', F', fcap', tad', T', tcap', rfl⟩ := d2.form
  obtain ⟨w3, hw3⟩ : ∃ w3, w2.alloc (.cells #[.int .i64 (n : Int), .int .i64 (m : Int), .slice fad' F' fcap', .slice tad' T' tcap'] 32) = w3 := ⟨_, rfl⟩
  have b23 : Below w2.heap.size w2 w3 := by rw [← hw3]; exact (Below.refl _ _).alloc (Nat.le_refl _) _
  have b13 : Below w1.heap.size w1 w3 := b2.trans (b23.mono b2.size)
  have ky3 : w3.heap[w2.heap.size]? = some (.cells #[.int .i64 (n : Int), .int .i64 (m : Int), .slice fad' F' fcap', .slice tad' T' tcap'] 32 (0, 0)) := by rw [← hw3]; exact heap_alloc_new w2 _
  have ka3 := Below.web b13 ka.out
  have kr3 := hid (Below.web b13 kr.out)
  have h3 := h1.out.more b13
  have d3 := hid (d2.below b23)
  have hYR : w2.heap.size ≠ w0.heap.size + 2 := by
    have q1 := (Array.getElem?_eq_some_iff.1 kr.out).1
    have q2 := b2.size
    omega
  have hprog := hid (s2.out w3.drew h3.drew)
  have K3 := hid (KeepW.ofBelow (b1.out.trans (b13.mono b1.out.size)))
  have hAR : w0.heap.size + 1 ≠ w0.heap.size + 2 := by omega
  have hRw : Hid (w0.heap.size ≤ w0.heap.size + 2 ∧ w.heap.size ≤ w0.heap.size) := hid ⟨by omega, hlw⟩
  obtain ⟨y0, y1, y2, y3⟩ := blk4 ky3
  obtain ⟨c0, c1, c2, c3, c4⟩ := blk5 ka3
  replace hw3 := hid hw3
  replace ky3 := hid ky3
  replace ka3 := hid ka3
  have hee : (er == er) = true := by simp
  clear hdoc d2 b2 b23 b13 h1 h3 s2 x0 x1 x2 x3 a0 a1 a2 a3 a4 ka kr b1 hK hlw
  go_upto_region 17 with fail
  rw [hw3.out]
  clear hw3
  go_region_held3 (fun w' => w'.cell? ⟨w2.heap.size, 0, none⟩ = some (.int .i64 (n : Int)) ∧ w'.cell? ⟨w2.heap.size, 1, none⟩ = some (.int .i64 (m : Int)) ∧ w'.cell? ⟨w2.heap.size, 2, none⟩ = some (.slice fad' F' fcap') ∧ w'.cell? ⟨w2.heap.size, 3, none⟩ = some (.slice tad' T' tcap') ∧ w'.cell? ⟨w0.heap.size + 1, 1, none⟩ = some (.int .i64 qa) ∧ w'.cell? ⟨w0.heap.size + 1, 2, none⟩ = some (.int .i64 qb)) (first | with_reducible exact ⟨y0, y1, y2, y3, c1, c2⟩ | with_reducible exact ⟨m0, m1, m2, m3, n1, n2⟩ | with_reducible exact ⟨o0, o1, o2, o3, p1, p2⟩ | with_reducible exact ⟨P0, P1, P2, P3, Q1, Q2⟩ | go_keep) ((first
    | (go_at_call 21; refine hprog.out.mono ?_; rintro x w4 ⟨rfl, h4, k4⟩; have kr4 := hid (k4.web kr3.out); have ky4 := hid (k4.web ky3.out); have ka4 := hid (k4.act ka3.out); obtain ⟨m0, m1, m2, m3⟩ := blk4 ky4.out; obtain ⟨n0, n1, n2, n3, n4⟩ := blk5 ka4.out; have K4 := hid (K3.out.drew.trans k4); have d4 := hid (d3.out.keepD (.ofW k4)); replace h4 := hid h4; clear k4)
    | (go_at_call 19; refine (num_any er _ (hg.out.below h4.out.below)).mono ?_; rintro x w5 ⟨rfl, b5⟩; obtain ⟨o0, o1, o2, o3⟩ := blk4 (Below.web b5 ky4.out); obtain ⟨p0, p1, p2, p3, p4⟩ := blk5 (Below.web b5 ka4.out); have P0 := (cell_put4 (w := w5) (g := w0.heap.size + 2) (p := ⟨w2.heap.size, 0, none⟩) hYR (.int .i64 (n : Int)) (.int .i64 (m : Int)) (.slice fad' F' fcap') (.slice tad' T' tcap')).trans o0; have P1 := (cell_put4 (w := w5) (g := w0.heap.size + 2) (p := ⟨w2.heap.size, 1, none⟩) hYR (.int .i64 (n : Int)) (.int .i64 (m : Int)) (.slice fad' F' fcap') (.slice tad' T' tcap')).trans o1; have P2 := (cell_put4 (w := w5) (g := w0.heap.size + 2) (p := ⟨w2.heap.size, 2, none⟩) hYR (.int .i64 (n : Int)) (.int .i64 (m : Int)) (.slice fad' F' fcap') (.slice tad' T' tcap')).trans o2; have P3 := (cell_put4 (w := w5) (g := w0.heap.size + 2) (p := ⟨w2.heap.size, 3, none⟩) hYR (.int .i64 (n : Int)) (.int .i64 (m : Int)) (.slice fad' F' fcap') (.slice tad' T' tcap')).trans o3; have Q1 := (cell_put4 (w := w5) (g := w0.heap.size + 2) (p := ⟨w0.heap.size + 1, 1, none⟩) hAR (.int .i64 (n : Int)) (.int .i64 (m : Int)) (.slice fad' F' fcap') (.slice tad' T' tcap')).trans p1; have Q2 := (cell_put4 (w := w5) (g := w0.heap.size + 2) (p := ⟨w0.heap.size + 1, 2, none⟩) hAR (.int .i64 (n : Int)) (.int .i64 (m : Int)) (.slice fad' F' fcap') (.slice tad' T' tcap')).trans p2; have kr5 := Below.web b5 kr4.out; have hfin := hid (do_end (w1 := w1) hRw.out.1 hRw.out.2 (h4.out.more b5) (d4.out.below b5) (K4.out.trans (.ofBelow b5)) kr5); obtain ⟨⟨r0, r1, r2, r3⟩, g0, g1, g2, g3⟩ := Wd.blk4 kr5; replace kr5 := hid kr5; clear b5)))
  all_goals
    go_wp2_with fail
    refine bodyPost_ret (results_cellT rfl _ _ (w0.heap.size + 2) 32 _ (0, 0) _ rfl hfin.out.1 Tryz.underlying32 rfl (by kernel_rfl)) rfl ?_
    exact hfin.out.2

theorem do_ok (h : WQ w.heap.size w wb n m sq tt ky w0) (d : Dc n m sq tt ky w0 xv) (hg : Handle w) (hn : n ≤ 1000) (hm : m ≤ 1000) (qk qa qb qe key : Int) (hk1 : -9223372036854775808 ≤ key) (hk2 : key ≤ 9223372036854775807) :
    Calls Tryz.prog 10 #[.pointer (some ⟨wb, 0, none⟩), xv, .agg #[.int .i64 qk, .int .i64 qa, .int .i64 qb, .int .i64 qe, .int .i64 key]] w0 fun x w' => DoIs w wb n m w0 x w' := by
  obtain ⟨K, hK, hK8⟩ := mod_inN qk 8 (by omega) (by omega)
  have hK' : wrap64 ((IntKind.u64.wrap qk).tmod 8) = (K : Int) := hK
  have hc : K = 0 ∨ K = 1 ∨ K = 2 ∨ K = 3 ∨ K = 4 ∨ K = 5 ∨ K = 6 ∨ K = 7 := by omega
  rcases hc with rfl | rfl | rfl | rfl | rfl | rfl | rfl | rfl
  · exact do_merge0 h d hg hn hm qk qa qb qe key hk1 hk2 hK'
  · exact do_merge1 h d hg hn hm qk qa qb qe key hk1 hk2 hK'
  · exact do_split2 h d hg hn hm qk qa qb qe key hk1 hk2 hK'
  · exact do_split3 h d hg hn hm qk qa qb qe key hk1 hk2 hK'
  · exact do_apart4 h d hg hn hm qk qa qb qe key hk1 hk2 hK'
  · exact do_tie5 h d hg hn hm qk qa qb qe key hk1 hk2 hK'
  · exact do_tie6 h d hg hn hm qk qa qb qe key hk1 hk2 hK'
  · exact do_untie7 h d hg hn hm qk qa qb qe key hk1 hk2 hK'
end
end Go.Proofs.YtdmkbcbgjdmgdaaGreatDoor
