/- Where a law over Groups stands; 'sure'. -/
import Derived.Test.YtbjodjpdfpcjjaaDoorBack7
import Derived.Test.YtbjodjpdfpcjjaaDoorOpen7
namespace Go.Proofs.YtbjodjpdfpcjjaaDoor
open Go.RowKit
set_option linter.unusedVariables false

/-- Groups that were made since w. -/
structure GL (w : World) (gb n : Nat) (hs : List (Nat → Nat)) (wr : World) : Prop where
  st : ∃ O, GA wr gb n hs O ∧ ∀ k, O k → w.heap.size ≤ k
  below : Below w.heap.size w wr

section
variable {w wr : World} {gb n : Nat} {f : Nat → Nat} {fs hs : List (Nat → Nat)}

theorem GL.more (h : GL w gb n hs wr) {w' : World} (hb : Below wr.heap.size wr w') : GL w gb n hs w' := by
  obtain ⟨O, h1, h2⟩ := h.st
  exact ⟨⟨O, h1.more hb, h2⟩, h.below.trans (hb.mono h.below.size)⟩

theorem GL.drew (h : GL w gb n hs wr) : GL w gb n hs wr.drew := h.more (Below.refl _ _).drew
theorem GL.alloc (h : GL w gb n hs wr) (o : Obj) : GL w gb n hs (wr.alloc o) := h.more (balloc _ _)

theorem GL.moved (h : GL w gb n hs wr) {w' : World} {hs' : List (Nat → Nat)} (hm : ∀ O, GA wr gb n hs O → ∃ O', GA w' gb n hs' O' ∧ Mv O O' wr w') : GL w gb n hs' w' := by
  obtain ⟨O, h1, h2⟩ := h.st
  obtain ⟨O', g1, g2⟩ := hm O h1
  refine ⟨⟨O', g1, fun k hk => ?_⟩, h.below.trans (g2.tu.below h2 h.below.size)⟩
  rcases g2.ne k hk with e | e
  · exact h2 k e
  · exact Nat.le_trans h.below.size e

theorem GL.big (h : GL w gb n hs wr) : n ≤ 4194304 := by
  obtain ⟨O, h1, h2⟩ := h.st
  exact h1.hn

theorem GL.new (n : Nat) (w : World) (h1 : 1 ≤ n) (h2 : n ≤ 4194304) : Calls Tryd.prog 5 #[.int .i64 (n : Int)] w fun e w' => ∃ gb, e = .returned (.tuple #[.pointer (some ⟨gb, 0, none⟩), .nilIface]) ∧ GL w gb n [fun x => x] w' :=
  (new_ok n w h1 h2).mono fun e w' ⟨e1, g, b⟩ => ⟨_, e1, ⟨_, g, fun k hk => by rw [hk]; exact Nat.le_refl _⟩, b⟩

theorem GL.join (h : GL w gb n (f :: fs) wr) (a b : Nat) (ha : a < n) (hb : b < n) :
    Calls Tryd.prog 9 #[.pointer (some ⟨gb, 0, none⟩), .int .i64 (a : Int), .int .i64 (b : Int)] wr fun e w' => e = .returned (.tuple #[.bool (!decide (f a = f b)), .nilIface]) ∧ GL w gb n (stepH f fs a b) w' := by
  obtain ⟨O, h1, h2⟩ := h.st
  refine (h1.join a b ha hb).mono ?_
  rintro e w' ⟨rfl, O', g1, g2, g3⟩
  refine ⟨rfl, ⟨O', g1, fun k hk => ?_⟩, h.below.trans (g2.below h2 h.below.size)⟩
  rcases g3 k hk with e | e
  · exact h2 k e
  · exact Nat.le_trans h.below.size e

theorem GL.back (h : GL w gb n (f :: fs) wr) (k : Nat) (hk : k ≤ fs.length) : Calls Tryd.prog 7 #[.pointer (some ⟨gb, 0, none⟩), .int .i64 (k : Int)] wr fun e w' => e = .returned .nilIface ∧ GL w gb n ((f :: fs).drop (fs.length - k)) w' := by
  obtain ⟨O, h1, h2⟩ := h.st
  refine (h1.back k hk).mono ?_
  rintro e w' ⟨rfl, O', g1, g2⟩
  refine ⟨rfl, ⟨O', g1, fun k hk => ?_⟩, h.below.trans (g2.tu.below h2 h.below.size)⟩
  rcases g2.ne k hk with e | e
  · exact h2 k e
  · exact Nat.le_trans h.below.size e

theorem GL.size (h : GL w gb n (f :: fs) wr) (x : Nat) (hx : x < n) :
    Calls Tryd.prog 12 #[.pointer (some ⟨gb, 0, none⟩), .int .i64 (x : Int)] wr fun e w' => e = .returned (.tuple #[.int .i64 (cnt (fun y => f y == f x) n : Int), .nilIface]) ∧ GL w gb n (f :: fs) w' := by
  obtain ⟨O, h1, h2⟩ := h.st
  exact (h1.size x hx).mono fun e w' ⟨e1, b⟩ => ⟨e1, h.more b⟩

theorem GL.least (h : GL w gb n (f :: fs) wr) (x : Nat) (hx : x < n) :
    Calls Tryd.prog 13 #[.pointer (some ⟨gb, 0, none⟩), .int .i64 (x : Int)] wr fun e w' => e = .returned (.tuple #[.int .i64 (f x : Int), .nilIface]) ∧ GL w gb n (f :: fs) w' := by
  obtain ⟨O, h1, h2⟩ := h.st
  exact (h1.least x hx).mono fun e w' ⟨e1, b⟩ => ⟨e1, h.more b⟩

theorem GL.same (h : GL w gb n (f :: fs) wr) (a b : Nat) (ha : a < n) (hb : b < n) :
    Calls Tryd.prog 10 #[.pointer (some ⟨gb, 0, none⟩), .int .i64 (a : Int), .int .i64 (b : Int)] wr fun e w' => e = .returned (.tuple #[.bool (decide (f a = f b)), .nilIface]) ∧ GL w gb n (f :: fs) w' := by
  obtain ⟨O, h1, h2⟩ := h.st
  exact (h1.same a b ha hb).mono fun e w' ⟨e1, b⟩ => ⟨e1, h.more b⟩

theorem GL.count (h : GL w gb n (f :: fs) wr) : Calls Tryd.prog 15 #[.pointer (some ⟨gb, 0, none⟩)] wr fun e w' => e = .returned (.int .i64 (fix n f : Int)) ∧ fix n f + fs.length = n ∧ GL w gb n (f :: fs) w' := by
  obtain ⟨O, h1, h2⟩ := h.st
  exact h1.count.mono fun e w' ⟨e1, e2, b⟩ => ⟨e1, e2, h.more b⟩

theorem GL.steps (h : GL w gb n (f :: fs) wr) : Calls Tryd.prog 17 #[.pointer (some ⟨gb, 0, none⟩)] wr fun e w' => e = .returned (.int .i64 (fs.length : Int)) ∧ wr = w' := by
  obtain ⟨O, h1, h2⟩ := h.st
  exact h1.steps

theorem GL.ok (h : GL w gb n (f :: fs) wr) : (∀ x, x < n → f x ≤ x) ∧ (∀ x, x < n → f (f x) = f x) ∧ fix n f + fs.length = n := by
  obtain ⟨O, h1, h2⟩ := h.st
  obtain ⟨mv, jv, K, T, js, g1, g2, g3⟩ := h1.st
  obtain ⟨_, _, r, d, e, ok, h4, h5⟩ := g2.ok
  obtain ⟨rfl, rfl⟩ : f = _ ∧ fs = _ := by simpa using e
  exact ⟨ok.fle, ok.ff, by omega⟩

/-- There is a newest. -/
theorem GL.cons (h : GL w gb n hs wr) : ∃ f fs, hs = f :: fs := by
  obtain ⟨O, h1, h2⟩ := h.st
  obtain ⟨mv, jv, K, T, js, g1, g2, g3⟩ := h1.st
  obtain ⟨f, fs, r, d, e, ok, h4, h5⟩ := g2.ok
  exact ⟨f, fs, e⟩
end

set_option maxRecDepth 100000 in
set_option maxHeartbeats 1000000 in
theorem sure_ok (w : World) : Calls Tryd.prog 18 #[] w fun e w' => e = .returned (.bool true) ∧ Below w.heap.size w w' := by
  go_enter Tryd.func18, Tryd.ntmps18
  go_wp2_with fail
  refine (GL.new 3 w (by decide) (by decide)).mono ?_
  rintro e w1 ⟨gb, rfl, h1⟩
  replace h1 := hid h1
  go_wp2_with fail
  refine (h1.out.join 0 1 (by decide) (by decide)).mono ?_
  rintro e w2 ⟨rfl, h2⟩
  replace h2 : Hid (GL w gb 3 [jn (fun x => x) 0 1, fun x => x] w2) := hid h2
  clear h1
  go_wp2_with fail
  refine (h2.out.join 1 2 (by decide) (by decide)).mono ?_
  rintro e w3 ⟨rfl, h3⟩
  replace h3 : Hid (GL w gb 3 [jn (jn (fun x => x) 0 1) 1 2, jn (fun x => x) 0 1, fun x => x] w3) := hid h3
  clear h2
  go_wp2_with fail
  refine (h3.out.back 1 (by decide)).mono ?_
  rintro e w4 ⟨rfl, h4⟩
  replace h4 : Hid (GL w gb 3 [jn (fun x => x) 0 1, fun x => x] w4) := hid h4
  clear h3
  go_wp2_with fail
  refine (h4.out.size 2 (by decide)).mono ?_
  rintro e w5 ⟨rfl, h5⟩
  replace h5 := hid h5
  clear h4
  have e1 : ((cnt (fun y => jn (fun x => x) 0 1 y == jn (fun x => x) 0 1 2) 3 : Nat) : Int) = 1 := by decide
  have e2 : ((fix 3 (jn (fun x => x) 0 1) : Nat) : Int) = 2 := by decide
  rw [e1]
  clear e1
  go_wp2_with fail
  refine h5.out.count.mono ?_
  rintro e w6 ⟨rfl, _, h6⟩
  replace h6 := hid h6
  rw [e2]
  clear e2 h5
  go_wp2_with fail
  go_ret
  exact ⟨rfl, h6.out.below⟩

end Go.Proofs.YtbjodjpdfpcjjaaDoor
