/- Where a law over Groups stands; 'sure'. -/
import Derived.Test.YtnlbpjppkfenkaaBack7
import Derived.Test.YtnlbpjppkfenkaaOpen7
namespace Go.Proofs.Ytnlbpjppkfenkaa
open Go.RowKit
set_option linter.unusedVariables false

/-- Groups that were made since w. -/
structure GL (w : World) (gb n : Nat) (hs : List (Nat → Nat)) (wr : World) : Prop where
  st : ∃ O, GA wr gb n hs O ∧ ∀ k, O k → w.heap.size ≤ k
  below : Below w.heap.size w wr

section
variable {w wr : World} {gb n : Nat} {f : Nat → Nat} {fs hs : List (Nat → Nat)}

theorem GL.more (h : GL w gb n hs wr) {w' : World} (hb : Below wr.heap.size wr w') : GL w gb n hs w' := by
  obtain ⟨O, h1, h2⟩ := h.st
  exact ⟨⟨O, h1.more hb, h2⟩, h.below.trans (hb.mono h.below.size)⟩

theorem GL.drew (h : GL w gb n hs wr) : GL w gb n hs wr.drew := h.more (Below.refl _ _).drew
theorem GL.alloc (h : GL w gb n hs wr) (o : Obj) : GL w gb n hs (wr.alloc o) := h.more (balloc _ _)

theorem GL.moved (h : GL w gb n hs wr) {w' : World} {hs' : List (Nat → Nat)} (hm : ∀ O, GA wr gb n hs O → ∃ O', GA w' gb n hs' O' ∧ Mv O O' wr w') : GL w gb n hs' w' := by
  obtain ⟨O, h1, h2⟩ := h.st
  obtain ⟨O', g1, g2⟩ := hm O h1
  refine ⟨⟨O', g1, fun k hk => ?_⟩, h.below.trans (g2.tu.below h2 h.below.size)⟩
  rcases g2.ne k hk with e | e
  · exact h2 k e
  · exact Nat.le_trans h.below.size e

theorem GL.big (h : GL w gb n hs wr) : n ≤ 4194304 := by
  obtain ⟨O, h1, h2⟩ := h.st
  exact h1.hn

theorem GL.new (n : Nat) (w : World) (h1 : 1 ≤ n) (h2 : n ≤ 4194304) : Calls Try.prog 20 #[.int .i64 (n : Int)] w fun e w' => ∃ gb, e = .returned (.tuple #[.pointer (some ⟨gb, 0, none⟩), .nilIface]) ∧ GL w gb n [fun x => x] w' :=
  (new_ok n w h1 h2).mono fun e w' ⟨e1, g, b⟩ => ⟨_, e1, ⟨_, g, fun k hk => by rw [hk]; exact Nat.le_refl _⟩, b⟩

theorem GL.join (h : GL w gb n (f :: fs) wr) (a b : Nat) (ha : a < n) (hb : b < n) :
    Calls Try.prog 22 #[.pointer (some ⟨gb, 0, none⟩), .int .i64 (a : Int), .int .i64 (b : Int)] wr fun e w' => e = .returned (.tuple #[.bool (!decide (f a = f b)), .nilIface]) ∧ GL w gb n (stepH f fs a b) w' := by
  obtain ⟨O, h1, h2⟩ := h.st
  refine (h1.join a b ha hb).mono ?_
  rintro e w' ⟨rfl, O', g1, g2, g3⟩
  refine ⟨rfl, ⟨O', g1, fun k hk => ?_⟩, h.below.trans (g2.below h2 h.below.size)⟩
  rcases g3 k hk with e | e
  · exact h2 k e
  · exact Nat.le_trans h.below.size e













theorem GL.ok (h : GL w gb n (f :: fs) wr) : (∀ x, x < n → f x ≤ x) ∧ (∀ x, x < n → f (f x) = f x) ∧ fix n f + fs.length = n := by
  obtain ⟨O, h1, h2⟩ := h.st
  obtain ⟨mv, jv, K, T, js, g1, g2, g3⟩ := h1.st
  obtain ⟨_, _, r, d, e, ok, h4, h5⟩ := g2.ok
  obtain ⟨rfl, rfl⟩ : f = _ ∧ fs = _ := by simpa using e
  exact ⟨ok.fle, ok.ff, by omega⟩

/-- There is a newest. -/
theorem GL.cons (h : GL w gb n hs wr) : ∃ f fs, hs = f :: fs := by
  obtain ⟨O, h1, h2⟩ := h.st
  obtain ⟨mv, jv, K, T, js, g1, g2, g3⟩ := h1.st
  obtain ⟨f, fs, r, d, e, ok, h4, h5⟩ := g2.ok
  exact ⟨f, fs, e⟩

end



end Go.Proofs.Ytnlbpjppkfenkaa
