/- What the Groups' calls answer. -/
import Derived.Test.YtnlbpjppkfenkaaHang7
import Derived.Test.YtnlbpjppkfenkaaUndo7
namespace Go.Proofs.Ytnlbpjppkfenkaa
open Go.RowKit
set_option linter.unusedVariables false

/-- Groups with all that was, the newest first, in blocks of O. -/
structure GA (w : World) (gb n : Nat) (hs : List (Nat → Nat)) (O : Nat → Prop) : Prop where
  st : ∃ mv jv K T js, Gr w gb mv jv n K T js ∧ Hi n T js hs ∧ ∀ k, own gb mv jv k → O k

theorem GA.of {w w' : World} {gb n : Nat} {hs : List (Nat → Nat)} {O S : Nat → Prop} (h : GA w gb n hs O) (ht : Turned S w w') (ho : ∀ k, k < w.heap.size → O k → ¬ S k) : GA w' gb n hs O := by
  obtain ⟨mv, jv, K, T, js, h1, h2, h3⟩ := h.st
  exact ⟨mv, jv, K, T, js, h1.of ht (fun k hk => ho k (h1.olt hk) (h3 k hk)), h2, h3⟩

theorem GA.more {w w' : World} {gb n : Nat} {hs : List (Nat → Nat)} {O : Nat → Prop} (h : GA w gb n hs O) (hb : Below w.heap.size w w') : GA w' gb n hs O := h.of (Turned.ofBelow hb (fun _ => False)) (fun _ _ _ e => e)

theorem GA.hn {w : World} {gb n : Nat} {hs : List (Nat → Nat)} {O : Nat → Prop} (h : GA w gb n hs O) : n ≤ 4194304 := by
  obtain ⟨mv, jv, K, T, js, h1, h2, h3⟩ := h.st
  exact h1.hn

set_option maxRecDepth 100000 in
set_option maxHeartbeats 1000000 in
theorem new_bad (n : Int) (w : World) (hn : n < 1 ∨ 4194304 < n) : Calls Try.prog 20 #[.int .i64 n] w fun e w' => e = .returned (.tuple #[.pointer none, .iface 58 (.int .i64 1)]) ∧ w = w' := by
  by_cases h1 : n < 1
  · have t1 : decide (n < 1) = true := decide_eq_true h1
    go_enter Try.func20, Try.ntmps20
    go_wp2_with fail
    go_ret2
    exact ⟨rfl, rfl⟩
  · have t1 : decide (n < 1) = false := decide_eq_false h1
    have t2 : decide (4194304 < n) = true := decide_eq_true (by omega)
    go_enter Try.func20, Try.ntmps20
    go_wp2_with fail
    go_ret2
    exact ⟨rfl, rfl⟩

set_option maxRecDepth 100000 in
set_option maxHeartbeats 1000000 in
theorem new_ok (n : Nat) (w : World) (h1 : 1 ≤ n) (h2 : n ≤ 4194304) : Calls Try.prog 20 #[.int .i64 (n : Int)] w fun e w' => e = .returned (.tuple #[.pointer (some ⟨w.heap.size, 0, none⟩), .nilIface]) ∧ GA w' w.heap.size n [fun x => x] (fun k => k = w.heap.size) ∧ Below w.heap.size w w' := by
  have t1 : decide ((n : Int) < 1) = false := decide_eq_false (by omega)
  have t2 : decide (4194304 < (n : Int)) = false := decide_eq_false (by omega)
  go_enter Try.func20, Try.ntmps20
  go_wp2_with fail
  go_ret2
  refine ⟨rfl, ⟨.slice none 0 0, .slice none 0 0, 0, alone, [], ⟨heap_alloc_new _ _, World.ownsRow_nil _ _ _ _, World.ownsRow_nil _ _ _ _, fun _ _ => rfl, Nat.zero_le _, by simp; omega, h2⟩, Hi.new, fun k hk => ?_⟩, (Below.refl _ _).alloc (Nat.le_refl _) _⟩
  rcases hk with e | e | e
  · exact e
  · cases e
  · cases e

theorem nums1 (w : World) (a : Int) : Nums (w.alloc (.cells #[.int .i64 a] 3)) w.heap.size [a] := heap_alloc_new _ _
theorem nums2 (w : World) (a b : Int) : Nums (w.alloc (.cells #[.int .i64 a, .int .i64 b] 3)) w.heap.size [a, b] := heap_alloc_new _ _
theorem balloc (w : World) (o : Obj) : Below w.heap.size w (w.alloc o) := (Below.refl _ _).alloc (Nat.le_refl _) o

section
variable {w : World} {gb n : Nat} {f : Nat → Nat} {fs : List (Nat → Nat)} {O : Nat → Prop}

/-- What 'look' and 'top' answer of members that are. -/
theorem GA.tops (h : GA w gb n (f :: fs) O) : ∃ (r : Nat → Nat) (T : Tb), (∀ y, Below w.heap.size w y → ∀ x, x < n → Calls Try.prog 31 #[.pointer (some ⟨gb, 0, none⟩), .int .i64 (x : Int)] y fun e w' => ∃ s l : Nat, T (r x) = ⟨r x, s, l⟩ ∧ e = .returned (.agg #[.int .i32 (r x : Int), .int .i32 (s : Int), .int .i32 (l : Int)]) ∧ s = cnt (fun y => f y == f x) n ∧ l = f x ∧ s ≤ n ∧ l < n ∧ Below y.heap.size y w') ∧
    (∀ x y, x < n → y < n → (f x = f y ↔ r x = r y)) ∧ (∀ y, Below w.heap.size w y → y.cell? ⟨gb, 0, none⟩ = some (.int .i64 (n : Int))) ∧ (∀ x, x < n → r x < n) ∧ n ≤ 4194304 := by
  obtain ⟨mv, jv, K, T, js, h1, h2, h3⟩ := h.st
  obtain ⟨_, _, r, d, e, ok, _, _⟩ := h2.ok
  obtain ⟨rfl, rfl⟩ : f = _ ∧ fs = _ := by simpa using e
  refine ⟨r, T, fun y hy x hx => (top_ok gb n K x mv jv T js r d f _ (h1.more hy) ok hx).mono ?_, fun x y hx hy => ok.same x y hx hy, fun y hy => (h1.more hy).c0, ok.top, h1.hn⟩
  rintro e w' ⟨rfl, b⟩
  have hf := ok.fle x hx
  refine ⟨(T (r x)).size, (T (r x)).least, ?_, by show Ending.returned (.agg #[.int .i32 ((T (r x)).up : Int), _, _]) = _; rw [ok.isTop hx], ok.size x hx, ok.least x hx, (ok.size1 hx).2, by rw [ok.least x hx]; omega, b⟩
  conv => rhs; arg 1; rw [← ok.isTop hx]







end

end Go.Proofs.Ytnlbpjppkfenkaa
