/- Join, Back, Count, Steps; members that are none; nil Groups. -/
import Derived.Test.YtnlbpjppkfenkaaApi7
namespace Go.Proofs.Ytnlbpjppkfenkaa
open Go.RowKit
set_option linter.unusedVariables false

theorem Hi.room {n : Nat} {T : Tb} {js : List (Nat × Nat)} {hs : List (Nat → Nat)} (h : Hi n T js hs) (hn : 0 < n) : js.length < n := by
  obtain ⟨f, fs, r, d, rfl, ok, h1, h2⟩ := h.ok
  have : 1 ≤ fix n f := cnt_pos (i := 0) hn (by have := ok.fle 0 hn; simp; omega)
  omega

section
variable {w : World} {gb n : Nat} {f : Nat → Nat} {fs hs : List (Nat → Nat)} {O : Nat → Prop}

theorem GA.c0 (h : GA w gb n hs O) : ∀ y, Below w.heap.size w y → y.cell? ⟨gb, 0, none⟩ = some (.int .i64 (n : Int)) := by
  obtain ⟨mv, jv, K, T, js, h1, h2, h3⟩ := h.st
  exact fun y hy => (h1.more hy).c0







set_option maxRecDepth 100000 in
set_option maxHeartbeats 1000000 in
theorem GA.join_bad (h : GA w gb n hs O) (a b : Int) (hx : ¬ ((0 ≤ a ∧ a < (n : Int)) ∧ (0 ≤ b ∧ b < (n : Int)))) :
    Calls Try.prog 22 #[.pointer (some ⟨gb, 0, none⟩), .int .i64 a, .int .i64 b] w fun e w' => e = .returned (.tuple #[.bool false, .iface 58 (.int .i64 12)]) ∧ Below w.heap.size w w' := by
  have hl := look_bad gb w.heap.size n [a, b] _ (h.c0 _ (balloc w _)) (nums2 w a b) (by simp) (by simp only [List.mem_cons, List.not_mem_nil, or_false, forall_eq_or_imp, forall_eq]; exact hx)
  clear h hx
  go_enter Try.func22, Try.ntmps22
  go_wp2_with fail
  refine hl.mono ?_
  rintro e w1 ⟨rfl, rfl⟩
  go_wp2_with fail
  go_ret2
  exact ⟨rfl, balloc w _⟩





/-- What the history is behind Join. -/
def stepH (f : Nat → Nat) (fs : List (Nat → Nat)) (a b : Nat) : List (Nat → Nat) := if f a = f b then f :: fs else jn f a b :: f :: fs

set_option maxRecDepth 100000 in
set_option maxHeartbeats 2000000 in
theorem GA.join (h : GA w gb n (f :: fs) O) (a b : Nat) (ha : a < n) (hb : b < n) :
    Calls Try.prog 22 #[.pointer (some ⟨gb, 0, none⟩), .int .i64 (a : Int), .int .i64 (b : Int)] w fun e w' => e = .returned (.tuple #[.bool (!decide (f a = f b)), .nilIface]) ∧ ∃ O', GA w' gb n (stepH f fs a b) O' ∧ Turned O w w' ∧ ∀ k, O' k → O k ∨ w.heap.size ≤ k := by
  have hc0 := h.c0
  have hn := h.hn
  obtain ⟨mv, jv, K, T, js, h1, h2, h3⟩ := h.st
  obtain ⟨_, _, r, d, e, ok, h4, h5⟩ := h2.ok
  obtain ⟨rfl, rfl⟩ : f = _ ∧ fs = _ := by simpa using e
  have hl := look_ok gb w.heap.size n [(a : Int), (b : Int)] _ (hc0 _ (balloc w _)) (nums2 w a b) (by simp) (by simp; omega)
  have ht : ∀ y, Below w.heap.size w y → ∀ x, x < n → Calls Try.prog 31 #[.pointer (some ⟨gb, 0, none⟩), .int .i64 (x : Int)] y fun e w' => ∃ s l : Nat, T (r x) = ⟨r x, s, l⟩ ∧ e = .returned (.agg #[.int .i32 (r x : Int), .int .i32 (s : Int), .int .i32 (l : Int)]) ∧ s ≤ n ∧ l < n ∧ Below y.heap.size y w' := fun y hy x hx => by
    refine (top_ok gb n K x mv jv T js r d f _ (h1.more hy) ok hx).mono ?_
    rintro e w' ⟨rfl, b⟩
    have hf := ok.fle x hx
    refine ⟨(T (r x)).size, (T (r x)).least, ?_, by show Ending.returned (.agg #[.int .i32 ((T (r x)).up : Int), _, _]) = _; rw [ok.isTop hx], (ok.size1 hx).2, by rw [ok.least x hx]; omega, b⟩
    conv => rhs; arg 1; rw [← ok.isTop hx]
  have hta := ht _ (balloc w (.cells #[.int .i64 (a : Int), .int .i64 (b : Int)] 3)) a ha
  have htb := hid (fun y hy => ht y hy b hb)
  have hsame := hid (ok.same a b ha hb)
  have hra := ok.top a ha
  have hrb := ok.top b hb
  have hang : Hid (∀ o u, (o = r a ∧ u = r b) ∨ (o = r b ∧ u = r a) → f a ≠ f b → ∀ so su lo lu, T o = ⟨o, so, lo⟩ → T u = ⟨u, su, lu⟩ → ∀ y, Below w.heap.size w y → Calls Try.prog 32 #[.pointer (some ⟨gb, 0, none⟩), .agg #[.int .i32 (o : Int), .int .i32 (so : Int), .int .i32 (lo : Int)], .agg #[.int .i32 (u : Int), .int .i32 (su : Int), .int .i32 (lu : Int)]] y fun e w' =>
      e = .returned (.tuple #[]) ∧ ∃ O', GA w' gb n (stepH f fs a b) O' ∧ Turned O w w' ∧ ∀ k, O' k → O k ∨ w.heap.size ≤ k) := by
    intro o u hou fne so su lo lu eo eu y hy
    have ho : o < n := by rcases hou with ⟨rfl, rfl⟩ | ⟨rfl, rfl⟩ <;> assumption
    have hu : u < n := by rcases hou with ⟨rfl, rfl⟩ | ⟨rfl, rfl⟩ <;> assumption
    have hne : o ≠ u := by
      rcases hou with ⟨rfl, rfl⟩ | ⟨rfl, rfl⟩
      · exact fun e => fne (hsame.out.2 e)
      · exact fun e => fne (hsame.out.2 e.symm)
    have to1 : (T o).up = o := by rw [eo]
    have tu1 : (T u).up = u := by rw [eu]
    have hj := h2.join o u ho hu to1 tu1 hne
    have hroom := hj.room (by omega)
    rw [eo] at hj
    simp only [] at hj
    have ro : r o = o := (ok.self o ho).1 to1
    have ru : r u = u := (ok.self u hu).1 tu1
    have fou : f o ≠ f u := fun e => hne (by have := (ok.same o u ho hu).1 e; omega)
    have s2 := ok.two ho hu fou
    rw [ro, ru, eo, eu] at s2
    have l1 := ok.least o ho
    have l2 := ok.least u hu
    have q1 := ok.fle o ho
    have q2 := ok.fle u hu
    rw [ro, eo] at l1
    rw [ru, eu] at l2
    simp only [] at l1 l2 s2
    have hst : stepH f fs a b = jn f o u :: f :: fs := by
      unfold stepH
      rw [if_neg fne]
      congr 1
      rcases hou with ⟨rfl, rfl⟩ | ⟨rfl, rfl⟩
      · exact jn_of (ok.fr ha).symm (ok.fr hb).symm
      · rw [jn_comm]; exact jn_of (ok.fr hb).symm (ok.fr ha).symm
    refine (hang_ok gb n K o u so su lo lu mv jv T js y (h1.more hy) ho hu eo eu hne s2 (by omega) (by omega) (by simpa using hroom)).mono ?_
    rintro e w' ⟨rfl, K', mv', jv', g1, g2, g3, g4⟩
    refine ⟨rfl, own gb mv' jv', ⟨mv', jv', K', _, _, g1, by rw [hst]; exact hj, fun k hk => hk⟩, (Turned.ofBelow hy O).trans (g2.mono h3), fun k hk => ?_⟩
    rcases hk with e | e | e
    · exact Or.inl (h3 k (Or.inl e))
    · rcases g3 k e with k' | k'
      · exact Or.inl (h3 k (Or.inr (Or.inl k')))
      · exact Or.inr (by have := hy.size; omega)
    · rcases g4 k e with k' | k'
      · exact Or.inl (h3 k (Or.inr (Or.inr k')))
      · exact Or.inr (by have := hy.size; omega)
  have hdone : Hid (f a = f b → ∀ y, Below w.heap.size w y → ∃ O', GA y gb n (stepH f fs a b) O' ∧ Turned O w y ∧ ∀ k, O' k → O k ∨ w.heap.size ≤ k) := by
    intro e y hy
    refine ⟨O, ?_, Turned.ofBelow hy O, fun k hk => Or.inl hk⟩
    unfold stepH
    rw [if_pos e]
    exact h.more hy
  clear h h1 h2 h3 h4 h5 ok hc0 ht
  go_enter Try.func22, Try.ntmps22
  go_wp2_with fail
  refine hl.mono ?_
  rintro e w1 ⟨rfl, rfl⟩
  go_wp2_with fail
  refine hta.mono ?_
  rintro e w1 ⟨s, l, e1, rfl, hs2, hl2, b1⟩
  replace e1 := hid e1
  have hb1 : Hid (Below w.heap.size w w1) := (balloc w _).trans (b1.mono (by simp))
  clear b1
  go_wp2_with fail
  refine (htb.out _ hb1.out).mono ?_
  rintro e w2 ⟨s', l', e2, rfl, hs2', hl2', b2⟩
  have hb2 : Hid (Below w.heap.size w w2) := hb1.out.trans (b2.mono hb1.out.size)
  clear hta htb hb1 b2
  replace e2 := hid e2
  by_cases hr : r a = r b
  · have hf := hid (hsame.out.2 hr)
    replace e1 := e1.out
    rw [hr, e2.out] at e1
    simp only [Mb.mk.injEq, true_and] at e1
    obtain ⟨rfl, rfl⟩ := e1
    rw [hr]
    clear hr
    go_wp2_with fail
    go_ret2
    exact ⟨by rw [decide_eq_true hf.out]; rfl, hdone.out hf.out _ ((hb2.out.alloc hb2.out.size _).alloc (by have := hb2.out.size; simp; omega) _)⟩
  · have hf : Hid (f a ≠ f b) := fun e => hr (hsame.out.1 e)
    have hr' : ¬ ((r a : Int) = (r b : Int)) := by omega
    clear hr
    have hbb : Hid (∀ x y, Below w.heap.size w ((w2.alloc x).alloc y)) := fun x y => (hb2.out.alloc hb2.out.size _).alloc (by have := hb2.out.size; simp; omega) _
    by_cases hlt : s < s'
    · have t1 : decide ((s : Int) < (s' : Int)) = true := decide_eq_true (by omega)
      go_wp2_with fail
      refine (hang.out _ _ (Or.inr ⟨rfl, rfl⟩) hf.out s' s l' l e2.out e1.out _ ?_).mono ?_
      · exact hbb.out _ _
      · rintro e w3 ⟨rfl, fin⟩
        replace fin := hid fin
        go_wp2_with fail
        go_ret2
        exact ⟨by rw [decide_eq_false hf.out]; rfl, fin.out⟩
    · have t1 : decide ((s : Int) < (s' : Int)) = false := decide_eq_false (by omega)
      go_wp2_with fail
      refine (hang.out _ _ (Or.inl ⟨rfl, rfl⟩) hf.out s s' l l' e1.out e2.out _ ?_).mono ?_
      · exact hbb.out _ _
      · rintro e w3 ⟨rfl, fin⟩
        replace fin := hid fin
        go_wp2_with fail
        go_ret2
        exact ⟨by rw [decide_eq_false hf.out]; rfl, fin.out⟩

end

end Go.Proofs.Ytnlbpjppkfenkaa
