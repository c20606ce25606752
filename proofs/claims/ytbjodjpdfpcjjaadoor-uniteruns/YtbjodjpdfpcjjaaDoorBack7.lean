/- Back; nil Groups; 'sure'. -/
import Derived.Test.YtbjodjpdfpcjjaaDoorJoin7
namespace Go.Proofs.YtbjodjpdfpcjjaaDoor
open Go.RowKit
set_option linter.unusedVariables false

/-- From w to w' only blocks of O turned; O' is of these and of new ones. -/
structure Mv (O O' : Nat → Prop) (w w' : World) : Prop where
  tu : Turned O w w'
  ne : ∀ k, O' k → O k ∨ w.heap.size ≤ k

theorem Mv.refl (O : Nat → Prop) (w : World) : Mv O O w w := ⟨Turned.refl _ _, fun k h => Or.inl h⟩
theorem Mv.trans {O O1 O2 : Nat → Prop} {w w1 w2 : World} (h : Mv O O1 w w1) (k : Mv O1 O2 w1 w2) : Mv O O2 w w2 := by
  refine ⟨h.tu.then k.tu (fun i hi e => ?_), fun i hi => ?_⟩
  · rcases h.ne i e with e | e
    · exact e
    · omega
  · rcases k.ne i hi with e | e
    · exact h.ne i e
    · exact Or.inr (Nat.le_trans h.tu.size e)
theorem Mv.more {O O1 : Nat → Prop} {w w1 w2 : World} (h : Mv O O1 w w1) (k : Below w1.heap.size w1 w2) : Mv O O1 w w2 := ⟨h.tu.trans (Turned.ofBelow k O), h.ne⟩

section
variable {w : World} {gb n : Nat} {f : Nat → Nat} {fs hs : List (Nat → Nat)} {O : Nat → Prop}

theorem GA.joins (h : GA w gb n (f :: fs) O) : ∃ ad cap, w.cell? ⟨gb, 2, none⟩ = some (.slice ad fs.length cap) ∧ fs.length ≤ 4194304 := by
  obtain ⟨mv, jv, K, T, js, h1, h2, h3⟩ := h.st
  obtain ⟨_, _, r, d, e, ok, h4, h5⟩ := h2.ok
  obtain ⟨rfl, rfl⟩ : f = _ ∧ fs = _ := by simpa using e
  obtain ⟨ad, cap, e, _, _⟩ := own_any h1.jo
  have := h1.hn
  exact ⟨ad, cap, by rw [h1.c2, e, h5], by omega⟩

theorem GA.undo (h : GA w gb n (f :: fs) O) (hl : 0 < fs.length) : Calls Tryd.prog 19 #[.pointer (some ⟨gb, 0, none⟩)] w fun e w' => e = .returned (.tuple #[]) ∧ ∃ O', GA w' gb n fs O' ∧ Mv O O' w w' := by
  obtain ⟨mv, jv, K, T, js, h1, h2, h3⟩ := h.st
  obtain ⟨_, _, r, d, e, ok, h4, h5⟩ := h2.ok
  obtain ⟨rfl, rfl⟩ : f = _ ∧ fs = _ := by simpa using e
  obtain ⟨u, l, f', hs', js', rfl, e, hu, hun, hne, hup, hs1, hs2, hs3, hl1, hl2, hi⟩ := h2.last (by omega)
  obtain ⟨rfl, rfl⟩ : f = f' ∧ fs = hs' := by simpa using e
  have hK : ∀ x, (T x).up ≠ x ∨ (T x).size ≠ 1 → x < K := fun x hx => by
    rcases Nat.lt_or_ge x K with k | k
    · exact k
    · rw [h1.rest x k] at hx
      simp [alone] at hx
  obtain ⟨o, ho⟩ : ∃ o, (T u).up = o := ⟨_, rfl⟩
  rw [ho] at hun hne hup hs2 hs3 hl2
  refine (undo_ok gb n K o u (T o).size (T u).size (T o).least (T u).least l mv jv T js' w h1 (hK o (Or.inr (by omega))) (hK u (Or.inl (by rw [ho]; exact hne))) ?_ ?_ hne (by omega) hs3 hl1).mono ?_
  · conv => rhs; arg 1; rw [← hup]
  · conv => rhs; arg 1; rw [← ho]
  rintro e w' ⟨rfl, jv', g1, g2, g3⟩
  refine ⟨rfl, own gb mv jv', ⟨mv, jv', K, _, _, g1, hi, fun k hk => hk⟩, g2.mono h3, fun k hk => ?_⟩
  rcases hk with e | e | e
  · exact Or.inl (h3 k (Or.inl e))
  · exact Or.inl (h3 k (Or.inr (Or.inl e)))
  · rcases g3 k e with k' | k'
    · exact Or.inl (h3 k (Or.inr (Or.inr k')))
    · exact Or.inr k'

theorem drop_cons {α : Type} (l : List α) (j : Nat) (h : j < l.length) : ∃ x, l.drop j = x :: l.drop (j + 1) := ⟨_, List.drop_eq_getElem_cons h⟩

set_option maxRecDepth 100000 in
set_option maxHeartbeats 1000000 in
theorem GA.back (h : GA w gb n (f :: fs) O) (k : Nat) (hk : k ≤ fs.length) : Calls Tryd.prog 7 #[.pointer (some ⟨gb, 0, none⟩), .int .i64 (k : Int)] w fun e w' => e = .returned .nilIface ∧ ∃ O', GA w' gb n ((f :: fs).drop (fs.length - k)) O' ∧ Mv O O' w w' := by
  obtain ⟨ad, cap, c2, hb⟩ := h.joins
  have t0 : decide ((k : Int) < 0) = false := decide_eq_false (by omega)
  have t1 : decide ((fs.length : Int) < (k : Int)) = false := decide_eq_false (by omega)
  have t2 : decide (fs.length < k) = false := decide_eq_false (by omega)
  have hh := hid h
  clear h
  go_enter Tryd.func7, Tryd.ntmps7
  go_wp2_with fail
  go_loopw [25] (fun _ wr => ∃ j : Nat, ∃ O' : Nat → Prop, j + k ≤ fs.length ∧ Hid (GA wr gb n ((f :: fs).drop j) O' ∧ Mv O O' w wr)) (fun _ wr => lenAt wr ⟨gb, 2, none⟩)
  case atStart => exact ⟨0, O, by omega, hh.out, Mv.refl _ _⟩
  case round =>
    obtain ⟨j, O', hj, hst⟩ := hrel
    obtain ⟨f', hf'⟩ := drop_cons (f :: fs) j (by simp; omega)
    have hlen : ((f :: fs).drop (j + 1)).length = fs.length - j := by simp
    have hg := hst.out.1
    rw [hf'] at hg
    obtain ⟨ad', cap', c2', _⟩ := hg.joins
    rw [hlen] at c2'
    have hgh := hid hg
    have hfh := hid hf'
    clear hg hf' c2 t0 t1 t2
    by_cases hlt : k < fs.length - j
    · have t1 : decide ((k : Int) < ((fs.length - j : Nat) : Int)) = true := decide_eq_true (by omega)
      go_wp2_with fail
      refine (hgh.out.undo (by rw [hlen]; omega)).mono ?_
      rintro e w2 ⟨rfl, O2, g1, g2⟩
      have m2 := hid (hst.out.2.trans g2)
      have g1h := hid g1
      obtain ⟨f2, hf2⟩ := drop_cons (f :: fs) (j + 1) (by simp; omega)
      have hlen2 : ((f :: fs).drop (j + 1 + 1)).length = fs.length - j - 1 := by simp; omega
      have g3 := g1
      rw [hf2] at g3
      obtain ⟨ad2, cap2, c22, _⟩ := g3.joins
      have c22h := hid c22
      rw [hlen2] at c22h
      clear g1 g2 g3 hf2 c22 hlen2
      go_wp2_with fail
      go_roundw
      case rel => exact ⟨j + 1, O2, by omega, g1h.out, m2.out⟩
      case measure =>
        unfold lenAt
        rw [c22h.out, c2']
        simp only []
        omega
    · have t1 : decide ((k : Int) < ((fs.length - j : Nat) : Int)) = false := decide_eq_false (by omega)
      have t2 : decide (k < fs.length - j) = false := decide_eq_false (by omega)
      have hje : fs.length - k = j := by omega
      replace hje := hid hje
      go_wp2_with fail
      go_ret
      exact ⟨rfl, O', by rw [hje.out]; exact hst.out⟩

set_option maxRecDepth 100000 in
set_option maxHeartbeats 1000000 in
theorem GA.back_bad (h : GA w gb n (f :: fs) O) (k : Int) (hk : k < 0 ∨ (fs.length : Int) < k) : Calls Tryd.prog 7 #[.pointer (some ⟨gb, 0, none⟩), .int .i64 k] w fun e w' => e = .returned (.iface 48 (.int .i64 1)) ∧ w = w' := by
  obtain ⟨ad, cap, c2, hb⟩ := h.joins
  clear h
  by_cases h0 : k < 0
  · have t0 : decide (k < 0) = true := decide_eq_true h0
    go_enter Tryd.func7, Tryd.ntmps7
    go_wp2_with fail
    go_ret
    exact ⟨rfl, rfl⟩
  · have t0 : decide (k < 0) = false := decide_eq_false h0
    have t1 : decide ((fs.length : Int) < k) = true := decide_eq_true (by omega)
    go_enter Tryd.func7, Tryd.ntmps7
    go_wp2_with fail
    go_ret
    exact ⟨rfl, rfl⟩
end

end Go.Proofs.YtbjodjpdfpcjjaaDoor
