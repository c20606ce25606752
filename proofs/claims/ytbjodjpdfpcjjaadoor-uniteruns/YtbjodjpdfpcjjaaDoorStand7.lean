/- Where 'UniteRuns' stands: the Groups beside the document's lists. -/
import Derived.Test.YtbjodjpdfpcjjaaDoorRef7
import Derived.Test.YtbjodjpdfpcjjaaDoorErrAs
import Derived.BigQuiet
import Derived.Deep.QuietTactic
namespace Go.Proofs.YtbjodjpdfpcjjaaDoor
open Go.RowKit
set_option linter.unusedVariables false

theorem info1 : (Tryd.prog.info? 29).map (fun i => (i.zero, i.size, i.bytes)) = some (some (.slice none 0 0), 1, 24) := by kernel_rfl

/-- A block of Groups. -/
def Gty (w : World) (k : Nat) : Prop := ∃ cs t fr, w.heap[k]? = some (.cells cs t fr) ∧ (t = 52 ∨ t = 57 ∨ t = 61)

theorem GA.typed {w : World} {gb n : Nat} {hs : List (Nat → Nat)} {O : Nat → Prop} (h : GA w gb n hs O) : GA w gb n hs (fun k => O k ∧ Gty w k) := by
  obtain ⟨mv, jv, K, T, js, h1, h2, h3⟩ := h.st
  refine ⟨mv, jv, K, T, js, h1, h2, fun k hk => ⟨h3 k hk, ?_⟩⟩
  rcases hk with rfl | e | e
  · exact ⟨_, _, _, h1.self, Or.inl rfl⟩
  · rcases h1.mem.2 with ⟨rfl, _⟩ | ⟨g, cap, cur, rfl, hb, hgg, _⟩
    · cases e
    · cases e
      exact ⟨_, _, _, hgg, Or.inr (Or.inl rfl)⟩
  · rcases h1.jo.2 with ⟨rfl, _⟩ | ⟨g, cap, cur, rfl, hb, hgg, _⟩
    · cases e
    · cases e
      exact ⟨_, _, _, hgg, Or.inr (Or.inr rfl)⟩

theorem Keep.ofTyped {w w' : World} {O : Nat → Prop} (h : Turned (fun k => O k ∧ Gty w k) w w') : Keep w w' := fun k cs t fr hk h1 h2 h3 => by
  refine (h.block k (Array.getElem?_eq_some_iff.1 hk).1 (fun e => ?_)).trans hk
  obtain ⟨_, cs', t', fr', e1, e2⟩ := e
  rw [hk] at e1
  injection e1 with e1
  injection e1 with _ e1
  subst e1
  rcases e2 with e | e | e
  · exact h1 e
  · exact h2 e
  · exact h3 e

section
variable {w wr : World} {gb n : Nat} {f : Nat → Nat} {fs hs : List (Nat → Nat)} {O : Nat → Prop}

theorem GL.joinK (h : GL w gb n (f :: fs) wr) (a b : Nat) (ha : a < n) (hb : b < n) :
    Calls Tryd.prog 9 #[.pointer (some ⟨gb, 0, none⟩), .int .i64 (a : Int), .int .i64 (b : Int)] wr fun e w' => e = .returned (.tuple #[.bool (!decide (f a = f b)), .nilIface]) ∧ GL w gb n (stepH f fs a b) w' ∧ Keep wr w' := by
  obtain ⟨O, h1, h2⟩ := h.st
  refine (h1.typed.join a b ha hb).mono ?_
  rintro e w' ⟨rfl, O', g1, g2, g3⟩
  refine ⟨rfl, ⟨⟨O', g1, fun k hk => ?_⟩, h.below.trans (g2.below (fun k hk => h2 k hk.1) h.below.size)⟩, Keep.ofTyped g2⟩
  rcases g3 k hk with e | e
  · exact h2 k e.1
  · exact Nat.le_trans h.below.size e

theorem GL.backK (h : GL w gb n (f :: fs) wr) (k : Nat) (hk : k ≤ fs.length) : Calls Tryd.prog 7 #[.pointer (some ⟨gb, 0, none⟩), .int .i64 (k : Int)] wr fun e w' => e = .returned .nilIface ∧ GL w gb n ((f :: fs).drop (fs.length - k)) w' ∧ Keep wr w' := by
  obtain ⟨O, h1, h2⟩ := h.st
  refine (h1.typed.back k hk).mono ?_
  rintro e w' ⟨rfl, O', g1, g2⟩
  refine ⟨rfl, ⟨⟨O', g1, fun k hk => ?_⟩, h.below.trans (g2.tu.below (fun k hk => h2 k hk.1) h.below.size)⟩, Keep.ofTyped g2.tu⟩
  rcases g2.ne k hk with e | e
  · exact h2 k e.1
  · exact Nat.le_trans h.below.size e

set_option maxRecDepth 100000 in
set_option maxHeartbeats 1000000 in
theorem GA.countQ (h : GA w gb n (f :: fs) O) : Calls Tryd.prog 15 #[.pointer (some ⟨gb, 0, none⟩)] w fun e w' => e = .returned (.int .i64 (fix n f : Int)) ∧ ∃ m, w' = w.drewN m := by
  obtain ⟨mv, jv, K, T, js, h1, h2, h3⟩ := h.st
  obtain ⟨_, _, r, d, e, ok, h4, h5⟩ := h2.ok
  obtain ⟨rfl, rfl⟩ : f = _ ∧ fs = _ := by simpa using e
  obtain ⟨ad, cap, rfl, _, _⟩ := own_any h1.jo
  have c2 := h1.c2
  have c0 := h1.c0
  have hn := h1.hn
  have hw : IntKind.i64.wrap ((n : Int) - (js.length : Int)) = (fix n f : Int) := by rw [IntKind.wrap_i64]; omega
  clear h h1 h2 h3 h4 h5 ok
  go_enter Tryd.func15, Tryd.ntmps15
  go_wp2_with fail
  go_region_held3 (fun y => y.cell? ⟨gb, 0, none⟩ = some (.int .i64 (n : Int)) ∧ y.cell? ⟨gb, 2, none⟩ = some (.slice ad js.length cap)) (go_keep) (fail)
  go_wp2_with fail
  go_ret
  exact ⟨rfl, 1, rfl⟩
end

/-- The Groups, and the lists behind each number of steps, the oldest first. -/
structure US (wb : World) (gb K : Nat) (hs : List (Nat → Nat)) (v : Value) (wr : World) : Prop where
  gl : GL wb gb K hs wr
  row : ∃ vs, wr.ownsRow wb.heap.size 29 1 v hs.length vs ∧ ∀ (i : Nat) f, hs.reverse[i]? = some f → ∃ u, vs[i]? = some u ∧ Ls wr u K f

section
variable {wb wr w' : World} {gb K : Nat} {f : Nat → Nat} {fs hs hs' : List (Nat → Nat)} {v : Value}

theorem own_keep {lo n : Nat} {xs : List Value} (h : wr.ownsRow lo 29 1 v n xs) (k : Keep wr w') : w'.ownsRow lo 29 1 v n xs := by
  refine ⟨h.1, ?_⟩
  rcases h.2 with hn | ⟨g, cap, cur, e, hb', hgg, rest⟩
  · exact Or.inl hn
  · exact Or.inr ⟨g, cap, cur, e, hb', k g _ _ _ hgg (by decide) (by decide) (by decide), rest⟩

theorem US.keep (h : US wb gb K hs v wr) (g : GL wb gb K hs w') (k : Keep wr w') : US wb gb K hs v w' := by
  obtain ⟨vs, h1, h2⟩ := h.row
  exact ⟨g, vs, own_keep h1 k, fun i f hf => by obtain ⟨u, e1, e2⟩ := h2 i f hf; exact ⟨u, e1, e2.keep k⟩⟩

theorem US.more (h : US wb gb K hs v wr) (hb : Below wr.heap.size wr w') : US wb gb K hs v w' := h.keep (h.gl.more hb) (Keep.ofBelow hb)

theorem US.form (h : US wb gb K (f :: fs) v wr) : ∃ g cap, v = .slice (some ⟨g, 0, none⟩) (fs.length + 1) cap ∧ fs.length + 1 ≤ cap ∧ cap ≤ maxLen := by
  obtain ⟨vs, h1, h2⟩ := h.row
  have := own_form h1 (by simp)
  simpa using this

theorem US.nth {g cap : Nat} (h : US wb gb K (f :: fs) (.slice (some ⟨g, 0, none⟩) (fs.length + 1) cap) wr) (i : Nat) (hi : i ≤ fs.length) : ∃ f' u, (f :: fs).reverse[i]? = some f' ∧ wr.cell? ⟨g, i, none⟩ = some u ∧ Ls wr u K f' := by
  obtain ⟨vs, h1, h2⟩ := h.row
  obtain ⟨f', hf'⟩ : ∃ f', (f :: fs).reverse[i]? = some f' := ⟨_, List.getElem?_eq_getElem (by simp; omega)⟩
  obtain ⟨u, e1, e2⟩ := h2 i f' hf'
  have h1' : wr.ownsRow wb.heap.size 29 1 (.slice (some ⟨g, 0, none⟩) (fs.length + 1) cap) (fs.length + 1) vs := by simpa using h1
  exact ⟨f', u, hf', (h1'.cellAt i (by omega)).trans e1, e2⟩

theorem rev_last : (f :: fs).reverse[fs.length]? = some f := by
  rw [List.reverse_cons, List.getElem?_append_right (by simp)]
  simp

theorem rev_drop {l : List (Nat → Nat)} {d : Nat} (hd : d ≤ l.length) : (l.drop d).reverse = l.reverse.take (l.length - d) := by
  rw [List.reverse_drop]

/-- Cut to a + 1 rows. -/
theorem US.cut {g cap : Nat} (h : US wb gb K (f :: fs) (.slice (some ⟨g, 0, none⟩) (fs.length + 1) cap) wr) (a : Nat) (ha : a ≤ fs.length) (hg : GL wb gb K ((f :: fs).drop (fs.length - a)) w') (hk : Keep wr w') : US wb gb K ((f :: fs).drop (fs.length - a)) (.slice (some ⟨g, 0, none⟩) (a + 1) cap) w' := by
  obtain ⟨vs, h1, h2⟩ := h.row
  have h1' : wr.ownsRow wb.heap.size 29 1 (.slice (some ⟨g, 0, none⟩) (fs.length + 1) cap) (fs.length + 1) vs := by simpa using h1
  have hl : ((f :: fs).drop (fs.length - a)).length = a + 1 := by simp; omega
  refine ⟨hg, vs.take ((a + 1) * 1), ?_, fun i f' hf' => ?_⟩
  · rw [hl]
    exact own_keep (own_take h1' (by omega)) hk
  · rw [rev_drop (by simp; omega), List.getElem?_take] at hf'
    split at hf'
    · rename_i hi
      obtain ⟨u, e1, e2⟩ := h2 i f' hf'
      refine ⟨u, ?_, e2.keep hk⟩
      rw [List.getElem?_take, if_pos (by simp at hi; omega)]
      exact e1
    · cases hf'

theorem GL.row {lo n : Nat} {xs : List Value} {u : Value} (h : GL wb gb K hs wr) (ho : wr.ownsRow lo 29 1 u n xs) (hlo : wb.heap.size ≤ lo) (hg : wr.grownBy w' u.ownBlock) : GL wb gb K hs w' ∧ (∀ (b : Nat) (cs : Array Value) (fr : Nat × Nat), wr.heap[b]? = some (Obj.cells cs 3 fr) → w'.heap[b]? = some (Obj.cells cs 3 fr)) := by
  obtain ⟨O, h1, h2⟩ := h.st
  have ht : Turned (fun k => u.ownBlock = some k) wr w' := ⟨hg.os, hg.tape, hg.output, hg.size, fun k hk ho => hg.block k hk (fun e => ho e.symm)⟩
  have hty : ∀ k, u.ownBlock = some k → ∃ cur, wr.heap[k]? = some (.cells cur 29 (0, 0)) := fun k hk => by
    rcases ho.2 with ⟨rfl, _⟩ | ⟨g, cap, cur, rfl, _, hgg, _⟩
    · cases hk
    · cases hk; exact ⟨cur, hgg⟩
  refine ⟨⟨⟨_, h1.typed.of ht (fun k _ hk e => ?_), fun k hk => h2 k hk.1⟩, h.below.trans (ht.below (fun k hk => Nat.le_trans hlo (ho.lt k hk).1) h.below.size)⟩, fun b cs fr hb => ?_⟩
  · obtain ⟨cur, hc⟩ := hty k e
    obtain ⟨_, cs, t, fr, e1, e2⟩ := hk
    rw [hc] at e1
    injection e1 with e1
    injection e1 with _ e1
    subst e1
    rcases e2 with e | e | e <;> cases e
  · refine (ht.block b (Array.getElem?_eq_some_iff.1 hb).1 (fun e => ?_)).trans hb
    obtain ⟨cur, hc⟩ := hty b e
    rw [hc] at hb
    injection hb with hb
    injection hb with _ hb
    cases hb

/-- One row more. -/
theorem US.push {f' : Nat → Nat} {g' : GL wb gb K (f' :: hs) wr} {vs : List Value} {u v' : Value} (hr : wr.ownsRow wb.heap.size 29 1 v hs.length vs) (he : ∀ (i : Nat) f, hs.reverse[i]? = some f → ∃ u, vs[i]? = some u ∧ Ls wr u K f) (hu : Ls wr u K f') (hg : wr.grownBy w' v.ownBlock) (ho : w'.ownsRow wb.heap.size 29 1 v' (hs.length + 1) (vs ++ [u])) : US wb gb K (f' :: hs) v' w' := by
  obtain ⟨g1, g2⟩ := g'.row hr (Nat.le_refl _) hg
  have hl : vs.length = hs.length := by have := hr.1; omega
  refine ⟨g1, vs ++ [u], by simpa using ho, fun i x hx => ?_⟩
  rw [List.reverse_cons, List.getElem?_append] at hx
  split at hx
  · rename_i hi
    obtain ⟨y, e1, e2⟩ := he i x hx
    refine ⟨y, ?_, e2.block g2⟩
    rw [List.getElem?_append_left (by simp at hi; omega)]
    exact e1
  · rename_i hi
    have h0 : i - hs.reverse.length = 0 := by
      rcases Nat.eq_zero_or_pos (i - hs.reverse.length) with h0 | h0
      · exact h0
      · rw [List.getElem?_eq_none (by simp; simp at h0; omega)] at hx; cases hx
    rw [h0] at hx
    cases hx
    have hi2 : i = vs.length := by simp at hi h0; omega
    refine ⟨u, ?_, hu.block g2⟩
    rw [hi2, List.getElem?_append_right (Nat.le_refl _)]
    simp
end

end Go.Proofs.YtbjodjpdfpcjjaaDoor
