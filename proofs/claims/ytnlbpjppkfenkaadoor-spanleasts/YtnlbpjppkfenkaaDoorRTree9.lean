/- The document's Tree, walked. -/
import Derived.Test.YtnlbpjppkfenkaaDoorJoin9
namespace Go.Proofs.YtnlbpjppkfenkaaDoor
open Go.RowKit
set_option linter.unusedVariables false

set_option maxRecDepth 100000 in
set_option maxHeartbeats 1000000 in
theorem rnew_zero (w : World) : Calls Tryd.prog 18 #[.int .i64 0] w fun e w' => ∃ u, e = .returned u ∧ Below w.heap.size w w' := by
  go_enter Tryd.func18, Tryd.ntmps18
  go_wp2_with fail
  refine wp_loop_rounds 1 ?_
  rw [rounds_succ]
  go_wp2_with fail
  go_ret
  exact ⟨_, rfl, balloc _ _⟩

/-- What the inner loop has found. -/
def Best (A B : Nat → Nat) (L : Nat → Nat → Prop) (f : Nat → Nat) (j : Nat) (z : Int) : Prop :=
  (z = -1 ∧ ∀ i, i < j → f (A i) = f (B i)) ∨ ∃ t : Nat, z = (t : Int) ∧ t < j ∧ f (A t) ≠ f (B t) ∧ ∀ i, i < j → f (A i) ≠ f (B i) → i = t ∨ L t i

section
variable {A B : Nat → Nat} {L : Nat → Nat → Prop} {f : Nat → Nat} {j m : Nat} {z : Int}

theorem Best.same (h : Best A B L f j z) (he : f (A j) = f (B j)) : Best A B L f (j + 1) z := by
  rcases h with ⟨h1, h2⟩ | ⟨t, h1, h2, h3, h4⟩
  · refine .inl ⟨h1, fun i hi => ?_⟩
    by_cases e : i = j
    · subst e; exact he
    · exact h2 i (by omega)
  · refine .inr ⟨t, h1, by omega, h3, fun i hi hne => ?_⟩
    by_cases e : i = j
    · subst e; exact absurd he hne
    · exact h4 i (by omega) hne

theorem Best.first (h : Best A B L f j (-1)) (he : f (A j) ≠ f (B j)) : Best A B L f (j + 1) (j : Int) := by
  rcases h with ⟨_, h2⟩ | ⟨t, h1, _⟩
  · refine .inr ⟨j, rfl, by omega, he, fun i hi hne => ?_⟩
    by_cases e : i = j
    · exact .inl e
    · exact absurd (h2 i (by omega)) hne
  · omega

theorem Best.less (l : Lin m L) {t : Nat} (h : Best A B L f j (t : Int)) (he : f (A j) ≠ f (B j)) (hl : L j t) : Best A B L f (j + 1) (j : Int) := by
  rcases h with ⟨h1, _⟩ | ⟨t', h1, h2, h3, h4⟩
  · omega
  · obtain rfl : t = t' := by omega
    refine .inr ⟨j, rfl, by omega, he, fun i hi hne => ?_⟩
    by_cases e : i = j
    · exact .inl e
    · rcases h4 i (by omega) hne with rfl | h5
      · exact .inr hl
      · exact .inr (l.tr _ _ _ hl h5)

theorem Best.keep (l : Lin m L) (hj : j < m) {t : Nat} (h : Best A B L f j (t : Int)) (hl : ¬ L j t) : Best A B L f (j + 1) (t : Int) := by
  rcases h with ⟨h1, _⟩ | ⟨t', h1, h2, h3, h4⟩
  · omega
  · obtain rfl : t = t' := by omega
    refine .inr ⟨t, rfl, by omega, h3, fun i hi hne => ?_⟩
    by_cases e : i = j
    · subst e; exact .inr ((l.tot i t hj (by omega) (by omega)).resolve_left hl)
    · exact h4 i (by omega) hne
end

/-- Where the document's Tree stands. -/
structure PS (w : World) (n m : Nat) (A B : Nat → Nat) (W : Nat → Int) (so : List Nat) (mv g : Value) (S : Int) (wr : World) (a b : List Nat) : Prop where
  e : so = a ++ b
  ls : Ls wr g n (jl A B (fun x => x) a)
  ms : wr.ownsRow w.heap.size 4 1 mv m (bl m (fun i => decide (i ∈ kr A B (fun x => x) a)))
  bel : Below w.heap.size w wr
  sum : S = wsum W (kr A B (fun x => x) a)

theorem PS.more {w : World} {n m : Nat} {A B : Nat → Nat} {W : Nat → Int} {so : List Nat} {mv g : Value} {S : Int} {wr w' : World} {a b : List Nat} (h : PS w n m A B W so mv g S wr a b) (hb : Below wr.heap.size wr w') : PS w n m A B W so mv g S w' a b :=
  ⟨h.e, h.ls.below hb, own_more h.ms hb, h.bel.trans (hb.mono h.bel.size), h.sum⟩

theorem Ls.set {w : World} {g : Value} {n base m mb i : Nat} {f : Nat → Nat} {mc : Nat} {xs : List Value} {u : Value} (h : Ls w g n f) (hr : w.ownsRow base 4 1 (.slice (some ⟨mb, 0, none⟩) m mc) m xs) : Ls (w.setCell ⟨mb, i, none⟩ u) g n f := by
  refine h.block (fun b cs fr hb => ?_)
  rw [Below.heap_setCell _ _ _ _ (fun e => ?_)]
  · exact hb
  · have e' : b = mb := e
    subst e'
    rcases hr.2 with ⟨q, _⟩ | ⟨g', cap', cur, q, _, r2, _⟩
    · cases q
    · simp only [Value.slice.injEq, Option.some.injEq, Addr.mk.injEq, and_true, true_and] at q
      obtain ⟨rfl, rfl⟩ := q
      rw [hb] at r2
      injection r2 with r3
      injection r3 with _ r4
      revert r4
      decide

/-- Behind a pick. -/
theorem PS.next {w : World} {n m mb mc : Nat} {A B : Nat → Nat} {W : Nat → Int} {L : Nat → Nat → Prop} {so : List Nat} {g : Value} {S : Int} {wr : World} {a b : List Nat} (h : PS w n m A B W so (.slice (some ⟨mb, 0, none⟩) m mc) g S wr a b) (l : Lin m L) (hso : So m L so) {t : Nat} (hb : Best A B L (jl A B (fun x => x) a) m (t : Int)) (ht : t < m) (hA : A t < n) (hB : B t < n) :
    ∃ a' b', jl A B (fun x => x) a' = jn (jl A B (fun x => x) a) (A t) (B t) ∧ fix n (jl A B (fun x => x) a) = fix n (jn (jl A B (fun x => x) a) (A t) (B t)) + 1 ∧ Ls (wr.setCell ⟨mb, t, none⟩ (.bool true)) g n (jl A B (fun x => x) a) ∧ Below w.heap.size w (wr.setCell ⟨mb, t, none⟩ (.bool true)) ∧
      ∀ w' g', Below (wr.setCell ⟨mb, t, none⟩ (.bool true)).heap.size (wr.setCell ⟨mb, t, none⟩ (.bool true)) w' → Ls w' g' n (jn (jl A B (fun x => x) a) (A t) (B t)) → PS w n m A B W so (.slice (some ⟨mb, 0, none⟩) m mc) g' (S + W t) w' a' b' := by
  rcases hb with ⟨h1, _⟩ | ⟨t', h1, h2, h3, h4⟩
  · omega
  · obtain rfl : t = t' := by omega
    obtain ⟨a', b', e1, e2, e3⟩ := pick l hso h.e ht h3 (fun i hi hne => h4 i hi hne)
    obtain ⟨s1, s2⟩ := h.ms.stored t (.bool true)
    rw [bl_set] at s1
    have hon : bl m (on (fun i => decide (i ∈ kr A B (fun x => x) a)) t) = bl m (fun i => decide (i ∈ kr A B (fun x => x) a')) := by
      refine bl_congr (fun x _ => ?_)
      rw [e2]
      unfold on
      by_cases e : x = t
      · subst e; simp
      · simp [e]
    rw [hon] at s1
    refine ⟨a', b', e3, fix_join (jl_lab Lab.start a) hA hB h3, h.ls.set h.ms, below_row h.bel (Nat.le_refl _) h.ms (Nat.le_refl _) s2, fun w' g' hb' hl' => ?_⟩
    refine ⟨e1, by rw [e3]; exact hl', own_more s1 hb', (below_row h.bel (Nat.le_refl _) h.ms (Nat.le_refl _) s2).trans (hb'.mono (Nat.le_trans h.bel.size s2.size)), ?_⟩
    rw [e2, wsum_append, h.sum]
    simp [wsum]

set_option maxRecDepth 100000 in
set_option maxHeartbeats 1000000 in
theorem rtree_zero (v : Value) (gr : Bool) (w : World) (hv : EV w v []) :
    Calls Tryd.prog 11 #[.int .i64 0, v, .bool gr] w fun e w' => ∃ mv, e = .returned (.tuple #[mv, .int .i64 0]) ∧ Rm w.heap.size w' mv 0 (fun _ => false) ∧ Below w.heap.size w w' := by
  obtain ⟨i0, hif, hz0, hz1, hz2⟩ := info_parts infoBool
  obtain ⟨ad, m, cap, rfl, he, _, _⟩ := hv
  obtain rfl : m = 0 := he.len.symm
  clear he
  go_enter Tryd.func11, Tryd.ntmps11
  go_wp2_with (at_make; refine wpList_make_full _ rfl (.tmp 14) (.tmp 14) 24 rfl w.heap.size 4 i0 (.bool false) 1 Tryd.underlying24 hif hz0 hz1 .i64 .i64 _ _ 0 rfl rfl rfl rfl (by rw [hz2]; omega) (by unfold maxLen; omega) (Nat.le_refl _) ?_; intro w1 hown hgrow)
  rw [bl_made] at hown
  have fin := hid (And.intro hown ((Below.refl _ _).grown hgrow (Nat.le_refl _) (by simp) : Below w.heap.size w w1))
  clear hown hgrow
  go_wp2_with fail
  refine (rnew_zero _).mono ?_
  rintro e w2 ⟨u2, rfl, b2⟩
  replace fin := hid (And.intro (own_more fin.out.1 b2) (fin.out.2.trans (b2.mono fin.out.2.size)))
  clear b2
  go_wp2_with fail
  refine wp_loop_rounds 1 ?_
  rw [rounds_succ]
  go_wp2_with fail
  refine wp_loop_rounds 1 ?_
  rw [rounds_succ]
  go_wp2_with fail
  go_ret2
  exact ⟨_, rfl, fin.out.1, fin.out.2⟩

end Go.Proofs.YtnlbpjppkfenkaaDoor
