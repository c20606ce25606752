/- 'CutCuts', walked. -/
import Derived.Test.YtbdcddkiioehcabDoorRows6
import Derived.Test.YtbdcddkiioehcabDoorGrown6
namespace Go.Proofs.YtbdcddkiioehcabDoor
open Go.RowKit
set_option linter.unusedVariables false

theorem iw6 (x : Int) : IntKind.i64.wrap x = wrap64 x := by rw [IntKind.wrap_i64]; unfold wrap64; omega

theorem Wood.turned {adj : Nat → Nat → Prop} (h : Wood adj) {a b : Nat} {l : List Nat} (h1 : Rd adj a b l) : Rd adj b a l.reverse := h1.rev (fun _ _ => h.symm)

/-- Two linked nodes that are cut are not of one tree. -/
theorem cut_two {adj : Nat → Nat → Prop} (h : Wood adj) {a b : Nat} (e : adj a b) : ∀ l, ¬ Rd (delE adj a b) a b l := fun l hl => by
  have h1 : Rd adj a b l := ⟨hl.wk.mono (fun x y _ _ h => h.1), hl.nd⟩
  have h2 := h.uniq h1 (h.near e)
  subst h2
  exact (hl.two rfl).2.1 ⟨rfl, rfl⟩

theorem Wk.upto {adj : Nat → Nat → Prop} {a b : Nat} {l : List Nat} (h : Wk adj a b l) : ∀ (i z : Nat), l[i]? = some z → Wk adj a z (l.take (i + 1)) := by
  induction h with
  | one a ha =>
    intro i z hz
    cases i with
    | zero => simp at hz; subst hz; exact Wk.one a ha
    | succ i => simp at hz
  | step a c b l ha hac hk ih =>
    intro i z hz
    cases i with
    | zero => simp at hz; subst hz; exact Wk.one a ha
    | succ i => exact Wk.step a c z _ ha hac (ih i z (by simpa using hz))

theorem Wk.onward {adj : Nat → Nat → Prop} {a b : Nat} {l : List Nat} (h : Wk adj a b l) : ∀ (i z : Nat), l[i]? = some z → Wk adj z b (l.drop i) := by
  induction h with
  | one a ha =>
    intro i z hz
    cases i with
    | zero => simp at hz; subst hz; exact Wk.one a ha
    | succ i => simp at hz
  | step a c b l ha hac hk ih =>
    intro i z hz
    cases i with
    | zero => simp at hz; subst hz; exact Wk.step a c b l ha hac hk
    | succ i => exact ih i z (by simpa using hz)

/-- A tree cut between two nodes of a road: who hangs with whom. -/
theorem cut_sides {adj : Nat → Nat → Prop} (h : Wood adj) {a b t p q : Nat} {l : List Nat} (hl : Rd adj a b l) (hp : l[t]? = some p) (hq : l[t + 1]? = some q) (h' : Wood (delE adj q p)) :
    ∀ i z, l[i]? = some z → (i ≤ t → (∃ m, Rd (delE adj q p) a z m) ∧ ∀ m, ¬ Rd (delE adj q p) b z m) ∧ (t < i → (∀ m, ¬ Rd (delE adj q p) a z m) ∧ ∃ m, Rd (delE adj q p) b z m) := by
  have hpq := hl.wk.at t p q hp hq
  have hno := cut_two h (h.symm hpq)
  have hsy : ∀ x y, delE adj q p x y → delE adj q p y x := fun x y => h'.symm
  have hsplit : l = l.take (t + 1) ++ l.drop (t + 1) := (List.take_append_drop _ _).symm
  have hdis : ∀ x, x ∈ l.take (t + 1) → x ∉ l.drop (t + 1) := fun x h1 h2 => by
    have nd := hl.nd
    rw [hsplit, List.nodup_append] at nd
    exact nd.2.2 x h1 x h2 rfl
  have hqd : q ∈ l.drop (t + 1) := by
    apply List.mem_of_getElem? (i := 0)
    rw [List.getElem?_drop]; exact hq
  have hpt : p ∈ l.take (t + 1) := by
    apply List.mem_of_getElem? (i := t)
    rw [List.getElem?_take, if_pos (by omega)]; exact hp
  have front : ∀ i z, i ≤ t → l[i]? = some z → ∃ m, Wk (delE adj q p) a z m := fun i z hi hz => by
    refine ⟨_, (hl.wk.upto i z hz).mono (fun x y hx hy e => ?_)⟩
    have hsub : ∀ x, x ∈ l.take (i + 1) → x ∈ l.take (t + 1) := fun x hx => (List.take_subset_take_left l (by omega)) hx
    refine ⟨e, fun ⟨e1, _⟩ => hdis x (hsub x hx) (by rw [e1]; exact hqd), fun ⟨_, e1⟩ => hdis y (hsub y hy) (by rw [e1]; exact hqd)⟩
  have behind : ∀ i z, t < i → l[i]? = some z → ∃ m, Wk (delE adj q p) z b m := fun i z hi hz => by
    refine ⟨_, (hl.wk.onward i z hz).mono (fun x y hx hy e => ?_)⟩
    have hsub : ∀ x, x ∈ l.drop i → x ∈ l.drop (t + 1) := fun x hx => (List.drop_subset_drop_left l (by omega)) hx
    refine ⟨e, fun ⟨_, e1⟩ => hdis y (by rw [e1]; exact hpt) (hsub y hy), fun ⟨e1, _⟩ => hdis x (by rw [e1]; exact hpt) (hsub x hx)⟩
  obtain ⟨m1, hap⟩ := front t p (Nat.le_refl _) hp
  obtain ⟨m2, hqb⟩ := behind (t + 1) q (by omega) hq
  have apart : ∀ z, (∃ m, Wk (delE adj q p) a z m) → (∃ m, Wk (delE adj q p) z b m) → False := fun z ⟨k1, e1⟩ ⟨k2, e2⟩ => by
    obtain ⟨k3, e3⟩ := hqb.cat (e2.rev hsy)
    obtain ⟨k4, e4⟩ := e3.cat (e1.rev hsy)
    obtain ⟨k5, e5⟩ := e4.cat hap
    obtain ⟨k6, e6⟩ := h'.conn e5
    exact hno k6 e6
  intro i z hz
  refine ⟨fun hi => ⟨?_, fun m hm => ?_⟩, fun hi => ⟨fun m hm => ?_, ?_⟩⟩
  · obtain ⟨m, hm⟩ := front i z hi hz
    exact h'.conn hm
  · exact apart z (front i z hi hz) ⟨_, hm.wk.rev hsy⟩
  · exact apart z ⟨m, hm.wk⟩ (behind i z hi hz)
  · obtain ⟨m, hm⟩ := behind i z hi hz
    obtain ⟨k, hk⟩ := h'.conn (hm.rev hsy)
    exact ⟨k, hk⟩

end Go.Proofs.YtbdcddkiioehcabDoor
