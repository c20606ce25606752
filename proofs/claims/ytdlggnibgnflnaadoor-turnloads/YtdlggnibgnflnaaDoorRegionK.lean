/- A region that leaves its order open, whose last operation may break the condition under which the loads were taken: plain facts, of no program. -/
import Derived.Test.YtdlggnibgnflnaaDoorRegion
namespace Go.Proofs.YtdlggnibgnflnaaDoor
open Go.RowKit
set_option linter.unusedVariables false

/-- Whatever comes up, the condition holds behind it, unless it is number k. -/
def wpAnyK (P : Program) (md : Region.Mode) (ops : Array Oper) (Q : Exit → Act → World → Prop) (S : World → Prop) (k : Nat) : Nat → Array Bool → Act → World → Prop
  | 0, li, a, w => Region.ready md ops li = [] ∧ Q .normal a w
  | f + 1, li, a, w => (Region.ready md ops li = [] → Q .normal a w) ∧ ∀ i, i ∈ Region.ready md ops li → wpOp P ops Q i (fun b x => (i = k ∨ S x) ∧ wpAnyK P md ops Q S k f (li.setIfInBounds i true) b x) a w

/-- What is listed has all listed that it waits for. -/
def clB (md : Region.Mode) (ops : Array Oper) (li : Array Bool) : Bool := (List.range ops.size).all fun j => !(li.getD j false) || ((ops[j]?).map (fun o => o.after.all fun e => !(Region.binds md e) || li.getD e.on false)).getD true

/-- m waits for i, by steps. -/
def wtB (md : Region.Mode) (ops : Array Oper) : Nat → Nat → Nat → Bool
  | 0, _, _ => false
  | n + 1, m, i => ((ops[m]?).map (fun o => o.after.any fun e => Region.binds md e && (e.on == i || wtB md ops n e.on i))).getD false

section
variable {P : Program} {md : Region.Mode} {ops : Array Oper} {Q : Exit → Act → World → Prop} {S : World → Prop} {k : Nat}

/-- The same, said in words. -/
def Cl (md : Region.Mode) (ops : Array Oper) (li : Array Bool) : Prop := ∀ j o, li.getD j false = true → ops[j]? = some o → ∀ e, e ∈ o.after → Region.binds md e = true → li.getD e.on false = true

theorem cl_of {li : Array Bool} (h : clB md ops li = true) : Cl md ops li := fun j o hj ho e he hb => by
  unfold clB at h
  rw [List.all_eq_true] at h
  have hlt : j < ops.size := (Array.getElem?_eq_some_iff.1 ho).1
  have h1 := h j (List.mem_range.2 hlt)
  rw [hj, ho] at h1
  simp only [Bool.not_true, Bool.false_or, Option.map_some, Option.getD_some] at h1
  obtain ⟨t, ht, rfl⟩ := Array.mem_iff_getElem.1 he
  have h2 := Array.all_eq_true.1 h1 t ht
  rw [hb] at h2
  simpa using h2

theorem Cl.step {li : Array Bool} (h : Cl md ops li) {j : Nat} (hj : j ∈ Region.ready md ops li) : Cl md ops (li.setIfInBounds j true) := fun i o hi ho e he hb => by
  refine getD_set_true ?_
  by_cases q : j = i
  · subst q
    obtain ⟨_, o', ho', hall⟩ := mem_ready.1 hj
    rw [ho] at ho'
    cases ho'
    exact hall e he hb
  · rw [getD_set_ne false q] at hi
    exact h i o hi ho e he hb

theorem wt_list {li : Array Bool} (h : Cl md ops li) {i : Nat} : ∀ n m o, ops[m]? = some o → (∀ e, e ∈ o.after → Region.binds md e = true → li.getD e.on false = true) → wtB md ops n m i = true → li.getD i false = true
  | 0, m, o, _, _, hw => by simp [wtB] at hw
  | n + 1, m, o, ho, hall, hw => by
    unfold wtB at hw
    rw [ho] at hw
    simp only [Option.map_some, Option.getD_some] at hw
    obtain ⟨t, ht, h1⟩ := Array.any_eq_true.1 hw
    simp only [Bool.and_eq_true, Bool.or_eq_true, beq_iff_eq] at h1
    obtain ⟨hb, h2⟩ := h1
    have hl := hall _ (Array.getElem_mem ht) hb
    rcases h2 with rfl | h2
    · exact hl
    · cases hq : ops[(o.after[t]).on]? with
      | none =>
        cases n with
        | zero => simp [wtB] at h2
        | succ n => unfold wtB at h2; rw [hq] at h2; simp at h2
      | some o2 => exact wt_list h n _ o2 hq (fun e he hb => h _ o2 hl hq e he hb) h2

theorem any_of_K : ∀ (f : Nat) (li : Array Bool) (a : Act) (w : World), wpAnyK P md ops Q S k f li a w → wpAny P md ops Q f li a w
  | 0, _, _, _, h => h
  | f + 1, li, a, w, h => ⟨h.1, fun i hi => wpOp_mono (fun b x hx => any_of_K f _ b x hx.2) (h.2 i hi)⟩

theorem takeK_go {i n : Nat} {oi : Oper} {v : Value} (hi : ops[i]? = some oi) (hsel : ∀ (j : Nat) (o : Oper) cs b, ops[j]? = some o → o.op ≠ .select cs b) (hQ : ∀ c a w, Q (.panic c) (a.put oi.dst v) w → Q (.panic c) a w) (hwt : wtB md ops n k i = true) :
    ∀ (f : Nat) (li : Array Bool) (a : Act) (w : World), (∀ j oj, ops[j]? = some oj → j ≠ i → li.getD j true = false → (∀ e ∈ oj.after, Region.binds md e = true → e.on ≠ i) → oi.apart ops oj = true) →
      Cl md ops li → i ∈ Region.ready md ops li → YieldsIf P ops S oi v a → S w → wpAnyK P md ops Q S k f (li.setIfInBounds i true) (a.put oi.dst v) w → wpAnyK P md ops Q S k (f + 1) li a w
  | f, li, a, w, hfree, hcl, hr, hy, hS, H => by
    have hun : li.getD i true = false := (mem_ready.1 hr).1
    have hun' : li.getD i false = false := by
      rcases Nat.lt_or_ge i li.size with h' | h'
      · simp [h'] at hun ⊢
        exact hun
      · simp [Array.getElem?_eq_none h']
    refine ⟨fun h0 => absurd hr (by rw [h0]; simp), fun j hj => ?_⟩
    by_cases hji : j = i
    · subst hji
      exact hy.wpOp hi hS ⟨.inr hS, H⟩
    have hj' := ready_mono hj hji
    obtain ⟨hjun, oj, hoj, hall⟩ := mem_ready.1 hj
    have hjk : j ≠ k := fun e => by
      subst e
      have := wt_list hcl n j oj hoj hall hwt
      rw [hun'] at this
      cases this
    have hno : ∀ e ∈ oj.after, Region.binds md e = true → e.on ≠ i := fun e he hb hq => by
      have := hall e he hb
      rw [hq, hun'] at this
      cases this
    cases f with
    | zero =>
      rw [H.1] at hj'
      cases hj'
    | succ f =>
      have h2 := wpOp_putIf hoj (hfree j oj hoj hji hjun hno) (fun cs b => hsel i oi cs b hi) (fun cs b => hsel j oj cs b hoj) hQ hy (H.2 j hj')
      refine wpOp_mono (fun b x hx => ?_) h2
      obtain ⟨hy2, hS2, H2⟩ := hx
      have hS3 := hS2.resolve_left hjk
      rw [Array.setIfInBounds_comm _ _ (Ne.symm hji)] at H2
      refine ⟨.inr hS3, takeK_go hi hsel hQ hwt f (li.setIfInBounds j true) b x (fun m om hm hmi hmun hmno => ?_) (hcl.step hj) (ready_mono hr (Ne.symm hji)) hy2 hS3 H2⟩
      refine hfree m om hm hmi ?_ hmno
      by_cases q : j = m
      · subst q; exact hjun
      · rw [getD_set_ne true q] at hmun; exact hmun

/-- One operation that yields in every world of the condition is taken first. -/
theorem takeK {i : Nat} {v : Value} {f : Nat} {li : Array Bool} {a a' : Act} {w : World} (oi : Oper) (hi : ops[i]? = some oi) (hcl : clB md ops li = true) (hwt : wtB md ops ops.size k i = true)
    (hs : Region.noSelect ops = true) (hf : Region.free md ops li i = true) (hr : (Region.ready md ops li).contains i = true)
    (hQ : ∀ c a w, Q (.panic c) (a.put oi.dst v) w → Q (.panic c) a w) (hw : Region.wanted oi (yielded ops a.tmps) = true) (hy : ∀ w, S w → (execOp a.eval oi).run P w = .ok (.value v) w) (hS : S w) (ha : a.put oi.dst v = a')
    (h : wpAnyK P md ops Q S k f (li.setIfInBounds i true) a' w) : wpAnyK P md ops Q S k (f + 1) li a w := by
  subst ha
  exact takeK_go hi (Region.noSelect_spec hs) hQ hwt f li a w (Region.free_spec hi hf) (cl_of hcl) (by simpa using hr) (.inl ⟨hw, hy⟩) hS h

theorem readyK {rs : List Nat} {f : Nat} {li : Array Bool} {a : Act} {w : World} (hr : Region.ready md ops li = rs) (hne : rs ≠ [])
    (h : ∀ i, i ∈ rs → wpOp P ops Q i (fun b x => (i = k ∨ S x) ∧ wpAnyK P md ops Q S k f (li.setIfInBounds i true) b x) a w) : wpAnyK P md ops Q S k (f + 1) li a w :=
  ⟨fun h0 => absurd (hr ▸ h0) hne, hr ▸ h⟩

theorem doneK {li : Array Bool} {a : Act} {w : World} (hr : Region.ready md ops li = []) (h : Q .normal a w) : ∀ f, wpAnyK P md ops Q S k f li a w
  | 0 => ⟨hr, h⟩
  | _ + 1 => ⟨fun _ => h, by rw [hr]; simp⟩

theorem beginK {id : Nat} {a : Act} {w : World} (hm : P.follows .mixedOrders = true) (hS : S w.drew) (h : S w.drew → wpAnyK P .any ops Q S k ops.size (Array.replicate ops.size false) a w.drew) : (Code.region id ops true).wp P Q a w :=
  wp_region_any hm (any_of_K _ _ _ _ (h hS))

/-- One that comes up, the way on kept shut. -/
theorem oneK {f : Nat} {li : Array Bool} {a : Act} {w : World} {i : Nat} {o : Oper} (ho : ops[i]? = some o)
    (h : ∀ K : Act → World → Prop, Shut (∀ b x, (i = k ∨ S x) → (wpAnyK P md ops Q S k f (li.setIfInBounds i true) b x) → K b x) → if Region.wanted o (yielded ops a.tmps) = true then Oper.wp P o a w K Q else K (a.put o.dst undef) w) :
    wpOp P ops Q i (fun b x => (i = k ∨ S x) ∧ wpAnyK P md ops Q S k f (li.setIfInBounds i true) b x) a w :=
  wpOp_step ho (fun K hK => h K (fun b x h1 h2 => hK b x ⟨h1, h2⟩))
end

end Go.Proofs.YtdlggnibgnflnaaDoor
