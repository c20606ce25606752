/- Turns: what stands round each vertex; an edge laid, an edge lifted: plain mathematics. -/
import Derived.Test.YtieglcjfphmglaaDoorTurn10
namespace Go.Proofs.YtieglcjfphmglaaDoor
set_option linter.unusedVariables false

def upd (R : Nat → List Nat) (v : Nat) (l : List Nat) : Nat → List Nat := fun u => if u = v then l else R u
theorem upd_same {R : Nat → List Nat} {v : Nat} {l : List Nat} : upd R v l v = l := by simp [upd]
theorem upd_ne {R : Nat → List Nat} {v u : Nat} {l : List Nat} (h : u ≠ v) : upd R v l u = R u := by simp [upd, h]

/-- What stands where: V vertices, E edges; each dart once. -/
structure Tn (V E : Nat) (R : Nat → List Nat) : Prop where
  nd : ∀ v, v < V → (R v).Nodup
  one : ∀ u v d, u < V → v < V → d ∈ R u → d ∈ R v → u = v
  low : ∀ v d, v < V → d ∈ R v → d < 2 * E

/-- It stands somewhere. -/
def In (V : Nat) (R : Nat → List Nat) (d : Nat) : Prop := ∃ v, v < V ∧ d ∈ R v

/-- Both darts of an edge stand, or none. -/
def Tw (V E : Nat) (R : Nat → List Nat) : Prop := ∀ e, e < E → (In V R (2 * e) ↔ In V R (2 * e + 1))

theorem Tn.new (V E : Nat) : Tn V E (fun _ => []) := ⟨fun v _ => by simp, fun u v d _ _ h => by simp at h, fun v d _ h => by simp at h⟩
theorem Tw.new (V E : Nat) : Tw V E (fun _ => []) := fun e _ => by simp [In]

/-- d put behind b, or, where that is none, at the end. -/
def pt (l : List Nat) (b : Option Nat) (d : Nat) : List Nat := match b with
  | none => l ++ [d]
  | some b => ins l b d

/-- There is such a corner of the list. -/
def Cr (l : List Nat) (b : Option Nat) : Prop := match b with
  | none => l = []
  | some b => b ∈ l

theorem pt_mem {l : List Nat} {b : Option Nat} {d x : Nat} (h : ∀ y, b = some y → y ∈ l) : x ∈ pt l b d ↔ x = d ∨ x ∈ l := by
  cases b with
  | none => simp [pt]; exact Or.comm
  | some b => exact ins_mem (h b rfl)

theorem pt_nd {l : List Nat} {b : Option Nat} {d : Nat} (hn : l.Nodup) (h : ∀ y, b = some y → y ∈ l) (hd : d ∉ l) : (pt l b d).Nodup := by
  cases b with
  | none =>
    refine List.nodup_append.2 ⟨hn, by simp, fun a ha c hc e => ?_⟩
    simp at hc
    subst hc
    subst e
    exact hd ha
  | some b => exact ins_nd hn (h b rfl) hd

theorem pt_len {l : List Nat} {b : Option Nat} {d : Nat} (h : ∀ y, b = some y → y ∈ l) : (pt l b d).length = l.length + 1 := by
  cases b with
  | none => simp [pt]
  | some b => exact ins_len (h b rfl)

theorem pt_del {l : List Nat} {b : Option Nat} {d : Nat} (h : ∀ y, b = some y → y ∈ l) (hd : d ∉ l) : (pt l b d).erase d = l := by
  cases b with
  | none =>
    show (l ++ [d]).erase d = l
    rw [del_split hd, List.append_nil]
  | some b => exact ins_del (h b rfl) hd

/-- One dart put. -/
def putR (R : Nat → List Nat) (v : Nat) (b : Option Nat) (d : Nat) : Nat → List Nat := upd R v (pt (R v) b d)

theorem Tn.put {V E : Nat} {R : Nat → List Nat} (h : Tn V E R) {v d : Nat} {b : Option Nat} (hv : v < V) (hb : ∀ y, b = some y → y ∈ R v) (hd : ¬ In V R d) (hl : d < 2 * E) : Tn V E (putR R v b d) := by
  have hm : ∀ u x, u < V → x ∈ putR R v b d u → (u = v ∧ x = d) ∨ x ∈ R u := fun u x hu hx => by
    unfold putR at hx
    by_cases e : u = v
    · subst e
      rw [upd_same, pt_mem hb] at hx
      rcases hx with hx | hx
      · exact .inl ⟨rfl, hx⟩
      · exact .inr hx
    · rw [upd_ne e] at hx
      exact .inr hx
  refine ⟨fun u hu => ?_, fun u u' x hu hu' h1 h2 => ?_, fun u x hu hx => ?_⟩
  · unfold putR
    by_cases e : u = v
    · subst e; rw [upd_same]; exact pt_nd (h.nd u hu) hb (fun hm => hd ⟨u, hu, hm⟩)
    · rw [upd_ne e]; exact h.nd u hu
  · rcases hm u x hu h1 with ⟨e1, e2⟩ | q1
    · rcases hm u' x hu' h2 with ⟨e3, _⟩ | q2
      · rw [e1, e3]
      · exact absurd ⟨u', hu', e2 ▸ q2⟩ hd
    · rcases hm u' x hu' h2 with ⟨_, e4⟩ | q2
      · exact absurd ⟨u, hu, e4 ▸ q1⟩ hd
      · exact h.one u u' x hu hu' q1 q2
  · rcases hm u x hu hx with ⟨_, rfl⟩ | hx
    · exact hl
    · exact h.low u x hu hx

theorem In.put {V : Nat} {R : Nat → List Nat} {v d x : Nat} {b : Option Nat} (hv : v < V) (hb : ∀ y, b = some y → y ∈ R v) : In V (putR R v b d) x ↔ x = d ∨ In V R x := by
  constructor
  · rintro ⟨u, hu, hx⟩
    unfold putR at hx
    by_cases e : u = v
    · subst e
      rw [upd_same, pt_mem hb] at hx
      rcases hx with hx | hx
      · exact .inl hx
      · exact .inr ⟨u, hu, hx⟩
    · rw [upd_ne e] at hx
      exact .inr ⟨u, hu, hx⟩
  · rintro (rfl | ⟨u, hu, hx⟩)
    · exact ⟨v, hv, by unfold putR; rw [upd_same, pt_mem hb]; exact .inl rfl⟩
    · refine ⟨u, hu, ?_⟩
      unfold putR
      by_cases e : u = v
      · subst e; rw [upd_same, pt_mem hb]; exact .inr hx
      · rw [upd_ne e]; exact hx

/-- One dart taken out, wherever it stands. -/
def outR (R : Nat → List Nat) (d : Nat) : Nat → List Nat := fun u => (R u).erase d

theorem Tn.out {V E : Nat} {R : Nat → List Nat} (h : Tn V E R) (d : Nat) : Tn V E (outR R d) :=
  ⟨fun v hv => (h.nd v hv).erase d, fun u v x hu hv h1 h2 => h.one u v x hu hv (List.mem_of_mem_erase h1) (List.mem_of_mem_erase h2), fun v x hv hx => h.low v x hv (List.mem_of_mem_erase hx)⟩

theorem In.out {V E : Nat} {R : Nat → List Nat} (h : Tn V E R) {d x : Nat} : In V (outR R d) x ↔ In V R x ∧ x ≠ d := by
  constructor
  · rintro ⟨u, hu, hx⟩
    have := (del_mem (h.nd u hu)).1 hx
    exact ⟨⟨u, hu, this.1⟩, this.2⟩
  · rintro ⟨⟨u, hu, hx⟩, hne⟩
    exact ⟨u, hu, (del_mem (h.nd u hu)).2 ⟨hx, hne⟩⟩

/-- A dart put, and taken out. -/
theorem put_out {V : Nat} {R : Nat → List Nat} {v d : Nat} {b : Option Nat} (hb : ∀ y, b = some y → y ∈ R v) (hd : ¬ In V R d) (hv : v < V) : ∀ u, u < V → outR (putR R v b d) d u = R u := fun u hu => by
  unfold outR putR
  by_cases e : u = v
  · subst e; rw [upd_same, pt_del hb (fun hm => hd ⟨u, hu, hm⟩)]
  · rw [upd_ne e, List.erase_of_not_mem (fun hm => hd ⟨u, hu, hm⟩)]

theorem out_out (R : Nat → List Nat) (d d' : Nat) : outR (outR R d) d' = outR (outR R d') d := by
  funext u
  unfold outR
  exact List.erase_comm _ _

/-- An edge laid: its first dart, then its second one. -/
def layR (R : Nat → List Nat) (e u v : Nat) (a b : Option Nat) : Nat → List Nat := putR (putR R u a (2 * e)) v b (2 * e + 1)
def liftR (R : Nat → List Nat) (e : Nat) : Nat → List Nat := outR (outR R (2 * e)) (2 * e + 1)

section
variable {V E : Nat} {R : Nat → List Nat} {e u v : Nat} {a b : Option Nat}

theorem lay_b (hb : ∀ y, b = some y → y ∈ R v) (ha : ∀ y, a = some y → y ∈ R u) : ∀ y, b = some y → y ∈ putR R u a (2 * e) v := fun y hy => by
  unfold putR
  by_cases h : v = u
  · subst h; rw [upd_same, pt_mem ha]; exact .inr (hb y hy)
  · rw [upd_ne h]; exact hb y hy

theorem Tn.lay (h : Tn V E R) (t : Tw V E R) (he : e < E) (hu : u < V) (hv : v < V) (ha : ∀ y, a = some y → y ∈ R u) (hb : ∀ y, b = some y → y ∈ R v) (hn : ¬ In V R (2 * e)) : Tn V E (layR R e u v a b) ∧ Tw V E (layR R e u v a b) ∧ (∀ x, In V (layR R e u v a b) x ↔ x = 2 * e + 1 ∨ x = 2 * e ∨ In V R x) := by
  have hn2 : ¬ In V R (2 * e + 1) := fun hm => hn ((t e he).2 hm)
  have h1 := h.put hu ha hn (by omega)
  have hi := fun x => In.put (V := V) (R := R) (d := 2 * e) (x := x) hu ha
  have hb2 := lay_b (e := e) hb ha
  have hn3 : ¬ In V (putR R u a (2 * e)) (2 * e + 1) := fun hm => by
    rcases (hi _).1 hm with q | q
    · omega
    · exact hn2 q
  have hall : ∀ x, In V (layR R e u v a b) x ↔ x = 2 * e + 1 ∨ x = 2 * e ∨ In V R x := fun x => by
    unfold layR
    rw [In.put hv hb2, hi]
  refine ⟨h1.put hv hb2 hn3 (by omega), fun k hk => ?_, hall⟩
  rw [hall, hall]
  have := t k hk
  constructor
  · rintro (q | q | q)
    · omega
    · exact .inl (by omega)
    · exact .inr (.inr (this.1 q))
  · rintro (q | q | q)
    · exact .inr (.inl (by omega))
    · omega
    · exact .inr (.inr (this.2 q))

theorem Tn.lift (h : Tn V E R) (t : Tw V E R) : Tn V E (liftR R e) ∧ Tw V E (liftR R e) ∧ (∀ x, In V (liftR R e) x ↔ In V R x ∧ x ≠ 2 * e ∧ x ≠ 2 * e + 1) := by
  have hall : ∀ x, In V (liftR R e) x ↔ In V R x ∧ x ≠ 2 * e ∧ x ≠ 2 * e + 1 := fun x => by
    unfold liftR
    rw [In.out (h.out _), In.out h]
    exact and_assoc
  refine ⟨(h.out _).out _, fun k hk => ?_, hall⟩
  rw [hall, hall, t k hk]
  constructor
  · rintro ⟨q1, q2, q3⟩; exact ⟨q1, by omega, by omega⟩
  · rintro ⟨q1, q2, q3⟩; exact ⟨q1, by omega, by omega⟩

/-- TR4: laid, and lifted. -/
theorem lay_lift (h : Tn V E R) (t : Tw V E R) (he : e < E) (hu : u < V) (hv : v < V) (ha : ∀ y, a = some y → y ∈ R u) (hb : ∀ y, b = some y → y ∈ R v) (hn : ¬ In V R (2 * e)) : ∀ x, x < V → liftR (layR R e u v a b) e x = R x := fun x hx => by
  have hn2 : ¬ In V R (2 * e + 1) := fun hm => hn ((t e he).2 hm)
  have hb2 := lay_b (e := e) hb ha
  have hn3 : ¬ In V (putR R u a (2 * e)) (2 * e + 1) := fun hm => by
    rcases (In.put hu ha).1 hm with q | q
    · omega
    · exact hn2 q
  unfold liftR
  rw [out_out]
  show (outR (layR R e u v a b) (2 * e + 1) x).erase (2 * e) = R x
  unfold layR
  rw [put_out hb2 hn3 hv x hx]
  exact put_out ha hn hu x hx
end

/-- How many darts stand, all together. -/
def sumL (R : Nat → List Nat) : Nat → Nat
  | 0 => 0
  | n + 1 => sumL R n + (R n).length

theorem sumL_congr {R R' : Nat → List Nat} : ∀ {n : Nat}, (∀ v, v < n → (R v).length = (R' v).length) → sumL R n = sumL R' n
  | 0, _ => rfl
  | n + 1, h => by unfold sumL; rw [sumL_congr (fun v hv => h v (by omega)), h n (by omega)]

theorem sumL_upd {R : Nat → List Nat} {v : Nat} {l : List Nat} : ∀ {n : Nat}, v < n → sumL (upd R v l) n + (R v).length = sumL R n + l.length
  | 0, h => by omega
  | n + 1, h => by
    unfold sumL
    by_cases e : v = n
    · subst e
      rw [upd_same, sumL_congr (R := upd R v l) (R' := R) (fun u hu => by rw [upd_ne (by omega)])]
      omega
    · have := sumL_upd (R := R) (l := l) (n := n) (v := v) (by omega)
      rw [upd_ne (show n ≠ v from fun h => e h.symm)]
      omega

theorem sumL_put {V : Nat} {R : Nat → List Nat} {v d : Nat} {b : Option Nat} (hv : v < V) (hb : ∀ y, b = some y → y ∈ R v) : sumL (putR R v b d) V = sumL R V + 1 := by
  have := sumL_upd (R := R) (l := pt (R v) b d) hv
  rw [pt_len hb] at this
  unfold putR
  omega

theorem sumL_out {V E : Nat} {R : Nat → List Nat} (h : Tn V E R) {d : Nat} (hd : In V R d) : sumL (outR R d) V + 1 = sumL R V := by
  obtain ⟨v, hv, hm⟩ := hd
  have e : sumL (outR R d) V = sumL (upd R v ((R v).erase d)) V := sumL_congr (fun u hu => by
    unfold outR
    by_cases e : u = v
    · subst e; rw [upd_same]
    · rw [upd_ne e, List.erase_of_not_mem (fun hm' => e (h.one u v d hu hv hm' hm))])
  have h1 := sumL_upd (R := R) (l := (R v).erase d) hv
  have h2 := List.length_erase_of_mem hm
  have h3 := List.length_pos_of_mem hm
  rw [e]
  omega

end Go.Proofs.YtieglcjfphmglaaDoor
