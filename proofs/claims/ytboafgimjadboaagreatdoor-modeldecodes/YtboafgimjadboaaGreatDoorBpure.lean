/- What stands round a place, as a list that goes round: plain mathematics. A dart put behind another one, or taken out; the least one first: plain mathematics. Turns: what stands round each vertex; an edge laid, an edge lifted: plain mathematics. Orders that turn round, as lists and numbers alone. What stands round a face: plain mathematics. An edge laid: one face more, or one less. Plain mathematics. Labels and their joins (texts of stages 7 and 9 in a space of their own). Groups as trees, and what they tell: plain mathematics. An edge lifted: one face more, or one less. Plain mathematics. Components, and Euler's number: plain mathematics. Flat, component by component: plain mathematics. -/

namespace Go.Proofs.YtboafgimjadboaaGreatDoor
set_option linter.unusedVariables false

/-- The list from x on, and round. -/
def rot (l : List Nat) (x : Nat) : List Nat := l.dropWhile (fun y => y != x) ++ l.takeWhile (fun y => y != x)

theorem until_split {A B : List Nat} {x : Nat} (h : x ∉ A) : (A ++ x :: B).takeWhile (fun y => y != x) = A ∧ (A ++ x :: B).dropWhile (fun y => y != x) = x :: B := by
  have hp : ∀ a ∈ A, (fun y => y != x) a = true := fun a ha => by simp; exact fun e => h (e ▸ ha)
  rw [List.takeWhile_append_of_pos hp, List.dropWhile_append_of_pos hp]
  simp

theorem rot_split {A B : List Nat} {x : Nat} (h : x ∉ A) : rot (A ++ x :: B) x = x :: (B ++ A) := by
  unfold rot
  rw [(until_split h).1, (until_split h).2]
  rfl

theorem rot_mem {l : List Nat} {x y : Nat} : y ∈ rot l x ↔ y ∈ l := by
  unfold rot
  rw [List.mem_append, or_comm, ← List.mem_append, List.takeWhile_append_dropWhile]

theorem rot_nd {l : List Nat} {x : Nat} (h : l.Nodup) : (rot l x).Nodup := by
  have hp : (rot l x).Perm l := by
    unfold rot
    refine List.perm_append_comm.trans ?_
    rw [List.takeWhile_append_dropWhile]
  exact hp.nodup_iff.2 h

theorem nd_split {A B : List Nat} {x : Nat} (h : (A ++ x :: B).Nodup) : x ∉ A ∧ x ∉ B := by
  rw [List.nodup_append, List.nodup_cons] at h
  exact ⟨fun hm => h.2.2 x hm x List.mem_cons_self rfl, h.2.1.1⟩

/-- Where it begins is all one. -/
theorem rot_comm {A B : List Nat} {x : Nat} (h : (A ++ B).Nodup) (hx : x ∈ A ++ B) : rot (A ++ B) x = rot (B ++ A) x := by
  rcases List.mem_append.1 hx with hx | hx
  · obtain ⟨P, Q, rfl⟩ := List.append_of_mem hx
    have hp : x ∉ P := by
      rw [List.append_assoc, List.cons_append] at h
      exact (nd_split h).1
    have hb : x ∉ B := by
      rw [List.nodup_append] at h
      exact fun hm => h.2.2 x (by simp) x hm rfl
    rw [List.append_assoc, List.cons_append, rot_split hp, ← List.append_assoc, rot_split (fun hm => by rcases List.mem_append.1 hm with hm | hm <;> contradiction)]
    simp
  · obtain ⟨P, Q, rfl⟩ := List.append_of_mem hx
    have hp : x ∉ P := by
      rw [← List.append_assoc] at h
      exact fun hm => (nd_split h).1 (List.mem_append_right _ hm)
    have ha : x ∉ A := by
      rw [List.nodup_append] at h
      exact fun hm => h.2.2 x hm x (by simp) rfl
    rw [← List.append_assoc, rot_split (fun hm => by rcases List.mem_append.1 hm with hm | hm <;> contradiction), List.append_assoc, List.cons_append, rot_split hp]
    simp

theorem rot_as {l : List Nat} {x : Nat} (hx : x ∈ l) : ∃ A B, l = A ++ x :: B ∧ x ∉ A ∧ rot l x = x :: (B ++ A) := by
  obtain ⟨A, B, rfl, hA⟩ := List.eq_append_cons_of_mem hx
  exact ⟨A, B, rfl, hA, rot_split hA⟩

theorem rot_rot {l : List Nat} {x y : Nat} (hn : l.Nodup) (hx : x ∈ l) (hy : y ∈ l) : rot (rot l x) y = rot l y := by
  obtain ⟨A, B, rfl, hA, e⟩ := rot_as hx
  have h := rot_comm (A := A) (B := x :: B) hn hy
  rw [e, h]
  rfl

/-- The one behind, and the one ahead. -/
def nx (l : List Nat) (x : Nat) : Nat := ((rot l x)[1]?).getD x
def pv (l : List Nat) (x : Nat) : Nat := (rot l x).getLastD x

theorem nx_rot {l : List Nat} {x y : Nat} (hn : l.Nodup) (hx : x ∈ l) (hy : y ∈ l) : nx (rot l y) x = nx l x := by unfold nx; rw [rot_rot hn hy hx]
theorem pv_rot {l : List Nat} {x y : Nat} (hn : l.Nodup) (hx : x ∈ l) (hy : y ∈ l) : pv (rot l y) x = pv l x := by unfold pv; rw [rot_rot hn hy hx]
theorem nx_comm {A B : List Nat} {x : Nat} (h : (A ++ B).Nodup) (hx : x ∈ A ++ B) : nx (A ++ B) x = nx (B ++ A) x := by unfold nx; rw [rot_comm h hx]
theorem nx_split {A B : List Nat} {x : Nat} (h : x ∉ A) : nx (A ++ x :: B) x = ((B ++ A).head?).getD x := by
  unfold nx
  rw [rot_split h]
  cases B ++ A <;> rfl
theorem pv_split {A B : List Nat} {x : Nat} (h : x ∉ A) : pv (A ++ x :: B) x = (B ++ A).getLastD x := by
  unfold pv
  rw [rot_split h]
  cases B ++ A <;> rfl
theorem nx_first (x : Nat) (T : List Nat) : nx (x :: T) x = T.head?.getD x := by
  have := nx_split (A := []) (B := T) (x := x) (by simp)
  simpa using this
theorem pv_first (x : Nat) (T : List Nat) : pv (x :: T) x = T.getLastD x := by
  have := pv_split (A := []) (B := T) (x := x) (by simp)
  simpa using this

theorem nx_mem {l : List Nat} {x : Nat} (hx : x ∈ l) : nx l x ∈ l := by
  obtain ⟨A, B, rfl, hA, e⟩ := rot_as hx
  rw [nx_split hA]
  cases hh : (B ++ A).head? with
  | none => simp
  | some y =>
    have := List.mem_of_head? hh
    simp only [Option.getD_some]
    rcases List.mem_append.1 this with h | h
    · exact List.mem_append_right _ (List.mem_cons_of_mem _ h)
    · exact List.mem_append_left _ h

/-- By places. -/
theorem nx_at {l : List Nat} {x i : Nat} (hn : l.Nodup) (hi : l[i]? = some x) : l[(i + 1) % l.length]? = some (nx l x) := by
  obtain ⟨hlt, hx⟩ := List.getElem?_eq_some_iff.1 hi
  have e : l = l.take i ++ x :: l.drop (i + 1) := by
    rw [← hx, ← List.drop_eq_getElem_cons hlt, List.take_append_drop]
  have hA : x ∉ l.take i := by rw [e] at hn; exact (nd_split hn).1
  have h1 : nx l x = ((l.drop (i + 1) ++ l.take i).head?).getD x := by
    conv => lhs; rw [e]
    exact nx_split hA
  rw [h1]
  by_cases hl : i + 1 < l.length
  · rw [Nat.mod_eq_of_lt hl, List.head?_append, List.head?_drop, List.getElem?_eq_getElem hl]
    simp
  · have : i + 1 = l.length := by omega
    rw [this, Nat.mod_self, List.drop_eq_nil_of_le (by omega), List.nil_append]
    by_cases h0 : i = 0
    · subst h0; simp [hi]
    · rw [List.head?_take, if_neg h0, List.head?_eq_getElem?, List.getElem?_eq_getElem (by omega)]
      simp

theorem pv_nx {l : List Nat} {x : Nat} (hn : l.Nodup) (hx : x ∈ l) : pv l (nx l x) = x := by
  have hm := nx_mem hx
  have hr := rot_nd (x := x) hn
  rw [← pv_rot hn hm hx, ← nx_rot hn hx hx]
  obtain ⟨A, B, rfl, hA, e⟩ := rot_as hx
  rw [e] at hr ⊢
  rw [nx_first]
  generalize B ++ A = T at hr ⊢
  cases T with
  | nil => simp [pv_first]
  | cons y T =>
    simp only [List.head?_cons, Option.getD_some]
    have hy : y ∉ [x] := by
      rw [List.nodup_cons] at hr
      intro h; simp at h; subst h; exact hr.1 List.mem_cons_self
    have := pv_split (A := [x]) (B := T) (x := y) hy
    rw [List.singleton_append] at this
    rw [this]
    simp

theorem nx_inj {l : List Nat} {x y : Nat} (hn : l.Nodup) (hx : x ∈ l) (hy : y ∈ l) (h : nx l x = nx l y) : x = y := by
  rw [← pv_nx hn hx, h, pv_nx hn hy]

end Go.Proofs.YtboafgimjadboaaGreatDoor

namespace Go.Proofs.YtboafgimjadboaaGreatDoor
set_option linter.unusedVariables false

/-- d put behind b. -/
def ins (l : List Nat) (b d : Nat) : List Nat := l.takeWhile (fun y => y != b) ++ b :: d :: (l.dropWhile (fun y => y != b)).tail

theorem ins_split {A B : List Nat} {b d : Nat} (h : b ∉ A) : ins (A ++ b :: B) b d = A ++ b :: d :: B := by
  unfold ins
  rw [(until_split h).1, (until_split h).2]
  rfl

theorem ins_mem {l : List Nat} {b d x : Nat} (hb : b ∈ l) : x ∈ ins l b d ↔ x = d ∨ x ∈ l := by
  obtain ⟨A, B, rfl, hA, _⟩ := rot_as hb
  rw [ins_split hA]
  simp only [List.mem_append, List.mem_cons]
  constructor
  · rintro (h | h | h | h)
    · exact .inr (.inl h)
    · exact .inr (.inr (.inl h))
    · exact .inl h
    · exact .inr (.inr (.inr h))
  · rintro (h | h | h | h)
    · exact .inr (.inr (.inl h))
    · exact .inl h
    · exact .inr (.inl h)
    · exact .inr (.inr (.inr h))

theorem ins_len {l : List Nat} {b d : Nat} (hb : b ∈ l) : (ins l b d).length = l.length + 1 := by
  obtain ⟨A, B, rfl, hA, _⟩ := rot_as hb
  rw [ins_split hA]
  simp
  omega

theorem ins_nd {l : List Nat} {b d : Nat} (hn : l.Nodup) (hb : b ∈ l) (hd : d ∉ l) : (ins l b d).Nodup := by
  obtain ⟨A, B, rfl, hA, _⟩ := rot_as hb
  rw [ins_split hA]
  have hp : (A ++ b :: d :: B).Perm (d :: (A ++ b :: B)) := by
    refine List.Perm.trans (l₂ := A ++ d :: b :: B) ?_ List.perm_middle
    exact List.Perm.append_left A (List.Perm.swap _ _ _)
  exact hp.nodup_iff.2 (List.nodup_cons.2 ⟨hd, hn⟩)

/-- Round from b on. -/
theorem ins_rot {l : List Nat} {b d : Nat} {T : List Nat} (hn : l.Nodup) (hb : b ∈ l) (hd : d ∉ l) (e : rot l b = b :: T) : rot (ins l b d) b = b :: d :: T := by
  obtain ⟨A, B, rfl, hA, e'⟩ := rot_as hb
  rw [e'] at e
  injection e with _ e
  rw [ins_split hA, rot_split hA, ← e]
  rfl

theorem nx_ins {l : List Nat} {b d x : Nat} (hn : l.Nodup) (hb : b ∈ l) (hd : d ∉ l) (hx : x = d ∨ x ∈ l) : nx (ins l b d) x = if x = b then d else if x = d then nx l b else nx l x := by
  have hni := ins_nd hn hb hd
  have hbi := (ins_mem (d := d) hb).2 (.inr hb)
  have hxi := (ins_mem (d := d) hb).2 hx
  obtain ⟨A, B, _, _, e⟩ := rot_as hb
  have e2 := ins_rot hn hb hd e
  rw [← nx_rot hni hxi hbi, e2]
  have hnr := rot_nd (x := b) hni
  rw [e2] at hnr
  generalize hT : B ++ A = T at e e2 hnr
  by_cases h1 : x = b
  · subst h1; rw [if_pos rfl, nx_first]; rfl
  · rw [if_neg h1]
    by_cases h2 : x = d
    · subst h2
      rw [if_pos rfl]
      have := nx_split (A := [b]) (B := T) (x := x) (by simpa using h1)
      rw [List.singleton_append] at this
      rw [this, ← nx_rot hn hb hb, e, nx_first]
      cases T <;> simp
    · rw [if_neg h2]
      have hxl : x ∈ l := hx.resolve_left h2
      rw [← nx_rot hn hxl hb, e]
      have hxT : x ∈ T := by
        have := rot_mem (x := b).2 hxl
        rw [e] at this
        exact (List.mem_cons.1 this).resolve_left h1
      obtain ⟨P, Q, rfl⟩ := List.append_of_mem hxT
      have hxP : x ∉ b :: d :: P := by
        have : (b :: d :: (P ++ x :: Q)) = (b :: d :: P) ++ x :: Q := by simp
        rw [this] at hnr
        exact (nd_split hnr).1
      have hxP2 : x ∉ b :: P := fun hm => by
        rcases List.mem_cons.1 hm with h | h
        · exact h1 h
        · exact hxP (List.mem_cons_of_mem _ (List.mem_cons_of_mem _ h))
      have q1 := nx_split (B := Q) hxP
      have q2 := nx_split (B := Q) hxP2
      simp only [List.cons_append] at q1 q2
      rw [q1, q2]
      cases Q <;> rfl

theorem pv_ins {l : List Nat} {b d x : Nat} (hn : l.Nodup) (hb : b ∈ l) (hd : d ∉ l) (hx : x = d ∨ x ∈ l) : pv (ins l b d) x = if x = d then b else if x = nx l b then d else pv l x := by
  have hni := ins_nd hn hb hd
  have hmi := fun y => ins_mem (l := l) (b := b) (d := d) (x := y) hb
  have hdb : d ≠ b := fun e => hd (e ▸ hb)
  by_cases h1 : x = d
  · subst h1
    rw [if_pos rfl]
    have := nx_ins hn hb hd (.inr hb)
    rw [if_pos rfl] at this
    have h := pv_nx hni ((hmi b).2 (.inr hb))
    rw [this] at h
    exact h
  · rw [if_neg h1]
    have hxl := hx.resolve_left h1
    by_cases h2 : x = nx l b
    · rw [if_pos h2]
      have := nx_ins hn hb hd (x := d) (.inl rfl)
      rw [if_neg hdb, if_pos rfl] at this
      have h := pv_nx hni ((hmi d).2 (.inl rfl))
      rw [this] at h
      rw [h2]
      exact h
    · rw [if_neg h2]
      -- x is behind the one ahead of it, also now
      have hp : ∃ y, y ∈ l ∧ nx l y = x := by
        obtain ⟨i, hi⟩ := List.getElem?_of_mem hxl
        obtain ⟨hlt, hxe⟩ := List.getElem?_eq_some_iff.1 hi
        have hk : (i + l.length - 1) % l.length < l.length := Nat.mod_lt _ (by omega)
        have hy : l[(i + l.length - 1) % l.length]? = some l[(i + l.length - 1) % l.length] := List.getElem?_eq_getElem hk
        refine ⟨_, List.mem_of_getElem? hy, ?_⟩
        have := nx_at hn hy
        rw [Nat.mod_add_mod, show i + l.length - 1 + 1 = i + l.length from by omega, Nat.add_mod_right, Nat.mod_eq_of_lt hlt, hi] at this
        exact (Option.some.inj this).symm
      obtain ⟨y, hy, rfl⟩ := hp
      have hyb : y ≠ b := fun e => h2 (by rw [e])
      have hyd : y ≠ d := fun e => hd (e ▸ hy)
      have := nx_ins hn hb hd (x := y) (.inr hy)
      rw [if_neg hyb, if_neg hyd] at this
      have h := pv_nx hni ((hmi y).2 (.inr hy))
      rw [this] at h
      rw [h, pv_nx hn hy]

/-- One taken out. -/
theorem del_split {A B : List Nat} {d : Nat} (h : d ∉ A) : (A ++ d :: B).erase d = A ++ B := by
  rw [List.erase_append_right _ h, List.erase_cons_head]

theorem del_mem {l : List Nat} {d x : Nat} (hn : l.Nodup) : x ∈ l.erase d ↔ x ∈ l ∧ x ≠ d := by
  rw [hn.mem_erase_iff]
  exact And.comm

theorem nx_del {l : List Nat} {d x : Nat} (hn : l.Nodup) (hd : d ∈ l) (hx : x ∈ l) (hne : x ≠ d) : nx (l.erase d) x = if nx l x = d then nx l d else nx l x := by
  obtain ⟨A, B, rfl, hA, e⟩ := rot_as hd
  rw [del_split hA]
  have hnr := rot_nd (x := d) hn
  rw [e] at hnr
  have hAB : (A ++ B).Nodup := by
    have : (A ++ d :: B).Perm (d :: (A ++ B)) := List.perm_middle
    exact (List.nodup_cons.1 (this.nodup_iff.1 hn)).2
  have hxAB : x ∈ A ++ B := by
    rcases List.mem_append.1 hx with h | h
    · exact List.mem_append_left _ h
    · exact List.mem_append_right _ ((List.mem_cons.1 h).resolve_left hne)
  rw [nx_comm hAB hxAB, ← nx_rot hn hx hd, ← nx_rot hn hd hd, e, nx_first]
  have hxT : x ∈ B ++ A := by
    rcases List.mem_append.1 hxAB with h | h
    · exact List.mem_append_right _ h
    · exact List.mem_append_left _ h
  generalize B ++ A = T at hnr hxT ⊢
  obtain ⟨P, Q, rfl⟩ := List.append_of_mem hxT
  have hxP : x ∉ P := (nd_split (List.nodup_cons.1 hnr).2).1
  have hxP2 : x ∉ d :: P := fun hm => by
    rcases List.mem_cons.1 hm with h | h
    · exact hne h
    · exact hxP h
  have q1 := nx_split (B := Q) hxP
  have q2 := nx_split (B := Q) hxP2
  simp only [List.cons_append] at q2
  rw [q1, q2]
  have hdT := (List.nodup_cons.1 hnr).1
  cases Q with
  | nil =>
    simp only [List.nil_append, List.head?_cons, Option.getD_some, if_true]
    cases P <;> simp
  | cons y Q =>
    have hyd : y ≠ d := fun e => hdT (by rw [← e]; simp)
    simp [hyd]

/-- The least of a list. -/
def least0 : List Nat → Nat
  | [] => 0
  | [x] => x
  | x :: y :: l => min x (least0 (y :: l))

/-- The least one first. -/
def lf (l : List Nat) : List Nat := rot l (least0 l)

/-- So many steps on. -/
def itn (f : Nat → Nat) : Nat → Nat → Nat
  | 0, x => x
  | k + 1, x => f (itn f k x)

end Go.Proofs.YtboafgimjadboaaGreatDoor

namespace Go.Proofs.YtboafgimjadboaaGreatDoor
set_option linter.unusedVariables false

def upd (R : Nat → List Nat) (v : Nat) (l : List Nat) : Nat → List Nat := fun u => if u = v then l else R u
theorem upd_same {R : Nat → List Nat} {v : Nat} {l : List Nat} : upd R v l v = l := by simp [upd]
theorem upd_ne {R : Nat → List Nat} {v u : Nat} {l : List Nat} (h : u ≠ v) : upd R v l u = R u := by simp [upd, h]

/-- What stands where: V vertices, E edges; each dart once. -/
structure Tn (V E : Nat) (R : Nat → List Nat) : Prop where
  nd : ∀ v, v < V → (R v).Nodup
  one : ∀ u v d, u < V → v < V → d ∈ R u → d ∈ R v → u = v
  low : ∀ v d, v < V → d ∈ R v → d < 2 * E

/-- It stands somewhere. -/
def In (V : Nat) (R : Nat → List Nat) (d : Nat) : Prop := ∃ v, v < V ∧ d ∈ R v

/-- Both darts of an edge stand, or none. -/
def Tw (V E : Nat) (R : Nat → List Nat) : Prop := ∀ e, e < E → (In V R (2 * e) ↔ In V R (2 * e + 1))

theorem Tn.new (V E : Nat) : Tn V E (fun _ => []) := ⟨fun v _ => by simp, fun u v d _ _ h => by simp at h, fun v d _ h => by simp at h⟩
theorem Tw.new (V E : Nat) : Tw V E (fun _ => []) := fun e _ => by simp [In]

/-- d put behind b, or, where that is none, at the end. -/
def pt (l : List Nat) (b : Option Nat) (d : Nat) : List Nat := match b with
  | none => l ++ [d]
  | some b => ins l b d

/-- There is such a corner of the list. -/
def Cr (l : List Nat) (b : Option Nat) : Prop := match b with
  | none => l = []
  | some b => b ∈ l

theorem pt_mem {l : List Nat} {b : Option Nat} {d x : Nat} (h : ∀ y, b = some y → y ∈ l) : x ∈ pt l b d ↔ x = d ∨ x ∈ l := by
  cases b with
  | none => simp [pt]; exact Or.comm
  | some b => exact ins_mem (h b rfl)

theorem pt_nd {l : List Nat} {b : Option Nat} {d : Nat} (hn : l.Nodup) (h : ∀ y, b = some y → y ∈ l) (hd : d ∉ l) : (pt l b d).Nodup := by
  cases b with
  | none =>
    refine List.nodup_append.2 ⟨hn, by simp, fun a ha c hc e => ?_⟩
    simp at hc
    subst hc
    subst e
    exact hd ha
  | some b => exact ins_nd hn (h b rfl) hd

theorem pt_len {l : List Nat} {b : Option Nat} {d : Nat} (h : ∀ y, b = some y → y ∈ l) : (pt l b d).length = l.length + 1 := by
  cases b with
  | none => simp [pt]
  | some b => exact ins_len (h b rfl)

/-- One dart put. -/
def putR (R : Nat → List Nat) (v : Nat) (b : Option Nat) (d : Nat) : Nat → List Nat := upd R v (pt (R v) b d)

theorem Tn.put {V E : Nat} {R : Nat → List Nat} (h : Tn V E R) {v d : Nat} {b : Option Nat} (hv : v < V) (hb : ∀ y, b = some y → y ∈ R v) (hd : ¬ In V R d) (hl : d < 2 * E) : Tn V E (putR R v b d) := by
  have hm : ∀ u x, u < V → x ∈ putR R v b d u → (u = v ∧ x = d) ∨ x ∈ R u := fun u x hu hx => by
    unfold putR at hx
    by_cases e : u = v
    · subst e
      rw [upd_same, pt_mem hb] at hx
      rcases hx with hx | hx
      · exact .inl ⟨rfl, hx⟩
      · exact .inr hx
    · rw [upd_ne e] at hx
      exact .inr hx
  refine ⟨fun u hu => ?_, fun u u' x hu hu' h1 h2 => ?_, fun u x hu hx => ?_⟩
  · unfold putR
    by_cases e : u = v
    · subst e; rw [upd_same]; exact pt_nd (h.nd u hu) hb (fun hm => hd ⟨u, hu, hm⟩)
    · rw [upd_ne e]; exact h.nd u hu
  · rcases hm u x hu h1 with ⟨e1, e2⟩ | q1
    · rcases hm u' x hu' h2 with ⟨e3, _⟩ | q2
      · rw [e1, e3]
      · exact absurd ⟨u', hu', e2 ▸ q2⟩ hd
    · rcases hm u' x hu' h2 with ⟨_, e4⟩ | q2
      · exact absurd ⟨u, hu, e4 ▸ q1⟩ hd
      · exact h.one u u' x hu hu' q1 q2
  · rcases hm u x hu hx with ⟨_, rfl⟩ | hx
    · exact hl
    · exact h.low u x hu hx

theorem In.put {V : Nat} {R : Nat → List Nat} {v d x : Nat} {b : Option Nat} (hv : v < V) (hb : ∀ y, b = some y → y ∈ R v) : In V (putR R v b d) x ↔ x = d ∨ In V R x := by
  constructor
  · rintro ⟨u, hu, hx⟩
    unfold putR at hx
    by_cases e : u = v
    · subst e
      rw [upd_same, pt_mem hb] at hx
      rcases hx with hx | hx
      · exact .inl hx
      · exact .inr ⟨u, hu, hx⟩
    · rw [upd_ne e] at hx
      exact .inr ⟨u, hu, hx⟩
  · rintro (rfl | ⟨u, hu, hx⟩)
    · exact ⟨v, hv, by unfold putR; rw [upd_same, pt_mem hb]; exact .inl rfl⟩
    · refine ⟨u, hu, ?_⟩
      unfold putR
      by_cases e : u = v
      · subst e; rw [upd_same, pt_mem hb]; exact .inr hx
      · rw [upd_ne e]; exact hx

/-- One dart taken out, wherever it stands. -/
def outR (R : Nat → List Nat) (d : Nat) : Nat → List Nat := fun u => (R u).erase d

theorem Tn.out {V E : Nat} {R : Nat → List Nat} (h : Tn V E R) (d : Nat) : Tn V E (outR R d) :=
  ⟨fun v hv => (h.nd v hv).erase d, fun u v x hu hv h1 h2 => h.one u v x hu hv (List.mem_of_mem_erase h1) (List.mem_of_mem_erase h2), fun v x hv hx => h.low v x hv (List.mem_of_mem_erase hx)⟩

theorem In.out {V E : Nat} {R : Nat → List Nat} (h : Tn V E R) {d x : Nat} : In V (outR R d) x ↔ In V R x ∧ x ≠ d := by
  constructor
  · rintro ⟨u, hu, hx⟩
    have := (del_mem (h.nd u hu)).1 hx
    exact ⟨⟨u, hu, this.1⟩, this.2⟩
  · rintro ⟨⟨u, hu, hx⟩, hne⟩
    exact ⟨u, hu, (del_mem (h.nd u hu)).2 ⟨hx, hne⟩⟩

/-- An edge laid: its first dart, then its second one. -/
def layR (R : Nat → List Nat) (e u v : Nat) (a b : Option Nat) : Nat → List Nat := putR (putR R u a (2 * e)) v b (2 * e + 1)
def liftR (R : Nat → List Nat) (e : Nat) : Nat → List Nat := outR (outR R (2 * e)) (2 * e + 1)

section
variable {V E : Nat} {R : Nat → List Nat} {e u v : Nat} {a b : Option Nat}

theorem Tn.lift (h : Tn V E R) (t : Tw V E R) : Tn V E (liftR R e) ∧ Tw V E (liftR R e) ∧ (∀ x, In V (liftR R e) x ↔ In V R x ∧ x ≠ 2 * e ∧ x ≠ 2 * e + 1) := by
  have hall : ∀ x, In V (liftR R e) x ↔ In V R x ∧ x ≠ 2 * e ∧ x ≠ 2 * e + 1 := fun x => by
    unfold liftR
    rw [In.out (h.out _), In.out h]
    exact and_assoc
  refine ⟨(h.out _).out _, fun k hk => ?_, hall⟩
  rw [hall, hall, t k hk]
  constructor
  · rintro ⟨q1, q2, q3⟩; exact ⟨q1, by omega, by omega⟩
  · rintro ⟨q1, q2, q3⟩; exact ⟨q1, by omega, by omega⟩

end

/-- How many darts stand, all together. -/
def sumL (R : Nat → List Nat) : Nat → Nat
  | 0 => 0
  | n + 1 => sumL R n + (R n).length

end Go.Proofs.YtboafgimjadboaaGreatDoor

namespace Go.Proofs.YtboafgimjadboaaGreatDoor.Pq
set_option linter.unusedVariables false

/-- Numbers as integers. -/
def cl (l : List Nat) : List Int := l.map (fun i : Nat => (i : Int))
/-- A function's first values. -/
def fl (n : Nat) (f : Nat → Nat) : List Nat := (List.range n).map f

@[simp] theorem cl_length (l : List Nat) : (cl l).length = l.length := by simp [cl]
@[simp] theorem fl_length (n : Nat) (f : Nat → Nat) : (fl n f).length = n := by simp [fl]
theorem cl_get {l : List Nat} {j z : Nat} (h : l[j]? = some z) : (cl l)[j]? = some (z : Int) := by simp [cl, h]
theorem fl_get {n : Nat} {f : Nat → Nat} {j : Nat} (h : j < n) : (fl n f)[j]? = some (f j) := by simp [fl, h]
theorem fl_get' {n : Nat} {f : Nat → Nat} {j z : Nat} (h : (fl n f)[j]? = some z) : j < n ∧ f j = z := by
  have hl := (List.getElem?_eq_some_iff.1 h).1
  simp at hl
  rw [fl_get hl] at h
  exact ⟨hl, Option.some.inj h⟩
theorem clfl_get {n : Nat} {f : Nat → Nat} {j : Nat} (h : j < n) : (cl (fl n f))[j]? = some (f j : Int) := cl_get (fl_get h)
theorem fl_succ (n : Nat) (f : Nat → Nat) : fl (n + 1) f = fl n f ++ [f n] := by simp [fl, List.range_succ]
theorem mem_fl {n : Nat} {f : Nat → Nat} {y : Nat} : y ∈ fl n f ↔ ∃ i, i < n ∧ f i = y := by simp [fl]
theorem fl_nodup {n : Nat} {f : Nat → Nat} (h : ∀ i j, i < n → j < n → f i = f j → i = j) : (fl n f).Nodup := by
  induction n with
  | zero => simp [fl]
  | succ n ih =>
    rw [fl_succ, List.nodup_append]
    refine ⟨ih (fun i j hi hj => h i j (by omega) (by omega)), by simp, fun a ha b hb e => ?_⟩
    obtain ⟨i, hi, rfl⟩ := mem_fl.1 ha
    simp at hb
    subst hb
    have := h i n (by omega) (by omega) e
    omega

theorem pig2 {α : Type} [DecidableEq α] : ∀ (l m : List α), l.Nodup → (∀ x, x ∈ l → x ∈ m) → l.length ≤ m.length ∧ (m.length ≤ l.length → m.Perm l)
  | [], m, _, _ => ⟨by simp, fun h => by
      have : m = [] := List.eq_nil_of_length_eq_zero (by simpa using h)
      subst this; exact List.Perm.refl _⟩
  | x :: l, m, hn, hs => by
    have hx := hs x List.mem_cons_self
    obtain ⟨h1, h2⟩ := List.nodup_cons.1 hn
    have hlen := List.length_erase_of_mem hx
    have hpos : 0 < m.length := List.length_pos_of_mem hx
    obtain ⟨h3, h4⟩ := pig2 l (m.erase x) h2 (fun y hy => by
      have hne : y ≠ x := fun e => h1 (e ▸ hy)
      exact (List.mem_erase_of_ne hne).2 (hs y (List.mem_cons_of_mem _ hy)))
    refine ⟨by simp; omega, fun h => ?_⟩
    exact (List.perm_cons_erase hx).trans (List.Perm.cons x (h4 (by simp at h; omega)))

theorem pig {α : Type} [DecidableEq α] {l m : List α} (hn : l.Nodup) (hs : ∀ x, x ∈ l → x ∈ m) : l.length ≤ m.length := (pig2 l m hn hs).1

/-- An order of n numbers. -/
structure Pm (n : Nat) (f : Nat → Nat) : Prop where
  lt : ∀ i, i < n → f i < n
  inj : ∀ i j, i < n → j < n → f i = f j → i = j

/-- What Check asks. -/
def Ord (zs : List Int) : Prop := zs.Nodup ∧ ∀ z, z ∈ zs → 0 ≤ z ∧ z < (zs.length : Int)

theorem nodup_at {α : Type} {l : List α} (h : l.Nodup) {i j : Nat} {z : α} (hi : l[i]? = some z) (hj : l[j]? = some z) : i = j :=
  (List.getElem?_inj (List.getElem?_eq_some_iff.1 hi).1 h).1 (hi.trans hj.symm)

theorem Ord.fn {zs : List Int} (h : Ord zs) : ∃ f, Pm zs.length f ∧ zs = cl (fl zs.length f) := by
  have hg : ∀ i, i < zs.length → zs[i]? = some (((zs.getD i 0).toNat : Nat) : Int) := fun i hi => by
    have h1 : zs[i]? = some zs[i] := List.getElem?_eq_getElem hi
    have := h.2 _ (List.getElem_mem hi)
    rw [List.getD_eq_getElem?_getD, h1]
    simp
    omega
  refine ⟨fun i => (zs.getD i 0).toNat, ⟨fun i hi => ?_, fun i j hi hj e => ?_⟩, ?_⟩
  · have := h.2 _ (List.mem_of_getElem? (hg i hi))
    omega
  · have h1 := hg i hi
    have h2 := hg j hj
    rw [show (zs.getD i 0).toNat = (zs.getD j 0).toNat from e] at h1
    exact nodup_at h.1 h1 h2
  · apply List.ext_getElem?
    intro i
    by_cases hi : i < zs.length
    · rw [clfl_get hi, hg i hi]
    · rw [List.getElem?_eq_none (by omega), List.getElem?_eq_none (by simp; omega)]

section
variable {n : Nat} {f : Nat → Nat} (h : Pm n f)
include h

theorem Pm.sur {y : Nat} (hy : y < n) : ∃ i, i < n ∧ f i = y := by
  rcases Classical.em (y ∈ fl n f) with hm | hm
  · exact mem_fl.1 hm
  · have := pig (l := y :: fl n f) (m := List.range n) (List.nodup_cons.2 ⟨hm, fl_nodup h.inj⟩) (fun x hx => by
      rcases List.mem_cons.1 hx with rfl | hx
      · exact List.mem_range.2 hy
      · obtain ⟨i, hi, rfl⟩ := mem_fl.1 hx
        exact List.mem_range.2 (h.lt i hi))
    simp at this
    omega
end

/-- The order turned back. -/
def inv (n : Nat) (f : Nat → Nat) (y : Nat) : Nat := ((List.range n).find? (fun i => f i == y)).getD 0

section
variable {n : Nat} {f : Nat → Nat} (h : Pm n f)
include h

theorem Pm.inv_at {i : Nat} (hi : i < n) : inv n f (f i) = i := by
  unfold inv
  cases hf : (List.range n).find? (fun k => f k == f i) with
  | none =>
    have := List.find?_eq_none.1 hf i (List.mem_range.2 hi)
    simp at this
  | some k =>
    have h1 := List.find?_some hf
    have h2 := List.mem_range.1 (List.mem_of_find?_eq_some hf)
    simp at h1
    simpa using h.inj k i h2 hi h1

theorem Pm.at_inv {y : Nat} (hy : y < n) : f (inv n f y) = y ∧ inv n f y < n := by
  obtain ⟨i, hi, rfl⟩ := h.sur hy
  rw [h.inv_at hi]
  exact ⟨rfl, hi⟩

theorem Pm.then {g : Nat → Nat} (k : Pm n g) : Pm n (fun i => g (f i)) :=
  ⟨fun i hi => k.lt _ (h.lt i hi), fun i j hi hj e => h.inj i j hi hj (k.inj _ _ (h.lt i hi) (h.lt j hj) e)⟩
end

/-- So many steps on. -/
def it (f : Nat → Nat) : Nat → Nat → Nat
  | 0, x => x
  | k + 1, x => f (it f k x)

theorem it_add (f : Nat → Nat) (a b x : Nat) : it f (a + b) x = it f a (it f b x) := by
  induction a with
  | zero => simp [it]
  | succ a ih => rw [show a + 1 + b = (a + b) + 1 from by omega]; simp only [it]; rw [ih]

theorem it_comm (f : Nat → Nat) (a b x : Nat) : it f a (it f b x) = it f b (it f a x) := by rw [← it_add, ← it_add, Nat.add_comm]
theorem it_f (f : Nat → Nat) (a x : Nat) : it f a (f x) = f (it f a x) := it_comm f a 1 x

/-- It comes round by so many steps, no sooner. -/
structure Per (f : Nat → Nat) (x d : Nat) : Prop where
  pos : 1 ≤ d
  at_ : it f d x = x
  least : ∀ k, 1 ≤ k → k < d → it f k x ≠ x

theorem Per.uniq {f : Nat → Nat} {x d e : Nat} (h : Per f x d) (k : Per f x e) : d = e := by
  rcases Nat.lt_trichotomy d e with hl | hl | hl
  · exact absurd h.at_ (k.least d h.pos hl)
  · exact hl
  · exact absurd k.at_ (h.least e k.pos hl)

theorem Per.mul {f : Nat → Nat} {x d : Nat} (h : Per f x d) (m : Nat) : it f (m * d) x = x := by
  induction m with
  | zero => simp [it]
  | succ m ih => rw [Nat.succ_mul, it_add, h.at_, ih]

theorem Per.mod {f : Nat → Nat} {x d : Nat} (h : Per f x d) (k : Nat) : it f k x = it f (k % d) x := by
  conv => lhs; rw [← Nat.mod_add_div k d, Nat.mul_comm d, it_add, h.mul]

section
variable {n : Nat} {f : Nat → Nat} (h : Pm n f)
include h

theorem Pm.it_lt {x : Nat} (hx : x < n) (k : Nat) : it f k x < n := by
  induction k with
  | zero => exact hx
  | succ k ih => exact h.lt _ ih

theorem Pm.it_inj {a b : Nat} (ha : a < n) (hb : b < n) (k : Nat) (e : it f k a = it f k b) : a = b := by
  induction k with
  | zero => exact e
  | succ k ih => exact ih (h.inj _ _ (h.it_lt ha k) (h.it_lt hb k) e)

theorem Pm.cancel {x : Nat} (hx : x < n) {i j : Nat} (hij : i ≤ j) (e : it f i x = it f j x) : it f (j - i) x = x := by
  have : it f i (it f (j - i) x) = it f i x := by rw [← it_add, show i + (j - i) = j from by omega, e]
  exact h.it_inj (h.it_lt hx _) hx i this

theorem Pm.exper {x : Nat} (hx : x < n) : ∃ d, Per f x d ∧ d ≤ n := by
  have hex : ∃ d, 1 ≤ d ∧ d ≤ n ∧ it f d x = x := by
    rcases Classical.em (∃ i j, i < j ∧ j ≤ n ∧ it f i x = it f j x) with ⟨i, j, h1, h2, h3⟩ | hno
    · exact ⟨j - i, by omega, by omega, h.cancel hx (by omega) h3⟩
    · exfalso
      have := pig (l := fl (n + 1) (fun k => it f k x)) (m := List.range n) (fl_nodup (fun i j hi hj e => by
        rcases Nat.lt_trichotomy i j with hl | hl | hl
        · exact absurd ⟨i, j, hl, by omega, e⟩ hno
        · exact hl
        · exact absurd ⟨j, i, hl, by omega, e.symm⟩ hno)) (fun y hy => by
        obtain ⟨i, hi, rfl⟩ := mem_fl.1 hy
        exact List.mem_range.2 (h.it_lt hx i))
      simp at this
      omega
  have hmin : ∀ m, (∃ d, 1 ≤ d ∧ d ≤ m ∧ it f d x = x) → ∃ d, Per f x d ∧ d ≤ m := by
    intro m
    induction m with
    | zero => rintro ⟨d, h1, h2, _⟩; omega
    | succ m ih =>
      rintro ⟨d, h1, h2, h3⟩
      rcases Classical.em (∃ d, 1 ≤ d ∧ d ≤ m ∧ it f d x = x) with hd | hd
      · obtain ⟨e, h4, h5⟩ := ih hd
        exact ⟨e, h4, by omega⟩
      · obtain rfl : d = m + 1 := by
          rcases Nat.lt_or_ge d (m + 1) with hl | hl
          · exact absurd ⟨d, h1, by omega, h3⟩ hd
          · omega
        exact ⟨m + 1, ⟨h1, h3, fun k h4 h5 e => hd ⟨k, h4, by omega, e⟩⟩, h2⟩
  exact hmin n hex

theorem Pm.apart {x d : Nat} (hx : x < n) (p : Per f x d) {i j : Nat} (hi : i < d) (hj : j < d) (e : it f i x = it f j x) : i = j := by
  rcases Nat.lt_trichotomy i j with hl | hl | hl
  · exact absurd (h.cancel hx (by omega) e) (p.least _ (by omega) (by omega))
  · exact hl
  · exact absurd (h.cancel hx (by omega) e.symm) (p.least _ (by omega) (by omega))

end

open Classical in
/-- By how many steps it comes round. -/
noncomputable def per (f : Nat → Nat) (x : Nat) : Nat := if h : ∃ d, Per f x d then h.choose else 0

theorem Per.eq {f : Nat → Nat} {x d : Nat} (h : Per f x d) : per f x = d := by
  have hx : ∃ d, Per f x d := ⟨d, h⟩
  unfold per
  rw [dif_pos hx]
  exact hx.choose_spec.uniq h

/-- A number's cycle. -/
noncomputable def orb (f : Nat → Nat) (x : Nat) : List Nat := fl (per f x) (fun i => it f i x)

theorem Pm.per_is {n : Nat} {f : Nat → Nat} (h : Pm n f) {x : Nat} (hx : x < n) : Per f x (per f x) ∧ per f x ≤ n := by
  obtain ⟨d, h1, h2⟩ := h.exper hx
  rw [h1.eq]
  exact ⟨h1, h2⟩

theorem Pm.mem_orb {n : Nat} {f : Nat → Nat} (h : Pm n f) {x y : Nat} (hx : x < n) : y ∈ orb f x ↔ ∃ k, it f k x = y := by
  unfold orb
  rw [mem_fl]
  have hp := (h.per_is hx).1
  constructor
  · rintro ⟨i, _, e⟩; exact ⟨i, e⟩
  · rintro ⟨k, e⟩
    exact ⟨k % per f x, Nat.mod_lt _ hp.pos, by rw [← hp.mod]; exact e⟩

theorem Pm.it_back {n : Nat} {f : Nat → Nat} (h : Pm n f) {x y k : Nat} (hy : y < n) (e : it f k y = x) : ∃ j, it f j x = y := by
  have hp := (h.per_is hy).1
  have hpos := hp.pos
  refine ⟨k * per f y - k, ?_⟩
  have h2 : k ≤ k * per f y := Nat.le_mul_of_pos_right k hpos
  rw [← e, ← it_add, Nat.sub_add_cancel h2, hp.mul]

/-- No number of its cycle is below it. -/
def lst (f : Nat → Nat) (x : Nat) : Prop := ∀ k, x ≤ it f k x

open Classical in
/-- The cycles whose least numbers are below x. -/
noncomputable def cyc (f : Nat → Nat) (x : Nat) : List (List Nat) := ((List.range x).filter (fun y => decide (lst f y))).map (orb f)

open Classical in
theorem cyc_succ (f : Nat → Nat) (x : Nat) : cyc f (x + 1) = cyc f x ++ (if lst f x then [orb f x] else []) := by
  unfold cyc
  rw [List.range_succ, List.filter_append, List.map_append]
  by_cases hl : lst f x <;> simp [hl]

theorem cyc_yes {f : Nat → Nat} {x : Nat} (h : lst f x) : cyc f (x + 1) = cyc f x ++ [orb f x] := by classical rw [cyc_succ, if_pos h]
theorem cyc_no {f : Nat → Nat} {x : Nat} (h : ¬ lst f x) : cyc f (x + 1) = cyc f x := by classical rw [cyc_succ, if_neg h, List.append_nil]
section
variable {n : Nat} {f : Nat → Nat} (h : Pm n f)
include h

theorem Pm.mem_cyc {y : Nat} (hy : y < n) : ∀ x, x ≤ n → (y ∈ (cyc f x).flatten ↔ ∃ k, it f k y < x)
  | 0, _ => by simp [cyc]
  | x + 1, hx => by
    have ih := Pm.mem_cyc hy x (by omega)
    by_cases hl : lst f x
    · rw [cyc_yes hl, List.flatten_append, List.mem_append, ih]
      simp only [List.flatten_cons, List.flatten_nil, List.append_nil]
      rw [h.mem_orb (show x < n by omega)]
      constructor
      · rintro (⟨k, hk⟩ | ⟨k, hk⟩)
        · exact ⟨k, by omega⟩
        · obtain ⟨j, hj⟩ := h.it_back (show x < n by omega) hk
          exact ⟨j, by omega⟩
      · rintro ⟨k, hk⟩
        by_cases e : it f k y < x
        · exact .inl ⟨k, e⟩
        · exact .inr (h.it_back hy (show it f k y = x by omega))
    · rw [cyc_no hl, ih]
      constructor
      · rintro ⟨k, hk⟩; exact ⟨k, by omega⟩
      · rintro ⟨k, hk⟩
        by_cases e : it f k y < x
        · exact ⟨k, e⟩
        · have e' : it f k y = x := by omega
          obtain ⟨j, hj⟩ := Classical.not_forall.1 hl
          exact ⟨j + k, by rw [it_add, e']; omega⟩

theorem Pm.orb_nodup {x : Nat} (hx : x < n) : (orb f x).Nodup := fl_nodup (fun _ _ hi hj e => h.apart hx (h.per_is hx).1 hi hj e)
theorem Pm.orb_lt {x y : Nat} (hx : x < n) (hy : y ∈ orb f x) : y < n := by
  obtain ⟨k, rfl⟩ := (h.mem_orb hx).1 hy
  exact h.it_lt hx k

omit h in
theorem Pm.cyc_lt {n : Nat} {f : Nat → Nat} (_h : Pm n f) {c : List Nat} : ∀ x, x ≤ n → c ∈ cyc f x → ∃ z, z < n ∧ c = orb f z := fun x hx hc => by
  classical
  unfold cyc at hc
  obtain ⟨z, hz, rfl⟩ := List.mem_map.1 hc
  have := List.mem_range.1 (List.mem_filter.1 hz).1
  exact ⟨z, by omega, rfl⟩

theorem Pm.cyc_nodup : ∀ x, x ≤ n → (cyc f x).flatten.Nodup
  | 0, _ => by simp [cyc]
  | x + 1, hx => by
    have ih := Pm.cyc_nodup x (by omega)
    by_cases hl : lst f x
    · rw [cyc_yes hl, List.flatten_append, List.nodup_append]
      simp only [List.flatten_cons, List.flatten_nil, List.append_nil]
      refine ⟨ih, h.orb_nodup (by omega), fun a ha b hb e => ?_⟩
      subst e
      have han := h.orb_lt (show x < n by omega) hb
      obtain ⟨k, hk⟩ := (h.mem_cyc han x (by omega)).1 ha
      obtain ⟨j, rfl⟩ := (h.mem_orb (show x < n by omega)).1 hb
      have := hl (k + j)
      rw [it_add] at this
      omega
    · rw [cyc_no hl]; exact ih

theorem Pm.cyc_all {y : Nat} (hy : y < n) : y ∈ (cyc f n).flatten := (h.mem_cyc hy n (Nat.le_refl _)).2 ⟨0, hy⟩

theorem Pm.cyc_mem_lt {y x : Nat} (hx : x ≤ n) (hy : y ∈ (cyc f x).flatten) : y < n := by
  obtain ⟨c, hc, hm⟩ := List.mem_flatten.1 hy
  obtain ⟨z, hz, rfl⟩ := h.cyc_lt x hx hc
  exact h.orb_lt hz hm

theorem Pm.orb_next {x k z : Nat} (hx : x < n) (hk : (orb f x)[k]? = some z) : (orb f x)[(k + 1) % (orb f x).length]? = some (f z) := by
  have hp := (h.per_is hx).1
  have hl : (orb f x).length = per f x := by unfold orb; simp
  unfold orb at hk
  obtain ⟨h1, h2⟩ := fl_get' hk
  rw [hl]
  unfold orb
  rw [fl_get (Nat.mod_lt _ hp.pos), ← hp.mod, ← h2]
  rfl

theorem Pm.orb_ne {x : Nat} (hx : x < n) : orb f x ≠ [] := fun e => by
  have hp := (h.per_is hx).1.pos
  have : (orb f x).length = per f x := by unfold orb; simp
  rw [e] at this
  simp at this
  omega
end

/-- The order whose cycles these are. -/
structure Nx (n : Nat) (ms : List (List Nat)) (g : Nat → Nat) : Prop where
  on : ∀ c, c ∈ ms → ∀ k z, c[k]? = some z → c[(k + 1) % c.length]? = some (g z)
  off : ∀ x, x < n → x ∉ ms.flatten → g x = x

/-- What Of asks. -/
structure Cs (n : Nat) (ms : List (List Nat)) : Prop where
  ne : ∀ c, c ∈ ms → c ≠ []
  lt : ∀ x, x ∈ ms.flatten → x < n
  nd : ms.flatten.Nodup

theorem Pm.cs {n : Nat} {f : Nat → Nat} (h : Pm n f) : Cs n (cyc f n) := by
  refine ⟨fun c hc => ?_, fun x hx => h.cyc_mem_lt (Nat.le_refl _) hx, h.cyc_nodup n (Nat.le_refl _)⟩
  obtain ⟨z, hz, rfl⟩ := h.cyc_lt n (Nat.le_refl _) hc
  exact h.orb_ne hz

theorem Pm.nx {n : Nat} {f : Nat → Nat} (h : Pm n f) : Nx n (cyc f n) f := by
  refine ⟨fun c hc k z hk => ?_, fun x hx hm => absurd (h.cyc_all hx) hm⟩
  obtain ⟨y, hy, rfl⟩ := h.cyc_lt n (Nat.le_refl _) hc
  exact h.orb_next hy hk


/-- The images of s and t, changed for each other. -/
def swp (f : Nat → Nat) (s t : Nat) : Nat → Nat := fun x => if x = s then f t else if x = t then f s else f x

theorem swp_s (f : Nat → Nat) (s t : Nat) : swp f s t s = f t := by simp [swp]
theorem swp_t (f : Nat → Nat) (s t : Nat) : swp f s t t = f s := by
  unfold swp
  by_cases h : t = s
  · rw [if_pos h, h]
  · rw [if_neg h, if_pos rfl]
theorem swp_o {f : Nat → Nat} {s t x : Nat} (h1 : x ≠ s) (h2 : x ≠ t) : swp f s t x = f x := by simp [swp, h1, h2]

theorem swp_swp (f : Nat → Nat) {s t : Nat} (hst : s ≠ t) : swp (swp f s t) s t = f := by
  funext x
  by_cases h1 : x = s
  · subst h1; rw [swp_s, swp_t]
  · by_cases h2 : x = t
    · subst h2; rw [swp_t, swp_s]
    · rw [swp_o h1 h2, swp_o h1 h2]

theorem swp_comm (f : Nat → Nat) (s t : Nat) : swp f s t = swp f t s := by
  funext x
  by_cases h1 : x = s
  · subst h1; rw [swp_s, swp_t]
  · by_cases h2 : x = t
    · subst h2; rw [swp_t, swp_s]
    · rw [swp_o h1 h2, swp_o h2 h1]

theorem Pm.swp {n : Nat} {f : Nat → Nat} (h : Pm n f) {s t : Nat} (hs : s < n) (ht : t < n) : Pm n (swp f s t) := by
  refine ⟨fun x hx => ?_, fun x y hx hy e => ?_⟩
  · unfold Pq.swp
    split
    · exact h.1 _ ht
    · split
      · exact h.1 _ hs
      · exact h.1 _ hx
  · have inj : ∀ a b, a < n → b < n → f a = f b → a = b := fun a b ha hb => h.2 a b ha hb
    unfold Pq.swp at e
    split at e
    · rename_i hxs
      split at e
      · omega
      · split at e
        · have := inj _ _ ht hs e; omega
        · have := inj _ _ ht hy e; omega
    · split at e
      · rename_i hxt
        split at e
        · have := inj _ _ hs ht e; omega
        · split at e
          · omega
          · have := inj _ _ hs hy e; omega
      · split at e
        · have := inj _ _ hx ht e; omega
        · split at e
          · have := inj _ _ hx hs e; omega
          · exact inj _ _ hx hy e

/-- Of one cycle. -/
def Of1 (f : Nat → Nat) (x y : Nat) : Prop := ∃ k, it f k x = y

theorem Of1.refl (f : Nat → Nat) (x : Nat) : Of1 f x x := ⟨0, rfl⟩
theorem Of1.trans {f : Nat → Nat} {x y z : Nat} (h : Of1 f x y) (k : Of1 f y z) : Of1 f x z := by
  obtain ⟨a, rfl⟩ := h
  obtain ⟨b, rfl⟩ := k
  exact ⟨b + a, it_add f b a x⟩
theorem Pm.sym {n : Nat} {f : Nat → Nat} (h : Pm n f) {x y : Nat} (hx : x < n) (k : Of1 f x y) : Of1 f y x := by
  obtain ⟨a, rfl⟩ := k
  obtain ⟨j, hj⟩ := h.it_back hx rfl
  exact ⟨j, hj⟩
theorem Of1.step (f : Nat → Nat) (x : Nat) : Of1 f x (f x) := ⟨1, rfl⟩
theorem Pm.of_lt {n : Nat} {f : Nat → Nat} (h : Pm n f) {x y : Nat} (hx : x < n) (k : Of1 f x y) : y < n := by
  obtain ⟨a, rfl⟩ := k
  exact h.it_lt hx a

/-- On the way to s, t not being met, both go alike. -/
theorem way {f : Nat → Nat} {s t : Nat} : ∀ (k x : Nat), it f k x = s → (∀ j, it f j x ≠ t) → Of1 (swp f s t) x s
  | 0, x, e, _ => by subst e; exact Of1.refl _ _
  | k + 1, x, e, hn => by
    by_cases hx : x = s
    · subst hx; exact Of1.refl _ _
    · have hxt : x ≠ t := fun q => hn 0 q
      have e' : it f k (f x) = s := by rw [it_f]; exact e
      have ih := way k (f x) e' (fun j => by rw [it_f]; exact hn (j + 1))
      exact Of1.trans (by have := Of1.step (swp f s t) x; rw [swp_o hx hxt] at this; exact this) ih

section
variable {n : Nat} {f : Nat → Nat} (h : Pm n f) {s t : Nat} (hs : s < n) (ht : t < n) (hno : ¬ Of1 f s t)
include h hs ht hno

omit hs ht in
theorem Pm.join_s {x : Nat} (hx : x < n) (k : Of1 f x s) : Of1 (Pq.swp f s t) x s := by
  obtain ⟨a, e⟩ := k
  refine way a x e (fun j q => hno ?_)
  exact (h.sym hx ⟨a, e⟩).trans ⟨j, q⟩

omit hs ht in
theorem Pm.join_t {x : Nat} (hx : x < n) (k : Of1 f x t) : Of1 (Pq.swp f s t) x t := by
  obtain ⟨a, e⟩ := k
  rw [swp_comm]
  refine way a x e (fun j q => hno ?_)
  exact (h.sym hx ⟨j, q⟩).trans ⟨a, e⟩

omit hs in
theorem Pm.join_st : Of1 (Pq.swp f s t) s t := by
  have h1 : Of1 (Pq.swp f s t) s (f t) := by have := Of1.step (Pq.swp f s t) s; rw [swp_s] at this; exact this
  exact h1.trans (h.join_t hno (h.1 t ht) (h.sym ht (Of1.step f t)))

omit hs in
theorem Pm.join_all {x : Nat} (hx : x < n) (k : Of1 f x s ∨ Of1 f x t) : Of1 (Pq.swp f s t) x t := by
  rcases k with k | k
  · exact (h.join_s hno hx k).trans (h.join_st ht hno)
  · exact h.join_t hno hx k

/-- What is of one cycle now. -/
theorem Pm.join_iff {x y : Nat} (hx : x < n) (hy : y < n) : Of1 (Pq.swp f s t) x y ↔ Of1 f x y ∨ ((Of1 f x s ∨ Of1 f x t) ∧ (Of1 f y s ∨ Of1 f y t)) := by
  have hg := h.swp hs ht
  by_cases hm : Of1 f x s ∨ Of1 f x t
  · constructor
    · rintro ⟨k, rfl⟩
      refine .inr ⟨hm, ?_⟩
      clear hy
      induction k with
      | zero => exact hm
      | succ k ih =>
        have hz := hg.it_lt hx k
        show Of1 f (Pq.swp f s t (it (Pq.swp f s t) k x)) s ∨ Of1 f (Pq.swp f s t (it (Pq.swp f s t) k x)) t
        generalize it (Pq.swp f s t) k x = z at *
        by_cases h1 : z = s
        · subst h1; rw [swp_s]; exact .inr (h.sym ht (Of1.step f t))
        · by_cases h2 : z = t
          · subst h2; rw [swp_t]; exact .inl (h.sym hs (Of1.step f s))
          · rw [swp_o h1 h2]
            have := h.sym hz (Of1.step f z)
            rcases ih with ih | ih
            · exact .inl (this.trans ih)
            · exact .inr (this.trans ih)
    · rintro (k | ⟨_, k⟩)
      · have hm' : Of1 f y s ∨ Of1 f y t := by
          have := h.sym hx k
          rcases hm with q | q
          · exact .inl (this.trans q)
          · exact .inr (this.trans q)
        exact (h.join_all ht hno hx hm).trans (hg.sym hy (h.join_all ht hno hy hm'))
      · exact (h.join_all ht hno hx hm).trans (hg.sym hy (h.join_all ht hno hy k))
  · have e : ∀ k, it (Pq.swp f s t) k x = it f k x := fun k => by
      induction k with
      | zero => rfl
      | succ k ih =>
        show Pq.swp f s t (it (Pq.swp f s t) k x) = f (it f k x)
        rw [ih]
        exact swp_o (fun q => hm (.inl ⟨k, q⟩)) (fun q => hm (.inr ⟨k, q⟩))
    constructor
    · rintro ⟨k, q⟩; exact .inl ⟨k, by rw [← e]; exact q⟩
    · rintro (⟨k, q⟩ | ⟨q, _⟩)
      · exact ⟨k, by rw [e]; exact q⟩
      · exact absurd q hm
end

/-- One cycle falls apart. -/
theorem Pm.parted {n : Nat} {f : Nat → Nat} (h : Pm n f) {s t : Nat} (hs : s < n) (ht : t < n) (hst : s ≠ t) (ho : Of1 f s t) : ¬ Of1 (Pq.swp f s t) s t := by
  intro k
  have hg := h.swp hs ht
  have k' := hg.sym hs k
  obtain ⟨d, hp, _⟩ := h.exper hs
  obtain ⟨k0, e0⟩ := ho
  have e1 : it f (k0 % d) s = t := by rw [← hp.mod]; exact e0
  have hkd : k0 % d < d := Nat.mod_lt _ hp.pos
  have hk0 : k0 % d ≠ 0 := fun q => hst (by rw [q] at e1; exact e1)
  generalize k0 % d = m at *
  have inv : ∀ j, ∃ i, 1 ≤ i ∧ i ≤ m ∧ it (Pq.swp f s t) j t = it f i s := fun j => by
    induction j with
    | zero => exact ⟨m, by omega, Nat.le_refl _, e1.symm⟩
    | succ j ih =>
      obtain ⟨i, i1, i2, ei⟩ := ih
      show ∃ i, 1 ≤ i ∧ i ≤ m ∧ Pq.swp f s t (it (Pq.swp f s t) j t) = it f i s
      rw [ei]
      by_cases him : i = m
      · refine ⟨1, by omega, by omega, ?_⟩
        rw [him, e1, swp_t]
        rfl
      · refine ⟨i + 1, by omega, by omega, ?_⟩
        rw [swp_o]
        · rfl
        · intro q
          have := h.apart hs hp (i := i) (j := 0) (by omega) hp.pos q
          omega
        · intro q
          exact him (h.apart hs hp (by omega) hkd (q.trans e1.symm))
  obtain ⟨j, ej⟩ := k'
  obtain ⟨i, i1, i2, ei⟩ := inv j
  have := h.apart hs hp (i := i) (j := 0) (by omega) hp.pos (ei.symm.trans ej)
  omega

open Classical in
/-- How many cycles. -/
noncomputable def cn (n : Nat) (f : Nat → Nat) : Nat := (List.range n).countP (fun x => decide (lst f x))

theorem lst_of {f : Nat → Nat} {x : Nat} : lst f x ↔ ∀ y, Of1 f x y → x ≤ y := by
  unfold lst Of1
  constructor
  · rintro h y ⟨k, rfl⟩; exact h k
  · intro h k; exact h _ ⟨k, rfl⟩

theorem Pm.least {n : Nat} {f : Nat → Nat} (h : Pm n f) {x : Nat} (hx : x < n) : ∃ y, Of1 f x y ∧ lst f y ∧ y < n := by
  have : ∀ k, ∀ x, x < n → x ≤ k → ∃ y, Of1 f x y ∧ lst f y ∧ y < n := fun k => by
    induction k with
    | zero => intro x hx hk; exact ⟨x, Of1.refl _ _, fun j => by omega, hx⟩
    | succ k ih =>
      intro x hx hk
      by_cases hl : lst f x
      · exact ⟨x, Of1.refl _ _, hl, hx⟩
      · obtain ⟨j, hj⟩ := Classical.not_forall.1 hl
        obtain ⟨y, y1, y2⟩ := ih (it f j x) (h.it_lt hx j) (by omega)
        exact ⟨y, Of1.trans ⟨j, rfl⟩ y1, y2⟩
  exact this x x hx (Nat.le_refl _)

theorem count_one {p q : Nat → Bool} : ∀ {n m : Nat}, m < n → p m = true → q m = false → (∀ x, x < n → x ≠ m → p x = q x) → (List.range n).countP p = (List.range n).countP q + 1
  | 0, m, h, _, _, _ => by omega
  | n + 1, m, h, h1, h2, h3 => by
    rw [List.range_succ, List.countP_append, List.countP_append, List.countP_singleton, List.countP_singleton]
    by_cases e : m = n
    · subst e
      rw [h1, h2]
      have : (List.range m).countP p = (List.range m).countP q := by
        refine List.countP_congr (fun x hx => ?_)
        have := List.mem_range.1 hx
        rw [h3 x (by omega) (by omega)]
      simp [this]
    · have ih := count_one (n := n) (m := m) (by omega) h1 h2 (fun x hx => h3 x (by omega))
      rw [ih, h3 n (by omega) (fun q => e q.symm)]
      omega

theorem Pm.cn_join {n : Nat} {f : Nat → Nat} (h : Pm n f) {s t : Nat} (hs : s < n) (ht : t < n) (hno : ¬ Of1 f s t) : cn n f = cn n (Pq.swp f s t) + 1 := by
  classical
  have hg := h.swp hs ht
  obtain ⟨a, a1, a2, a3⟩ := h.least hs
  obtain ⟨b, b1, b2, b3⟩ := h.least ht
  have hab : ¬ Of1 f a b := fun q => hno (a1.trans (q.trans (h.sym ht b1)))
  have hne : a ≠ b := fun q => hab (q ▸ Of1.refl f a)
  have ga : Of1 f a s := h.sym hs a1
  have gb : Of1 f b t := h.sym ht b1
  have hj := fun {x y : Nat} (hx : x < n) (hy : y < n) => h.join_iff hs ht hno hx hy
  -- the greater one of the two least ones
  have main : ∀ m o : Nat, m < n → o < n → lst f m → lst f o → o < m → (Of1 f m s ∨ Of1 f m t) → (Of1 f o s ∨ Of1 f o t) → (∀ x, x < n → lst f x → (Of1 f x s ∨ Of1 f x t) → x = m ∨ x = o) → cn n f = cn n (Pq.swp f s t) + 1 := by
    intro m o hm ho lm lo hlt cm co hall
    unfold cn
    refine count_one hm (by simpa using lm) ?_ (fun x hx hxm => ?_)
    · simp only [decide_eq_false_iff_not]
      intro q
      have := (lst_of.1 q) o ((hj hm ho).2 (.inr ⟨cm, co⟩))
      omega
    · by_cases hl : lst f x
      · simp only [hl, decide_true]
        refine (decide_eq_true ?_).symm
        refine lst_of.2 (fun y hy => ?_)
        have hyn := hg.of_lt hx hy
        rcases (hj hx hyn).1 hy with q | ⟨q1, q2⟩
        · exact lst_of.1 hl y q
        · rcases hall x hx hl q1 with e | e
          · exact absurd e hxm
          · subst e
            obtain ⟨z, z1, z2, z3⟩ := h.least hyn
            have hz : Of1 f z s ∨ Of1 f z t := by
              have := h.sym hyn z1
              rcases q2 with q2 | q2
              · exact .inl (this.trans q2)
              · exact .inr (this.trans q2)
            have hzy : z ≤ y := lst_of.1 z2 y (h.sym hyn z1)
            rcases hall z z3 z2 hz with e | e
            · omega
            · omega
      · simp only [hl, decide_false]
        refine (decide_eq_false ?_).symm
        intro q
        apply hl
        refine lst_of.2 (fun y hy => lst_of.1 q y ?_)
        exact (hj hx (h.of_lt hx hy)).2 (.inl hy)
  have uni : ∀ x, x < n → lst f x → (Of1 f x s ∨ Of1 f x t) → x = a ∨ x = b := by
    intro x hx hl k
    rcases k with k | k
    · have q : Of1 f x a := k.trans a1
      have e1 := lst_of.1 hl a q
      have e2 := lst_of.1 a2 x (h.sym hx q)
      exact .inl (by omega)
    · have q : Of1 f x b := k.trans b1
      have e1 := lst_of.1 hl b q
      have e2 := lst_of.1 b2 x (h.sym hx q)
      exact .inr (by omega)
  rcases Nat.lt_or_gt_of_ne hne with hlt | hlt
  · exact main b a b3 a3 b2 a2 hlt (.inr gb) (.inl ga) (fun x hx hl k => (uni x hx hl k).symm)
  · exact main a b a3 b3 a2 b2 hlt (.inl ga) (.inr gb) uni

theorem Pm.cn_part {n : Nat} {f : Nat → Nat} (h : Pm n f) {s t : Nat} (hs : s < n) (ht : t < n) (hst : s ≠ t) (ho : Of1 f s t) : cn n (Pq.swp f s t) = cn n f + 1 := by
  have := (h.swp hs ht).cn_join hs ht (h.parted hs ht hst ho)
  rw [swp_swp f hst] at this
  exact this

end Go.Proofs.YtboafgimjadboaaGreatDoor.Pq

namespace Go.Proofs.YtboafgimjadboaaGreatDoor
set_option linter.unusedVariables false

/-- The other dart of the edge. -/
def tw (d : Nat) : Nat := if d % 2 = 0 then d + 1 else d - 1

theorem tw_tw (d : Nat) : tw (tw d) = d := by
  unfold tw
  by_cases h : d % 2 = 0
  · rw [if_pos h, if_neg (by omega)]; omega
  · rw [if_neg h, if_pos (by omega)]; omega
theorem tw_lt {d E : Nat} (h : d < 2 * E) : tw d < 2 * E := by unfold tw; split <;> omega
theorem tw_inj {a b : Nat} (h : tw a = tw b) : a = b := by rw [← tw_tw a, h, tw_tw]
theorem tw_even (e : Nat) : tw (2 * e) = 2 * e + 1 := by unfold tw; rw [if_pos (by omega)]
theorem tw_odd (e : Nat) : tw (2 * e + 1) = 2 * e := by unfold tw; rw [if_neg (by omega)]; omega

theorem In.low {V E : Nat} {R : Nat → List Nat} (h : Tn V E R) {d : Nat} (hd : In V R d) : d < 2 * E := by
  obtain ⟨v, hv, hm⟩ := hd
  exact h.low v d hv hm

theorem In.tw {V E : Nat} {R : Nat → List Nat} (h : Tn V E R) (t : Tw V E R) {d : Nat} (hd : In V R d) : In V R (tw d) := by
  have hl := hd.low h
  have := t (d / 2) (by omega)
  unfold Go.Proofs.YtboafgimjadboaaGreatDoor.tw
  by_cases he : d % 2 = 0
  · rw [if_pos he]
    rw [show 2 * (d / 2) = d by omega] at this
    exact this.1 hd
  · rw [if_neg he]
    rw [show 2 * (d / 2) + 1 = d by omega, show 2 * (d / 2) = d - 1 by omega] at this
    exact this.2 hd

theorem In.tw_iff {V E : Nat} {R : Nat → List Nat} (h : Tn V E R) (t : Tw V E R) {d : Nat} : In V R (Go.Proofs.YtboafgimjadboaaGreatDoor.tw d) ↔ In V R d :=
  ⟨fun q => by have := q.tw h t; rw [tw_tw] at this; exact this, fun q => q.tw h t⟩

open Classical in
/-- A dart's vertex. -/
noncomputable def og (V : Nat) (R : Nat → List Nat) (d : Nat) : Nat := if h : In V R d then h.choose else 0

theorem og_is {V : Nat} {R : Nat → List Nat} {d : Nat} (h : In V R d) : og V R d < V ∧ d ∈ R (og V R d) := by
  unfold og
  rw [dif_pos h]
  exact h.choose_spec

theorem og_at {V E : Nat} {R : Nat → List Nat} (ht : Tn V E R) {u d : Nat} (hu : u < V) (hm : d ∈ R u) : og V R d = u := by
  have h := og_is (⟨u, hu, hm⟩ : In V R d)
  exact ht.one _ _ d h.1 hu h.2 hm

open Classical in
/-- The dart behind one, round its vertex (of none: itself). -/
noncomputable def vx (V : Nat) (R : Nat → List Nat) (d : Nat) : Nat := if In V R d then nx (R (og V R d)) d else d

theorem vx_at {V E : Nat} {R : Nat → List Nat} (ht : Tn V E R) {u d : Nat} (hu : u < V) (hm : d ∈ R u) : vx V R d = nx (R u) d := by
  unfold vx
  rw [if_pos ⟨u, hu, hm⟩, og_at ht hu hm]
theorem vx_no {V : Nat} {R : Nat → List Nat} {d : Nat} (h : ¬ In V R d) : vx V R d = d := by unfold vx; rw [if_neg h]
theorem vx_in {V : Nat} {R : Nat → List Nat} {d : Nat} (h : In V R d) : In V R (vx V R d) := by
  unfold vx
  rw [if_pos h]
  exact ⟨_, (og_is h).1, nx_mem (og_is h).2⟩
theorem vx_og {V E : Nat} {R : Nat → List Nat} (ht : Tn V E R) {d : Nat} (h : In V R d) : og V R (vx V R d) = og V R d := by
  rw [vx_at ht (og_is h).1 (og_is h).2]
  exact og_at ht (og_is h).1 (nx_mem (og_is h).2)
theorem vx_inj {V E : Nat} {R : Nat → List Nat} (ht : Tn V E R) {c d : Nat} (hc : In V R c) (hd : In V R d) (e : vx V R c = vx V R d) : c = d := by
  have h1 := og_is hc
  have h2 := og_is hd
  have e1 := vx_og ht hc
  rw [e, vx_og ht hd] at e1
  rw [vx_at ht h1.1 h1.2, vx_at ht h2.1 h2.2, e1] at e
  rw [e1] at h2
  exact nx_inj (ht.nd _ h1.1) h1.2 h2.2 e

open Classical in
/-- The dart behind one, round its face (of none: itself). -/
noncomputable def fx (V : Nat) (R : Nat → List Nat) (d : Nat) : Nat := if In V R d then vx V R (tw d) else d

theorem fx_yes {V : Nat} {R : Nat → List Nat} {d : Nat} (h : In V R d) : fx V R d = vx V R (tw d) := by unfold fx; rw [if_pos h]
theorem fx_no {V : Nat} {R : Nat → List Nat} {d : Nat} (h : ¬ In V R d) : fx V R d = d := by unfold fx; rw [if_neg h]

section
variable {V E : Nat} {R : Nat → List Nat} (ht : Tn V E R) (hw : Tw V E R)
include ht hw

theorem fx_in {d : Nat} : In V R (fx V R d) ↔ In V R d := by
  by_cases h : In V R d
  · rw [fx_yes h]
    exact ⟨fun _ => h, fun _ => vx_in (h.tw ht hw)⟩
  · rw [fx_no h]

theorem fx_inj {c d : Nat} (e : fx V R c = fx V R d) : c = d := by
  by_cases hc : In V R c
  · have hd : In V R d := (fx_in ht hw).1 (e ▸ (fx_in ht hw).2 hc)
    rw [fx_yes hc, fx_yes hd] at e
    exact tw_inj (vx_inj ht (hc.tw ht hw) (hd.tw ht hw) e)
  · have hd : ¬ In V R d := fun q => hc ((fx_in ht hw).1 (e ▸ (fx_in ht hw).2 q))
    rw [fx_no hc, fx_no hd] at e
    exact e

theorem fx_pm : Pq.Pm (2 * E) (fx V R) := by
  refine ⟨fun d hd => ?_, fun c d _ _ e => fx_inj ht hw e⟩
  by_cases h : In V R d
  · exact ((fx_in ht hw).2 h).low ht
  · rw [fx_no h]; exact hd

theorem it_in {d : Nat} : ∀ k, In V R (Pq.it (fx V R) k d) ↔ In V R d
  | 0 => Iff.rfl
  | k + 1 => (fx_in ht hw).trans (it_in k)

theorem orb_in {d y : Nat} (hd : In V R d) (hy : y ∈ Pq.orb (fx V R) d) : In V R y := by
  obtain ⟨k, rfl⟩ := ((fx_pm ht hw).mem_orb (hd.low ht)).1 hy
  exact (it_in ht hw k).2 hd
end

open Classical in
/-- The faces whose least darts are below x. -/
noncomputable def fcs (V : Nat) (R : Nat → List Nat) (x : Nat) : List (List Nat) := ((List.range x).filter (fun y => decide (In V R y ∧ Pq.lst (fx V R) y))).map (Pq.orb (fx V R))

theorem fcs_yes {V : Nat} {R : Nat → List Nat} {x : Nat} (h : In V R x) (hl : Pq.lst (fx V R) x) : fcs V R (x + 1) = fcs V R x ++ [Pq.orb (fx V R) x] := by
  classical
  unfold fcs
  rw [List.range_succ, List.filter_append, List.map_append]
  simp [h, hl]
theorem fcs_no {V : Nat} {R : Nat → List Nat} {x : Nat} (h : ¬ (In V R x ∧ Pq.lst (fx V R) x)) : fcs V R (x + 1) = fcs V R x := by
  classical
  unfold fcs
  rw [List.range_succ, List.filter_append, List.map_append]
  rw [List.filter_cons, if_neg (by rw [decide_eq_true_eq]; exact h)]
  simp

theorem fcs_le (V : Nat) (R : Nat → List Nat) (x : Nat) : (fcs V R x).length ≤ x := by
  classical
  unfold fcs
  rw [List.length_map]
  exact Nat.le_trans (List.length_filter_le _ _) (by simp)

/-- What a face of the list is. -/
theorem mem_fcs {V : Nat} {R : Nat → List Nat} {x : Nat} {c : List Nat} : c ∈ fcs V R x ↔ ∃ z, z < x ∧ In V R z ∧ Pq.lst (fx V R) z ∧ c = Pq.orb (fx V R) z := by
  classical
  unfold fcs
  simp only [List.mem_map, List.mem_filter, List.mem_range, decide_eq_true_eq]
  constructor
  · rintro ⟨z, ⟨h1, h2, h3⟩, rfl⟩; exact ⟨z, h1, h2, h3, rfl⟩
  · rintro ⟨z, h1, h2, h3, rfl⟩; exact ⟨z, ⟨h1, h2, h3⟩, rfl⟩

section
variable {V E : Nat} {R : Nat → List Nat} (ht : Tn V E R) (hw : Tw V E R)
include ht hw

/-- Which darts the faces so far have. -/
theorem fcs_mem {x y : Nat} (hx : x ≤ 2 * E) : y ∈ (fcs V R x).flatten ↔ In V R y ∧ ∃ k, Pq.it (fx V R) k y < x := by
  have pm := fx_pm ht hw
  rw [List.mem_flatten]
  constructor
  · rintro ⟨c, hc, hy⟩
    obtain ⟨z, hz, h1, h2, rfl⟩ := mem_fcs.1 hc
    refine ⟨orb_in ht hw h1 hy, ?_⟩
    obtain ⟨k, rfl⟩ := (pm.mem_orb (h1.low ht)).1 hy
    obtain ⟨j, hj⟩ := pm.it_back (h1.low ht) (rfl : Pq.it (fx V R) k z = _)
    exact ⟨j, by omega⟩
  · rintro ⟨hi, k, hk⟩
    have hl := hi.low ht
    obtain ⟨z, z1, z2, z3⟩ := pm.least (pm.it_lt hl k)
    have hz : z ≤ Pq.it (fx V R) k y := Pq.lst_of.1 z2 _ (pm.sym (pm.it_lt hl k) z1)
    have hyz : Pq.Of1 (fx V R) y z := Pq.Of1.trans ⟨k, rfl⟩ z1
    have hiz : In V R z := by
      obtain ⟨j, rfl⟩ := hyz
      exact (it_in ht hw j).2 hi
    refine ⟨Pq.orb (fx V R) z, mem_fcs.2 ⟨z, by omega, hiz, z2, rfl⟩, (pm.mem_orb z3).2 (pm.sym hl hyz)⟩

end
end Go.Proofs.YtboafgimjadboaaGreatDoor

namespace Go.Proofs.YtboafgimjadboaaGreatDoor
set_option linter.unusedVariables false

open Pq (swp swp_s swp_t swp_o Of1 cn)

theorem fix_it {f : Nat → Nat} {p : Nat} (h : f p = p) : ∀ k, Pq.it f k p = p
  | 0 => rfl
  | k + 1 => by show f (Pq.it f k p) = p; rw [fix_it h k, h]

open Classical in
/-- How many darts are not laid, how many vertices have none. -/
noncomputable def und (V E : Nat) (R : Nat → List Nat) : Nat := (List.range (2 * E)).countP (fun x => decide (¬ In V R x))
/-- How many of the first vertices have no dart. -/
def iso (R : Nat → List Nat) (V : Nat) : Nat := (List.range V).countP (fun v => (R v).isEmpty)

theorem count_two {p q r : Nat → Bool} (h : ∀ x, (p x = true ∧ q x = false ∧ r x = true) ∨ (p x = false ∧ q x = true ∧ r x = true) ∨ (p x = false ∧ q x = false ∧ r x = false)) : ∀ n, (List.range n).countP p + (List.range n).countP q = (List.range n).countP r
  | 0 => rfl
  | n + 1 => by
    rw [List.range_succ, List.countP_append, List.countP_append, List.countP_append, List.countP_singleton, List.countP_singleton, List.countP_singleton]
    have ih := count_two h n
    rcases h n with ⟨a, b, c⟩ | ⟨a, b, c⟩ | ⟨a, b, c⟩ <;> rw [a, b, c] <;> simp <;> omega

theorem faces_cn (V E : Nat) (R : Nat → List Nat) : (fcs V R (2 * E)).length + und V E R = cn (2 * E) (fx V R) := by
  classical
  unfold fcs und cn
  rw [List.length_map, ← List.countP_eq_length_filter]
  refine count_two (fun x => ?_) (2 * E)
  by_cases h1 : In V R x
  · by_cases h2 : Pq.lst (fx V R) x
    · exact .inl ⟨decide_eq_true ⟨h1, h2⟩, decide_eq_false (fun q => q h1), decide_eq_true h2⟩
    · exact .inr (.inr ⟨decide_eq_false (fun q => h2 q.2), decide_eq_false (fun q => q h1), decide_eq_false h2⟩)
  · refine .inr (.inl ⟨decide_eq_false (fun q => h1 q.1), decide_eq_true h1, decide_eq_true ?_⟩)
    intro k
    rw [fix_it (fx_no h1) k]
    exact Nat.le_refl _

section
variable {V E e u v : Nat} {R : Nat → List Nat} {a b : Option Nat}

theorem iso_congr {R R' : Nat → List Nat} {V : Nat} (h : ∀ x, x < V → (R x).isEmpty = (R' x).isEmpty) : iso R V = iso R' V := by
  unfold iso
  refine List.countP_congr (fun x hx => ?_)
  rw [h x (List.mem_range.1 hx)]

/-- Into one face. -/
def One (V : Nat) (R : Nat → List Nat) (u v : Nat) (a b : Option Nat) : Prop := match a, b with
  | some a, some b => Of1 (fx V R) (vx V R a) (vx V R b)
  | none, none => u = v
  | _, _ => False

end
end Go.Proofs.YtboafgimjadboaaGreatDoor

namespace Go.Proofs.YtboafgimjadboaaGreatDoor.Un
set_option linter.unusedVariables false

structure Mb where
  up : Nat
  size : Nat
  least : Nat

abbrev Tb := Nat → Mb

def alone (x : Nat) : Mb := ⟨x, 1, x⟩

def upd (T : Tb) (i : Nat) (m : Mb) : Tb := fun j => if j = i then m else T j
theorem upd_same {T : Tb} {i : Nat} {m : Mb} : upd T i m i = m := by simp [upd]
theorem upd_ne {T : Tb} {i j : Nat} {m : Mb} (h : j ≠ i) : upd T i m j = T j := by simp [upd, h]

/-- One top hung on another one. -/
def hangT (T : Tb) (o u : Nat) : Tb := upd (upd T u ⟨o, (T u).size, (T u).least⟩) o ⟨(T o).up, (T o).size + (T u).size, min (T o).least (T u).least⟩

theorem hang_o {T : Tb} {o u : Nat} : hangT T o u o = ⟨(T o).up, (T o).size + (T u).size, min (T o).least (T u).least⟩ := upd_same
theorem hang_u {T : Tb} {o u : Nat} (h : o ≠ u) : hangT T o u u = ⟨o, (T u).size, (T u).least⟩ := by unfold hangT; rw [upd_ne (Ne.symm h), upd_same]
theorem hang_ne {T : Tb} {o u j : Nat} (h : j ≠ o) (k : j ≠ u) : hangT T o u j = T j := by unfold hangT; rw [upd_ne h, upd_ne k]

/-- How many below n. -/
def cnt (p : Nat → Bool) : Nat → Nat
  | 0 => 0
  | n + 1 => cnt p n + (if p n then 1 else 0)

theorem cnt_congr {p q : Nat → Bool} : ∀ {n : Nat}, (∀ x, x < n → p x = q x) → cnt p n = cnt q n
  | 0, _ => rfl
  | n + 1, h => by unfold cnt; rw [cnt_congr (fun x hx => h x (by omega)), h n (by omega)]

theorem cnt_le (p : Nat → Bool) : ∀ (n : Nat), cnt p n ≤ n
  | 0 => Nat.le_refl _
  | n + 1 => by unfold cnt; have := cnt_le p n; split <;> omega

theorem cnt_two {p q r : Nat → Bool} : ∀ {n : Nat}, (∀ x, x < n → p x = (q x || r x) ∧ ¬ (q x = true ∧ r x = true)) → cnt p n = cnt q n + cnt r n
  | 0, _ => rfl
  | n + 1, h => by
    unfold cnt
    rw [cnt_two (fun x hx => h x (by omega))]
    have ⟨h1, h2⟩ := h n (by omega)
    cases hq : q n <;> cases hr : r n <;> simp [h1, hq, hr] at h2 ⊢ <;> omega

theorem cnt_none {p : Nat → Bool} : ∀ {n : Nat}, (∀ x, x < n → p x = false) → cnt p n = 0
  | 0, _ => rfl
  | n + 1, h => by unfold cnt; rw [cnt_none (fun x hx => h x (by omega)), h n (by omega)]; rfl

theorem cnt_one {i : Nat} : ∀ {n : Nat}, i < n → cnt (fun x => x == i) n = 1
  | 0, h => by omega
  | n + 1, h => by
    unfold cnt
    by_cases e : i = n
    · subst e
      rw [cnt_none (fun x hx => by simp; omega)]
      simp
    · rw [cnt_one (by omega), if_neg (by simp; omega)]

theorem cnt_pos {p : Nat → Bool} {i : Nat} : ∀ {n : Nat}, i < n → p i = true → 1 ≤ cnt p n
  | 0, h, _ => by omega
  | n + 1, h, hp => by
    unfold cnt
    by_cases e : i = n
    · subst e; simp [hp]
    · have := cnt_pos (p := p) (n := n) (by omega) hp; omega

theorem cnt_all {p : Nat → Bool} : ∀ {n : Nat}, (∀ x, x < n → p x = true) → cnt p n = n
  | 0, _ => rfl
  | n + 1, h => by unfold cnt; rw [cnt_all (fun x hx => h x (by omega)), h n (by omega)]; rfl

/-- The labels (each member's group's least one) when two groups are one. -/
def jn (f : Nat → Nat) (a b : Nat) : Nat → Nat := fun x => if f x = max (f a) (f b) then min (f a) (f b) else f x

theorem jn_comm (f : Nat → Nat) (a b : Nat) : jn f a b = jn f b a := by
  funext x; unfold jn; rw [Nat.max_comm, Nat.min_comm]

theorem jn_of {f : Nat → Nat} {a b c d : Nat} (h : f a = f c) (k : f b = f d) : jn f a b = jn f c d := by unfold jn; rw [h, k]

/-- Trees with their tops r and depths d tell the labels f. -/
structure Ok (n : Nat) (T : Tb) (r d f : Nat → Nat) : Prop where
  top : ∀ x, x < n → r x < n
  upn : ∀ x, x < n → (T x).up < n
  upr : ∀ x, x < n → r (T x).up = r x
  rr : ∀ x, x < n → r (r x) = r x
  self : ∀ x, x < n → ((T x).up = x ↔ r x = x)
  d0 : ∀ x, x < n → (T x).up = x → d x = 0
  ds : ∀ x, x < n → (T x).up ≠ x → d x = d (T x).up + 1
  size : ∀ x, x < n → (T (r x)).size = cnt (fun y => f y == f x) n
  least : ∀ x, x < n → (T (r x)).least = f x
  same : ∀ x y, x < n → y < n → (f x = f y ↔ r x = r y)
  fle : ∀ x, x < n → f x ≤ x
  ff : ∀ x, x < n → f (f x) = f x

theorem Ok.new (n : Nat) : Ok n alone (fun x => x) (fun _ => 0) (fun x => x) where
  top := fun x h => h
  upn := fun x h => h
  upr := fun x h => rfl
  rr := fun x h => rfl
  self := fun x h => by simp [alone]
  d0 := fun x h _ => rfl
  ds := fun x h e => absurd rfl e
  size := fun x h => (cnt_one h).symm
  least := fun x h => rfl
  same := fun x y _ _ => Iff.rfl
  fle := fun x h => Nat.le_refl _
  ff := fun x h => rfl

theorem Ok.isTop {n : Nat} {T : Tb} {r d f : Nat → Nat} (h : Ok n T r d f) {x : Nat} (hx : x < n) : (T (r x)).up = r x := (h.self _ (h.top x hx)).2 (h.rr x hx)
theorem Ok.fr {n : Nat} {T : Tb} {r d f : Nat → Nat} (h : Ok n T r d f) {x : Nat} (hx : x < n) : f (r x) = f x := (h.same _ _ (h.top x hx) hx).2 (h.rr x hx)
theorem Ok.size1 {n : Nat} {T : Tb} {r d f : Nat → Nat} (h : Ok n T r d f) {x : Nat} (hx : x < n) : 1 ≤ (T (r x)).size ∧ (T (r x)).size ≤ n := by
  rw [h.size x hx]
  exact ⟨cnt_pos hx (by simp), cnt_le _ _⟩
theorem Ok.two {n : Nat} {T : Tb} {r d f : Nat → Nat} (h : Ok n T r d f) {x y : Nat} (hx : x < n) (hy : y < n) (hne : f x ≠ f y) : (T (r x)).size + (T (r y)).size ≤ n := by
  rw [h.size x hx, h.size y hy, ← cnt_two (p := fun z => f z == f x || f z == f y) (fun z _ => ⟨rfl, fun ⟨h1, h2⟩ => by simp at h1 h2; exact hne (h1.symm.trans h2)⟩)]
  exact cnt_le _ _

theorem pickF {a b p q : Nat} (ne : p ≠ q) : ((if a = max p q then min p q else a) = (if b = max p q then min p q else b)) ↔ (a = b ∨ ((a = p ∨ a = q) ∧ (b = p ∨ b = q))) := by
  rcases Nat.le_total p q with h | h
  · rw [Nat.max_eq_right h, Nat.min_eq_left h]; split <;> split <;> omega
  · rw [Nat.max_eq_left h, Nat.min_eq_right h]; split <;> split <;> omega

theorem pickR {a b o u : Nat} : ((if a = u then o else a) = (if b = u then o else b)) ↔ (a = b ∨ ((a = o ∨ a = u) ∧ (b = o ∨ b = u))) := by
  split <;> split <;> omega

theorem Ok.hang {n : Nat} {T : Tb} {r d f : Nat → Nat} (h : Ok n T r d f) {o u : Nat} (ho : o < n) (hu : u < n) (to : (T o).up = o) (tu : (T u).up = u) (ne : o ≠ u) :
    ∃ r' d', Ok n (hangT T o u) r' d' (jn f o u) := by
  have ro : r o = o := (h.self o ho).1 to
  have ru : r u = u := (h.self u hu).1 tu
  have dob := h.d0 o ho to
  have dub := h.d0 u hu tu
  have fne : f o ≠ f u := fun e => ne (by have := (h.same o u ho hu).1 e; omega)
  have fo : ∀ x, x < n → (f x = f o ↔ r x = o) := fun x hx => by rw [h.same x o hx ho, ro]
  have fu : ∀ x, x < n → (f x = f u ↔ r x = u) := fun x hx => by rw [h.same x u hx hu, ru]
  have so := h.size o ho
  have su := h.size u hu
  rw [ro] at so
  rw [ru] at su
  have lo := h.least o ho
  have lu := h.least u hu
  rw [ro] at lo
  rw [ru] at lu
  have up' : ∀ x, (hangT T o u x).up = if x = u then o else (T x).up := fun x => by
    by_cases e : x = u
    · subst e; rw [hang_u ne]; simp
    · by_cases e2 : x = o
      · subst e2; rw [hang_o]; simp [e]
      · rw [hang_ne e2 e]; simp [e]
  refine ⟨fun x => if r x = u then o else r x, fun x => if r x = u then d x + 1 else d x, ?_⟩
  constructor
  · intro x hx
    try simp only []
    split
    · exact ho
    · exact h.top x hx
  · intro x hx
    rw [up']
    split
    · exact ho
    · exact h.upn x hx
  · intro x hx
    rw [up']
    by_cases e : x = u
    · subst e; simp [ro, ru, ne]
    · simp only [e, if_false]
      rw [h.upr x hx]
  · intro x hx
    by_cases e : r x = u
    · simp [e, ro, ne]
    · simp [e, h.rr x hx]
  · intro x hx
    rw [up']
    by_cases e : x = u
    · subst e; simp [ru]
    · simp only [e, if_false]
      by_cases e2 : r x = u
      · simp only [e2, if_true]
        rw [h.self x hx, e2]
        constructor
        · intro k; exact absurd k.symm e
        · intro k; exact absurd (k ▸ e2) (by rw [ro]; exact ne)
      · simp only [e2, if_false]
        exact h.self x hx
  · intro x hx
    rw [up']
    by_cases e : x = u
    · subst e; simp [ne]
    · simp only [e, if_false]
      intro k
      have := (h.self x hx).1 k
      rw [if_neg (by omega)]
      exact h.d0 x hx k
  · intro x hx
    rw [up']
    by_cases e : x = u
    · subst e
      simp [ro, ru, ne, dob, dub]
    · simp only [e, if_false]
      intro k
      rw [h.upr x hx, h.ds x hx k]
      split <;> rfl
  · intro x hx
    try simp only []
    have base : ∀ y, y < n → (r y = o ∨ r y = u) → jn f o u y = min (f o) (f u) := fun y hy hr => by
      unfold jn
      rcases hr with hr | hr
      · have := (fo y hy).2 hr; split <;> omega
      · have := (fu y hy).2 hr; split <;> omega
    have other : ∀ y, y < n → ¬ (r y = o ∨ r y = u) → jn f o u y = f y := fun y hy hr => by
      unfold jn
      have h1 : f y ≠ f o := fun e => hr (Or.inl ((fo y hy).1 e))
      have h2 : f y ≠ f u := fun e => hr (Or.inr ((fu y hy).1 e))
      rw [if_neg (by omega)]
    by_cases e : r x = o ∨ r x = u
    · rw [show (if r x = u then o else r x) = o by split; rfl; omega, hang_o]
      simp only []
      rw [so, su, base x hx e]
      refine (cnt_two (fun y hy => ?_)).symm
      by_cases ey : r y = o ∨ r y = u
      · rw [base y hy ey]
        refine ⟨?_, fun ⟨k1, k2⟩ => by simp at k1 k2; exact fne (k1.symm.trans k2)⟩
        rcases ey with k | k
        · simp [(fo y hy).2 k]
        · simp [(fu y hy).2 k]
      · rw [other y hy ey]
        have h1 : f y ≠ f o := fun e => ey (Or.inl ((fo y hy).1 e))
        have h2 : f y ≠ f u := fun e => ey (Or.inr ((fu y hy).1 e))
        refine ⟨?_, fun ⟨k1, _⟩ => by simp at k1; exact h1 k1⟩
        have h3 : f y ≠ min (f o) (f u) := by omega
        rw [beq_false_of_ne h1, beq_false_of_ne h2, beq_false_of_ne h3]
        rfl
    · rw [show (if r x = u then o else r x) = r x by split; omega; rfl, hang_ne (fun k => e (Or.inl k)) (fun k => e (Or.inr k)), h.size x hx, other x hx e]
      refine cnt_congr (fun y hy => ?_)
      by_cases ey : r y = o ∨ r y = u
      · rw [base y hy ey]
        have h1 : f x ≠ f o := fun k => e (Or.inl ((fo x hx).1 k))
        have h2 : f x ≠ f u := fun k => e (Or.inr ((fu x hx).1 k))
        have h3 : f y ≠ f x := by
          rcases ey with k | k
          · have := (fo y hy).2 k; omega
          · have := (fu y hy).2 k; omega
        have h4 : min (f o) (f u) ≠ f x := by omega
        rw [beq_false_of_ne h3, beq_false_of_ne h4]
      · rw [other y hy ey]
  · intro x hx
    try simp only []
    by_cases e : r x = o ∨ r x = u
    · rw [show (if r x = u then o else r x) = o by split; rfl; omega, hang_o]
      simp only []
      rw [lo, lu]
      unfold jn
      rcases e with k | k
      · have := (fo x hx).2 k; split <;> omega
      · have := (fu x hx).2 k; split <;> omega
    · rw [show (if r x = u then o else r x) = r x by split; omega; rfl, hang_ne (fun k => e (Or.inl k)) (fun k => e (Or.inr k)), h.least x hx]
      unfold jn
      have h1 : f x ≠ f o := fun k => e (Or.inl ((fo x hx).1 k))
      have h2 : f x ≠ f u := fun k => e (Or.inr ((fu x hx).1 k))
      rw [if_neg (by omega)]
  · intro x y hx hy
    unfold jn
    rw [pickF fne, pickR, fo x hx, fu x hx, fo y hy, fu y hy, h.same x y hx hy]
  · intro x hx
    have := h.fle x hx
    unfold jn
    split <;> omega
  · intro x hx
    have k1 := h.ff o ho
    have k2 := h.ff u hu
    have k3 := h.ff x hx
    unfold jn
    by_cases e : f x = max (f o) (f u)
    · rw [if_pos e]
      rcases Nat.le_total (f o) (f u) with k | k
      · rw [Nat.min_eq_left k, if_neg (by omega)]; exact k1
      · rw [Nat.min_eq_right k, if_neg (by omega)]; exact k2
    · rw [if_neg e, if_neg (by omega)]
      exact k3

/-- How many groups. -/
def fix (n : Nat) (f : Nat → Nat) : Nat := cnt (fun x => f x == x) n

theorem fix_jn {n : Nat} {T : Tb} {r d f : Nat → Nat} (h : Ok n T r d f) {o u : Nat} (ho : o < n) (hu : u < n) (fne : f o ≠ f u) : fix n f = fix n (jn f o u) + 1 := by
  have l1 := h.fle o ho
  have l2 := h.fle u hu
  have k1 := h.ff o ho
  have k2 := h.ff u hu
  have kM : f (max (f o) (f u)) = max (f o) (f u) := by
    rcases Nat.le_total (f o) (f u) with k | k
    · rw [Nat.max_eq_right k]; exact k2
    · rw [Nat.max_eq_left k]; exact k1
  have km : f (min (f o) (f u)) = min (f o) (f u) := by
    rcases Nat.le_total (f o) (f u) with k | k
    · rw [Nat.min_eq_left k]; exact k1
    · rw [Nat.min_eq_right k]; exact k2
  rw [← cnt_one (i := max (f o) (f u)) (n := n) (by omega)]
  unfold fix
  refine cnt_two (fun x hx => ?_)
  have h3 := h.ff x hx
  by_cases e : x = max (f o) (f u)
  · have h1 : f x = x := by rw [e]; exact kM
    have h2 : jn f o u x ≠ x := by unfold jn; rw [h1, if_pos e]; omega
    constructor
    · simp [h1, ← e]
    · rintro ⟨k, _⟩; simp at k; exact h2 k
  · have h2 : (jn f o u x = x) ↔ (f x = x) := by
      unfold jn
      by_cases e2 : f x = max (f o) (f u)
      · rw [if_pos e2]
        constructor
        · intro k; rw [← k, km] at e2; omega
        · intro k; omega
      · rw [if_neg e2]
    constructor
    · rw [Bool.eq_iff_iff]; simp [h2, e]
    · rintro ⟨_, k⟩; simp at k; exact e k

/-- All that was, the newest first. -/
inductive Hi (n : Nat) : Tb → List (Nat × Nat) → List (Nat → Nat) → Prop
  | new : Hi n alone [] [fun x => x]
  | join {T : Tb} {js : List (Nat × Nat)} {f : Nat → Nat} {fs : List (Nat → Nat)} (o u : Nat) (h : Hi n T js (f :: fs)) (ho : o < n) (hu : u < n) (to : (T o).up = o) (tu : (T u).up = u) (ne : o ≠ u) :
      Hi n (hangT T o u) (js ++ [(u, (T o).least)]) (jn f o u :: f :: fs)

theorem Hi.ok {n : Nat} {T : Tb} {js : List (Nat × Nat)} {hs : List (Nat → Nat)} (h : Hi n T js hs) : ∃ f fs r d, hs = f :: fs ∧ Ok n T r d f ∧ fix n f + js.length = n ∧ fs.length = js.length := by
  induction h with
  | new => exact ⟨_, _, _, _, rfl, Ok.new n, by unfold fix; rw [cnt_all (fun x _ => by simp)]; rfl, rfl⟩
  | join o u h ho hu to tu ne ih =>
    obtain ⟨f, fs, r, d, e, h1, h2, h3⟩ := ih
    obtain ⟨rfl, rfl⟩ : _ = f ∧ _ = fs := by simpa using e
    obtain ⟨r', d', h4⟩ := h1.hang ho hu to tu ne
    have fne : ¬ _ = _ := fun e => ne (by have := (h1.same o u ho hu).1 e; rw [(h1.self o ho).1 to, (h1.self u hu).1 tu] at this; exact this)
    have := fix_jn h1 ho hu fne
    exact ⟨_, _, r', d', rfl, h4, by simp; omega, by simp; omega⟩

/-- A join undone. -/
def undoT (T : Tb) (u l : Nat) : Tb := upd (upd T (T u).up ⟨(T (T u).up).up, (T (T u).up).size - (T u).size, l⟩) u ⟨u, (T u).size, (T u).least⟩

/-- Labels: each one's class's least. -/
structure Lab (f : Nat → Nat) : Prop where
  le : ∀ x, f x ≤ x
  ff : ∀ x, f (f x) = f x

theorem Lab.start : Lab (fun x => x) := ⟨fun _ => Nat.le_refl _, fun _ => rfl⟩

theorem jn_same {f : Nat → Nat} {a b : Nat} (h : f a = f b) : jn f a b = f := by
  funext x
  unfold jn
  rw [h, Nat.max_self, Nat.min_self]
  split <;> omega

theorem jn_iff (f : Nat → Nat) (a b x y : Nat) : jn f a b x = jn f a b y ↔ f x = f y ∨ ((f x = f a ∨ f x = f b) ∧ (f y = f a ∨ f y = f b)) := by
  by_cases h : f a = f b
  · rw [jn_same h]
    constructor
    · exact Or.inl
    · rintro (e | ⟨e1, e2⟩)
      · exact e
      · omega
  · unfold jn
    exact pickF h

theorem Lab.jn {f : Nat → Nat} (h : Lab f) (a b : Nat) : Lab (jn f a b) := by
  have hm : f (min (f a) (f b)) = min (f a) (f b) := by
    rcases Nat.le_total (f a) (f b) with k | k
    · rw [Nat.min_eq_left k, h.ff]
    · rw [Nat.min_eq_right k, h.ff]
  refine ⟨fun x => ?_, fun x => ?_⟩
  · have := h.le x
    unfold Go.Proofs.YtboafgimjadboaaGreatDoor.Un.jn
    split
    · omega
    · exact this
  · unfold Go.Proofs.YtboafgimjadboaaGreatDoor.Un.jn
    by_cases e : f x = max (f a) (f b)
    · rw [if_pos e, hm]
      split <;> omega
    · rw [if_neg e, h.ff, if_neg e]

/-- The same classes, the same labels. -/
theorem Lab.same {f g : Nat → Nat} (hf : Lab f) (hg : Lab g) (h : ∀ x y, f x = f y ↔ g x = g y) : f = g := by
  funext x
  have h1 := (h (f x) x).1 (hf.ff x)
  have h2 := (h (g x) x).2 (hg.ff x)
  have h3 := hg.le (f x)
  have h4 := hf.le (g x)
  omega

/-- Two classes made one: one class less. -/
theorem fix_join {n : Nat} {f : Nat → Nat} (h : Lab f) {a b : Nat} (ha : a < n) (hb : b < n) (hne : f a ≠ f b) : fix n f = fix n (jn f a b) + 1 := by
  have hM : max (f a) (f b) < n := by have := h.le a; have := h.le b; omega
  have hMM : f (max (f a) (f b)) = max (f a) (f b) := by
    rcases Nat.le_total (f a) (f b) with k | k
    · rw [Nat.max_eq_right k, h.ff]
    · rw [Nat.max_eq_left k, h.ff]
  unfold fix
  rw [← cnt_one hM]
  refine cnt_two (fun x hx => ?_)
  unfold jn
  by_cases e : x = max (f a) (f b)
  · subst e
    rw [hMM, if_pos rfl]
    refine ⟨by simp, fun ⟨h1, _⟩ => ?_⟩
    simp at h1
    omega
  · by_cases e2 : f x = max (f a) (f b)
    · rw [if_pos e2]
      have h1 : f x ≠ x := fun e3 => e (by omega)
      have h2 : min (f a) (f b) ≠ x := fun e3 => by
        have h3 := h.le x
        omega
      refine ⟨?_, fun ⟨h3, h4⟩ => e (by simpa using h4)⟩
      have q1 : (f x == x) = false := by simpa using h1
      have q2 : (min (f a) (f b) == x) = false := by simpa using h2
      have q3 : (x == max (f a) (f b)) = false := by simpa using e
      rw [q1, q2, q3]; rfl
    · rw [if_neg e2]
      simp [e]

section
variable (A B : Nat → Nat)

/-- Labels behind some edges' joins. -/
def jl (f : Nat → Nat) : List Nat → Nat → Nat
  | [] => f
  | i :: is => jl (jn f (A i) (B i)) is

/-- The edges that join. -/
def kr (f : Nat → Nat) : List Nat → List Nat
  | [] => []
  | i :: is => if f (A i) = f (B i) then kr f is else i :: kr (jn f (A i) (B i)) is

/-- What edges join, whatever their order is. -/
inductive Con (P : Nat → Prop) : Nat → Nat → Prop
  | refl (x) : Con P x x
  | edge (i) (h : P i) : Con P (A i) (B i)
  | symm {x y} : Con P x y → Con P y x
  | trans {x y z} : Con P x y → Con P y z → Con P x z
end

section
variable {A B : Nat → Nat}

theorem Con.mono {P Q : Nat → Prop} (h : ∀ i, P i → Q i) {x y : Nat} (c : Con A B P x y) : Con A B Q x y := by
  induction c with
  | refl x => exact .refl x
  | edge i hi => exact .edge i (h i hi)
  | symm _ ih => exact .symm ih
  | trans _ _ ih1 ih2 => exact .trans ih1 ih2

theorem jl_lab {f : Nat → Nat} (h : Lab f) : ∀ is, Lab (jl A B f is)
  | [] => h
  | i :: is => by unfold jl; exact jl_lab (h.jn _ _) is

theorem jl_append (f : Nat → Nat) : ∀ (a b : List Nat), jl A B f (a ++ b) = jl A B (jl A B f a) b
  | [], b => rfl
  | i :: a, b => by simp only [List.cons_append, jl]; exact jl_append _ a b

theorem jl_mono {f : Nat → Nat} {x y : Nat} (h : f x = f y) : ∀ is, jl A B f is x = jl A B f is y
  | [] => h
  | i :: is => by
    have h2 : jn f (A i) (B i) x = jn f (A i) (B i) y := by unfold jn; rw [h]
    unfold jl
    exact jl_mono h2 is

theorem jl_edge {f : Nat → Nat} {i : Nat} : ∀ is, i ∈ is → jl A B f is (A i) = jl A B f is (B i)
  | [], h => by simp at h
  | k :: is, h => by
    unfold jl
    rcases List.mem_cons.1 h with rfl | h
    · exact jl_mono ((jn_iff _ _ _ _ _).2 (.inr ⟨.inl rfl, .inr rfl⟩)) is
    · exact jl_edge is h

theorem jl_con {P : Nat → Prop} : ∀ (is : List Nat) (f : Nat → Nat), (∀ x y, f x = f y → Con A B P x y) → (∀ i, i ∈ is → P i) → ∀ x y, jl A B f is x = jl A B f is y → Con A B P x y
  | [], f, h, _, x, y, e => h x y e
  | i :: is, f, h, hp, x, y, e => by
    refine jl_con is (jn f (A i) (B i)) (fun x y e => ?_) (fun k hk => hp k (List.mem_cons_of_mem _ hk)) x y e
    have he : Con A B P (A i) (B i) := .edge i (hp i List.mem_cons_self)
    rcases (jn_iff _ _ _ _ _).1 e with e | ⟨e1 | e1, e2 | e2⟩
    · exact h x y e
    · exact (h _ _ e1).trans (h _ _ e2).symm
    · exact (h _ _ e1).trans (he.trans (h _ _ e2).symm)
    · exact (h _ _ e1).trans (he.symm.trans (h _ _ e2).symm)
    · exact (h _ _ e1).trans (h _ _ e2).symm

/-- The labels tell what is joined. -/
theorem lab_iff (is : List Nat) (x y : Nat) : jl A B (fun x => x) is x = jl A B (fun x => x) is y ↔ Con A B (· ∈ is) x y := by
  constructor
  · exact jl_con is _ (fun x y e => by have : x = y := e; subst this; exact .refl x) (fun i h => h) x y
  · intro c
    induction c with
    | refl x => rfl
    | edge i hi => exact jl_edge is hi
    | symm _ ih => exact ih.symm
    | trans _ _ ih1 ih2 => exact ih1.trans ih2

theorem lab_same {is ks : List Nat} (h : ∀ x y, Con A B (· ∈ is) x y ↔ Con A B (· ∈ ks) x y) : jl A B (fun x => x) is = jl A B (fun x => x) ks :=
  (jl_lab Lab.start is).same (jl_lab Lab.start ks) (fun x y => by rw [lab_iff, lab_iff]; exact h x y)

theorem lab_mem {is ks : List Nat} (h : ∀ i, i ∈ is ↔ i ∈ ks) : jl A B (fun x => x) is = jl A B (fun x => x) ks :=
  lab_same (fun x y => ⟨Con.mono (fun i hi => (h i).1 hi), Con.mono (fun i hi => (h i).2 hi)⟩)

theorem fix_start (n : Nat) : fix n (fun x => x) = n := by unfold fix; exact cnt_all (fun x _ => by simp)


end
end Go.Proofs.YtboafgimjadboaaGreatDoor.Un

namespace Go.Proofs.YtboafgimjadboaaGreatDoor
set_option linter.unusedVariables false

open Pq (swp swp_s swp_t swp_o Of1 cn)

/-- A number left out: it stays where it is. -/
def rmv (n : Nat) (f : Nat → Nat) (s : Nat) : Nat → Nat := swp f s (Pq.inv n f s)

section
variable {n : Nat} {f : Nat → Nat} (h : Pq.Pm n f) {s : Nat} (hs : s < n)
include h hs

theorem rmv_at : ∀ x, x < n → rmv n f s x = if x = s then s else if f x = s then f s else f x := fun x hx => by
  obtain ⟨e1, e2⟩ := h.at_inv hs
  unfold rmv
  by_cases h1 : x = s
  · subst h1
    rw [if_pos rfl, swp_s, e1]
  · rw [if_neg h1]
    by_cases h2 : f x = s
    · have : x = Pq.inv n f s := h.2 _ _ hx e2 (h2.trans e1.symm)
      rw [if_pos h2, this, swp_t]
    · rw [if_neg h2, swp_o h1 (fun q => h2 (by rw [q]; exact e1))]

theorem rmv_pm : Pq.Pm n (rmv n f s) := h.swp hs (h.at_inv hs).2

theorem rmv_cn : cn n (rmv n f s) + (if f s = s then 1 else 0) = cn n f + 1 := by
  obtain ⟨e1, e2⟩ := h.at_inv hs
  by_cases hf : f s = s
  · rw [if_pos hf]
    have : Pq.inv n f s = s := h.2 _ _ e2 hs (e1.trans hf.symm)
    have e : rmv n f s = f := by
      unfold rmv
      rw [this]
      funext x
      by_cases hx : x = s
      · subst hx; rw [swp_s]
      · rw [swp_o hx hx]
    rw [e]
  · rw [if_neg hf]
    have hne : s ≠ Pq.inv n f s := fun q => hf (by rw [← q] at e1; exact e1)
    exact h.cn_part hs e2 hne (h.sym e2 ⟨1, e1⟩)
end

/-- A dart taken out: round the vertices. -/
theorem vx_out {V E : Nat} {R : Nat → List Nat} (ht : Tn V E R) {d : Nat} (hd : In V R d) (x : Nat) : vx V (outR R d) x = if x = d then d else if vx V R x = d then vx V R d else vx V R x := by
  have tn := ht.out d
  obtain ⟨v, hv, hm⟩ := hd
  by_cases h1 : x = d
  · subst h1
    rw [if_pos rfl, vx_no (fun q => ((In.out ht).1 q).2 rfl)]
  · rw [if_neg h1]
    by_cases hx : In V R x
    · obtain ⟨u, hu, hxu⟩ := hx
      have hxo : x ∈ outR R d u := (del_mem (ht.nd u hu)).2 ⟨hxu, h1⟩
      rw [vx_at tn hu hxo, vx_at ht hu hxu, vx_at ht hv hm]
      show nx ((R u).erase d) x = _
      by_cases huv : u = v
      · subst huv
        exact nx_del (ht.nd u hu) hm hxu h1
      · have hnd : d ∉ R u := fun q => huv (ht.one u v d hu hv q hm)
        rw [List.erase_of_not_mem hnd]
        have : nx (R u) x ≠ d := fun q => hnd (q ▸ nx_mem hxu)
        rw [if_neg this]
    · have hxo : ¬ In V (outR R d) x := fun q => hx ((In.out ht).1 q).1
      rw [vx_no hxo, vx_no hx, if_neg h1]

theorem nx_self {l : List Nat} {x : Nat} (hn : l.Nodup) (hx : x ∈ l) : nx l x = x ↔ l = [x] := by
  obtain ⟨A, B, rfl, hA, _⟩ := rot_as hx
  rw [nx_split hA]
  have hB := (nd_split hn).2
  constructor
  · intro h
    cases hc : B ++ A with
    | nil =>
      obtain ⟨rfl, rfl⟩ := List.append_eq_nil_iff.1 hc
      rfl
    | cons y l =>
      rw [hc] at h
      simp at h
      subst h
      have : y ∈ B ++ A := by rw [hc]; simp
      rcases List.mem_append.1 this with q | q
      · exact absurd q hB
      · exact absurd q hA
  · intro h
    have hl := congrArg List.length h
    simp at hl
    have ea : A = [] := List.eq_nil_of_length_eq_zero (by omega)
    have eb : B = [] := List.eq_nil_of_length_eq_zero (by omega)
    rw [ea, eb]
    rfl

theorem iso_out {V E : Nat} {R : Nat → List Nat} (ht : Tn V E R) {d : Nat} (hd : In V R d) : iso (outR R d) V = iso R V + (if vx V R d = d then 1 else 0) := by
  obtain ⟨v, hv, hm⟩ := hd
  rw [vx_at ht hv hm]
  have ho : ∀ x, x < V → x ≠ v → (outR R d x).isEmpty = (R x).isEmpty := fun x hx hne => by
    show ((R x).erase d).isEmpty = _
    rw [List.erase_of_not_mem (fun q => hne (ht.one x v d hx hv q hm))]
  have hne : (R v).isEmpty = false := by
    cases hr : R v with
    | nil => rw [hr] at hm; cases hm
    | cons y l => rfl
  by_cases h1 : nx (R v) d = d
  · rw [if_pos h1]
    have hr := (nx_self (ht.nd v hv) hm).1 h1
    have he : (outR R d v).isEmpty = true := by
      show ((R v).erase d).isEmpty = true
      rw [hr]
      simp
    unfold iso
    exact Pq.count_one (m := v) hv he hne (fun x hx hxv => ho x hx hxv)
  · rw [if_neg h1]
    refine iso_congr (fun x hx => ?_)
    by_cases hxv : x = v
    · subst hxv
      rw [hne]
      cases hr : outR R d x with
      | cons y l => rfl
      | nil =>
        exfalso
        apply h1
        refine (nx_self (ht.nd x hv) hm).2 ?_
        have hl := List.length_erase_of_mem hm
        have : ((R x).erase d).length = 0 := by
          show (outR R d x).length = 0
          rw [hr]; rfl
        have hp := List.length_pos_of_mem hm
        obtain ⟨y, hy⟩ := List.length_eq_one_iff.1 (show (R x).length = 1 by omega)
        rw [hy] at hm ⊢
        simp at hm
        rw [hm]
    · exact ho x hx hxv

section
variable {V E e : Nat} {R : Nat → List Nat}

/-- Round the faces, an edge lifted. -/
theorem fx_lift (h : Tn V E R) (t : Tw V E R) (he : e < E) (hi : In V R (2 * e)) : ∀ x, x < 2 * E → fx V (liftR R e) x = rmv (2 * E) (rmv (2 * E) (swp (fx V R) (2 * e) (2 * e + 1)) (2 * e)) (2 * e + 1) x := by
  intro x hx
  have hj := (t e he).1 hi
  have pm := fx_pm h t
  have lp : 2 * e < 2 * E := by omega
  have lq : 2 * e + 1 < 2 * E := by omega
  have hg := pm.swp lp lq
  have hg1 := rmv_pm hg lp
  have ht1 := h.out (2 * e)
  have hj1 : In V (outR R (2 * e)) (2 * e + 1) := (In.out h).2 ⟨hj, by omega⟩
  have fp : fx V R (2 * e) = vx V R (2 * e + 1) := by rw [fx_yes hi, tw_even]
  have fq : fx V R (2 * e + 1) = vx V R (2 * e) := by rw [fx_yes hj, tw_odd]
  have hin := (h.lift t (e := e)).2.2
  have v1 := vx_out h hi
  have v2 := vx_out ht1 hj1
  rw [rmv_at hg1 lq x hx]
  by_cases hxq : x = 2 * e + 1
  · rw [if_pos hxq, hxq, fx_no (fun q => ((hin _).1 q).2.2 rfl)]
  · rw [if_neg hxq, rmv_at hg lp x hx]
    by_cases hxp : x = 2 * e
    · rw [if_pos hxp, if_neg (show ¬ (2 * e = 2 * e + 1) by omega), hxp, fx_no (fun q => ((hin _).1 q).2.1 rfl)]
    · rw [if_neg hxp, rmv_at hg lp _ lq, if_neg (show ¬ (2 * e + 1 = 2 * e) by omega), swp_s, swp_t, swp_o hxp hxq]
      by_cases hxi : In V R x
      · have hx0 : In V (liftR R e) x := (hin x).2 ⟨hxi, hxp, hxq⟩
        have tp : tw x ≠ 2 * e := fun q => hxq (by rw [← tw_tw x, q, tw_even])
        have tq : tw x ≠ 2 * e + 1 := fun q => hxp (by rw [← tw_tw x, q, tw_odd])
        rw [fx_yes hx0, fx_yes hxi, fp, fq]
        show vx V (outR (outR R (2 * e)) (2 * e + 1)) (tw x) = _
        rw [v2, if_neg tq, v1 (tw x), if_neg tp, v1 (2 * e + 1), if_neg (show ¬ (2 * e + 1 = 2 * e) by omega)]
      · have hx0 : ¬ In V (liftR R e) x := fun q => hxi ((hin x).1 q).1
        rw [fx_no hx0, fx_no hxi, if_neg hxp, if_neg hxq]

theorem cn_congr {n : Nat} {f g : Nat → Nat} (hf : Pq.Pm n f) (h : ∀ x, x < n → f x = g x) : cn n f = cn n g := by
  classical
  have hit : ∀ k x, x < n → Pq.it f k x = Pq.it g k x := fun k => by
    induction k with
    | zero => intro x _; rfl
    | succ k ih =>
      intro x hx
      show f (Pq.it f k x) = g (Pq.it g k x)
      rw [← ih x hx]
      exact h _ (hf.it_lt hx k)
  unfold cn
  refine List.countP_congr (fun x hx => ?_)
  have hx := List.mem_range.1 hx
  simp only [decide_eq_true_eq]
  unfold Pq.lst
  constructor
  · intro q k; rw [← hit k x hx]; exact q k
  · intro q k; rw [hit k x hx]; exact q k

theorem und_lift (h : Tn V E R) (t : Tw V E R) (he : e < E) (hi : In V R (2 * e)) : und V E (liftR R e) = und V E R + 2 := by
  classical
  have hin := (h.lift t (e := e)).2.2
  have hj := (t e he).1 hi
  have s1 : (List.range (2 * E)).countP (fun x => decide (¬ (In V R x ∧ x ≠ 2 * e))) = (List.range (2 * E)).countP (fun x => decide (¬ In V R x)) + 1 := by
    refine Pq.count_one (m := 2 * e) (by omega) (decide_eq_true (fun q => q.2 rfl)) (decide_eq_false (fun q => q hi)) (fun x hx hne => ?_)
    simp [hne]
  have s2 : (List.range (2 * E)).countP (fun x => decide (¬ In V (liftR R e) x)) = (List.range (2 * E)).countP (fun x => decide (¬ (In V R x ∧ x ≠ 2 * e))) + 1 := by
    refine Pq.count_one (m := 2 * e + 1) (by omega) (decide_eq_true (fun q => ((hin _).1 q).2.2 rfl)) (decide_eq_false (fun q => q ⟨hj, by omega⟩)) (fun x hx hne => ?_)
    have : In V (liftR R e) x ↔ (In V R x ∧ x ≠ 2 * e) := by
      rw [hin]
      exact ⟨fun q => ⟨q.1, q.2.1⟩, fun q => ⟨q.1, q.2, hne⟩⟩
    simp only [this]
  unfold und
  omega

/-- An edge that is lifted: its darts of one face: one face more; of two: one less. -/
theorem lift_count (h : Tn V E R) (t : Tw V E R) (he : e < E) (hi : In V R (2 * e)) :
    (Of1 (fx V R) (2 * e) (2 * e + 1) → (fcs V (liftR R e) (2 * E)).length + iso (liftR R e) V = (fcs V R (2 * E)).length + iso R V + 1) ∧ (¬ Of1 (fx V R) (2 * e) (2 * e + 1) → (fcs V (liftR R e) (2 * E)).length + iso (liftR R e) V + 1 = (fcs V R (2 * E)).length + iso R V) := by
  have hj := (t e he).1 hi
  have pm := fx_pm h t
  have lp : 2 * e < 2 * E := by omega
  have lq : 2 * e + 1 < 2 * E := by omega
  have hg := pm.swp lp lq
  have hg1 := rmv_pm hg lp
  have ht1 := h.out (2 * e)
  have hj1 : In V (outR R (2 * e)) (2 * e + 1) := (In.out h).2 ⟨hj, by omega⟩
  have fp : fx V R (2 * e) = vx V R (2 * e + 1) := by rw [fx_yes hi, tw_even]
  have fq : fx V R (2 * e + 1) = vx V R (2 * e) := by rw [fx_yes hj, tw_odd]
  have hl := h.lift t (e := e)
  have c1 := faces_cn V E R
  have c2 := faces_cn V E (liftR R e)
  have c3 := und_lift h t he hi
  have c4 := cn_congr (fx_pm hl.1 hl.2.1) (fx_lift h t he hi)
  have r1 := rmv_cn hg lp
  have r2 := rmv_cn hg1 lq
  have i1 := iso_out h hi
  have i2 := iso_out ht1 hj1
  have g1 : swp (fx V R) (2 * e) (2 * e + 1) (2 * e) = vx V R (2 * e) := by rw [swp_s, fq]
  have g2 : rmv (2 * E) (swp (fx V R) (2 * e) (2 * e + 1)) (2 * e) (2 * e + 1) = vx V (outR R (2 * e)) (2 * e + 1) := by
    rw [rmv_at hg lp _ lq, if_neg (show ¬ (2 * e + 1 = 2 * e) by omega), swp_t, swp_s, vx_out h hi, if_neg (show ¬ (2 * e + 1 = 2 * e) by omega), fp, fq]
  rw [g1] at r1
  rw [g2] at r2
  have i3 : iso (liftR R e) V = iso (outR (outR R (2 * e)) (2 * e + 1)) V := rfl
  constructor
  · intro ho
    have k := pm.cn_part lp lq (by omega) ho
    omega
  · intro ho
    have k := pm.cn_join lp lq ho
    omega
end
end Go.Proofs.YtboafgimjadboaaGreatDoor

namespace Go.Proofs.YtboafgimjadboaaGreatDoor
set_option linter.unusedVariables false

open Pq (Of1)

/-- Where an edge's darts stand. -/
noncomputable def EA (V : Nat) (R : Nat → List Nat) (e : Nat) : Nat := og V R (2 * e)
noncomputable def EB (V : Nat) (R : Nat → List Nat) (e : Nat) : Nat := og V R (2 * e + 1)

open Classical in
/-- The edges that are laid. -/
noncomputable def es (V : Nat) (R : Nat → List Nat) (E : Nat) : List Nat := (List.range E).filter (fun e => decide (In V R (2 * e)))

theorem mem_es {V E e : Nat} {R : Nat → List Nat} : e ∈ es V R E ↔ e < E ∧ In V R (2 * e) := by
  classical
  unfold es
  simp

/-- Each vertex's component's least one. -/
noncomputable def lb (V E : Nat) (R : Nat → List Nat) : Nat → Nat := Un.jl (EA V R) (EB V R) (fun x => x) (es V R E)
/-- How many components. -/
noncomputable def cc (V E : Nat) (R : Nat → List Nat) : Nat := Un.fix V (lb V E R)

theorem lb_lab (V E : Nat) (R : Nat → List Nat) : Un.Lab (lb V E R) := Un.jl_lab Un.Lab.start _
theorem lb_con {V E x y : Nat} {R : Nat → List Nat} : lb V E R x = lb V E R y ↔ Un.Con (EA V R) (EB V R) (· ∈ es V R E) x y := Un.lab_iff _ _ _

theorem jl_congr {A B A' B' : Nat → Nat} : ∀ (is : List Nat) (f : Nat → Nat), (∀ i, i ∈ is → A i = A' i ∧ B i = B' i) → Un.jl A B f is = Un.jl A' B' f is
  | [], f, _ => rfl
  | i :: is, f, h => by
    unfold Un.jl
    rw [(h i List.mem_cons_self).1, (h i List.mem_cons_self).2]
    exact jl_congr is _ (fun k hk => h k (List.mem_cons_of_mem _ hk))

section
variable {V E : Nat} {R : Nat → List Nat}

/-- A dart and its twin stand in one component. -/
theorem con_tw (h : Tn V E R) (t : Tw V E R) {z : Nat} (hz : In V R z) : lb V E R (og V R z) = lb V E R (og V R (tw z)) := by
  have hl := hz.low h
  have hz' := hz.tw h t
  rw [lb_con]
  by_cases he : z % 2 = 0
  · have e1 : tw z = z + 1 := by unfold tw; rw [if_pos he]
    have e2 : z = 2 * (z / 2) := by omega
    have := Un.Con.edge (A := EA V R) (B := EB V R) (P := (· ∈ es V R E)) (z / 2) (mem_es.2 ⟨by omega, by rw [← e2]; exact hz⟩)
    unfold EA EB at this
    rw [← e2] at this
    rw [e1]
    exact this
  · have e1 : tw z = z - 1 := by unfold tw; rw [if_neg he]
    have e2 : z - 1 = 2 * (z / 2) := by omega
    have e3 : z = 2 * (z / 2) + 1 := by omega
    have := Un.Con.edge (A := EA V R) (B := EB V R) (P := (· ∈ es V R E)) (z / 2) (mem_es.2 ⟨by omega, by rw [← e2, ← e1]; exact hz'⟩)
    unfold EA EB at this
    rw [← e2, show z - 1 + 1 = z by omega] at this
    rw [e1]
    exact this.symm

theorem og_fx (h : Tn V E R) (t : Tw V E R) {z : Nat} (hz : In V R z) : og V R (fx V R z) = og V R (tw z) := by
  rw [fx_yes hz]
  exact vx_og h (hz.tw h t)

section
variable {e : Nat}

theorem og_lift (h : Tn V E R) {d : Nat} (hd : In V (liftR R e) d) : og V (liftR R e) d = og V R d := by
  obtain ⟨h1, h2⟩ := og_is hd
  have hm : d ∈ R (og V (liftR R e) d) := List.mem_of_mem_erase (List.mem_of_mem_erase h2)
  exact (og_at h h1 hm).symm

theorem lb_lift (h : Tn V E R) (t : Tw V E R) (he : e < E) (hi : In V R (2 * e)) : lb V E R = Un.jn (lb V E (liftR R e)) (og V R (2 * e)) (og V R (2 * e + 1)) := by
  have hl := h.lift t (e := e)
  have hin := hl.2.2
  have e1 : lb V E R = Un.jl (EA V R) (EB V R) (fun x => x) (es V (liftR R e) E ++ [e]) := by
    unfold lb
    refine Un.lab_mem (fun i => ?_)
    rw [List.mem_append, List.mem_singleton, mem_es, mem_es, hin]
    constructor
    · rintro ⟨q1, q2⟩
      by_cases q : i = e
      · exact .inr q
      · exact .inl ⟨q1, q2, by omega, by omega⟩
    · rintro (⟨q1, q2, _, _⟩ | q)
      · exact ⟨q1, q2⟩
      · subst q; exact ⟨he, hi⟩
  rw [e1, Un.jl_append]
  show Un.jn (Un.jl (EA V R) (EB V R) (fun x => x) (es V (liftR R e) E)) (EA V R e) (EB V R e) = _
  have e2 : Un.jl (EA V R) (EB V R) (fun x => x) (es V (liftR R e) E) = lb V E (liftR R e) := by
    unfold lb
    refine jl_congr _ _ (fun i hm => ?_)
    obtain ⟨q1, q2⟩ := mem_es.1 hm
    have q3 := (hl.2.1 i q1).1 q2
    exact ⟨(og_lift h q2).symm, (og_lift h q3).symm⟩
  rw [e2]
  rfl

/-- An edge that alone joins has one face at both sides. -/
theorem bridge (h : Tn V E R) (t : Tw V E R) (he : e < E) (hi : In V R (2 * e)) (hno : ¬ Of1 (fx V R) (2 * e) (2 * e + 1)) : lb V E (liftR R e) (og V R (2 * e)) = lb V E (liftR R e) (og V R (2 * e + 1)) := by
  have hl := h.lift t (e := e)
  have hin := hl.2.2
  have hj := (t e he).1 hi
  have pm := fx_pm h t
  have lp : 2 * e < 2 * E := by omega
  obtain ⟨hp, _⟩ := pm.per_is lp
  have main : ∀ k, 1 ≤ k → k ≤ Pq.per (fx V R) (2 * e) → lb V E (liftR R e) (og V R (2 * e + 1)) = lb V E (liftR R e) (og V R (Pq.it (fx V R) k (2 * e))) := fun k => by
    induction k with
    | zero => intro q; omega
    | succ k ih =>
      intro _ q2
      have hz := (it_in h t (d := 2 * e) k).2 hi
      show _ = lb V E (liftR R e) (og V R (fx V R (Pq.it (fx V R) k (2 * e))))
      rw [og_fx h t hz]
      by_cases hk : k = 0
      · subst hk
        show _ = lb V E (liftR R e) (og V R (tw (2 * e)))
        rw [tw_even]
      · rw [ih (by omega) (by omega)]
        have hzp : Pq.it (fx V R) k (2 * e) ≠ 2 * e := hp.least k (by omega) (by omega)
        have hzq : Pq.it (fx V R) k (2 * e) ≠ 2 * e + 1 := fun q => hno ⟨k, q⟩
        have hz0 : In V (liftR R e) (Pq.it (fx V R) k (2 * e)) := (hin _).2 ⟨hz, hzp, hzq⟩
        have := con_tw hl.1 hl.2.1 hz0
        rw [og_lift h hz0, og_lift h (hz0.tw hl.1 hl.2.1)] at this
        exact this
  have := main (Pq.per (fx V R) (2 * e)) hp.pos (Nat.le_refl _)
  rw [hp.at_] at this
  exact this.symm

/-- How many edges. -/
theorem es_lift (h : Tn V E R) (t : Tw V E R) (he : e < E) (hi : In V R (2 * e)) : (es V R E).length = (es V (liftR R e) E).length + 1 := by
  classical
  have hin := (h.lift t (e := e)).2.2
  unfold es
  rw [← List.countP_eq_length_filter, ← List.countP_eq_length_filter]
  refine Pq.count_one (m := e) he (decide_eq_true hi) (decide_eq_false (fun q => ((hin _).1 q).2.1 rfl)) (fun x hx hne => ?_)
  have : In V (liftR R e) (2 * x) ↔ In V R (2 * x) := by
    rw [hin]
    exact ⟨fun q => q.1, fun q => ⟨q, by omega, by omega⟩⟩
  simp only [this]
end

/-- Euler's number, less twice the components. -/
noncomputable def Xi (V E : Nat) (R : Nat → List Nat) : Int := (V : Int) - (es V R E).length + (fcs V R (2 * E)).length + iso R V - 2 * (cc V E R : Int)

theorem xi_lift {e : Nat} (h : Tn V E R) (t : Tw V E R) (he : e < E) (hi : In V R (2 * e)) :
    ((Of1 (fx V R) (2 * e) (2 * e + 1) ∧ lb V E (liftR R e) (og V R (2 * e)) = lb V E (liftR R e) (og V R (2 * e + 1))) → Xi V E R = Xi V E (liftR R e) - 2) ∧ (¬ (Of1 (fx V R) (2 * e) (2 * e + 1) ∧ lb V E (liftR R e) (og V R (2 * e)) = lb V E (liftR R e) (og V R (2 * e + 1))) → Xi V E R = Xi V E (liftR R e)) := by
  have hj := (t e he).1 hi
  have c1 := lift_count h t he hi
  have c2 := es_lift h t he hi
  have c3 := lb_lift h t he hi
  have b1 := bridge h t he hi
  have hu := (og_is hi).1
  have hv := (og_is hj).1
  unfold Xi cc
  by_cases hl : lb V E (liftR R e) (og V R (2 * e)) = lb V E (liftR R e) (og V R (2 * e + 1))
  · rw [c3, Un.jn_same hl]
    by_cases ho : Of1 (fx V R) (2 * e) (2 * e + 1)
    · have := c1.1 ho
      exact ⟨fun _ => by omega, fun q => absurd ⟨ho, hl⟩ q⟩
    · have := c1.2 ho
      exact ⟨fun q => absurd q.1 ho, fun _ => by omega⟩
  · have ho : Of1 (fx V R) (2 * e) (2 * e + 1) := Classical.not_not.1 (fun q => hl (b1 q))
    have := c1.1 ho
    have hf := Un.fix_join (lb_lab V E (liftR R e)) hu hv hl
    rw [← c3] at hf
    exact ⟨fun q => absurd q.2 hl, fun _ => by omega⟩

theorem xi_empty (h : ∀ d, ¬ In V R d) : Xi V E R = 0 := by
  classical
  have e1 : es V R E = [] := by
    cases hq : es V R E with
    | nil => rfl
    | cons e l => exact absurd (mem_es.1 (by rw [hq]; exact List.mem_cons_self : e ∈ es V R E)).2 (h _)
  have e2 : fcs V R (2 * E) = [] := by
    cases hq : fcs V R (2 * E) with
    | nil => rfl
    | cons c l =>
      obtain ⟨z, _, hz, _⟩ := mem_fcs.1 (by rw [hq]; exact List.mem_cons_self : c ∈ fcs V R (2 * E))
      exact absurd hz (h z)
  have e3 : iso R V = V := by
    unfold iso
    rw [List.countP_eq_length.2 (fun v hv => ?_)]
    · simp
    · cases hr : R v with
      | nil => rfl
      | cons d l => exact absurd ⟨v, List.mem_range.1 hv, by rw [hr]; exact List.mem_cons_self⟩ (h d)
  have e4 : cc V E R = V := by
    unfold cc lb
    rw [e1]
    exact Un.fix_start V
  unfold Xi
  rw [e1, e2, e3, e4]
  simp
  omega
end

/-- Euler's bound. -/
theorem xi_le {V E : Nat} : ∀ (n : Nat) (R : Nat → List Nat), Tn V E R → Tw V E R → (es V R E).length = n → Xi V E R ≤ 0
  | 0, R, h, t, hn => by
    have : Xi V E R = 0 := xi_empty (fun d hd => by
      have hl := hd.low h
      have e1 : es V R E = [] := List.eq_nil_of_length_eq_zero hn
      have : d / 2 ∈ es V R E := mem_es.2 ⟨by omega, by
        by_cases he : d % 2 = 0
        · rw [show 2 * (d / 2) = d by omega]; exact hd
        · have q := (t (d / 2) (by omega)).2
          rw [show 2 * (d / 2) + 1 = d by omega] at q
          exact q hd⟩
      rw [e1] at this
      cases this)
    omega
  | n + 1, R, h, t, hn => by
    obtain ⟨e, he⟩ : ∃ e, e ∈ es V R E := List.exists_mem_of_length_pos (by omega)
    obtain ⟨h1, h2⟩ := mem_es.1 he
    have hl := h.lift t (e := e)
    have c := es_lift h t h1 h2
    have ih := xi_le n (liftR R e) hl.1 hl.2.1 (by omega)
    have x := xi_lift h t h1 h2
    by_cases q : Of1 (fx V R) (2 * e) (2 * e + 1) ∧ lb V E (liftR R e) (og V R (2 * e)) = lb V E (liftR R e) (og V R (2 * e + 1))
    · have := x.1 q; omega
    · have := x.2 q; omega

end Go.Proofs.YtboafgimjadboaaGreatDoor

namespace Go.Proofs.YtboafgimjadboaaGreatDoor
set_option linter.unusedVariables false

open Pq (Of1)

section
variable {V E : Nat} {R R' : Nat → List Nat}

end

/-- A sum. -/
def sm (f : Nat → Int) : Nat → Int
  | 0 => 0
  | n + 1 => sm f n + f n

theorem sm_congr {f g : Nat → Int} : ∀ {n : Nat}, (∀ c, c < n → f c = g c) → sm f n = sm g n
  | 0, _ => rfl
  | n + 1, h => by unfold sm; rw [sm_congr (fun c hc => h c (Nat.lt_succ_of_lt hc)), h n (Nat.lt_succ_self n)]
theorem sm_add (f g : Nat → Int) : ∀ n, sm (fun c => f c + g c) n = sm f n + sm g n
  | 0 => rfl
  | n + 1 => by unfold sm; rw [sm_add f g n]; omega
theorem sm_neg (f : Nat → Int) : ∀ n, sm (fun c => - f c) n = - sm f n
  | 0 => rfl
  | n + 1 => by unfold sm; rw [sm_neg f n]; omega
theorem sm_one {k : Nat} : ∀ {n : Nat}, k < n → sm (fun c => if c = k then 1 else 0) n = 1
  | 0, h => by omega
  | n + 1, h => by
    unfold sm
    by_cases e : n = k
    · subst e
      rw [if_pos rfl]
      have : sm (fun c => if c = n then (1 : Int) else 0) n = 0 := by
        have : ∀ m, m ≤ n → sm (fun c => if c = n then (1 : Int) else 0) m = 0 := fun m => by
          induction m with
          | zero => intro _; rfl
          | succ m ih => intro hm; unfold sm; rw [ih (by omega), if_neg (by omega)]; rfl
        exact this n (Nat.le_refl _)
      omega
    · rw [sm_one (by omega : k < n), if_neg e]; rfl
theorem sm_zero {f : Nat → Int} : ∀ {n : Nat}, (∀ c, c < n → f c ≤ 0) → (sm f n ≤ 0 ∧ (sm f n = 0 ↔ ∀ c, c < n → f c = 0))
  | 0, _ => ⟨Int.le_refl _, ⟨fun _ c hc => by omega, fun _ => rfl⟩⟩
  | n + 1, h => by
    obtain ⟨h1, h2⟩ := sm_zero (n := n) (fun c hc => h c (Nat.lt_succ_of_lt hc))
    have h3 := h n (Nat.lt_succ_self n)
    unfold sm
    refine ⟨by omega, ⟨fun q c hc => ?_, fun q => ?_⟩⟩
    · by_cases e : c = n
      · subst e; omega
      · exact h2.1 (by omega) c (by omega)
    · have := h2.2 (fun c hc => q c (Nat.lt_succ_of_lt hc))
      have := q n (Nat.lt_succ_self n)
      omega

/-- All are counted, class by class. -/
theorem sm_count {p : Nat → Bool} {L : Nat → Nat} {V : Nat} : ∀ (N : Nat), (∀ x, x < N → p x = true → L x < V) → ((List.range N).countP p : Int) = sm (fun c => ((List.range N).countP (fun x => p x && decide (L x = c)) : Int)) V
  | 0, _ => by
    have : ∀ V, sm (fun c => ((List.range 0).countP (fun x => p x && decide (L x = c)) : Int)) V = 0 := fun V => by
      induction V with
      | zero => rfl
      | succ V ih => unfold sm; rw [ih]; rfl
    rw [this]; rfl
  | N + 1, h => by
    have ih := sm_count (p := p) (L := L) N (fun x hx => h x (Nat.lt_succ_of_lt hx))
    have e : (fun c => ((List.range (N + 1)).countP (fun x => p x && decide (L x = c)) : Int)) = fun c => ((List.range N).countP (fun x => p x && decide (L x = c)) : Int) + (if p N = true ∧ L N = c then 1 else 0) := by
      funext c
      rw [List.range_succ, List.countP_append, List.countP_singleton]
      by_cases hp : p N = true
      · by_cases hl : L N = c
        · simp [hp, hl]
        · simp [hp, hl]
      · simp [hp]
    rw [e, sm_add, ← ih, List.range_succ, List.countP_append, List.countP_singleton]
    by_cases hp : p N = true
    · have hl := h N (Nat.lt_succ_self N) hp
      have : sm (fun c => if p N = true ∧ L N = c then (1 : Int) else 0) V = 1 := by
        refine (sm_congr (fun c _ => ?_)).trans (sm_one hl)
        by_cases hc : c = L N
        · simp [hp, hc]
        · rw [if_neg (fun q => hc q.2.symm), if_neg hc]
      rw [this]
      simp [hp]
    · have : sm (fun c => if p N = true ∧ L N = c then (1 : Int) else 0) V = 0 := by
        have : ∀ V, sm (fun c => if p N = true ∧ L N = c then (1 : Int) else 0) V = 0 := fun V => by
          induction V with
          | zero => rfl
          | succ V ih => unfold sm; rw [ih, if_neg (fun q => hp q.1)]; rfl
        exact this V
      rw [this]
      simp [hp]

section
variable (V E : Nat) (R : Nat → List Nat)

open Classical in
/-- A component's vertices, edges, faces, and vertices without darts. -/
noncomputable def cV (c : Nat) : Nat := (List.range V).countP (fun v => decide (lb V E R v = c))
open Classical in
noncomputable def cE (c : Nat) : Nat := (List.range E).countP (fun e => decide (In V R (2 * e)) && decide (lb V E R (og V R (2 * e)) = c))
open Classical in
noncomputable def cF (c : Nat) : Nat := (List.range (2 * E)).countP (fun z => decide (In V R z ∧ Pq.lst (fx V R) z) && decide (lb V E R (og V R z) = c))
noncomputable def cI (c : Nat) : Nat := (List.range V).countP (fun v => (R v).isEmpty && decide (lb V E R v = c))

/-- Its Euler number. -/
noncomputable def chi (c : Nat) : Int := (cV V E R c : Int) - cE V E R c + cF V E R c + cI V E R c
end

section
variable {V E : Nat} {R : Nat → List Nat}

theorem lb_lt (c : Nat) (hc : c < V) : lb V E R c < V := by
  have := (lb_lab V E R).le c
  omega

/-- What no vertex is the least of has nothing. -/
theorem chi_none {c : Nat} (hc : lb V E R c ≠ c) : chi V E R c = 0 := by
  classical
  have no : ∀ x, lb V E R x ≠ c := fun x q => hc (by rw [← q]; exact (lb_lab V E R).ff x)
  have z1 : cV V E R c = 0 := by unfold cV; rw [List.countP_eq_zero]; intro x _; simp [no x]
  have z2 : cE V E R c = 0 := by unfold cE; rw [List.countP_eq_zero]; intro x _; simp [no (og V R (2 * x))]
  have z3 : cF V E R c = 0 := by unfold cF; rw [List.countP_eq_zero]; intro x _; simp [no (og V R x)]
  have z4 : cI V E R c = 0 := by unfold cI; rw [List.countP_eq_zero]; intro x _; simp [no x]
  unfold chi
  rw [z1, z2, z3, z4]
  rfl

theorem fix_countP (n : Nat) (f : Nat → Nat) : Un.fix n f = (List.range n).countP (fun x => f x == x) := by
  unfold Un.fix
  induction n with
  | zero => rfl
  | succ n ih =>
    unfold Un.cnt
    rw [ih, List.range_succ, List.countP_append, List.countP_singleton]

theorem xi_sum (h : Tn V E R) : Xi V E R = sm (fun c => chi V E R c - (if lb V E R c = c then 2 else 0)) V := by
  classical
  have s1 : ((V : Nat) : Int) = sm (fun c => (cV V E R c : Int)) V := by
    have := sm_count (p := fun _ => true) (L := lb V E R) (V := V) V (fun x hx _ => lb_lt x hx)
    simp only [Bool.true_and] at this
    rw [show (List.range V).countP (fun _ => true) = V by simp] at this
    exact this
  have s2 : ((es V R E).length : Int) = sm (fun c => (cE V E R c : Int)) V := by
    have := sm_count (p := fun e => decide (In V R (2 * e))) (L := fun e => lb V E R (og V R (2 * e))) (V := V) E (fun x hx hp => lb_lt _ (og_is (of_decide_eq_true hp)).1)
    rw [List.countP_eq_length_filter] at this
    exact this
  have s3 : ((fcs V R (2 * E)).length : Int) = sm (fun c => (cF V E R c : Int)) V := by
    have := sm_count (p := fun z => decide (In V R z ∧ Pq.lst (fx V R) z)) (L := fun z => lb V E R (og V R z)) (V := V) (2 * E) (fun x hx hp => lb_lt _ (og_is (of_decide_eq_true hp).1).1)
    unfold fcs
    rw [List.length_map, ← List.countP_eq_length_filter]
    exact this
  have s4 : ((iso R V : Nat) : Int) = sm (fun c => (cI V E R c : Int)) V := sm_count (p := fun v => (R v).isEmpty) (L := lb V E R) (V := V) V (fun x hx _ => lb_lt x hx)
  have s5 : (2 : Int) * (cc V E R : Int) = sm (fun c => if lb V E R c = c then 2 else 0) V := by
    unfold cc
    rw [fix_countP]
    have : ∀ n, (2 : Int) * ((List.range n).countP (fun x => lb V E R x == x) : Int) = sm (fun c => if lb V E R c = c then 2 else 0) n := fun n => by
      induction n with
      | zero => rfl
      | succ n ih =>
        unfold sm
        rw [← ih, List.range_succ, List.countP_append, List.countP_singleton]
        by_cases q : lb V E R n = n
        · simp [q]; omega
        · simp [q]
    exact this V
  have e : (fun c => chi V E R c - (if lb V E R c = c then (2 : Int) else 0)) = fun c => (((cV V E R c : Int) + - (cE V E R c : Int)) + ((cF V E R c : Int) + (cI V E R c : Int))) + - (if lb V E R c = c then (2 : Int) else 0) := by
    funext c
    unfold chi
    omega
  rw [e, sm_add, sm_add, sm_add, sm_add, sm_neg, sm_neg, ← s1, ← s2, ← s3, ← s4, ← s5]
  unfold Xi
  omega

open Classical in
/-- One component alone. -/
noncomputable def only (V E : Nat) (R : Nat → List Nat) (c : Nat) : Nat → List Nat := fun v => if lb V E R v = c then R v else []

section
variable {c : Nat} (h : Tn V E R) (t : Tw V E R)
include h

omit h in
theorem only_mem {v d : Nat} : d ∈ only V E R c v ↔ d ∈ R v ∧ lb V E R v = c := by
  unfold only
  by_cases q : lb V E R v = c
  · simp [q]
  · simp [q]

theorem only_in {d : Nat} : In V (only V E R c) d ↔ In V R d ∧ lb V E R (og V R d) = c := by
  constructor
  · rintro ⟨v, hv, hm⟩
    obtain ⟨h1, h2⟩ := only_mem.1 hm
    exact ⟨⟨v, hv, h1⟩, by rw [og_at h hv h1]; exact h2⟩
  · rintro ⟨hi, hc⟩
    obtain ⟨h1, h2⟩ := og_is hi
    exact ⟨_, h1, only_mem.2 ⟨h2, hc⟩⟩

theorem only_tn : Tn V E (only V E R c) :=
  ⟨fun v hv => by
    unfold only
    split
    · exact h.nd v hv
    · simp, fun u v d hu hv h1 h2 => h.one u v d hu hv (only_mem.1 h1).1 (only_mem.1 h2).1, fun v d hv h1 => h.low v d hv (only_mem.1 h1).1⟩

theorem only_og {d : Nat} (hd : In V (only V E R c) d) : og V (only V E R c) d = og V R d := by
  obtain ⟨h1, h2⟩ := og_is hd
  exact (og_at h h1 (only_mem.1 h2).1).symm

include t
theorem only_tw : Tw V E (only V E R c) := fun e he => by
  rw [only_in h, only_in h]
  have hw := t e he
  constructor
  · rintro ⟨q1, q2⟩
    have := con_tw h t q1
    rw [tw_even] at this
    exact ⟨hw.1 q1, by rw [← this]; exact q2⟩
  · rintro ⟨q1, q2⟩
    have := con_tw h t q1
    rw [tw_odd] at this
    exact ⟨hw.2 q1, by rw [← this]; exact q2⟩

theorem only_fx {d : Nat} (hd : In V (only V E R c) d) : fx V (only V E R c) d = fx V R d := by
  have h0 := ((only_in h).1 hd).1
  have htw := hd.tw (only_tn h) (only_tw h t)
  rw [fx_yes hd, fx_yes h0, vx_at (only_tn h) (og_is htw).1 (og_is htw).2]
  have e := only_og h htw
  obtain ⟨h1, h2⟩ := og_is (h0.tw h t)
  rw [vx_at h h1 h2, e]
  congr 1
  have := ((only_in h).1 htw).2
  unfold only
  rw [if_pos this]

theorem only_lst {d : Nat} (hd : In V (only V E R c) d) : Pq.lst (fx V (only V E R c)) d ↔ Pq.lst (fx V R) d := by
  have hit : ∀ k, Pq.it (fx V (only V E R c)) k d = Pq.it (fx V R) k d := fun k => by
    induction k with
    | zero => rfl
    | succ k ih =>
      show fx V (only V E R c) (Pq.it (fx V (only V E R c)) k d) = fx V R (Pq.it (fx V R) k d)
      rw [only_fx h t ((it_in (only_tn h) (only_tw h t) k).2 hd), ih]
  unfold Pq.lst
  constructor
  · intro q k; rw [← hit k]; exact q k
  · intro q k; rw [hit k]; exact q k

theorem only_lb (hc : lb V E R c = c) : lb V E (only V E R c) = fun x => if lb V E R x = c then c else x := by
  have hl : Un.Lab (fun x => if lb V E R x = c then c else x) := by
    refine ⟨fun x => ?_, fun x => ?_⟩
    · show (if lb V E R x = c then c else x) ≤ x
      split
      · rename_i q
        have := (lb_lab V E R).le x
        omega
      · exact Nat.le_refl _
    · show (if lb V E R (if lb V E R x = c then c else x) = c then c else (if lb V E R x = c then c else x)) = (if lb V E R x = c then c else x)
      by_cases q : lb V E R x = c
      · rw [if_pos q, if_pos hc]
      · rw [if_neg q, if_neg q]
  refine (lb_lab V E _).same hl (fun x y => ?_)
  rw [lb_con]
  constructor
  · intro k
    induction k with
    | refl x => rfl
    | edge i hi =>
      obtain ⟨h1, h2⟩ := mem_es.1 hi
      have h3 := (only_tw h t i h1).1 h2
      show (if lb V E R (og V (only V E R c) (2 * i)) = c then c else _) = (if lb V E R (og V (only V E R c) (2 * i + 1)) = c then c else _)
      rw [only_og h h2, only_og h h3, if_pos ((only_in h).1 h2).2, if_pos ((only_in h).1 h3).2]
    | symm _ ih => exact ih.symm
    | trans _ _ ih1 ih2 => exact ih1.trans ih2
  · intro k
    have into : ∀ x y, Un.Con (EA V R) (EB V R) (· ∈ es V R E) x y → lb V E R x = c → Un.Con (EA V (only V E R c)) (EB V (only V E R c)) (· ∈ es V (only V E R c) E) x y := by
      intro x y q
      induction q with
      | refl x => intro _; exact .refl x
      | edge i hi =>
        intro hx
        obtain ⟨h1, h2⟩ := mem_es.1 hi
        have h3 : In V (only V E R c) (2 * i) := (only_in h).2 ⟨h2, hx⟩
        have h4 := (only_tw h t i h1).1 h3
        have := Un.Con.edge (A := EA V (only V E R c)) (B := EB V (only V E R c)) (P := (· ∈ es V (only V E R c) E)) i (mem_es.2 ⟨h1, h3⟩)
        unfold EA EB at this ⊢
        rw [only_og h h3, only_og h h4] at this
        exact this
      | symm q ih =>
        intro hx
        have e := lb_con.2 q
        exact (ih (by rw [e]; exact hx)).symm
      | trans q1 q2 ih1 ih2 =>
        intro hx
        have e := lb_con.2 q1
        exact (ih1 hx).trans (ih2 (by rw [← e]; exact hx))
    by_cases q1 : lb V E R x = c
    · by_cases q2 : lb V E R y = c
      · exact into x y (lb_con.1 (q1.trans q2.symm)) q1
      · have k' : (if lb V E R x = c then c else x) = (if lb V E R y = c then c else y) := k
        rw [if_pos q1, if_neg q2] at k'
        exact absurd (by rw [← k']; exact hc) q2
    · by_cases q2 : lb V E R y = c
      · have k' : (if lb V E R x = c then c else x) = (if lb V E R y = c then c else y) := k
        rw [if_neg q1, if_pos q2] at k'
        exact absurd (by rw [k']; exact hc) q1
      · have k' : (if lb V E R x = c then c else x) = (if lb V E R y = c then c else y) := k
        rw [if_neg q1, if_neg q2] at k'
        subst k'
        exact .refl x

/-- Euler's bound of one component. -/
theorem chi_le (hcV : c < V) (hc : lb V E R c = c) : chi V E R c ≤ 2 := by
  classical
  have x := xi_le _ (only V E R c) (only_tn h) (only_tw h t) rfl
  have a1 : (es V (only V E R c) E).length = cE V E R c := by
    unfold es cE
    rw [← List.countP_eq_length_filter]
    refine List.countP_congr (fun e _ => ?_)
    simp only [only_in h, Bool.and_eq_true, decide_eq_true_eq]
  have a2 : (fcs V (only V E R c) (2 * E)).length = cF V E R c := by
    unfold fcs cF
    rw [List.length_map, ← List.countP_eq_length_filter]
    refine List.countP_congr (fun z _ => ?_)
    simp only [Bool.and_eq_true, decide_eq_true_eq]
    constructor
    · rintro ⟨q1, q2⟩
      exact ⟨⟨((only_in h).1 q1).1, (only_lst h t q1).1 q2⟩, ((only_in h).1 q1).2⟩
    · rintro ⟨⟨q1, q2⟩, q3⟩
      have := (only_in h).2 ⟨q1, q3⟩
      exact ⟨this, (only_lst h t this).2 q2⟩
  have a3 : iso (only V E R c) V + cV V E R c = V + cI V E R c := by
    unfold iso cV cI
    have : ∀ n, (List.range n).countP (fun v => (only V E R c v).isEmpty) + (List.range n).countP (fun v => decide (lb V E R v = c)) = n + (List.range n).countP (fun v => (R v).isEmpty && decide (lb V E R v = c)) := fun n => by
      induction n with
      | zero => rfl
      | succ n ih =>
        rw [List.range_succ, List.countP_append, List.countP_append, List.countP_append, List.countP_singleton, List.countP_singleton, List.countP_singleton]
        unfold only at ih ⊢
        by_cases q : lb V E R n = c
        · cases hr : (R n).isEmpty <;> simp [q, hr] at ih ⊢ <;> omega
        · simp [q] at ih ⊢; omega
    exact this V
  have a4 : cc V E (only V E R c) + cV V E R c = V + 1 := by
    unfold cc cV
    rw [only_lb h t hc, fix_countP]
    have : ∀ n, (List.range n).countP (fun x => (if lb V E R x = c then c else x) == x) + (List.range n).countP (fun v => decide (lb V E R v = c)) = n + (if c < n then 1 else 0) := fun n => by
      induction n with
      | zero => simp
      | succ n ih =>
        rw [List.range_succ, List.countP_append, List.countP_append, List.countP_singleton, List.countP_singleton]
        by_cases q : lb V E R n = c
        · by_cases q2 : c = n
          · rw [if_neg (show ¬ c < n by omega)] at ih
            rw [if_pos (show c < n + 1 by omega)]
            have q3 : (c == n) = true := by simp [q2]
            simp only [q, if_true, q3] at ih ⊢
            simp
            omega
          · have hlt : c < n := by have := (lb_lab V E R).le n; omega
            rw [if_pos hlt] at ih
            rw [if_pos (show c < n + 1 by omega)]
            have q3 : (c == n) = false := by simp [q2]
            simp only [q, if_true, q3] at ih ⊢
            simp
            omega
        · have q2 : c ≠ n := fun z => q (by rw [← z]; exact hc)
          have hsame : (if c < n then 1 else 0) = (if c < n + 1 then 1 else 0) := by
            by_cases z : c < n
            · rw [if_pos z, if_pos (show c < n + 1 by omega)]
            · rw [if_neg z, if_neg (show ¬ c < n + 1 by omega)]
          rw [← hsame]
          simp only [q, if_false] at ih ⊢
          simp
          omega
    have := this V
    rw [if_pos hcV] at this
    exact this
  unfold Xi at x
  rw [a1, a2] at x
  unfold chi
  omega

/-- All components lie on spheres just where Euler's number is none. -/
theorem flat_iff : (∀ c, c < V → lb V E R c = c → chi V E R c = 2) ↔ Xi V E R = 0 := by
  have hle : ∀ c, c < V → chi V E R c - (if lb V E R c = c then 2 else 0) ≤ 0 := fun c hc => by
    by_cases q : lb V E R c = c
    · rw [if_pos q]
      have := chi_le h t hc q
      omega
    · rw [if_neg q, chi_none q]
      omega
  rw [xi_sum h, (sm_zero hle).2]
  constructor
  · intro k c hc
    by_cases q : lb V E R c = c
    · rw [if_pos q, k c hc q]; rfl
    · rw [if_neg q, chi_none q]; rfl
  · intro k c hc q
    have := k c hc
    rw [if_pos q] at this
    omega
end
end
end Go.Proofs.YtboafgimjadboaaGreatDoor
