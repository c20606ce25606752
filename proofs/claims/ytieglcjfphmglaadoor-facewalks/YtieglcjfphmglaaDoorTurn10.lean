/- A dart put behind another one, or taken out; the least one first: plain mathematics. -/
import Derived.Test.YtieglcjfphmglaaDoorPure10
namespace Go.Proofs.YtieglcjfphmglaaDoor
set_option linter.unusedVariables false

/-- d put behind b. -/
def ins (l : List Nat) (b d : Nat) : List Nat := l.takeWhile (fun y => y != b) ++ b :: d :: (l.dropWhile (fun y => y != b)).tail

theorem ins_split {A B : List Nat} {b d : Nat} (h : b ∉ A) : ins (A ++ b :: B) b d = A ++ b :: d :: B := by
  unfold ins
  rw [(until_split h).1, (until_split h).2]
  rfl

theorem ins_mem {l : List Nat} {b d x : Nat} (hb : b ∈ l) : x ∈ ins l b d ↔ x = d ∨ x ∈ l := by
  obtain ⟨A, B, rfl, hA, _⟩ := rot_as hb
  rw [ins_split hA]
  simp only [List.mem_append, List.mem_cons]
  constructor
  · rintro (h | h | h | h)
    · exact .inr (.inl h)
    · exact .inr (.inr (.inl h))
    · exact .inl h
    · exact .inr (.inr (.inr h))
  · rintro (h | h | h | h)
    · exact .inr (.inr (.inl h))
    · exact .inl h
    · exact .inr (.inl h)
    · exact .inr (.inr (.inr h))

theorem ins_len {l : List Nat} {b d : Nat} (hb : b ∈ l) : (ins l b d).length = l.length + 1 := by
  obtain ⟨A, B, rfl, hA, _⟩ := rot_as hb
  rw [ins_split hA]
  simp
  omega

theorem ins_nd {l : List Nat} {b d : Nat} (hn : l.Nodup) (hb : b ∈ l) (hd : d ∉ l) : (ins l b d).Nodup := by
  obtain ⟨A, B, rfl, hA, _⟩ := rot_as hb
  rw [ins_split hA]
  have hp : (A ++ b :: d :: B).Perm (d :: (A ++ b :: B)) := by
    refine List.Perm.trans (l₂ := A ++ d :: b :: B) ?_ List.perm_middle
    exact List.Perm.append_left A (List.Perm.swap _ _ _)
  exact hp.nodup_iff.2 (List.nodup_cons.2 ⟨hd, hn⟩)

/-- By places, as the document's list has it. -/
theorem ins_at {l : List Nat} {b d i : Nat} (hn : l.Nodup) (hi : l[i]? = some b) : ins l b d = l.take (i + 1) ++ d :: l.drop (i + 1) := by
  obtain ⟨hlt, hx⟩ := List.getElem?_eq_some_iff.1 hi
  have e : l = l.take i ++ b :: l.drop (i + 1) := by
    rw [← hx, ← List.drop_eq_getElem_cons hlt, List.take_append_drop]
  have hA : b ∉ l.take i := by rw [e] at hn; exact (nd_split hn).1
  have := ins_split (B := l.drop (i + 1)) (d := d) hA
  rw [← e] at this
  rw [this, List.take_add_one, hi]
  simp

/-- Round from b on. -/
theorem ins_rot {l : List Nat} {b d : Nat} {T : List Nat} (hn : l.Nodup) (hb : b ∈ l) (hd : d ∉ l) (e : rot l b = b :: T) : rot (ins l b d) b = b :: d :: T := by
  obtain ⟨A, B, rfl, hA, e'⟩ := rot_as hb
  rw [e'] at e
  injection e with _ e
  rw [ins_split hA, rot_split hA, ← e]
  rfl

theorem nx_ins {l : List Nat} {b d x : Nat} (hn : l.Nodup) (hb : b ∈ l) (hd : d ∉ l) (hx : x = d ∨ x ∈ l) : nx (ins l b d) x = if x = b then d else if x = d then nx l b else nx l x := by
  have hni := ins_nd hn hb hd
  have hbi := (ins_mem (d := d) hb).2 (.inr hb)
  have hxi := (ins_mem (d := d) hb).2 hx
  obtain ⟨A, B, _, _, e⟩ := rot_as hb
  have e2 := ins_rot hn hb hd e
  rw [← nx_rot hni hxi hbi, e2]
  have hnr := rot_nd (x := b) hni
  rw [e2] at hnr
  generalize hT : B ++ A = T at e e2 hnr
  by_cases h1 : x = b
  · subst h1; rw [if_pos rfl, nx_first]; rfl
  · rw [if_neg h1]
    by_cases h2 : x = d
    · subst h2
      rw [if_pos rfl]
      have := nx_split (A := [b]) (B := T) (x := x) (by simpa using h1)
      rw [List.singleton_append] at this
      rw [this, ← nx_rot hn hb hb, e, nx_first]
      cases T <;> simp
    · rw [if_neg h2]
      have hxl : x ∈ l := hx.resolve_left h2
      rw [← nx_rot hn hxl hb, e]
      have hxT : x ∈ T := by
        have := rot_mem (x := b).2 hxl
        rw [e] at this
        exact (List.mem_cons.1 this).resolve_left h1
      obtain ⟨P, Q, rfl⟩ := List.append_of_mem hxT
      have hxP : x ∉ b :: d :: P := by
        have : (b :: d :: (P ++ x :: Q)) = (b :: d :: P) ++ x :: Q := by simp
        rw [this] at hnr
        exact (nd_split hnr).1
      have hxP2 : x ∉ b :: P := fun hm => by
        rcases List.mem_cons.1 hm with h | h
        · exact h1 h
        · exact hxP (List.mem_cons_of_mem _ (List.mem_cons_of_mem _ h))
      have q1 := nx_split (B := Q) hxP
      have q2 := nx_split (B := Q) hxP2
      simp only [List.cons_append] at q1 q2
      rw [q1, q2]
      cases Q <;> rfl

theorem pv_ins {l : List Nat} {b d x : Nat} (hn : l.Nodup) (hb : b ∈ l) (hd : d ∉ l) (hx : x = d ∨ x ∈ l) : pv (ins l b d) x = if x = d then b else if x = nx l b then d else pv l x := by
  have hni := ins_nd hn hb hd
  have hmi := fun y => ins_mem (l := l) (b := b) (d := d) (x := y) hb
  have hdb : d ≠ b := fun e => hd (e ▸ hb)
  by_cases h1 : x = d
  · subst h1
    rw [if_pos rfl]
    have := nx_ins hn hb hd (.inr hb)
    rw [if_pos rfl] at this
    have h := pv_nx hni ((hmi b).2 (.inr hb))
    rw [this] at h
    exact h
  · rw [if_neg h1]
    have hxl := hx.resolve_left h1
    by_cases h2 : x = nx l b
    · rw [if_pos h2]
      have := nx_ins hn hb hd (x := d) (.inl rfl)
      rw [if_neg hdb, if_pos rfl] at this
      have h := pv_nx hni ((hmi d).2 (.inl rfl))
      rw [this] at h
      rw [h2]
      exact h
    · rw [if_neg h2]
      -- x is behind the one ahead of it, also now
      have hp : ∃ y, y ∈ l ∧ nx l y = x := by
        obtain ⟨i, hi⟩ := List.getElem?_of_mem hxl
        obtain ⟨hlt, hxe⟩ := List.getElem?_eq_some_iff.1 hi
        have hk : (i + l.length - 1) % l.length < l.length := Nat.mod_lt _ (by omega)
        have hy : l[(i + l.length - 1) % l.length]? = some l[(i + l.length - 1) % l.length] := List.getElem?_eq_getElem hk
        refine ⟨_, List.mem_of_getElem? hy, ?_⟩
        have := nx_at hn hy
        rw [Nat.mod_add_mod, show i + l.length - 1 + 1 = i + l.length from by omega, Nat.add_mod_right, Nat.mod_eq_of_lt hlt, hi] at this
        exact (Option.some.inj this).symm
      obtain ⟨y, hy, rfl⟩ := hp
      have hyb : y ≠ b := fun e => h2 (by rw [e])
      have hyd : y ≠ d := fun e => hd (e ▸ hy)
      have := nx_ins hn hb hd (x := y) (.inr hy)
      rw [if_neg hyb, if_neg hyd] at this
      have h := pv_nx hni ((hmi y).2 (.inr hy))
      rw [this] at h
      rw [h, pv_nx hn hy]

/-- One taken out. -/
theorem del_split {A B : List Nat} {d : Nat} (h : d ∉ A) : (A ++ d :: B).erase d = A ++ B := by
  rw [List.erase_append_right _ h, List.erase_cons_head]

theorem del_mem {l : List Nat} {d x : Nat} (hn : l.Nodup) : x ∈ l.erase d ↔ x ∈ l ∧ x ≠ d := by
  rw [hn.mem_erase_iff]
  exact And.comm

theorem nx_del {l : List Nat} {d x : Nat} (hn : l.Nodup) (hd : d ∈ l) (hx : x ∈ l) (hne : x ≠ d) : nx (l.erase d) x = if nx l x = d then nx l d else nx l x := by
  obtain ⟨A, B, rfl, hA, e⟩ := rot_as hd
  rw [del_split hA]
  have hnr := rot_nd (x := d) hn
  rw [e] at hnr
  have hAB : (A ++ B).Nodup := by
    have : (A ++ d :: B).Perm (d :: (A ++ B)) := List.perm_middle
    exact (List.nodup_cons.1 (this.nodup_iff.1 hn)).2
  have hxAB : x ∈ A ++ B := by
    rcases List.mem_append.1 hx with h | h
    · exact List.mem_append_left _ h
    · exact List.mem_append_right _ ((List.mem_cons.1 h).resolve_left hne)
  rw [nx_comm hAB hxAB, ← nx_rot hn hx hd, ← nx_rot hn hd hd, e, nx_first]
  have hxT : x ∈ B ++ A := by
    rcases List.mem_append.1 hxAB with h | h
    · exact List.mem_append_right _ h
    · exact List.mem_append_left _ h
  generalize B ++ A = T at hnr hxT ⊢
  obtain ⟨P, Q, rfl⟩ := List.append_of_mem hxT
  have hxP : x ∉ P := (nd_split (List.nodup_cons.1 hnr).2).1
  have hxP2 : x ∉ d :: P := fun hm => by
    rcases List.mem_cons.1 hm with h | h
    · exact hne h
    · exact hxP h
  have q1 := nx_split (B := Q) hxP
  have q2 := nx_split (B := Q) hxP2
  simp only [List.cons_append] at q2
  rw [q1, q2]
  have hdT := (List.nodup_cons.1 hnr).1
  cases Q with
  | nil =>
    simp only [List.nil_append, List.head?_cons, Option.getD_some, if_true]
    cases P <;> simp
  | cons y Q =>
    have hyd : y ≠ d := fun e => hdT (by rw [← e]; simp)
    simp [hyd]

theorem pv_del {l : List Nat} {d x : Nat} (hn : l.Nodup) (hd : d ∈ l) (hx : x ∈ l) (hne : x ≠ d) : pv (l.erase d) x = if pv l x = d then pv l d else pv l x := by
  have hne' : (l.erase d).Nodup := hn.erase d
  have prev : ∀ z, z ∈ l → ∃ y, y ∈ l ∧ nx l y = z := fun z hz => by
    obtain ⟨i, hi⟩ := List.getElem?_of_mem hz
    obtain ⟨hlt, hxe⟩ := List.getElem?_eq_some_iff.1 hi
    have hk : (i + l.length - 1) % l.length < l.length := Nat.mod_lt _ (by omega)
    have hy : l[(i + l.length - 1) % l.length]? = some l[(i + l.length - 1) % l.length] := List.getElem?_eq_getElem hk
    refine ⟨_, List.mem_of_getElem? hy, ?_⟩
    have := nx_at hn hy
    rw [Nat.mod_add_mod, show i + l.length - 1 + 1 = i + l.length from by omega, Nat.add_mod_right, Nat.mod_eq_of_lt hlt, hi] at this
    exact (Option.some.inj this).symm
  obtain ⟨y, hy, rfl⟩ := prev x hx
  rw [pv_nx hn hy]
  by_cases h1 : y = d
  · subst h1
    rw [if_pos rfl]
    obtain ⟨z, hz, e⟩ := prev y hd
    have hzy : z ≠ y := fun e2 => by subst e2; exact hne e
    have := nx_del hn hd hz hzy
    rw [if_pos e] at this
    have h := pv_nx hne' ((del_mem hn).2 ⟨hz, hzy⟩)
    rw [this] at h
    have h2 := pv_nx hn hz
    rw [e] at h2
    rw [h, h2]
  · rw [if_neg h1]
    have := nx_del hn hd hy h1
    rw [if_neg hne] at this
    have h := pv_nx hne' ((del_mem hn).2 ⟨hy, h1⟩)
    rw [this] at h
    exact h

/-- Put behind, and taken out again. -/
theorem ins_del {l : List Nat} {b d : Nat} (hb : b ∈ l) (hd : d ∉ l) : (ins l b d).erase d = l := by
  obtain ⟨A, B, rfl, hA, _⟩ := rot_as hb
  rw [ins_split hA]
  have : A ++ b :: d :: B = (A ++ [b]) ++ d :: B := by simp
  rw [this, del_split (fun hm => hd (by
    rcases List.mem_append.1 hm with h | h
    · exact List.mem_append_left _ h
    · simp at h; rw [h]; simp))]
  simp

/-- The least of a list. -/
def least0 : List Nat → Nat
  | [] => 0
  | [x] => x
  | x :: y :: l => min x (least0 (y :: l))

theorem least0_mem : ∀ (l : List Nat), l ≠ [] → least0 l ∈ l
  | [], h => absurd rfl h
  | [x], _ => by simp [least0]
  | x :: y :: l, _ => by
    have ih := least0_mem (y :: l) (by simp)
    unfold least0
    rcases Nat.le_total x (least0 (y :: l)) with h | h
    · rw [Nat.min_eq_left h]; exact List.mem_cons_self
    · rw [Nat.min_eq_right h]; exact List.mem_cons_of_mem _ ih

theorem least0_le : ∀ (l : List Nat) (x : Nat), x ∈ l → least0 l ≤ x
  | [], x, h => by simp at h
  | [y], x, h => by simp at h; subst h; exact Nat.le_refl _
  | z :: y :: l, x, h => by
    unfold least0
    rcases List.mem_cons.1 h with rfl | h
    · exact Nat.min_le_left _ _
    · exact Nat.le_trans (Nat.min_le_right _ _) (least0_le (y :: l) x h)

theorem least0_same {a b : List Nat} (ha : a ≠ []) (hb : b ≠ []) (h : ∀ x, x ∈ a ↔ x ∈ b) : least0 a = least0 b :=
  Nat.le_antisymm (least0_le a _ ((h _).2 (least0_mem b hb))) (least0_le b _ ((h _).1 (least0_mem a ha)))

/-- The least one first. -/
def lf (l : List Nat) : List Nat := rot l (least0 l)

theorem lf_rot {l : List Nat} {x : Nat} (hn : l.Nodup) (hx : x ∈ l) : lf (rot l x) = lf l := by
  have hne : l ≠ [] := fun e => by rw [e] at hx; simp at hx
  have hne2 : rot l x ≠ [] := fun e => by
    have := rot_mem (x := x).2 hx
    rw [e] at this
    simp at this
  unfold lf
  rw [least0_same hne2 hne (fun y => rot_mem), rot_rot hn hx (least0_mem l hne)]

theorem lf_comm {A B : List Nat} (h : (A ++ B).Nodup) : lf (A ++ B) = lf (B ++ A) := by
  by_cases hne : A ++ B = []
  · obtain ⟨rfl, rfl⟩ := List.append_eq_nil_iff.1 hne; rfl
  · have hne2 : B ++ A ≠ [] := fun e => hne (by obtain ⟨rfl, rfl⟩ := List.append_eq_nil_iff.1 e; rfl)
    unfold lf
    rw [least0_same (b := B ++ A) hne hne2 (fun y => by rw [List.mem_append, List.mem_append]; exact Or.comm), rot_comm h (by
      have := least0_mem (B ++ A) hne2
      rw [List.mem_append] at this ⊢
      exact Or.comm.1 this)]

/-- So many steps on. -/
def itn (f : Nat → Nat) : Nat → Nat → Nat
  | 0, x => x
  | k + 1, x => f (itn f k x)

theorem rot_get {l : List Nat} {x i j : Nat} (hn : l.Nodup) (hi : l[i]? = some x) (hj : j < l.length) : (rot l x)[j]? = l[(i + j) % l.length]? := by
  obtain ⟨hlt, hx⟩ := List.getElem?_eq_some_iff.1 hi
  have e : l = l.take i ++ x :: l.drop (i + 1) := by
    rw [← hx, ← List.drop_eq_getElem_cons hlt, List.take_append_drop]
  have hA : x ∉ l.take i := by rw [e] at hn; exact (nd_split hn).1
  have h1 : rot l x = l.drop i ++ l.take i := by
    have := rot_split (B := l.drop (i + 1)) hA
    rw [← e] at this
    rw [this, List.drop_eq_getElem_cons hlt, hx]
    rfl
  rw [h1, List.getElem?_append, List.length_drop]
  split
  · rw [List.getElem?_drop, Nat.mod_eq_of_lt (by omega)]
  · rw [List.getElem?_take, if_pos (by omega), Nat.mod_eq_sub_mod (by omega), Nat.mod_eq_of_lt (by omega)]
    congr 1; omega

theorem itn_get {l : List Nat} {x : Nat} (hn : l.Nodup) (hx : x ∈ l) : ∀ k, k < l.length → (rot l x)[k]? = some (itn (nx l) k x)
  | 0, h => by
    obtain ⟨A, B, _, _, e⟩ := rot_as hx
    rw [e]; rfl
  | k + 1, h => by
    have ih := itn_get hn hx k (by omega)
    have h1 := nx_at (rot_nd (x := x) hn) ih
    rw [rot_len, Nat.mod_eq_of_lt h, nx_rot hn (rot_mem.1 (List.mem_of_getElem? ih)) hx] at h1
    exact h1

theorem itn_round {l : List Nat} {x : Nat} (hn : l.Nodup) (hx : x ∈ l) : itn (nx l) l.length x = x := by
  obtain ⟨i, hi⟩ := List.getElem?_of_mem hx
  have hlt := (List.getElem?_eq_some_iff.1 hi).1
  have h1 := itn_get hn hx (l.length - 1) (by omega)
  have h2 := nx_at (rot_nd (x := x) hn) h1
  rw [rot_len, show l.length - 1 + 1 = l.length from by omega, Nat.mod_self, nx_rot hn (rot_mem.1 (List.mem_of_getElem? h1)) hx] at h2
  have h3 := itn_get hn hx 0 (by omega)
  rw [h3] at h2
  have h4 : itn (nx l) (l.length - 1 + 1) x = itn (nx l) 0 x := (Option.some.inj h2).symm
  rw [show l.length - 1 + 1 = l.length from by omega] at h4
  exact h4

theorem rot_is {l : List Nat} {x : Nat} (hn : l.Nodup) (hx : x ∈ l) : rot l x = (List.range l.length).map (fun k => itn (nx l) k x) := by
  apply List.ext_getElem?
  intro k
  by_cases hk : k < l.length
  · rw [itn_get hn hx k hk]; simp [hk]
  · rw [List.getElem?_eq_none (by rw [rot_len]; omega), List.getElem?_eq_none (by simp; omega)]

end Go.Proofs.YtieglcjfphmglaaDoor
