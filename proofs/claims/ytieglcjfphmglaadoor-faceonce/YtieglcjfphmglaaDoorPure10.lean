/- What stands round a place, as a list that goes round: plain mathematics. -/
namespace Go.Proofs.YtieglcjfphmglaaDoor
set_option linter.unusedVariables false

/-- The list from x on, and round. -/
def rot (l : List Nat) (x : Nat) : List Nat := l.dropWhile (fun y => y != x) ++ l.takeWhile (fun y => y != x)

theorem until_split {A B : List Nat} {x : Nat} (h : x ∉ A) : (A ++ x :: B).takeWhile (fun y => y != x) = A ∧ (A ++ x :: B).dropWhile (fun y => y != x) = x :: B := by
  have hp : ∀ a ∈ A, (fun y => y != x) a = true := fun a ha => by simp; exact fun e => h (e ▸ ha)
  rw [List.takeWhile_append_of_pos hp, List.dropWhile_append_of_pos hp]
  simp

theorem rot_split {A B : List Nat} {x : Nat} (h : x ∉ A) : rot (A ++ x :: B) x = x :: (B ++ A) := by
  unfold rot
  rw [(until_split h).1, (until_split h).2]
  rfl

theorem rot_mem {l : List Nat} {x y : Nat} : y ∈ rot l x ↔ y ∈ l := by
  unfold rot
  rw [List.mem_append, or_comm, ← List.mem_append, List.takeWhile_append_dropWhile]

theorem rot_len (l : List Nat) (x : Nat) : (rot l x).length = l.length := by
  unfold rot
  rw [List.length_append, Nat.add_comm, ← List.length_append, List.takeWhile_append_dropWhile]

theorem rot_nd {l : List Nat} {x : Nat} (h : l.Nodup) : (rot l x).Nodup := by
  have hp : (rot l x).Perm l := by
    unfold rot
    refine List.perm_append_comm.trans ?_
    rw [List.takeWhile_append_dropWhile]
  exact hp.nodup_iff.2 h

theorem nd_split {A B : List Nat} {x : Nat} (h : (A ++ x :: B).Nodup) : x ∉ A ∧ x ∉ B := by
  rw [List.nodup_append, List.nodup_cons] at h
  exact ⟨fun hm => h.2.2 x hm x List.mem_cons_self rfl, h.2.1.1⟩

/-- Where it begins is all one. -/
theorem rot_comm {A B : List Nat} {x : Nat} (h : (A ++ B).Nodup) (hx : x ∈ A ++ B) : rot (A ++ B) x = rot (B ++ A) x := by
  rcases List.mem_append.1 hx with hx | hx
  · obtain ⟨P, Q, rfl⟩ := List.append_of_mem hx
    have hp : x ∉ P := by
      rw [List.append_assoc, List.cons_append] at h
      exact (nd_split h).1
    have hb : x ∉ B := by
      rw [List.nodup_append] at h
      exact fun hm => h.2.2 x (by simp) x hm rfl
    rw [List.append_assoc, List.cons_append, rot_split hp, ← List.append_assoc, rot_split (fun hm => by rcases List.mem_append.1 hm with hm | hm <;> contradiction)]
    simp
  · obtain ⟨P, Q, rfl⟩ := List.append_of_mem hx
    have hp : x ∉ P := by
      rw [← List.append_assoc] at h
      exact fun hm => (nd_split h).1 (List.mem_append_right _ hm)
    have ha : x ∉ A := by
      rw [List.nodup_append] at h
      exact fun hm => h.2.2 x hm x (by simp) rfl
    rw [← List.append_assoc, rot_split (fun hm => by rcases List.mem_append.1 hm with hm | hm <;> contradiction), List.append_assoc, List.cons_append, rot_split hp]
    simp

theorem rot_as {l : List Nat} {x : Nat} (hx : x ∈ l) : ∃ A B, l = A ++ x :: B ∧ x ∉ A ∧ rot l x = x :: (B ++ A) := by
  obtain ⟨A, B, rfl, hA⟩ := List.eq_append_cons_of_mem hx
  exact ⟨A, B, rfl, hA, rot_split hA⟩

theorem rot_rot {l : List Nat} {x y : Nat} (hn : l.Nodup) (hx : x ∈ l) (hy : y ∈ l) : rot (rot l x) y = rot l y := by
  obtain ⟨A, B, rfl, hA, e⟩ := rot_as hx
  have h := rot_comm (A := A) (B := x :: B) hn hy
  rw [e, h]
  rfl

/-- The one behind, and the one ahead. -/
def nx (l : List Nat) (x : Nat) : Nat := ((rot l x)[1]?).getD x
def pv (l : List Nat) (x : Nat) : Nat := (rot l x).getLastD x

theorem nx_rot {l : List Nat} {x y : Nat} (hn : l.Nodup) (hx : x ∈ l) (hy : y ∈ l) : nx (rot l y) x = nx l x := by unfold nx; rw [rot_rot hn hy hx]
theorem pv_rot {l : List Nat} {x y : Nat} (hn : l.Nodup) (hx : x ∈ l) (hy : y ∈ l) : pv (rot l y) x = pv l x := by unfold pv; rw [rot_rot hn hy hx]
theorem nx_comm {A B : List Nat} {x : Nat} (h : (A ++ B).Nodup) (hx : x ∈ A ++ B) : nx (A ++ B) x = nx (B ++ A) x := by unfold nx; rw [rot_comm h hx]
theorem pv_comm {A B : List Nat} {x : Nat} (h : (A ++ B).Nodup) (hx : x ∈ A ++ B) : pv (A ++ B) x = pv (B ++ A) x := by unfold pv; rw [rot_comm h hx]

theorem nx_split {A B : List Nat} {x : Nat} (h : x ∉ A) : nx (A ++ x :: B) x = ((B ++ A).head?).getD x := by
  unfold nx
  rw [rot_split h]
  cases B ++ A <;> rfl
theorem pv_split {A B : List Nat} {x : Nat} (h : x ∉ A) : pv (A ++ x :: B) x = (B ++ A).getLastD x := by
  unfold pv
  rw [rot_split h]
  cases B ++ A <;> rfl
theorem nx_first (x : Nat) (T : List Nat) : nx (x :: T) x = T.head?.getD x := by
  have := nx_split (A := []) (B := T) (x := x) (by simp)
  simpa using this
theorem pv_first (x : Nat) (T : List Nat) : pv (x :: T) x = T.getLastD x := by
  have := pv_split (A := []) (B := T) (x := x) (by simp)
  simpa using this

theorem nx_mem {l : List Nat} {x : Nat} (hx : x ∈ l) : nx l x ∈ l := by
  obtain ⟨A, B, rfl, hA, e⟩ := rot_as hx
  rw [nx_split hA]
  cases hh : (B ++ A).head? with
  | none => simp
  | some y =>
    have := List.mem_of_head? hh
    simp only [Option.getD_some]
    rcases List.mem_append.1 this with h | h
    · exact List.mem_append_right _ (List.mem_cons_of_mem _ h)
    · exact List.mem_append_left _ h

/-- By places. -/
theorem nx_at {l : List Nat} {x i : Nat} (hn : l.Nodup) (hi : l[i]? = some x) : l[(i + 1) % l.length]? = some (nx l x) := by
  obtain ⟨hlt, hx⟩ := List.getElem?_eq_some_iff.1 hi
  have e : l = l.take i ++ x :: l.drop (i + 1) := by
    rw [← hx, ← List.drop_eq_getElem_cons hlt, List.take_append_drop]
  have hA : x ∉ l.take i := by rw [e] at hn; exact (nd_split hn).1
  have h1 : nx l x = ((l.drop (i + 1) ++ l.take i).head?).getD x := by
    conv => lhs; rw [e]
    exact nx_split hA
  rw [h1]
  by_cases hl : i + 1 < l.length
  · rw [Nat.mod_eq_of_lt hl, List.head?_append, List.head?_drop, List.getElem?_eq_getElem hl]
    simp
  · have : i + 1 = l.length := by omega
    rw [this, Nat.mod_self, List.drop_eq_nil_of_le (by omega), List.nil_append]
    by_cases h0 : i = 0
    · subst h0; simp [hi]
    · rw [List.head?_take, if_neg h0, List.head?_eq_getElem?, List.getElem?_eq_getElem (by omega)]
      simp

theorem pv_nx {l : List Nat} {x : Nat} (hn : l.Nodup) (hx : x ∈ l) : pv l (nx l x) = x := by
  have hm := nx_mem hx
  have hr := rot_nd (x := x) hn
  rw [← pv_rot hn hm hx, ← nx_rot hn hx hx]
  obtain ⟨A, B, rfl, hA, e⟩ := rot_as hx
  rw [e] at hr ⊢
  rw [nx_first]
  generalize B ++ A = T at hr ⊢
  cases T with
  | nil => simp [pv_first]
  | cons y T =>
    simp only [List.head?_cons, Option.getD_some]
    have hy : y ∉ [x] := by
      rw [List.nodup_cons] at hr
      intro h; simp at h; subst h; exact hr.1 List.mem_cons_self
    have := pv_split (A := [x]) (B := T) (x := y) hy
    rw [List.singleton_append] at this
    rw [this]
    simp

theorem nx_inj {l : List Nat} {x y : Nat} (hn : l.Nodup) (hx : x ∈ l) (hy : y ∈ l) (h : nx l x = nx l y) : x = y := by
  rw [← pv_nx hn hx, h, pv_nx hn hy]

end Go.Proofs.YtieglcjfphmglaaDoor
