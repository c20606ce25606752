/- The reference's Cut, Reverse, Join: the ties, and Cut walked. -/
import Derived.Test.YtpelpcplagfdiaaDoorRef4
namespace Go.Proofs.YtpelpcplagfdiaaDoor
open Go.RowKit
set_option linter.unusedVariables false

section
variable {K : Nat} {ls : List (List Nat)} {seq : Nat → List Nat}

theorem Tie.cut (t : Tie K ls seq) (p : Part K seq) {x i : Nat} {A B : List Nat} (hx : x ≠ 0) (hxK : x ≤ K) (hi : ls[i]? = some (seq x)) (e : seq x = A ++ x :: B) (hA : A ≠ []) : Tie K (wo ls i i ++ [A, x :: B]) (cutS seq A x B) := by
  have hnd := p.nd x hx
  rw [e, List.nodup_append] at hnd
  have hxA : x ∉ A := fun h => hnd.2.2 x h x List.mem_cons_self rfl
  refine t.replace p hx hxK hx hxK hi hi (fun z h1 _ => ?_) (fun z hz => ?_) (fun l hl => ?_) ?_
  · rw [e] at h1
    unfold cutS
    rw [if_neg (fun h => h1 (List.mem_append_left _ h)), if_neg (fun h => h1 (List.mem_append_right _ h))]
  · have hz' : z ∈ A ++ x :: B := by rcases hz with h | h <;> rwa [e] at h
    unfold cutS
    by_cases hzA : z ∈ A
    · rw [if_pos hzA]; simp
    · rw [if_neg hzA, if_pos (by rcases List.mem_append.1 hz' with h | h; exact absurd h hzA; exact h)]; simp
  · rcases List.mem_cons.1 hl with rfl | hl
    · obtain ⟨z, m, rfl⟩ := List.exists_cons_of_ne_nil hA
      exact ⟨z, Or.inl (by rw [e]; simp), List.mem_cons_self, by unfold cutS; rw [if_pos List.mem_cons_self]⟩
    · obtain rfl := List.mem_singleton.1 hl
      exact ⟨x, Or.inl (p.self x hx), List.mem_cons_self, by unfold cutS; rw [if_neg hxA, if_pos List.mem_cons_self]⟩
  · have : A ≠ x :: B := fun h => hxA (by rw [h]; exact List.mem_cons_self)
    simp [this]

theorem Tie.rev (t : Tie K ls seq) (p : Part K seq) {x i : Nat} (hx : x ≠ 0) (hxK : x ≤ K) (hi : ls[i]? = some (seq x)) : Tie K (wo ls i i ++ [(seq x).reverse]) (revS seq x) := by
  refine t.replace p hx hxK hx hxK hi hi (fun z h1 _ => ?_) (fun z hz => ?_) (fun l hl => ?_) (by simp)
  · unfold revS; rw [if_neg h1]
  · have hz' : z ∈ seq x := by rcases hz with h | h <;> exact h
    unfold revS; rw [if_pos hz']; simp
  · obtain rfl := List.mem_singleton.1 hl
    exact ⟨x, Or.inl (p.self x hx), List.mem_reverse.2 (p.self x hx), by unfold revS; rw [if_pos (p.self x hx)]⟩

theorem Tie.join (t : Tie K ls seq) (p : Part K seq) {x y i j : Nat} (hx : x ≠ 0) (hxK : x ≤ K) (hy : y ≠ 0) (hyK : y ≤ K) (hi : ls[i]? = some (seq x)) (hj : ls[j]? = some (seq y)) : Tie K (wo ls i j ++ [seq x ++ seq y]) (joinS seq x y) := by
  refine t.replace p hx hxK hy hyK hi hj (fun z h1 h2 => ?_) (fun z hz => ?_) (fun l hl => ?_) (by simp)
  · unfold joinS; rw [if_neg (fun h => h.elim h1 h2)]
  · unfold joinS; rw [if_pos hz]; simp
  · obtain rfl := List.mem_singleton.1 hl
    exact ⟨x, Or.inl (p.self x hx), List.mem_append_left _ (p.self x hx), by unfold joinS; rw [if_pos (Or.inl (p.self x hx))]⟩

/-- Two slices of a row. -/
theorem ro_two {w : World} {g o c : Nat} {l : List Nat} (h : Ib w g o l) (j : Nat) (hj : j ≤ l.length) (hl : l.length ≤ c) (hc : c ≤ maxLen) : Ro w (.slice (some ⟨g, o, none⟩) j j) (l.take j) ∧ Ro w (.slice (some ⟨g, o + j, none⟩) (l.length - j) (c - j)) (l.drop j) := by
  obtain ⟨p1, p2⟩ := Ro.parts (cap := c) (M := j) h j
  have e1 : (l.take j).length = j := by rw [List.length_take]; omega
  have e2 : (l.drop j).length = l.length - j := by rw [List.length_drop]
  exact ⟨⟨g, o, j, by rw [e1], by omega, by unfold maxLen at *; omega, p1⟩, ⟨g, o + j, c - j, by rw [e2], by omega, by unfold maxLen at *; omega, p2⟩⟩

set_option maxRecDepth 100000 in
set_option maxHeartbeats 1000000 in
theorem rcut_front (x : Value) (a : Nat) (w : World) (hx : Rf w x ls) (t : Tie K ls seq) (p : Part K seq) (hK : K ≤ 1000) (ha : a < K) (B : List Nat) (he : seq (a + 1) = (a + 1) :: B) :
    Calls Tryd.prog 10 #[x, .int .i64 (a : Int)] w fun e w' => e = .returned (.tuple #[x, .bool false]) ∧ w = w' := by
  have hf := hid (hx.find t p hK a ha)
  have hnd := hid (p.nd (a + 1) (by omega))
  replace he := hid he
  go_enter Tryd.func10, Tryd.ntmps10
  go_wp2_with fail
  refine hf.out.mono ?_
  rintro e w1 ⟨i, k, rfl, _, hk, rfl⟩
  have hk0 : k = 0 := (List.getElem?_inj (List.getElem?_eq_some_iff.1 hk).1 hnd.out).1 (by rw [hk, he.out]; rfl)
  subst hk0
  clear hk
  go_wp2_with fail
  go_ret2
  exact ⟨rfl, rfl⟩

set_option maxRecDepth 100000 in
set_option maxHeartbeats 4000000 in
theorem rcut_ok (x : Value) (a : Nat) (w : World) (hx : Rf w x ls) (t : Tie K ls seq) (p : Part K seq) (hK : K ≤ 1000) (ha : a < K) (A B : List Nat) (he : seq (a + 1) = A ++ (a + 1) :: B) (hA : A ≠ []) :
    Calls Tryd.prog 10 #[x, .int .i64 (a : Int)] w fun e w' => ∃ x' ls', e = .returned (.tuple #[x', .bool true]) ∧ Rf w' x' ls' ∧ Tie K ls' (cutS seq A (a + 1) B) ∧ Below w.heap.size w w' := by
  obtain ⟨i1, hif, hz0, hz1, hz2⟩ := info_parts infoInts
  have hf := hid (hx.find t p hK a ha)
  have hlen := t.len
  have hxr : Hid (∀ y, Below w.heap.size w y → Rf y x ls) := hid (fun y hy => hx.below hy)
  obtain ⟨bo, cap, rfl, hop⟩ := hx.opened
  obtain ⟨M, hM⟩ : ∃ M, ls.length = M := ⟨_, rfl⟩
  have hMh := hid hM
  rw [hM] at hf hlen hxr ⊢
  have hfew := p.few (x := a + 1) (by omega) (by omega)
  obtain ⟨nl, hnl⟩ : ∃ nl, (seq (a + 1)).length = nl := ⟨_, rfl⟩
  rw [hnl] at hfew
  have hAp : 0 < A.length := by cases A with | nil => exact absurd rfl hA | cons _ _ => simp
  have hnlA : nl = A.length + 1 + B.length := by rw [← hnl, he]; simp; omega
  have hnd := hid (p.nd (a + 1) (by omega))
  clear hM
  go_enter Tryd.func10, Tryd.ntmps10
  go_wp2_with fail
  refine hf.out.mono ?_
  rintro e w1 ⟨i, k, rfl, hi, hk, rfl⟩
  have hkA : k = A.length := (List.getElem?_inj (List.getElem?_eq_some_iff.1 hk).1 hnd.out).1 (by rw [hk, he, List.getElem?_append_right (Nat.le_refl _)]; simp)
  have hil := (List.getElem?_eq_some_iff.1 hi).1
  have htie := hid (t.cut p (show a + 1 ≠ 0 by omega) (by omega) hi he hA)
  obtain ⟨g, o, c, hc1, hc2, hcy⟩ := hop i _ hi
  have hcut : Hid (∀ y, Below w.heap.size w y → Ro y (.slice (some ⟨g, o, none⟩) k k) A ∧ Ro y (.slice (some ⟨g, o + k, none⟩) (nl - k) (c - k)) ((a + 1) :: B)) := hid (fun y hy => by
    have hro := ro_two (hcy y hy).2.2 k (by omega) hc1 hc2
    rw [hnl, he, hkA, List.take_left, List.drop_left] at hro
    rw [hkA]
    exact hro)
  rw [hnl] at hcy hc1
  have hwl : (wo ls i i).length ≤ 1000 := by have := wo_len ls i i; have := hMh.out; omega
  have hwi : Hid (∀ y, Below w.heap.size w y → Calls Tryd.prog 26 #[.slice (some ⟨bo, 0, none⟩) M cap, .int .i64 (i : Int), .int .i64 (i : Int)] y fun e w' => ∃ v, e = .returned v ∧ Rg w' y.heap.size v (wo ls i i) ∧ Below y.heap.size y w') := hid (fun y hy => rwithout_ok _ ls i i y (hxr.out y hy) (by have := hMh.out; omega) (by have := hMh.out; omega) (by have := hMh.out; omega))
  have hcell := hid (fun y hy => (hcy y hy).1)
  have q1 : (0 : Int) ≤ (i : Int) := by omega
  have q2 : (i : Int) < (M : Int) := by have := hMh.out; omega
  have k1 : (0 : Int) ≤ (k : Int) := by omega
  have k2 : (k : Int) ≤ (nl : Int) := by omega
  have k3 : (k : Int) ≤ (c : Int) := by omega
  have k4 : c ≠ k := by omega
  have kz : ((k : Int) == 0) = false := by rw [beq_eq_false_iff_ne]; omega
  have kz' : ¬ k = 0 := by omega
  have c3n : c ≤ 9223372036854775807 := by unfold maxLen at hc2; omega
  have bx : Below w.heap.size w ((w.alloc (.cells [Value.slice (some ⟨g, o, none⟩) k k, Value.slice (some ⟨g, o + k, none⟩) (nl - k) (c - k)].toArray 58)).drew) := ((Below.refl _ _).alloc (Nat.le_refl _) _).drew
  have hnx : ((w.alloc (.cells [Value.slice (some ⟨g, o, none⟩) k k, Value.slice (some ⟨g, o + k, none⟩) (nl - k) (c - k)].toArray 58)).drew).heap[w.heap.size]? = some (.cells [Value.slice (some ⟨g, o, none⟩) k k, Value.slice (some ⟨g, o + k, none⟩) (nl - k) (c - k)].toArray 58 (0, 0)) := heap_alloc_new w _
  have hsx : ((w.alloc (.cells [Value.slice (some ⟨g, o, none⟩) k k, Value.slice (some ⟨g, o + k, none⟩) (nl - k) (c - k)].toArray 58)).drew).heap.size = w.heap.size + 1 := by simp
  obtain ⟨ws, hws⟩ : ∃ ws, (w.alloc (.cells [Value.slice (some ⟨g, o, none⟩) k k, Value.slice (some ⟨g, o + k, none⟩) (nl - k) (c - k)].toArray 58)).drew = ws := ⟨_, rfl⟩
  rw [hws] at bx hnx hsx
  have cw := hcell.out w (Below.refl _ _)
  have cws := hcell.out ws bx
  replace hws := hid hws
  clear hop hcy hi hk hil hf he hkA hnlA hnl hA hAp hnd
  go_wp2_with fail
  go_region_held3 (fun y => y.cell? ⟨bo, i, none⟩ = some (.slice (some ⟨g, o, none⟩) nl c)) (first | assumption | exact cw | exact cws | go_keep) (first
    | (go_at_call 26; refine (hwi.out w.drew (Below.refl _ _).drew).mono ?_; rintro e w4 ⟨v4, rfl, rg4, b4⟩; have b34 : Below w.heap.size w w4 := (Below.refl w.heap.size w).drew.trans b4; have c4 := hcell.out w4 b34; obtain ⟨us, hus, ho4, hr4⟩ := rg4; have hro := hid (hcut.out w4 b34); have ba4 : Below w4.heap.size w4 (w4.alloc (.cells [Value.slice (some ⟨g, o, none⟩) k k, Value.slice (some ⟨g, o + k, none⟩) (nl - k) (c - k)].toArray 58)) := (Below.refl _ _).alloc (Nat.le_refl _) _; have hoa := own_more ho4 ba4; have hnews := new_cells (us := [Value.slice (some ⟨g, o, none⟩) k k, Value.slice (some ⟨g, o + k, none⟩) (nl - k) (c - k)]) (heap_alloc_new w4 (.cells [Value.slice (some ⟨g, o, none⟩) k k, Value.slice (some ⟨g, o + k, none⟩) (nl - k) (c - k)].toArray 58)); have hszb : w.heap.size ≤ (w4.alloc (.cells [Value.slice (some ⟨g, o, none⟩) k k, Value.slice (some ⟨g, o + k, none⟩) (nl - k) (c - k)].toArray 58)).heap.size := Nat.le_trans b34.size ba4.size; have c5 := hcell.out (w4.alloc (.cells [Value.slice (some ⟨g, o, none⟩) k k, Value.slice (some ⟨g, o + k, none⟩) (nl - k) (c - k)].toArray 58)) (b34.trans (ba4.mono b34.size)); have hr4 := hid hr4)
    | (go_at_call 26; (try rw [hws.out]); refine (hwi.out ws bx).mono ?_; rintro e w4 ⟨v4, rfl, rg4, b4⟩; have b34 : Below w.heap.size w w4 := bx.trans (b4.mono bx.size); have c4 := hcell.out w4 b34; obtain ⟨us, hus, ho4, hr4⟩ := rg4; have hro := hid (hcut.out w4 b34); have hnews := new_cells (us := [Value.slice (some ⟨g, o, none⟩) k k, Value.slice (some ⟨g, o + k, none⟩) (nl - k) (c - k)]) ((b4.block w.heap.size (by omega)).trans hnx); have hr4 := hid hr4; have hszb := b4.size)
    | (refine step_append_own rfl (.tmp 20) (.tmp 34) 29 rfl w.heap.size 58 i1 _ 1 24 Tryd.underlying29 hif hz0 hz1 hz2 rfl (by decide) v4 (wo ls i i).length us (by rfl) hoa ⟨w4.heap.size, 0, none⟩ 2 2 [Value.slice (some ⟨g, o, none⟩) k k, Value.slice (some ⟨g, o + k, none⟩) (nl - k) (c - k)] (by rfl) rfl hnews (by simp [Value.oneCell']) (by unfold maxLen; omega) (by omega) hszb ?_; intro v5 w5 ho5 hg5; have fin := hid (rows_append (nl := [A, (a + 1) :: B]) (Nat.le_refl w.heap.size) b34 hus ho4 hr4.out rfl (fun j l u hj hu => (by match j, (List.getElem?_eq_some_iff.1 hj).1, hj, hu with | 0, _, hj, hu => (simp at hj hu; subst hj hu; exact hro.out.1.below ba4) | 1, _, hj, hu => (simp at hj hu; subst hj hu; exact hro.out.2.below ba4))) ba4 ho5 hg5 (by simp)); have c6 := hcell.out w5 fin.out.2; clear ho5 hg5)
    | (refine step_append_own rfl (.tmp 20) (.tmp 34) 29 rfl ws.heap.size 58 i1 _ 1 24 Tryd.underlying29 hif hz0 hz1 hz2 rfl (by decide) v4 (wo ls i i).length us (by rfl) ho4 ⟨w.heap.size, 0, none⟩ 2 2 [Value.slice (some ⟨g, o, none⟩) k k, Value.slice (some ⟨g, o + k, none⟩) (nl - k) (c - k)] (by rfl) rfl hnews (by simp [Value.oneCell']) (by unfold maxLen; omega) (by omega) hszb ?_; intro v5 w5 ho5 hg5; have fin0 := rows_append (nl := [A, (a + 1) :: B]) (Nat.le_refl ws.heap.size) b4 hus ho4 hr4.out rfl (fun j l u hj hu => (by match j, (List.getElem?_eq_some_iff.1 hj).1, hj, hu with | 0, _, hj, hu => (simp at hj hu; subst hj hu; exact hro.out.1) | 1, _, hj, hu => (simp at hj hu; subst hj hu; exact hro.out.2))) (Below.refl _ _) ho5 hg5 (by simp); have fin := hid (And.intro fin0.1 (bx.trans (fin0.2.mono bx.size))); have c6 := hcell.out w5 fin.out.2; clear ho5 hg5 fin0))
  all_goals
    go_wp2_with fail
    go_ret2
    exact ⟨v5, _, rfl, fin.out.1, htie.out, fin.out.2⟩
end

end Go.Proofs.YtpelpcplagfdiaaDoor
