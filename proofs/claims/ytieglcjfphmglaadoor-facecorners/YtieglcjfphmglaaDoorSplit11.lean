/- An edge laid: one face more, or one less. Plain mathematics. -/
import Derived.Test.YtieglcjfphmglaaDoorFace11
namespace Go.Proofs.YtieglcjfphmglaaDoor
set_option linter.unusedVariables false

open Pq (swp swp_s swp_t swp_o Of1 cn)

theorem fix_it {f : Nat → Nat} {p : Nat} (h : f p = p) : ∀ k, Pq.it f k p = p
  | 0 => rfl
  | k + 1 => by show f (Pq.it f k p) = p; rw [fix_it h k, h]

theorem fix_of {f : Nat → Nat} {p z : Nat} (h : f p = p) (k : Of1 f p z) : z = p := by
  obtain ⟨j, rfl⟩ := k
  exact fix_it h j

/-- A dart put behind b: round the vertices. -/
theorem vx_put {V E : Nat} {R : Nat → List Nat} (ht : Tn V E R) {v b d : Nat} (hv : v < V) (hb : b ∈ R v) (hd : ¬ In V R d) (hl : d < 2 * E) : vx V (putR R v (some b) d) = swp (vx V R) b d := by
  have hb' : ∀ y, (some b) = some y → y ∈ R v := fun y e => by cases e; exact hb
  have tn := ht.put hv hb' hd hl
  have hbd : b ≠ d := fun e => hd ⟨v, hv, e ▸ hb⟩
  have hdv : d ∉ R v := fun q => hd ⟨v, hv, q⟩
  funext x
  by_cases hx : In V (putR R v (some b) d) x
  · rcases (In.put hv hb').1 hx with e | hi
    · subst e
      have hm : x ∈ putR R v (some b) x v := by unfold putR; rw [upd_same]; exact (ins_mem hb).2 (.inl rfl)
      rw [vx_at tn hv hm, swp_t, vx_at ht hv hb]
      show nx (upd R v (ins (R v) b x) v) x = nx (R v) b
      rw [upd_same, nx_ins (ht.nd v hv) hb hdv (.inl rfl), if_neg (fun q => hbd q.symm), if_pos rfl]
    · obtain ⟨u, hu, hm⟩ := hi
      have hxd : x ≠ d := fun q => hd ⟨u, hu, q ▸ hm⟩
      by_cases huv : u = v
      · subst huv
        have hm' : x ∈ putR R u (some b) d u := by unfold putR; rw [upd_same]; exact (ins_mem hb).2 (.inr hm)
        rw [vx_at tn hv hm']
        show nx (upd R u (ins (R u) b d) u) x = _
        rw [upd_same, nx_ins (ht.nd u hv) hb hdv (.inr hm)]
        by_cases hxb : x = b
        · subst hxb; rw [if_pos rfl, swp_s, vx_no hd]
        · rw [if_neg hxb, if_neg hxd, swp_o hxb hxd, vx_at ht hv hm]
      · have hm' : x ∈ putR R v (some b) d u := by unfold putR; rw [upd_ne huv]; exact hm
        have hxb : x ≠ b := fun q => huv (ht.one u v b hu hv (q ▸ hm) hb)
        rw [vx_at tn hu hm', swp_o hxb hxd, vx_at ht hu hm]
        unfold putR
        rw [upd_ne huv]
  · have hx1 : x ≠ d := fun q => hx ((In.put hv hb').2 (.inl q))
    have hx2 : ¬ In V R x := fun q => hx ((In.put hv hb').2 (.inr q))
    have hxb : x ≠ b := fun q => hx2 ⟨v, hv, q ▸ hb⟩
    rw [vx_no hx, swp_o hxb hx1, vx_no hx2]

/-- A dart put where none is. -/
theorem vx_put0 {V E : Nat} {R : Nat → List Nat} (ht : Tn V E R) {v d : Nat} (hv : v < V) (hb : R v = []) (hd : ¬ In V R d) (hl : d < 2 * E) : vx V (putR R v none d) = vx V R := by
  have hb' : ∀ y, (none : Option Nat) = some y → y ∈ R v := fun y e => by cases e
  have tn := ht.put hv hb' hd hl
  have hsame : putR R v none d v = [d] := by
    unfold putR
    rw [upd_same, hb]
    rfl
  funext x
  by_cases hx : In V (putR R v none d) x
  · rcases (In.put hv hb').1 hx with e | hi
    · subst e
      rw [vx_at tn hv (by rw [hsame]; simp), hsame, vx_no hd, nx_first]
      rfl
    · obtain ⟨u, hu, hm⟩ := hi
      have huv : u ≠ v := fun q => by subst q; rw [hb] at hm; cases hm
      have hm' : x ∈ putR R v none d u := by unfold putR; rw [upd_ne huv]; exact hm
      rw [vx_at tn hu hm', vx_at ht hu hm]
      unfold putR
      rw [upd_ne huv]
  · have hx2 : ¬ In V R x := fun q => hx ((In.put hv hb').2 (.inr q))
    rw [vx_no hx, vx_no hx2]

/-- A dart put behind a single one, or at the end: the same. -/
theorem put_one {R : Nat → List Nat} {v c d : Nat} (h : R v = [c]) : putR R v none d = putR R v (some c) d := by
  unfold putR
  rw [h]
  congr 1
  show [c] ++ [d] = ins ([] ++ c :: []) c d
  rw [ins_split (by simp)]
  rfl

open Classical in
/-- How many darts are not laid, how many vertices have none. -/
noncomputable def und (V E : Nat) (R : Nat → List Nat) : Nat := (List.range (2 * E)).countP (fun x => decide (¬ In V R x))
/-- How many of the first vertices have no dart. -/
def iso (R : Nat → List Nat) (V : Nat) : Nat := (List.range V).countP (fun v => (R v).isEmpty)

theorem count_two {p q r : Nat → Bool} (h : ∀ x, (p x = true ∧ q x = false ∧ r x = true) ∨ (p x = false ∧ q x = true ∧ r x = true) ∨ (p x = false ∧ q x = false ∧ r x = false)) : ∀ n, (List.range n).countP p + (List.range n).countP q = (List.range n).countP r
  | 0 => rfl
  | n + 1 => by
    rw [List.range_succ, List.countP_append, List.countP_append, List.countP_append, List.countP_singleton, List.countP_singleton, List.countP_singleton]
    have ih := count_two h n
    rcases h n with ⟨a, b, c⟩ | ⟨a, b, c⟩ | ⟨a, b, c⟩ <;> rw [a, b, c] <;> simp <;> omega

theorem faces_cn (V E : Nat) (R : Nat → List Nat) : (fcs V R (2 * E)).length + und V E R = cn (2 * E) (fx V R) := by
  classical
  unfold fcs und cn
  rw [List.length_map, ← List.countP_eq_length_filter]
  refine count_two (fun x => ?_) (2 * E)
  by_cases h1 : In V R x
  · by_cases h2 : Pq.lst (fx V R) x
    · exact .inl ⟨decide_eq_true ⟨h1, h2⟩, decide_eq_false (fun q => q h1), decide_eq_true h2⟩
    · exact .inr (.inr ⟨decide_eq_false (fun q => h2 q.2), decide_eq_false (fun q => q h1), decide_eq_false h2⟩)
  · refine .inr (.inl ⟨decide_eq_false (fun q => h1 q.1), decide_eq_true h1, decide_eq_true ?_⟩)
    intro k
    rw [fix_it (fx_no h1) k]
    exact Nat.le_refl _

section
variable {V E e u v : Nat} {R : Nat → List Nat} {a b : Option Nat}

theorem und_lay (h : Tn V E R) (t : Tw V E R) (he : e < E) (hu : u < V) (hv : v < V) (ha : ∀ y, a = some y → y ∈ R u) (hb : ∀ y, b = some y → y ∈ R v) (hn : ¬ In V R (2 * e)) : und V E (layR R e u v a b) + 2 = und V E R := by
  classical
  have hi := (h.lay t he hu hv ha hb hn).2.2
  have hn' : ¬ In V R (2 * e + 1) := fun q => hn ((t e he).2 q)
  have s1 : (List.range (2 * E)).countP (fun x => decide (¬ In V R x)) = (List.range (2 * E)).countP (fun x => decide (¬ (x = 2 * e ∨ In V R x))) + 1 := by
    refine Pq.count_one (m := 2 * e) (by omega) (decide_eq_true hn) (decide_eq_false (fun q => q (.inl rfl))) (fun x hx hne => ?_)
    by_cases hx' : In V R x
    · simp [hx']
    · simp [hx', hne]
  have s2 : (List.range (2 * E)).countP (fun x => decide (¬ (x = 2 * e ∨ In V R x))) = (List.range (2 * E)).countP (fun x => decide (¬ In V (layR R e u v a b) x)) + 1 := by
    refine Pq.count_one (m := 2 * e + 1) (by omega) (decide_eq_true (fun q => ?_)) (decide_eq_false (fun q => q ((hi _).2 (.inl rfl)))) (fun x hx hne => ?_)
    · rcases q with q | q
      · omega
      · exact hn' q
    · have : (x = 2 * e ∨ In V R x) ↔ In V (layR R e u v a b) x := by rw [hi]; simp [hne]
      simp only [this]
  unfold und
  omega

theorem iso_congr {R R' : Nat → List Nat} {V : Nat} (h : ∀ x, x < V → (R x).isEmpty = (R' x).isEmpty) : iso R V = iso R' V := by
  unfold iso
  refine List.countP_congr (fun x hx => ?_)
  rw [h x (List.mem_range.1 hx)]

theorem iso_put {R : Nat → List Nat} {V v d : Nat} {b : Option Nat} (hv : v < V) (hb : ∀ y, b = some y → y ∈ R v) : (R v = [] → iso (putR R v b d) V + 1 = iso R V) ∧ (R v ≠ [] → iso (putR R v b d) V = iso R V) := by
  have hne : (putR R v b d v).isEmpty = false := by
    have hl := pt_len (d := d) hb
    unfold putR
    rw [upd_same]
    cases hp : pt (R v) b d with
    | nil => rw [hp] at hl; simp at hl
    | cons x l => rfl
  have ho : ∀ x, x ≠ v → (putR R v b d x).isEmpty = (R x).isEmpty := fun x hx => by unfold putR; rw [upd_ne hx]
  constructor
  · intro hr
    unfold iso
    exact (Pq.count_one (m := v) hv (by rw [hr]; rfl) hne (fun x _ hx => (ho x hx).symm)).symm
  · intro hr
    refine iso_congr (fun x _ => ?_)
    by_cases hx : x = v
    · subst hx
      rw [hne]
      cases hq : R x with
      | nil => exact absurd hq hr
      | cons y l => rfl
    · exact ho x hx

/-- Into one face. -/
def One (V : Nat) (R : Nat → List Nat) (u v : Nat) (a b : Option Nat) : Prop := match a, b with
  | some a, some b => Of1 (fx V R) (vx V R a) (vx V R b)
  | none, none => u = v
  | _, _ => False

theorem split_count (h : Tn V E R) (t : Tw V E R) (he : e < E) (hu : u < V) (hv : v < V) (ha : ∀ y, a = some y → y ∈ R u) (hb : ∀ y, b = some y → y ∈ R v) (ha0 : a = none → R u = []) (hb0 : b = none → R v = []) (hn : ¬ In V R (2 * e)) :
    (One V R u v a b → (fcs V (layR R e u v a b) (2 * E)).length + iso (layR R e u v a b) V = (fcs V R (2 * E)).length + iso R V + 1) ∧ (¬ One V R u v a b → (fcs V (layR R e u v a b) (2 * E)).length + iso (layR R e u v a b) V + 1 = (fcs V R (2 * E)).length + iso R V) := by
  have hl := h.lay t he hu hv ha hb hn
  have hi := hl.2.2
  have c1 := faces_cn V E R
  have c2 := faces_cn V E (layR R e u v a b)
  have c3 := und_lay h t he hu hv ha hb hn
  have pm := fx_pm h t
  have hp : ¬ In V R (2 * e) := hn
  have hq : ¬ In V R (2 * e + 1) := fun q => hn ((t e he).2 q)
  have fp : fx V R (2 * e) = 2 * e := fx_no hp
  have fq : fx V R (2 * e + 1) = 2 * e + 1 := fx_no hq
  have lp : 2 * e < 2 * E := by omega
  have lq : 2 * e + 1 < 2 * E := by omega
  have tn1 := h.put hu ha hp lp
  have hqi : ¬ In V (putR R u a (2 * e)) (2 * e + 1) := fun q => by
    rcases (In.put hu ha).1 q with q | q
    · omega
    · exact hq q
  have hb1 := lay_b (e := e) hb ha
  -- what fx is of a dart that was laid, and of the two
  have f0 : ∀ x, In V R x → fx V (layR R e u v a b) x = vx V (layR R e u v a b) (tw x) := fun x hx => fx_yes ((hi x).2 (.inr (.inr hx)))
  have f1 : fx V (layR R e u v a b) (2 * e) = vx V (layR R e u v a b) (2 * e + 1) := by rw [fx_yes ((hi _).2 (.inr (.inl rfl))), tw_even]
  have f2 : fx V (layR R e u v a b) (2 * e + 1) = vx V (layR R e u v a b) (2 * e) := by rw [fx_yes ((hi _).2 (.inl rfl)), tw_odd]
  have f3 : ∀ x, ¬ In V R x → x ≠ 2 * e → x ≠ 2 * e + 1 → fx V (layR R e u v a b) x = x := fun x h1 h2 h3 => fx_no (fun q => by
    rcases (hi x).1 q with q | q | q
    · exact h3 q
    · exact h2 q
    · exact h1 q)
  have far : ∀ x, In V R x → tw x ≠ 2 * e ∧ tw x ≠ 2 * e + 1 ∧ x ≠ 2 * e ∧ x ≠ 2 * e + 1 := fun x hx => by
    have hx' := hx.tw h t
    exact ⟨fun q => hp (q ▸ hx'), fun q => hq (q ▸ hx'), fun q => hp (q ▸ hx), fun q => hq (q ▸ hx)⟩
  have isoA : ∀ (k : R u ≠ []) (l : R v ≠ []), iso (layR R e u v a b) V = iso R V := fun k l => by
    unfold layR
    rw [(iso_put hv hb1).2 (fun q => l (by
      by_cases huv : v = u
      · subst huv
        unfold putR at q
        rw [upd_same] at q
        have := pt_len (d := 2 * e) ha
        rw [q] at this
        simp at this
      · unfold putR at q
        rw [upd_ne huv] at q
        exact q)), (iso_put hu ha).2 k]
  have ne1 : putR R u a (2 * e) u ≠ [] := fun q => by
    unfold putR at q
    rw [upd_same] at q
    have := pt_len (d := 2 * e) ha
    rw [q] at this
    simp at this
  cases a with
  | some a =>
    have ham : a ∈ R u := ha a rfl
    have hai : In V R a := ⟨u, hu, ham⟩
    have hxi : In V R (tw a) := hai.tw h t
    have fa : fx V R (tw a) = vx V R a := by rw [fx_yes hxi, tw_tw]
    have hxl := hxi.low h
    have hru : R u ≠ [] := fun q => by rw [q] at ham; cases ham
    obtain ⟨n1, n2, n3, n4⟩ := far (tw a) hxi
    rw [tw_tw] at n1 n2
    have vp := vx_put h hu ham hp lp
    have nop : ¬ Of1 (fx V R) (tw a) (2 * e) := fun k => n3 (fix_of fp (pm.sym hxl k))
    cases b with
    | some b =>
      have hbm : b ∈ R v := hb b rfl
      have hbi : In V R b := ⟨v, hv, hbm⟩
      have hyi : In V R (tw b) := hbi.tw h t
      have fb : fx V R (tw b) = vx V R b := by rw [fx_yes hyi, tw_tw]
      have hyl := hyi.low h
      have hrv : R v ≠ [] := fun q => by rw [q] at hbm; cases hbm
      obtain ⟨m1, m2, m3, m4⟩ := far (tw b) hyi
      rw [tw_tw] at m1 m2
      have vq := vx_put tn1 hv (hb1 b rfl) hqi lq
      rw [vp] at vq
      have hiso := isoA hru hrv
      by_cases hab : a = b
      · subst hab
        have huv : u = v := h.one u v a hu hv ham hbm
        have e1 : fx V (layR R e u v (some a) (some a)) = swp (fx V R) (tw a) (2 * e + 1) := by
          funext x
          by_cases hx : In V R x
          · obtain ⟨k1, k2, k3, k4⟩ := far x hx
            rw [f0 x hx]
            show vx V (putR (putR R u (some a) (2 * e)) v (some a) (2 * e + 1)) (tw x) = _
            rw [vq]
            by_cases hxa : x = tw a
            · subst hxa
              rw [tw_tw, swp_s, swp_s, swp_o (by omega) (by omega), vx_no hq, fq]
            · rw [swp_o (fun q => hxa (by rw [← q, tw_tw])) k2, swp_o (fun q => hxa (by rw [← q, tw_tw])) k1, swp_o hxa k4, fx_yes hx]
          · by_cases hxp : x = 2 * e
            · subst hxp
              rw [f1, swp_o (fun q => n3 q.symm) (by omega), fp]
              show vx V (putR (putR R u (some a) (2 * e)) v (some a) (2 * e + 1)) _ = _
              rw [vq, swp_t, swp_s, vx_no hp]
            · by_cases hxq : x = 2 * e + 1
              · subst hxq
                rw [f2, swp_t, fa]
                show vx V (putR (putR R u (some a) (2 * e)) v (some a) (2 * e + 1)) _ = _
                rw [vq, swp_o (fun q => n1 q.symm) (by omega), swp_t]
              · rw [f3 x hx hxp hxq, swp_o (fun q => hx (by rw [q]; exact hxi)) hxq, fx_no hx]
        have noq : ¬ Of1 (fx V R) (tw a) (2 * e + 1) := fun k => n4 (fix_of fq (pm.sym hxl k))
        have k1 := pm.cn_join hxl lq noq
        rw [← e1] at k1
        refine ⟨fun _ => by omega, fun q => absurd (Of1.refl _ _) q⟩
      · have hxy : tw a ≠ tw b := fun q => hab (tw_inj q)
        have e1 : fx V (layR R e u v (some a) (some b)) = swp (swp (swp (fx V R) (tw a) (2 * e)) (tw b) (2 * e + 1)) (2 * e) (2 * e + 1) := by
          funext x
          by_cases hx : In V R x
          · obtain ⟨k1, k2, k3, k4⟩ := far x hx
            rw [f0 x hx, swp_o k3 k4]
            show vx V (putR (putR R u (some a) (2 * e)) v (some b) (2 * e + 1)) (tw x) = _
            rw [vq]
            by_cases hxb : x = tw b
            · subst hxb
              rw [tw_tw, swp_s, swp_s, swp_o (by omega) (by omega), vx_no hq, swp_o (fun q => n4 q.symm) (by omega), fq]
            · rw [swp_o (fun q => hxb (by rw [← q, tw_tw])) k2, swp_o hxb k4]
              by_cases hxa : x = tw a
              · subst hxa
                rw [tw_tw, swp_s, swp_s, vx_no hp, fp]
              · rw [swp_o (fun q => hxa (by rw [← q, tw_tw])) k1, swp_o hxa k3, fx_yes hx]
          · by_cases hxp : x = 2 * e
            · subst hxp
              rw [f1, swp_s, swp_t, swp_o (fun q => hxy q.symm) m3, fb]
              show vx V (putR (putR R u (some a) (2 * e)) v (some b) (2 * e + 1)) _ = _
              rw [vq, swp_t, swp_o (fun q => hab q.symm) m1]
            · by_cases hxq : x = 2 * e + 1
              · subst hxq
                rw [f2, swp_t, swp_o (fun q => m3 q.symm) (by omega), swp_t, fa]
                show vx V (putR (putR R u (some a) (2 * e)) v (some b) (2 * e + 1)) _ = _
                rw [vq, swp_o (fun q => m1 q.symm) (by omega), swp_t]
              · rw [f3 x hx hxp hxq, swp_o hxp hxq, swp_o (fun q => hx (by rw [q]; exact hyi)) hxq, swp_o (fun q => hx (by rw [q]; exact hxi)) hxp, fx_no hx]
        have pm1 := pm.swp hxl lp
        have q1 : swp (fx V R) (tw a) (2 * e) (2 * e + 1) = 2 * e + 1 := by rw [swp_o (fun q => n4 q.symm) (by omega), fq]
        have noq : ¬ Of1 (swp (fx V R) (tw a) (2 * e)) (tw b) (2 * e + 1) := fun k => m4 (fix_of q1 (pm1.sym hyl k))
        have k1 := pm.cn_join hxl lp nop
        have k2 := pm1.cn_join hyl lq noq
        have pm2 := pm1.swp hyl lq
        have iff1 : Of1 (swp (swp (fx V R) (tw a) (2 * e)) (tw b) (2 * e + 1)) (2 * e) (2 * e + 1) ↔ Of1 (fx V R) (vx V R a) (vx V R b) := by
          rw [pm1.join_iff hyl lq noq lp lq]
          have z1 : ¬ Of1 (swp (fx V R) (tw a) (2 * e)) (2 * e) (2 * e + 1) := fun k => by
            have := fix_of q1 (pm1.sym lp k)
            omega
          have z2 : Of1 (swp (fx V R) (tw a) (2 * e)) (2 * e) (tw b) ↔ Of1 (fx V R) (tw b) (tw a) := by
            rw [pm.join_iff hxl lp nop lp hyl]
            constructor
            · rintro (k | ⟨_, k | k⟩)
              · exact absurd (fix_of fp k) m3
              · exact k
              · exact absurd (fix_of fp (pm.sym hyl k)) m3
            · intro k
              exact .inr ⟨.inr (Of1.refl _ _), .inl k⟩
          rw [← fa, ← fb]
          constructor
          · rintro (k | ⟨k | k, _⟩)
            · exact absurd k z1
            · have := z2.1 k
              exact (pm.sym hxl (Of1.step _ _)).trans ((pm.sym hyl this).trans (Of1.step _ _))
            · exact absurd k z1
          · intro k
            refine .inr ⟨.inl (z2.2 ?_), .inr (Of1.refl _ _)⟩
            have k' := pm.sym (pm.1 _ hxl) k
            exact (Of1.step _ _).trans (k'.trans (pm.sym hxl (Of1.step _ _)))
        constructor
        · intro ho
          have k3 := pm2.cn_part lp lq (by omega) (iff1.2 ho)
          rw [← e1] at k3
          omega
        · intro ho
          have k3 := pm2.cn_join lp lq (fun k => ho (iff1.1 k))
          rw [← e1] at k3
          omega
    | none =>
      have hr0 := hb0 rfl
      have huv : v ≠ u := fun q => by subst q; rw [hr0] at ham; cases ham
      have hrv : putR R u (some a) (2 * e) v = [] := by unfold putR; rw [upd_ne huv, hr0]
      have vq := vx_put0 tn1 hv hrv hqi lq
      rw [vp] at vq
      have hiso : iso (layR R e u v (some a) none) V + 1 = iso R V := by
        unfold layR
        rw [(iso_put hv hb1).1 hrv, (iso_put hu ha).2 hru]
      have e1 : fx V (layR R e u v (some a) none) = swp (swp (fx V R) (tw a) (2 * e)) (2 * e) (2 * e + 1) := by
        funext x
        by_cases hx : In V R x
        · obtain ⟨k1, k2, k3, k4⟩ := far x hx
          rw [f0 x hx, swp_o k3 k4]
          show vx V (putR (putR R u (some a) (2 * e)) v none (2 * e + 1)) (tw x) = _
          rw [vq]
          by_cases hxa : x = tw a
          · subst hxa
            rw [tw_tw, swp_s, swp_s, vx_no hp, fp]
          · rw [swp_o (fun q => hxa (by rw [← q, tw_tw])) k1, swp_o hxa k3, fx_yes hx]
        · by_cases hxp : x = 2 * e
          · subst hxp
            rw [f1, swp_s, swp_o (fun q => n4 q.symm) (by omega), fq]
            show vx V (putR (putR R u (some a) (2 * e)) v none (2 * e + 1)) _ = _
            rw [vq, swp_o (fun q => n2 q.symm) (by omega), vx_no hq]
          · by_cases hxq : x = 2 * e + 1
            · subst hxq
              rw [f2, swp_t, swp_t, fa]
              show vx V (putR (putR R u (some a) (2 * e)) v none (2 * e + 1)) _ = _
              rw [vq, swp_t]
            · rw [f3 x hx hxp hxq, swp_o hxp hxq, swp_o (fun q => hx (by rw [q]; exact hxi)) hxp, fx_no hx]
      have pm1 := pm.swp hxl lp
      have q1 : swp (fx V R) (tw a) (2 * e) (2 * e + 1) = 2 * e + 1 := by rw [swp_o (fun q => n4 q.symm) (by omega), fq]
      have noq : ¬ Of1 (swp (fx V R) (tw a) (2 * e)) (2 * e) (2 * e + 1) := fun k => by
        have := fix_of q1 (pm1.sym lp k)
        omega
      have k1 := pm.cn_join hxl lp nop
      have k2 := pm1.cn_join lp lq noq
      rw [← e1] at k2
      exact ⟨fun q => q.elim, fun _ => by omega⟩
  | none =>
    have hr0 := ha0 rfl
    have vp := vx_put0 h hu hr0 hp lp
    have hs : putR R u none (2 * e) u = [2 * e] := by
      unfold putR
      rw [upd_same, hr0]
      rfl
    have i1 := (iso_put (d := 2 * e) hu ha).1 hr0
    cases b with
    | some b =>
      have hbm : b ∈ R v := hb b rfl
      have hbi : In V R b := ⟨v, hv, hbm⟩
      have hyi : In V R (tw b) := hbi.tw h t
      have fb : fx V R (tw b) = vx V R b := by rw [fx_yes hyi, tw_tw]
      have hyl := hyi.low h
      have huv : v ≠ u := fun q => by subst q; rw [hr0] at hbm; cases hbm
      obtain ⟨m1, m2, m3, m4⟩ := far (tw b) hyi
      rw [tw_tw] at m1 m2
      have vq := vx_put tn1 hv (hb1 b rfl) hqi lq
      rw [vp] at vq
      have hiso : iso (layR R e u v none (some b)) V = iso (putR R u none (2 * e)) V := by
        unfold layR
        refine (iso_put hv hb1).2 (fun q => ?_)
        unfold putR at q
        rw [upd_ne huv] at q
        rw [q] at hbm
        cases hbm
      have e1 : fx V (layR R e u v none (some b)) = swp (swp (fx V R) (tw b) (2 * e + 1)) (2 * e + 1) (2 * e) := by
        funext x
        by_cases hx : In V R x
        · obtain ⟨k1, k2, k3, k4⟩ := far x hx
          rw [f0 x hx, swp_o k4 k3]
          show vx V (putR (putR R u none (2 * e)) v (some b) (2 * e + 1)) (tw x) = _
          rw [vq]
          by_cases hxa : x = tw b
          · subst hxa
            rw [tw_tw, swp_s, swp_s, vx_no hq, fq]
          · rw [swp_o (fun q => hxa (by rw [← q, tw_tw])) k2, swp_o hxa k4, fx_yes hx]
        · by_cases hxp : x = 2 * e
          · subst hxp
            rw [f1, swp_t, swp_t, fb]
            show vx V (putR (putR R u none (2 * e)) v (some b) (2 * e + 1)) _ = _
            rw [vq, swp_t]
          · by_cases hxq : x = 2 * e + 1
            · subst hxq
              rw [f2, swp_s, swp_o (fun q => m3 q.symm) (by omega), fp]
              show vx V (putR (putR R u none (2 * e)) v (some b) (2 * e + 1)) _ = _
              rw [vq, swp_o (fun q => m1 q.symm) (by omega), vx_no hp]
            · rw [f3 x hx hxp hxq, swp_o hxq hxp, swp_o (fun q => hx (by rw [q]; exact hyi)) hxq, fx_no hx]
      have pm1 := pm.swp hyl lq
      have p1 : swp (fx V R) (tw b) (2 * e + 1) (2 * e) = 2 * e := by rw [swp_o (fun q => m3 q.symm) (by omega), fp]
      have nob : ¬ Of1 (fx V R) (tw b) (2 * e + 1) := fun k => m4 (fix_of fq (pm.sym hyl k))
      have noq : ¬ Of1 (swp (fx V R) (tw b) (2 * e + 1)) (2 * e + 1) (2 * e) := fun k => by
        have := fix_of p1 (pm1.sym lq k)
        omega
      have k1 := pm.cn_join hyl lq nob
      have k2 := pm1.cn_join lq lp noq
      rw [← e1] at k2
      exact ⟨fun q => q.elim, fun _ => by omega⟩
    | none =>
      have hs0 := hb0 rfl
      by_cases huv : u = v
      · subst huv
        have hiso : iso (layR R e u u none none) V = iso (putR R u none (2 * e)) V := (iso_put hv hb1).2 ne1
        have vq := vx_put tn1 hv (b := 2 * e) (by rw [hs]; simp) hqi lq
        rw [← put_one hs, vp] at vq
        have e1 : fx V (layR R e u u none none) = fx V R := by
          funext x
          by_cases hx : In V R x
          · obtain ⟨k1, k2, k3, k4⟩ := far x hx
            rw [f0 x hx, fx_yes hx]
            show vx V (putR (putR R u none (2 * e)) u none (2 * e + 1)) (tw x) = _
            rw [vq, swp_o k1 k2]
          · by_cases hxp : x = 2 * e
            · subst hxp
              rw [f1, fp]
              show vx V (putR (putR R u none (2 * e)) u none (2 * e + 1)) _ = _
              rw [vq, swp_t, vx_no hp]
            · by_cases hxq : x = 2 * e + 1
              · subst hxq
                rw [f2, fq]
                show vx V (putR (putR R u none (2 * e)) u none (2 * e + 1)) _ = _
                rw [vq, swp_s, vx_no hq]
              · rw [f3 x hx hxp hxq, fx_no hx]
        rw [e1] at c2
        exact ⟨fun _ => by omega, fun q => absurd rfl q⟩
      · have hrv : putR R u none (2 * e) v = [] := by unfold putR; rw [upd_ne (fun q => huv q.symm), hs0]
        have vq := vx_put0 tn1 hv hrv hqi lq
        rw [vp] at vq
        have hiso := (iso_put (d := 2 * e + 1) hv hb1).1 hrv
        have e1 : fx V (layR R e u v none none) = swp (fx V R) (2 * e) (2 * e + 1) := by
          funext x
          by_cases hx : In V R x
          · obtain ⟨k1, k2, k3, k4⟩ := far x hx
            rw [f0 x hx, swp_o k3 k4, fx_yes hx]
            show vx V (putR (putR R u none (2 * e)) v none (2 * e + 1)) (tw x) = _
            rw [vq]
          · by_cases hxp : x = 2 * e
            · subst hxp
              rw [f1, swp_s, fq]
              show vx V (putR (putR R u none (2 * e)) v none (2 * e + 1)) _ = _
              rw [vq, vx_no hq]
            · by_cases hxq : x = 2 * e + 1
              · subst hxq
                rw [f2, swp_t, fp]
                show vx V (putR (putR R u none (2 * e)) v none (2 * e + 1)) _ = _
                rw [vq, vx_no hp]
              · rw [f3 x hx hxp hxq, swp_o hxp hxq, fx_no hx]
        have noq : ¬ Of1 (fx V R) (2 * e) (2 * e + 1) := fun k => by
          have := fix_of fp k
          omega
        have k1 := pm.cn_join lp lq noq
        rw [← e1] at k1
        have hl' : iso (layR R e u v none none) V + 1 + 1 = iso R V := by
          unfold layR
          omega
        exact ⟨fun q => absurd q huv, fun _ => by omega⟩
end
end Go.Proofs.YtieglcjfphmglaaDoor
