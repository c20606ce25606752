/- What Flat counts over a list of vertices, held against a component's Euler number. What an edge laid does to the counts; what Count counts over all vertices. A Groups that was made since a world, told by its labels alone. -/
import Derived.Test.YtboafgimjadboaaGreatDoorBunite
import Derived.Test.YtboafgimjadboaaGreatDoorRFlat12
namespace Go.Proofs.YtboafgimjadboaaGreatDoor
set_option linter.unusedVariables false
set_option linter.unusedSectionVars false

/-- A list of vertices, each once, with all that hold a dart. -/
structure Vl (V : Nat) (R : Nat → List Nat) (l : List Nat) : Prop where
  nd : l.Nodup
  low : ∀ x, x ∈ l → x < V
  all : ∀ v, v < V → R v ≠ [] → v ∈ l

theorem range_count {V : Nat} {l : List Nat} {p : Nat → Bool} (hn : l.Nodup) (hl : ∀ x, x ∈ l → x < V) (ha : ∀ v, v < V → p v = true → v ∈ l) : l.countP p = (List.range V).countP p := by
  rw [List.countP_eq_length_filter, List.countP_eq_length_filter]
  refine List.Perm.length_eq ((List.perm_ext_iff_of_nodup (hn.filter _) (List.nodup_range.filter _)).2 (fun x => ?_))
  rw [List.mem_filter, List.mem_filter, List.mem_range]
  exact ⟨fun ⟨a, b⟩ => ⟨hl x a, b⟩, fun ⟨a, b⟩ => ⟨ha x a b, b⟩⟩

section
variable {V E : Nat} {R : Nat → List Nat} (h : Tn V E R) (t : Tw V E R)
include h t

/-- A bare vertex is a component of its own. -/
theorem bare_con {v x y : Nat} (hv : R v = []) (c : Un.Con (EA V R) (EB V R) (· ∈ es V R E) x y) : x = v ↔ y = v := by
  induction c with
  | refl x => exact Iff.rfl
  | edge i hi =>
    obtain ⟨h1, h2⟩ := mem_es.1 hi
    have a1 := (og_is h2).2
    have a2 := (og_is ((t i h1).1 h2)).2
    constructor
    · intro e
      unfold EA at e
      rw [e, hv] at a1
      simp at a1
    · intro e
      unfold EB at e
      rw [e, hv] at a2
      simp at a2
  | symm _ ih => exact ih.symm
  | trans _ _ ih1 ih2 => exact ih1.trans ih2

theorem bare_lb {v : Nat} (hv : R v = []) : lb V E R v = v :=
  (bare_con h t hv (lb_con.1 (((lb_lab V E R).ff v).symm))).1 rfl

theorem bare_only {v c : Nat} (hv : R v = []) (hc : lb V E R c = lb V E R v) : c = v :=
  (bare_con h t hv (lb_con.1 hc)).2 rfl

/-- A component of the list lies in it whole. -/
theorem Vl.comp {l : List Nat} {c v : Nat} (hl : Vl V R l) (hc : c ∈ l) (hcc : lb V E R c = c) (hv : v < V) (e : lb V E R v = c) : v ∈ l := by
  by_cases q : R v = []
  · have := bare_only h t q (c := c) (by rw [hcc, e])
    rw [← this]
    exact hc
  · exact hl.all v hv q

theorem Vl.k0 {l : List Nat} {c : Nat} (hl : Vl V R l) (hc : c ∈ l) (hcc : lb V E R c = c) : k0 (Pc V E R c) l = cV V E R c := by
  unfold Go.Proofs.YtboafgimjadboaaGreatDoor.k0 cV Pc
  refine (range_count hl.nd hl.low (fun v hv e => hl.comp h t hc hcc hv (by simpa using e))).trans (List.countP_congr (fun x _ => by simp))

theorem Vl.k2 {l : List Nat} {c : Nat} (hl : Vl V R l) (hc : c ∈ l) (hcc : lb V E R c = c) : k2 (Pc V E R c) R l = cI V E R c := by
  unfold Go.Proofs.YtboafgimjadboaaGreatDoor.k2 cI Pc
  refine (range_count hl.nd hl.low (fun v hv e => hl.comp h t hc hcc hv (by simp at e; exact e.1))).trans (List.countP_congr (fun x _ => ?_))
  simp [and_comm]

omit h t in
/-- The even darts of a list's chosen vertices. -/
theorem evl_len (P : Nat → Bool) : ∀ l : List Nat, evl P R l = ((l.filter P).flatMap (fun v => (R v).filter (fun d => d % 2 == 0))).length
  | [] => rfl
  | v :: l => by
    unfold evl
    rw [evl_len P l]
    by_cases q : P v = true
    · rw [if_pos q, List.filter_cons_of_pos q, List.flatMap_cons, List.length_append]
      unfold ev
      rw [List.countP_eq_length_filter]
    · rw [if_neg q, List.filter_cons_of_neg q]
      omega

theorem Vl.evl {l : List Nat} {c : Nat} (hl : Vl V R l) (hc : c ∈ l) (hcc : lb V E R c = c) : evl (Pc V E R c) R l = cE V E R c := by
  classical
  rw [evl_len]
  unfold cE
  rw [List.countP_eq_length_filter]
  refine Eq.trans (List.Perm.length_eq (l₂ := ((List.range E).filter (fun e => decide (In V R (2 * e)) && decide (lb V E R (og V R (2 * e)) = c))).map (fun e => 2 * e)) ((List.perm_ext_iff_of_nodup ?_ ?_).2 (fun x => ?_))) (by rw [List.length_map])
  · unfold List.flatMap List.Nodup
    rw [List.pairwise_flatten]
    refine ⟨fun m hm => ?_, ?_⟩
    · obtain ⟨v, hv, rfl⟩ := List.mem_map.1 hm
      exact (h.nd v (hl.low v (List.mem_filter.1 hv).1)).filter _
    · rw [List.pairwise_map]
      refine List.Pairwise.imp_of_mem ?_ (hl.nd.filter (Pc V E R c))
      intro a b ha hb hne x hx y hy e
      subst e
      exact hne (h.one a b x (hl.low a (List.mem_filter.1 ha).1) (hl.low b (List.mem_filter.1 hb).1) (List.mem_filter.1 hx).1 (List.mem_filter.1 hy).1)
  · refine List.Pairwise.map _ ?_ (List.nodup_range.filter _)
    intro a b hne e
    exact hne (by have : 2 * a = 2 * b := e; omega)
  · rw [List.mem_flatMap, List.mem_map]
    constructor
    · rintro ⟨v, hv, hx⟩
      obtain ⟨hv1, hv2⟩ := List.mem_filter.1 hv
      obtain ⟨hx1, hx2⟩ := List.mem_filter.1 hx
      have hvV := hl.low v hv1
      have he : 2 * (x / 2) = x := by simp at hx2; omega
      refine ⟨x / 2, ?_, he⟩
      rw [List.mem_filter, List.mem_range, Bool.and_eq_true, decide_eq_true_eq, decide_eq_true_eq, he, og_at h hvV hx1]
      refine ⟨by have := h.low v x hvV hx1; omega, ⟨v, hvV, hx1⟩, ?_⟩
      unfold Pc at hv2
      simpa using hv2
    · rintro ⟨e, he, rfl⟩
      rw [List.mem_filter, List.mem_range, Bool.and_eq_true, decide_eq_true_eq, decide_eq_true_eq] at he
      obtain ⟨_, h1, h2⟩ := he
      obtain ⟨o1, o2⟩ := og_is h1
      refine ⟨og V R (2 * e), List.mem_filter.2 ⟨hl.comp h t hc hcc o1 h2, by unfold Pc; simpa using h2⟩, List.mem_filter.2 ⟨o2, by simp⟩⟩

theorem face_count (c : Nat) : (fcs V R (2 * E)).countP (fun f => Pc V E R c (og V R (f.headD 0))) = cF V E R c := by
  classical
  have pm := fx_pm h t
  have hd : ∀ z, In V R z → (Pq.orb (fx V R) z).head? = some z := fun z hi => by
    have hp := pm.per_is (hi.low h)
    rw [List.head?_eq_getElem?]
    unfold Pq.orb
    rw [Pq.fl_get hp.1.pos]
    rfl
  unfold fcs cF
  rw [List.countP_map, List.countP_filter]
  refine List.countP_congr (fun z _ => ?_)
  by_cases q : In V R z
  · simp [Pc, hd z q, and_comm]
  · simp [q]

theorem Vl.flA {l : List Nat} {c : Nat} (hl : Vl V R l) (hc : c ∈ l) (hcc : lb V E R c = c) : flA V E R l c (Pc V E R c) ↔ chi V E R c = 2 := by
  unfold Go.Proofs.YtboafgimjadboaaGreatDoor.flA chi
  rw [hl.k0 h t hc hcc, hl.k2 h t hc hcc, hl.evl h t hc hcc, face_count h t]
  omega

/-- A bare vertex lies on a sphere. -/
theorem bare_chi {v : Nat} (hvV : v < V) (hv : R v = []) : chi V E R v = 2 := by
  classical
  have one : ∀ x, lb V E R x = v ↔ x = v := fun x =>
    ⟨fun e => bare_only h t hv (e.trans (bare_lb h t hv).symm), fun e => by rw [e]; exact bare_lb h t hv⟩
  have c1 : (List.range V).countP (fun x => decide (x = v)) = 1 := by
    have q1 := List.nodup_iff_count.1 (List.nodup_range (n := V)) v
    have q2 := List.count_pos_iff.2 (List.mem_range.2 hvV)
    have : (List.range V).count v = 1 := by omega
    unfold List.count at this
    rw [← this]
    exact List.countP_congr (fun x _ => by simp)
  have no : ∀ d, In V R d → og V R d ≠ v := fun d hd e => by
    have := (og_is hd).2
    rw [e, hv] at this
    simp at this
  have e1 : cV V E R v = 1 := by
    unfold cV
    rw [← c1]
    exact List.countP_congr (fun x _ => by simp [one])
  have e2 : cI V E R v = 1 := by
    unfold cI
    rw [← c1]
    refine List.countP_congr (fun x _ => ?_)
    simp only [Bool.and_eq_true, decide_eq_true_eq, one]
    exact ⟨fun q => q.2, fun q => ⟨by rw [q, hv]; rfl, q⟩⟩
  have e3 : cE V E R v = 0 := by
    unfold cE
    refine List.countP_eq_zero.2 (fun x _ => ?_)
    simp only [Bool.and_eq_true, decide_eq_true_eq, one]
    exact fun q => no _ q.1 q.2
  have e4 : cF V E R v = 0 := by
    unfold cF
    refine List.countP_eq_zero.2 (fun x _ => ?_)
    simp only [Bool.and_eq_true, decide_eq_true_eq, one]
    exact fun q => no _ q.1.1 q.2
  unfold chi
  rw [e1, e2, e3, e4]
  rfl

/-- The document's Flat, of a list that Check accepts: Euler's number is none. -/
theorem Vl.flat {l : List Nat} (hl : Vl V R l) : (∀ c, c ∈ l → lb V E R c = c → Go.Proofs.YtboafgimjadboaaGreatDoor.flA V E R l c (Pc V E R c)) ↔ Xi V E R = 0 := by
  rw [← flat_iff h t]
  constructor
  · intro k c hc hcc
    by_cases q : c ∈ l
    · exact (hl.flA h t q hcc).1 (k c q hcc)
    · exact bare_chi h t hc (Classical.not_not.1 (fun z => q (hl.all c hc z)))
  · intro k c hc hcc
    exact (hl.flA h t hc hcc).2 (k c (hl.low c hc) hcc)
end
end Go.Proofs.YtboafgimjadboaaGreatDoor

namespace Go.Proofs.YtboafgimjadboaaGreatDoor
set_option linter.unusedVariables false
set_option linter.unusedSectionVars false

section
variable {V E : Nat} {R : Nat → List Nat}

variable (h : Tn V E R) (t : Tw V E R)
include h t

theorem Vl.range : Vl V R (List.range V) := ⟨List.nodup_range, fun x hx => List.mem_range.1 hx, fun v hv _ => List.mem_range.2 hv⟩

end
end Go.Proofs.YtboafgimjadboaaGreatDoor

namespace Go.Proofs.YtboafgimjadboaaGreatDoor
open Go.RowKit
set_option linter.unusedVariables false

/-- Made since w; its groups' least members are f; all of its own blocks are below B or where it grew. -/
structure Gd (w : World) (gb N : Nat) (f : Nat → Nat) (wr : World) : Prop where
  ga : ∃ fs O, Un.GA wr gb N (f :: fs) O ∧ ∀ k, O k → w.heap.size ≤ k ∧ k < wr.heap.size
  bel : Below w.heap.size w wr

section
variable {w wr w' : World} {gb N : Nat} {f : Nat → Nat}

theorem GA_inside {w : World} {gb n : Nat} {hs : List (Nat → Nat)} {O : Nat → Prop} (h : Un.GA w gb n hs O) : Un.GA w gb n hs (fun k => O k ∧ k < w.heap.size) := by
  obtain ⟨mv, jv, K, T, js, h1, h2, h3⟩ := h.st
  exact ⟨mv, jv, K, T, js, h1, h2, fun k hk => ⟨h3 k hk, h1.olt hk⟩⟩

theorem Gd.more (h : Gd w gb N f wr) (hb : Below wr.heap.size wr w') : Gd w gb N f w' := by
  obtain ⟨fs, O, h1, h2⟩ := h.ga
  exact ⟨⟨fs, O, h1.more hb, fun k hk => ⟨(h2 k hk).1, Nat.lt_of_lt_of_le (h2 k hk).2 hb.size⟩⟩, h.bel.trans (hb.mono h.bel.size)⟩

theorem Gd.since {u : World} (h : Gd w gb N f wr) (hu : Below u.heap.size u w) : Gd u gb N f wr := by
  obtain ⟨fs, O, h1, h2⟩ := h.ga
  exact ⟨⟨fs, O, h1, fun k hk => ⟨Nat.le_trans hu.size (h2 k hk).1, (h2 k hk).2⟩⟩, hu.trans (h.bel.mono hu.size)⟩

theorem gd_new (n : Nat) (w : World) (h1 : 1 ≤ n) (h2 : n ≤ 4194304) : Calls Tryz.prog 127 #[.int .i64 (n : Int)] w fun e w' => e = .returned (.tuple #[.pointer (some ⟨w.heap.size, 0, none⟩), .nilIface]) ∧ Gd w w.heap.size n (fun x => x) w' := by
  refine (Un.new_ok n w h1 h2).mono ?_
  rintro e w' ⟨rfl, g, b⟩
  refine ⟨rfl, ⟨[], _, GA_inside g, fun k hk => ⟨?_, hk.2⟩⟩, b⟩
  have := hk.1
  omega

/-- Joined: of its own blocks and new ones alone. -/
theorem Gd.join (h : Gd w gb N f wr) (a b : Nat) (ha : a < N) (hb : b < N) :
    Calls Tryz.prog 128 #[.pointer (some ⟨gb, 0, none⟩), .int .i64 (a : Int), .int .i64 (b : Int)] wr fun e w' => ∃ t : Bool, e = .returned (.tuple #[.bool t, .nilIface]) ∧ Gd w gb N (Un.jn f a b) w' := by
  obtain ⟨fs, O, g1, g2⟩ := h.ga
  refine (g1.join a b ha hb).mono ?_
  rintro e w' ⟨rfl, O', k1, k2, k3⟩
  have hbel : Below w.heap.size w w' := h.bel.trans (k2.below (fun k hk => (g2 k hk).1) h.bel.size)
  have hO : ∀ k, O' k ∧ k < w'.heap.size → w.heap.size ≤ k ∧ k < w'.heap.size := fun k hk => by
    refine ⟨?_, hk.2⟩
    rcases k3 k hk.1 with q | q
    · exact (g2 k q).1
    · exact Nat.le_trans h.bel.size q
  replace k1 := GA_inside k1
  unfold Un.stepH at k1
  by_cases he : f a = f b
  · rw [if_pos he] at k1
    exact ⟨_, rfl, ⟨fs, _, by rw [Un.jn_same he]; exact k1, hO⟩, hbel⟩
  · rw [if_neg he] at k1
    exact ⟨_, rfl, ⟨f :: fs, _, k1, hO⟩, hbel⟩

theorem Gd.least (h : Gd w gb N f wr) {y : World} (hy : Below wr.heap.size wr y) (x : Nat) (hx : x < N) :
    Calls Tryz.prog 108 #[.pointer (some ⟨gb, 0, none⟩), .int .i64 (x : Int)] y fun e w' => e = .returned (.tuple #[.int .i64 (f x : Int), .nilIface]) ∧ Below y.heap.size y w' := by
  obtain ⟨fs, O, g1, g2⟩ := h.ga
  exact (g1.more hy).least x hx

end

/-- The labels after the edges below e. -/
theorem lb_step_yes {V : Nat} {R : Nat → List Nat} {e : Nat} (hi : In V R (2 * e)) : Un.jl (EA V R) (EB V R) (fun x => x) (es V R (e + 1)) = Un.jn (Un.jl (EA V R) (EB V R) (fun x => x) (es V R e)) (og V R (2 * e)) (og V R (2 * e + 1)) := by
  classical
  unfold es
  rw [List.range_succ, List.filter_append, Un.jl_append]
  simp only [List.filter_cons, List.filter_nil, decide_eq_true hi, if_true]
  rfl

theorem lb_step_no {V : Nat} {R : Nat → List Nat} {e : Nat} (hi : ¬ In V R (2 * e)) : es V R (e + 1) = es V R e := by
  classical
  unfold es
  rw [List.range_succ, List.filter_append]
  simp [hi]
end Go.Proofs.YtboafgimjadboaaGreatDoor
