/- sphere.Count and Flat: the map gone over. What Count and Flat tell, of a list of vertices that Check accepts. sphere.Count and Flat, as they are called. -/
import Derived.Test.YtboafgimjadboaaGreatDoorBcomp
import Derived.Test.YtboafgimjadboaaGreatDoorBlink
import Derived.Test.YtboafgimjadboaaGreatDoorLift10
namespace Go.Proofs.YtboafgimjadboaaGreatDoor
open Go.RowKit
set_option linter.unusedVariables false

/-- What was gone over, summed. -/
def sm4 (p : Nat → Bool) (g : Nat → Qd) : Nat → Qd
  | 0 => (0, 0, 0, 0)
  | n + 1 => if p n then addQ (sm4 p g n) (g n) else sm4 p g n

theorem sm4_congr {p q : Nat → Bool} {g : Nat → Qd} : ∀ {n : Nat}, (∀ c, c < n → p c = q c) → sm4 p g n = sm4 q g n
  | 0, _ => rfl
  | n + 1, h => by
    unfold sm4
    rw [h n (by omega), sm4_congr (fun c hc => h c (by omega))]

theorem addQ_comm (a b : Qd) : addQ a b = addQ b a := by unfold addQ; simp [Int.add_comm]
theorem addQ_assoc (a b c : Qd) : addQ (addQ a b) c = addQ a (addQ b c) := by unfold addQ; simp [Int.add_assoc]

theorem sm4_on {p : Nat → Bool} {g : Nat → Qd} {v : Nat} (hp : p v = false) : ∀ {n : Nat}, v < n → sm4 (fun x => p x || x == v) g n = addQ (sm4 p g n) (g v)
  | 0, h => by omega
  | n + 1, h => by
    unfold sm4
    by_cases e : v = n
    · subst e
      have : sm4 (fun x => p x || x == v) g v = sm4 p g v := sm4_congr (fun c hc => by
        have : (c == v) = false := by simp; omega
        simp [this])
      rw [this]
      simp [hp]
    · have hn : (n == v) = false := by simp; omega
      rw [sm4_on hp (show v < n by omega)]
      simp only [hn, Bool.or_false]
      by_cases q : p n = true
      · rw [if_pos q, if_pos q, addQ_assoc, addQ_comm (g v), ← addQ_assoc]
      · rw [if_neg q, if_neg q]

/-- Bounds of the sums. -/
def Sb (B : Int) (q : Qd) : Prop := (0 ≤ q.1 ∧ q.1 ≤ B) ∧ (0 ≤ q.2.1 ∧ q.2.1 ≤ B) ∧ (0 ≤ q.2.2.1 ∧ q.2.2.1 ≤ B) ∧ 0 ≤ q.2.2.2 ∧ q.2.2.2 ≤ B

theorem sm4_bd {p : Nat → Bool} {g : Nat → Qd} {B : Int} (hB : 0 ≤ B) (hg : ∀ c, Sb B (g c)) : ∀ n : Nat, Sb (B * n) (sm4 p g n)
  | 0 => by unfold sm4 Sb; simp
  | n + 1 => by
    have ih := sm4_bd (p := p) hB hg n
    have h := hg n
    have e : B * ((n + 1 : Nat) : Int) = B * n + B := by rw [Int.natCast_succ, Int.mul_add, Int.mul_one]
    unfold sm4
    rw [e]
    unfold Sb addQ at *
    split
    · obtain ⟨⟨a1, a2⟩, ⟨a3, a4⟩, ⟨a5, a6⟩, a7, a8⟩ := ih
      obtain ⟨⟨b1, b2⟩, ⟨b3, b4⟩, ⟨b5, b6⟩, b7, b8⟩ := h
      dsimp only
      exact ⟨⟨by omega, by omega⟩, ⟨by omega, by omega⟩, ⟨by omega, by omega⟩, by omega, by omega⟩
    · obtain ⟨⟨a1, a2⟩, ⟨a3, a4⟩, ⟨a5, a6⟩, a7, a8⟩ := ih
      exact ⟨⟨by omega, by omega⟩, ⟨by omega, by omega⟩, ⟨by omega, by omega⟩, by omega, by omega⟩

theorem grown4 (w : World) (C : Nat) (a b c d : Value) : w.grownBy ((((w.setCell ⟨C, 0, none⟩ a).setCell ⟨C, 1, none⟩ b).setCell ⟨C, 2, none⟩ c).setCell ⟨C, 3, none⟩ d) (some C) :=
  (((grown_set1 w C 0 a).andThen (grown_set1 _ C 1 b) (fun j hj => .inr hj)).andThen (grown_set1 _ C 2 c) (fun j hj => .inr hj)).andThen (grown_set1 _ C 3 d) (fun j hj => .inr hj)

section
variable {w : World} {V : Nat} {dom : Nat → Bool} {g : Nat → Qd}

/-- What Count tells of a map. -/
def tot (V : Nat) (dom : Nat → Bool) (g : Nat → Qd) : Qd := addQ (0, 0, 0, ((List.range V).countP dom : Int)) (sm4 dom g V)





set_option maxRecDepth 100000 in
theorem flat_err (pv vv : Value) (c : Int) (hc : Calls Tryz.prog 84 #[pv, vv] w fun e w' => e = .returned (.tuple #[.map none, .iface 67 (.int .i64 c)]) ∧ Below w.heap.size w w') :
    Calls Tryz.prog 55 #[pv, vv] w fun e w' => e = .returned (.tuple #[.bool false, .iface 67 (.int .i64 c)]) ∧ Below w.heap.size w w' := by
  replace hc := hid hc
  go_enter Tryz.func55, Tryz.ntmps55
  go_wp2_with fail
  refine hc.out.mono ?_
  rintro e w1 ⟨rfl, b1⟩
  replace b1 := hid b1
  go_wp2_with fail
  go_ret2
  exact ⟨rfl, b1.out⟩

/-- On a sphere. -/
def two (q : Qd) : Prop := q.1 - q.2.1 + q.2.2.1 = 2

set_option maxRecDepth 100000 in
set_option maxHeartbeats 8000000 in
/-- Flat, where components answers a map. -/
theorem flat_map {tb : Nat} (vv : Value) (s : Bool) (hs : s = true ↔ ∀ c, c < V → dom c = true → two (g c)) (hg : ∀ c, Sb 100000 (g c)) (hc : Calls Tryz.prog 84 #[.pointer (some ⟨tb, 0, none⟩), vv] w fun e w' => ∃ mb, e = .returned (.tuple #[.map (some mb), .nilIface]) ∧ w.heap.size ≤ mb ∧ PM w' mb V dom g ∧ Below w.heap.size w w') :
    Calls Tryz.prog 55 #[.pointer (some ⟨tb, 0, none⟩), vv] w fun e w' => e = .returned (.tuple #[.bool s, .nilIface]) ∧ Below w.heap.size w w' := by
  replace hc := hid hc
  replace hg := hid hg
  replace hs := hid hs
  go_enter Tryz.func55, Tryz.ntmps55
  go_wp2_with fail
  refine hc.out.mono ?_
  rintro e w1 ⟨mb, rfl, hmb, hpm, b1⟩
  replace b1 := hid b1
  replace hpm := hid hpm
  clear hc
  go_wp2_with (at_range; refine at_rng _ rfl _ rfl mb V dom g rfl hpm.out ?_; intro w3 hr3 hg3 hs3)
  go_frame
  obtain ⟨r, hr⟩ : ∃ r, w1.heap.size = r := ⟨_, rfl⟩
  have hwr : w.heap.size ≤ r := by rw [← hr]; exact b1.out.size
  rw [hr] at hr3 ⊢
  clear hr
  have hst0 : Hid (PR w3 mb r V dom g dom ∧ Below w.heap.size w w3) := hid ⟨hr3, b1.out.grown hg3 b1.out.size (fun k hk => by cases hk)⟩
  clear hr3 hg3 hs3 b1 hpm
  go_loopw [9] (fun _ wr => ∃ left : Nat → Bool, Hid (∀ c, c < V → dom c = true → left c = false → two (g c)) ∧ Hid (PR wr mb r V dom g left ∧ Below w.heap.size w wr)) (fun _ wr => wr.rangeLeft mb r)
  case atStart => exact ⟨dom, hid (fun c _ h1 h2 => by rw [h1] at h2; cases h2), hst0⟩
  case round =>
    obtain ⟨left, hacc, hst⟩ := hrel
    clear hst0
    go_wp2_with (at_next; refine at_nxt _ rfl _ rfl mb r V dom left g rfl hst.out.1 ?_ ?_)
    · intro hdone
      have hfin : Hid (s = true) := hid (hs.out.2 (fun c h1 h2 => hacc.out c h1 h2 (hdone c h1)))
      have hbl := hid hst.out.2
      clear hdone hst hacc
      go_wp2_with fail
      go_ret2
      exact ⟨by rw [hfin.out]; rfl, hbl.out⟩
    · intro v q0 q1 q2 q3 w4 hv hgv hlv hdv hpr4 hlt4 hg4 hs4 hen
      have b4 := hst.out.2.grown hg4 hst.out.2.size (fun k hk => by cases hk; exact hwr)
      obtain ⟨⟨x0, x0'⟩, ⟨x1, x1'⟩, ⟨x2, x2'⟩, _⟩ := hg.out v
      rw [hgv] at x0 x0' x1 x1' x2 x2'
      simp only at x0 x0' x1 x1' x2 x2'
      obtain ⟨wm, hwm⟩ : ∃ wm, wr.rangeLeft mb r = wm := ⟨_, rfl⟩
      have hmeas := hid hwm
      rw [hwm] at hlt4
      obtain ⟨w5, hw5⟩ : ∃ w5, w4.alloc (.cells #[.int .i64 q0, .int .i64 q1, .int .i64 q2, .int .i64 q3] 172) = w5 := ⟨_, rfl⟩
      have kq : w5.heap[w4.heap.size]? = some (.cells #[.int .i64 q0, .int .i64 q1, .int .i64 q2, .int .i64 q3] 172 (0, 0)) := by rw [← hw5]; exact (MapKept.heap_alloc w4 _).1
      have b5 : Below w4.heap.size w4 w5 := by rw [← hw5]; exact (Below.refl _ _).alloc (Nat.le_refl _) _
      have hst5 : Hid (PR w5 mb r V dom g (fun x => left x && !(x == v)) ∧ Below w.heap.size w w5 ∧ w5.rangeLeft mb r < wm) := hid ⟨(hpr4.more b5).1, b4.trans (b5.mono b4.size), by rw [(hpr4.more b5).2]; exact hlt4⟩
      obtain ⟨⟨z0, z1, z2, z3⟩, _⟩ := blk4 kq
      replace hw5 := hid hw5
      have htwo : Hid (two (g v) ↔ q0 - q1 + q2 = 2) := hid (by rw [hgv]; rfl)
      clear hwm hst hgv hpr4 hlt4 hg4 hs4 b4 b5 kq
      by_cases hq : q0 - q1 + q2 = 2
      · have t1 : ((q0 - q1 + q2) != 2) = false := by simp [hq]
        have hacc2 : Hid (∀ c, c < V → dom c = true → (left c && !(c == v)) = false → two (g c)) := hid (fun c h1 h2 h3 => by
          by_cases e : c = v
          · subst e; exact htwo.out.2 hq
          · refine hacc.out c h1 h2 ?_
            have e' : (c == v) = false := beq_eq_false_iff_ne.2 e
            rw [e'] at h3
            simpa using h3)
        clear hacc htwo
        go_upto_region 7 with fail
        rw [hw5.out]
        clear hw5 hen
        go_wp2_with fail
        go_roundw
        case rel => exact ⟨_, hacc2, hid ⟨hst5.out.1, hst5.out.2.1⟩⟩
        case measure => rw [hmeas.out]; exact hst5.out.2.2
      · have t1 : ((q0 - q1 + q2) != 2) = true := by simp [hq]
        have hfin : Hid (s = false) := hid (by
          cases hss : s
          · rfl
          · exact absurd (htwo.out.1 (hs.out.1 hss v hv hdv)) hq)
        clear hacc htwo
        go_upto_region 7 with fail
        rw [hw5.out]
        clear hw5 hen
        go_wp2_with fail
        go_ret2
        exact ⟨by rw [hfin.out]; rfl, hst5.out.2.1⟩
end
end Go.Proofs.YtboafgimjadboaaGreatDoor

namespace Go.Proofs.YtboafgimjadboaaGreatDoor
open Go.RowKit
set_option linter.unusedVariables false

theorem ck_uniq {V : Nat} {R : Nat → List Nat} {zs : List Int} {c d : Int} (h : Ck12 V R zs c) (k : Ck12 V R zs d) : c = d := by
  rcases h with ⟨h, x, hx, hq⟩ | ⟨l, h1, h2, h3⟩ <;> rcases k with ⟨k, y, hy, hp⟩ | ⟨m, k1, k2, k3⟩
  · omega
  · rw [k1] at hx
    obtain ⟨z, hz, rfl⟩ := List.mem_map.1 hx
    have := k2 z hz
    omega
  · rw [h1] at hy
    obtain ⟨z, hz, rfl⟩ := List.mem_map.1 hy
    have := h2 z hz
    omega
  · rw [h1] at k1
    obtain rfl := map_inj k1
    rcases h3 with ⟨a, b⟩ | ⟨b, ⟨a, v, v1, v2, v3⟩ | ⟨a, v⟩⟩ <;> rcases k3 with ⟨a', b'⟩ | ⟨b', ⟨a', u, u1, u2, u3⟩ | ⟨a', u⟩⟩
    · omega
    · exact absurd b' b
    · exact absurd b' b
    · exact absurd b b'
    · omega
    · exact absurd (u v v1 v2) v3
    · exact absurd b b'
    · exact absurd (v u u1 u2) u3
    · omega

theorem ck_total (V : Nat) (R : Nat → List Nat) (zs : List Int) : ∃ c, Ck12 V R zs c := by
  classical
  by_cases h : ∃ x, x ∈ zs ∧ (x < 0 ∨ (V : Int) ≤ x)
  · exact ⟨12, .inl ⟨rfl, h⟩⟩
  · obtain ⟨l, h1, h2⟩ := int_list (V := V) (zs := zs) (fun x hx q => h ⟨x, hx, q⟩)
    by_cases hn : l.Nodup
    · by_cases hs : ∃ v, v < V ∧ R v ≠ [] ∧ v ∉ l
      · exact ⟨13, .inr ⟨l, h1, h2, .inr ⟨hn, .inl ⟨rfl, hs⟩⟩⟩⟩
      · refine ⟨0, .inr ⟨l, h1, h2, .inr ⟨hn, .inr ⟨rfl, fun v hv hne => ?_⟩⟩⟩⟩
        exact Classical.not_not.1 (fun q => hs ⟨v, hv, hne, q⟩)
    · exact ⟨20, .inr ⟨l, h1, h2, .inl ⟨rfl, hn⟩⟩⟩

theorem cnt_sum {α : Type} {V : Nat} {lab : α → Nat} : ∀ {L : List α}, (∀ x, x ∈ L → lab x < V) → sm (fun c => (L.countP (fun x => decide (lab x = c)) : Int)) V = (L.length : Int)
  | [], _ => by
    have : ∀ n, sm (fun _ => (0 : Int)) n = 0 := fun n => by induction n with
      | zero => rfl
      | succ n ih => unfold sm; rw [ih]; rfl
    simpa using this V
  | a :: L, h => by
    have ih := cnt_sum (L := L) (V := V) (lab := lab) (fun x hx => h x (by simp [hx]))
    have e : sm (fun c => (((a :: L).countP (fun x => decide (lab x = c)) : Nat) : Int)) V = sm (fun c => (L.countP (fun x => decide (lab x = c)) : Int) + (if c = lab a then 1 else 0)) V := sm_congr (fun c hc => by
      rw [List.countP_cons]
      by_cases q : lab a = c
      · subst q; simp
      · simp [q, show ¬ c = lab a from fun e => q e.symm])
    rw [e, sm_add, ih, sm_one (h a (by simp))]
    simp

theorem sm4_all {g : Nat → Qd} : ∀ n, sm4 (fun _ => true) g n = (sm (fun c => (g c).1) n, sm (fun c => (g c).2.1) n, sm (fun c => (g c).2.2.1) n, sm (fun c => (g c).2.2.2) n)
  | 0 => rfl
  | n + 1 => by
    unfold sm4 sm
    rw [if_pos rfl, sm4_all n]
    rfl

theorem sm4_dom {dom : Nat → Bool} {g : Nat → Qd} : ∀ n, (∀ c, c < n → dom c = false → g c = (0, 0, 0, 0)) → sm4 dom g n = sm4 (fun _ => true) g n
  | 0, _ => rfl
  | n + 1, h => by
    unfold sm4
    rw [sm4_dom n (fun c hc => h c (by omega))]
    cases hd : dom n
    · rw [h n (by omega) hd]
      simp [addQ]
    · rfl

section
variable {V E : Nat} {R : Nat → List Nat}

theorem lb_lb (v : Nat) : lb V E R (lb V E R v) = lb V E R v := (lb_lab V E R).ff v

theorem face_head (h : Tn V E R) (t : Tw V E R) {f : List Nat} (hf : f ∈ fcs V R (2 * E)) : ∃ z, f.headD 0 = z ∧ In V R z := by
  obtain ⟨z, _, hi, hl, rfl⟩ := mem_fcs.1 hf
  have hp := ((fx_pm h t).per_is (hi.low h)).1.pos
  have h0 : (Pq.orb (fx V R) z)[0]? = some z := by
    unfold Pq.orb
    rw [Pq.fl_get hp]
    rfl
  refine ⟨z, ?_, hi⟩
  cases hq : Pq.orb (fx V R) z with
  | nil => rw [hq] at h0; simp at h0
  | cons a b => rw [hq] at h0; simp at h0; simp [h0]

theorem d1_iff (h : Tn V E R) (t : Tw V E R) {l : List Nat} (hl : Vl V R l) {c : Nat} : D1 V E R l c = true ↔ c ∈ l ∧ lb V E R c = c := by
  unfold D1
  rw [List.any_eq_true]
  constructor
  · rintro ⟨v, hv, e⟩
    have e : lb V E R v = c := by simpa using e
    have hvV := hl.low v hv
    have hcc : lb V E R c = c := by rw [← e]; exact lb_lb v
    have hcV : c < V := by rw [← e]; exact lb_lt v hvV
    refine ⟨?_, hcc⟩
    by_cases hb : R c = []
    · rw [← bare_only h t hb (show lb V E R v = lb V E R c by rw [e, hcc])]
      exact hv
    · exact hl.all c hcV hb
  · rintro ⟨h1, h2⟩
    exact ⟨c, h1, by simp [h2]⟩

theorem g1_zero (h : Tn V E R) (t : Tw V E R) {l : List Nat} (hl : Vl V R l) {c : Nat} (hc : D1 V E R l c = false) : G1 V E R l (es V R E) (fcs V R (2 * E)) c = (0, 0, 0, 0) := by
  have hno : ∀ v, v ∈ l → lb V E R v ≠ c := fun v hv e => by
    have : D1 V E R l c = true := by rw [← e]; exact d1_of hv
    rw [hc] at this
    cases this
  have hin : ∀ k, In V R k → lb V E R (og V R k) ≠ c := fun k hk => by
    obtain ⟨h1, h2⟩ := og_is hk
    exact hno _ (hl.all _ h1 (fun q => by rw [q] at h2; simp at h2))
  unfold G1
  have e1 : l.countP (fun v => decide (lb V E R v = c)) = 0 := List.countP_eq_zero.2 (fun v hv => by simpa using hno v hv)
  have e2 : (es V R E).countP (fun e => decide (lb V E R (og V R (2 * e)) = c)) = 0 := List.countP_eq_zero.2 (fun e he => by simpa using hin _ (mem_es.1 he).2)
  have e3 : l.countP (fun v => (R v).isEmpty && decide (lb V E R v = c)) = 0 := List.countP_eq_zero.2 (fun v hv => by simp [hno v hv])
  have e4 : (fcs V R (2 * E)).countP (fun f => decide (lb V E R (og V R (f.headD 0)) = c)) = 0 := List.countP_eq_zero.2 (fun f hf => by
    obtain ⟨z, hz, hi⟩ := face_head h t hf
    rw [hz]
    simpa using hin _ hi)
  rw [e1, e2, e3, e4]
  rfl

theorem tot_is (h : Tn V E R) (t : Tw V E R) {l : List Nat} (hl : Vl V R l) : tot V (D1 V E R l) (G1 V E R l (es V R E) (fcs V R (2 * E))) = ((l.length : Int), ((es V R E).length : Int), ((k2 (fun _ => true) R l + (fcs V R (2 * E)).length : Nat) : Int), (k3 (fun _ => true) (lb V E R) l : Int)) := by
  have hlV : ∀ v, v ∈ l → lb V E R v < V := fun v hv => lb_lt v (hl.low v hv)
  unfold tot
  rw [sm4_dom V (fun c hc hd => g1_zero h t hl hd), sm4_all]
  have s1 : sm (fun c => (G1 V E R l (es V R E) (fcs V R (2 * E)) c).1) V = (l.length : Int) := cnt_sum hlV
  have s2 : sm (fun c => (G1 V E R l (es V R E) (fcs V R (2 * E)) c).2.1) V = ((es V R E).length : Int) := cnt_sum (lab := fun e => lb V E R (og V R (2 * e))) (fun e he => lb_lt _ (og_is (mem_es.1 he).2).1)
  have s3 : sm (fun c => (G1 V E R l (es V R E) (fcs V R (2 * E)) c).2.2.1) V = ((k2 (fun _ => true) R l + (fcs V R (2 * E)).length : Nat) : Int) := by
    have e : sm (fun c => (G1 V E R l (es V R E) (fcs V R (2 * E)) c).2.2.1) V = sm (fun c => ((l.filter (fun v => (R v).isEmpty)).countP (fun v => decide (lb V E R v = c)) : Int) + ((fcs V R (2 * E)).countP (fun f => decide (lb V E R (og V R (f.headD 0)) = c)) : Int)) V := sm_congr (fun c hc => by
      unfold G1
      dsimp only
      rw [List.countP_filter, Int.natCast_add]
      congr 2
      refine List.countP_congr (fun v _ => ?_)
      simp [and_comm])
    rw [e, sm_add, cnt_sum (fun v hv => hlV v (List.mem_filter.1 hv).1), cnt_sum (L := fcs V R (2 * E)) (lab := fun f => lb V E R (og V R (f.headD 0))) (fun f hf => by
      obtain ⟨z, hz, hi⟩ := face_head h t hf
      rw [hz]
      exact lb_lt _ (og_is hi).1), ← List.countP_eq_length_filter]
    unfold k2
    rw [Int.natCast_add]
    simp
  have s4 : sm (fun c => (G1 V E R l (es V R E) (fcs V R (2 * E)) c).2.2.2) V = 0 := by
    have : ∀ n, sm (fun c => (G1 V E R l (es V R E) (fcs V R (2 * E)) c).2.2.2) n = 0 := fun n => by induction n with
      | zero => rfl
      | succ n ih => unfold sm; rw [ih]; rfl
    exact this V
  rw [s1, s2, s3, s4]
  have s5 : (List.range V).countP (D1 V E R l) = k3 (fun _ => true) (lb V E R) l := by
    have e1 : (List.range V).countP (D1 V E R l) = (List.range V).countP (fun c => decide (c ∈ l) && (lb V E R c == c)) := List.countP_congr (fun c hc => by
      rw [d1_iff h t hl]
      simp)
    rw [e1, ← range_count hl.nd hl.low (fun v hv q => by simp at q; exact q.1)]
    unfold k3
    refine List.countP_congr (fun v hv => ?_)
    simp [hv]
  rw [s5]
  simp [addQ]

theorem two_is (h : Tn V E R) (t : Tw V E R) {l : List Nat} (hl : Vl V R l) : (∀ c, c < V → D1 V E R l c = true → two (G1 V E R l (es V R E) (fcs V R (2 * E)) c)) ↔ ∀ c, c ∈ l → lb V E R c = c → flA V E R l c (Pc V E R c) := by
  classical
  have key : ∀ c, c ∈ l → lb V E R c = c → (two (G1 V E R l (es V R E) (fcs V R (2 * E)) c) ↔ flA V E R l c (Pc V E R c)) := fun c h1 h2 => by
    have e1 : (es V R E).countP (fun e => decide (lb V E R (og V R (2 * e)) = c)) = evl (Pc V E R c) R l := by
      rw [hl.evl h t h1 h2]
      unfold es cE
      rw [List.countP_filter]
      refine List.countP_congr (fun e _ => ?_)
      simp [and_comm]
    have e2 : l.countP (fun v => (R v).isEmpty && decide (lb V E R v = c)) = k2 (Pc V E R c) R l := by
      unfold k2 Pc
      refine List.countP_congr (fun v _ => ?_)
      simp [and_comm]
    unfold two flA G1
    dsimp only
    rw [e1, e2]
    exact Iff.rfl
  constructor
  · intro q c h1 h2
    exact (key c h1 h2).1 (q c (hl.low c h1) ((d1_iff h t hl).2 ⟨h1, h2⟩))
  · intro q c hc hd
    obtain ⟨h1, h2⟩ := (d1_iff h t hl).1 hd
    exact (key c h1 h2).2 (q c h1 h2)
end
end Go.Proofs.YtboafgimjadboaaGreatDoor

namespace Go.Proofs.YtboafgimjadboaaGreatDoor
open Go.RowKit
set_option linter.unusedVariables false

/-- A slice of numbers to be read, as whole numbers. -/
theorem RN.iv {w : World} {v : Value} {l : List Nat} (h : RN w v l) : IV w v (l.map (fun x : Nat => (x : Int))) := by
  obtain ⟨ad, n, cap, h1, h2, h3, h4⟩ := h
  refine ⟨ad, n, cap, h1, ⟨by simp [h2], h3, fun j z hz => ?_⟩⟩
  rw [List.getElem?_map] at hz
  cases hq : l[j]? with
  | none => rw [hq] at hz; simp at hz
  | some x =>
    rw [hq] at hz
    simp at hz
    subst hz
    exact h4 j x hq

set_option maxRecDepth 100000 in
theorem comp_nil (vv : Value) (w : World) : Calls Tryz.prog 84 #[.pointer none, vv] w fun e w' => e = .returned (.tuple #[.map none, .iface 67 (.int .i64 1)]) ∧ Below w.heap.size w w' := by
  have hc := hid (scheck_nil vv w)
  go_enter Tryz.func84, Tryz.ntmps84
  go_wp2_with fail
  refine hc.out.mono ?_
  rintro e w1 ⟨rfl, b1⟩
  replace b1 := hid b1
  go_wp2_with fail
  go_ret2
  exact ⟨rfl, b1.out⟩



section
variable {w : World} {lo tb V E : Nat} {R : Nat → List Nat}

theorem comp_bad (h : TA w lo tb V E R) (hw : Tw V E R) (hE8 : E ≤ 1000) (hV1 : 1 ≤ V) (vv : Value) (zs : List Int) (hL : IV w vv zs) (hln : zs.length ≤ 1000) (c : Int) (hc : c ≠ 0) (hk : Ck12 V R zs c) :
    Calls Tryz.prog 84 #[.pointer (some ⟨tb, 0, none⟩), vv] w fun e w' => e = .returned (.tuple #[.map none, .iface 67 (.int .i64 c)]) ∧ Below w.heap.size w w' := by
  refine (comp_any h hw hE8 hV1 vv zs hL hln).mono ?_
  rintro e w' ⟨d, k1, k2, k3⟩
  obtain rfl := ck_uniq hk k1
  rcases k3 with ⟨_, k3⟩ | ⟨k3, _⟩
  · exact ⟨k3, k2⟩
  · exact absurd k3 hc

theorem comp_good (h : TA w lo tb V E R) (hw : Tw V E R) (hE8 : E ≤ 1000) (hV1 : 1 ≤ V) (vv : Value) (l : List Nat) (hL : RN w vv l) (hln : l.length ≤ 1000) (hl : Vl V R l) :
    Calls Tryz.prog 84 #[.pointer (some ⟨tb, 0, none⟩), vv] w fun e w' => ∃ mb, e = .returned (.tuple #[.map (some mb), .nilIface]) ∧ w.heap.size ≤ mb ∧ PM w' mb V (D1 V E R l) (G1 V E R l (es V R E) (fcs V R (2 * E))) ∧ Below w.heap.size w w' := by
  refine (comp_any h hw hE8 hV1 vv _ hL.iv (by simpa using hln)).mono ?_
  rintro e w' ⟨d, k1, k2, k3⟩
  have := ck_zero hl k1
  subst this
  rcases k3 with ⟨k3, _⟩ | ⟨_, mb, m, k3, k4, k5, k6, k7⟩
  · exact absurd rfl k3
  · obtain rfl := map_inj k4
    exact ⟨mb, k3, k6, k7, k2⟩

theorem g1_sb (hE8 : E ≤ 1000) {l : List Nat} (hln : l.length ≤ 1000) (c : Nat) : Sb 100000 (G1 V E R l (es V R E) (fcs V R (2 * E)) c) := by
  have a1 := List.countP_le_length (p := fun v => decide (lb V E R v = c)) (l := l)
  have a2 := List.countP_le_length (p := fun e => decide (lb V E R (og V R (2 * e)) = c)) (l := es V R E)
  have a3 := List.countP_le_length (p := fun v => (R v).isEmpty && decide (lb V E R v = c)) (l := l)
  have a4 := List.countP_le_length (p := fun f => decide (lb V E R (og V R (f.headD 0)) = c)) (l := fcs V R (2 * E))
  have a5 : (es V R E).length ≤ E := by unfold es; exact Nat.le_trans (List.length_filter_le _ _) (by simp)
  have a6 := fcs_le V R (2 * E)
  unfold G1 Sb
  dsimp only
  refine ⟨⟨by omega, by omega⟩, ⟨by omega, by omega⟩, ⟨by omega, by omega⟩, by omega, by omega⟩





theorem sflat_bad (h : TA w lo tb V E R) (hw : Tw V E R) (hE8 : E ≤ 1000) (hV1 : 1 ≤ V) (vv : Value) (zs : List Int) (hL : IV w vv zs) (hln : zs.length ≤ 1000) (c : Int) (hc : c ≠ 0) (hk : Ck12 V R zs c) :
    Calls Tryz.prog 55 #[.pointer (some ⟨tb, 0, none⟩), vv] w fun e w' => e = .returned (.tuple #[.bool false, .iface 67 (.int .i64 c)]) ∧ Below w.heap.size w w' :=
  flat_err _ vv c (comp_bad h hw hE8 hV1 vv zs hL hln c hc hk)

theorem sflat_ok (h : TA w lo tb V E R) (hw : Tw V E R) (hE8 : E ≤ 1000) (hV1 : 1 ≤ V) (vv : Value) (l : List Nat) (hL : RN w vv l) (hln : l.length ≤ 1000) (hl : Vl V R l) (s : Bool) (hs : s = true ↔ Xi V E R = 0) :
    Calls Tryz.prog 55 #[.pointer (some ⟨tb, 0, none⟩), vv] w fun e w' => e = .returned (.tuple #[.bool s, .nilIface]) ∧ Below w.heap.size w w' :=
  flat_map vv s (by rw [two_is h.tn hw hl, Vl.flat h.tn hw hl]; exact hs) (g1_sb hE8 hln) (comp_good h hw hE8 hV1 vv l hL hln hl)
end
end Go.Proofs.YtboafgimjadboaaGreatDoor
