/- sphere.Count and Flat: the map gone over. What Count and Flat tell, of a list of vertices that Check accepts. sphere.Count and Flat, as they are called. -/
import Derived.Test.YtboafgimjadboaaGreatDoorBcomp
import Derived.Test.YtboafgimjadboaaGreatDoorBlink
import Derived.Test.YtboafgimjadboaaGreatDoorLift10
namespace Go.Proofs.YtboafgimjadboaaGreatDoor
open Go.RowKit
set_option linter.unusedVariables false

/-- What was gone over, summed. -/
def sm4 (p : Nat → Bool) (g : Nat → Qd) : Nat → Qd
  | 0 => (0, 0, 0, 0)
  | n + 1 => if p n then addQ (sm4 p g n) (g n) else sm4 p g n

/-- Bounds of the sums. -/
def Sb (B : Int) (q : Qd) : Prop := (0 ≤ q.1 ∧ q.1 ≤ B) ∧ (0 ≤ q.2.1 ∧ q.2.1 ≤ B) ∧ (0 ≤ q.2.2.1 ∧ q.2.2.1 ≤ B) ∧ 0 ≤ q.2.2.2 ∧ q.2.2.2 ≤ B

section
variable {w : World} {V : Nat} {dom : Nat → Bool} {g : Nat → Qd}

/-- What Count tells of a map. -/
def tot (V : Nat) (dom : Nat → Bool) (g : Nat → Qd) : Qd := addQ (0, 0, 0, ((List.range V).countP dom : Int)) (sm4 dom g V)





/-- On a sphere. -/
def two (q : Qd) : Prop := q.1 - q.2.1 + q.2.2.1 = 2

set_option maxRecDepth 100000 in
set_option maxHeartbeats 8000000 in
/-- Flat, where components answers a map. -/
theorem flat_map {tb : Nat} (vv : Value) (s : Bool) (hs : s = true ↔ ∀ c, c < V → dom c = true → two (g c)) (hg : ∀ c, Sb 100000 (g c)) (hc : Calls Tryz.prog 84 #[.pointer (some ⟨tb, 0, none⟩), vv] w fun e w' => ∃ mb, e = .returned (.tuple #[.map (some mb), .nilIface]) ∧ w.heap.size ≤ mb ∧ PM w' mb V dom g ∧ Below w.heap.size w w') :
    Calls Tryz.prog 55 #[.pointer (some ⟨tb, 0, none⟩), vv] w fun e w' => e = .returned (.tuple #[.bool s, .nilIface]) ∧ Below w.heap.size w w' := by
  replace hc := hid hc
  replace hg := hid hg
  replace hs := hid hs
  go_enter Tryz.func55, Tryz.ntmps55
  go_wp2_with fail
  refine hc.out.mono ?_
  rintro e w1 ⟨mb, rfl, hmb, hpm, b1⟩
  replace b1 := hid b1
  replace hpm := hid hpm
  clear hc
  go_wp2_with (at_range; refine at_rng _ rfl _ rfl mb V dom g rfl hpm.out ?_; intro w3 hr3 hg3 hs3)
  go_frame
  obtain ⟨r, hr⟩ : ∃ r, w1.heap.size = r := ⟨_, rfl⟩
  have hwr : w.heap.size ≤ r := by rw [← hr]; exact b1.out.size
  rw [hr] at hr3 ⊢
  clear hr
  have hst0 : Hid (PR w3 mb r V dom g dom ∧ Below w.heap.size w w3) := hid ⟨hr3, b1.out.grown hg3 b1.out.size (fun k hk => by cases hk)⟩
  clear hr3 hg3 hs3 b1 hpm
  go_loopw [9] (fun _ wr => ∃ left : Nat → Bool, Hid (∀ c, c < V → dom c = true → left c = false → two (g c)) ∧ Hid (PR wr mb r V dom g left ∧ Below w.heap.size w wr)) (fun _ wr => wr.rangeLeft mb r)
  case atStart => exact ⟨dom, hid (fun c _ h1 h2 => by rw [h1] at h2; cases h2), hst0⟩
  case round =>
    obtain ⟨left, hacc, hst⟩ := hrel
    clear hst0
    go_wp2_with (at_next; refine at_nxt _ rfl _ rfl mb r V dom left g rfl hst.out.1 ?_ ?_)
    · intro hdone
      have hfin : Hid (s = true) := hid (hs.out.2 (fun c h1 h2 => hacc.out c h1 h2 (hdone c h1)))
      have hbl := hid hst.out.2
      clear hdone hst hacc
      go_wp2_with fail
      go_ret2
      exact ⟨by rw [hfin.out]; rfl, hbl.out⟩
    · intro v q0 q1 q2 q3 w4 hv hgv hlv hdv hpr4 hlt4 hg4 hs4 hen
      have b4 := hst.out.2.grown hg4 hst.out.2.size (fun k hk => by cases hk; exact hwr)
      obtain ⟨⟨x0, x0'⟩, ⟨x1, x1'⟩, ⟨x2, x2'⟩, _⟩ := hg.out v
      rw [hgv] at x0 x0' x1 x1' x2 x2'
      simp only at x0 x0' x1 x1' x2 x2'
      obtain ⟨wm, hwm⟩ : ∃ wm, wr.rangeLeft mb r = wm := ⟨_, rfl⟩
      have hmeas := hid hwm
      rw [hwm] at hlt4
      obtain ⟨w5, hw5⟩ : ∃ w5, w4.alloc (.cells #[.int .i64 q0, .int .i64 q1, .int .i64 q2, .int .i64 q3] 172) = w5 := ⟨_, rfl⟩
      have kq : w5.heap[w4.heap.size]? = some (.cells #[.int .i64 q0, .int .i64 q1, .int .i64 q2, .int .i64 q3] 172 (0, 0)) := by rw [← hw5]; exact (MapKept.heap_alloc w4 _).1
      have b5 : Below w4.heap.size w4 w5 := by rw [← hw5]; exact (Below.refl _ _).alloc (Nat.le_refl _) _
      have hst5 : Hid (PR w5 mb r V dom g (fun x => left x && !(x == v)) ∧ Below w.heap.size w w5 ∧ w5.rangeLeft mb r < wm) := hid ⟨(hpr4.more b5).1, b4.trans (b5.mono b4.size), by rw [(hpr4.more b5).2]; exact hlt4⟩
      obtain ⟨⟨z0, z1, z2, z3⟩, _⟩ := blk4 kq
      replace hw5 := hid hw5
      have htwo : Hid (two (g v) ↔ q0 - q1 + q2 = 2) := hid (by rw [hgv]; rfl)
      clear hwm hst hgv hpr4 hlt4 hg4 hs4 b4 b5 kq
      by_cases hq : q0 - q1 + q2 = 2
      · have t1 : ((q0 - q1 + q2) != 2) = false := by simp [hq]
        have hacc2 : Hid (∀ c, c < V → dom c = true → (left c && !(c == v)) = false → two (g c)) := hid (fun c h1 h2 h3 => by
          by_cases e : c = v
          · subst e; exact htwo.out.2 hq
          · refine hacc.out c h1 h2 ?_
            have e' : (c == v) = false := beq_eq_false_iff_ne.2 e
            rw [e'] at h3
            simpa using h3)
        clear hacc htwo
        go_upto_region 7 with fail
        rw [hw5.out]
        clear hw5 hen
        go_wp2_with fail
        go_roundw
        case rel => exact ⟨_, hacc2, hid ⟨hst5.out.1, hst5.out.2.1⟩⟩
        case measure => rw [hmeas.out]; exact hst5.out.2.2
      · have t1 : ((q0 - q1 + q2) != 2) = true := by simp [hq]
        have hfin : Hid (s = false) := hid (by
          cases hss : s
          · rfl
          · exact absurd (htwo.out.1 (hs.out.1 hss v hv hdv)) hq)
        clear hacc htwo
        go_upto_region 7 with fail
        rw [hw5.out]
        clear hw5 hen
        go_wp2_with fail
        go_ret2
        exact ⟨by rw [hfin.out]; rfl, hst5.out.2.1⟩
end
end Go.Proofs.YtboafgimjadboaaGreatDoor

namespace Go.Proofs.YtboafgimjadboaaGreatDoor
open Go.RowKit
set_option linter.unusedVariables false

section
variable {V E : Nat} {R : Nat → List Nat}

theorem lb_lb (v : Nat) : lb V E R (lb V E R v) = lb V E R v := (lb_lab V E R).ff v

theorem d1_iff (h : Tn V E R) (t : Tw V E R) {l : List Nat} (hl : Vl V R l) {c : Nat} : D1 V E R l c = true ↔ c ∈ l ∧ lb V E R c = c := by
  unfold D1
  rw [List.any_eq_true]
  constructor
  · rintro ⟨v, hv, e⟩
    have e : lb V E R v = c := by simpa using e
    have hvV := hl.low v hv
    have hcc : lb V E R c = c := by rw [← e]; exact lb_lb v
    have hcV : c < V := by rw [← e]; exact lb_lt v hvV
    refine ⟨?_, hcc⟩
    by_cases hb : R c = []
    · rw [← bare_only h t hb (show lb V E R v = lb V E R c by rw [e, hcc])]
      exact hv
    · exact hl.all c hcV hb
  · rintro ⟨h1, h2⟩
    exact ⟨c, h1, by simp [h2]⟩

theorem two_is (h : Tn V E R) (t : Tw V E R) {l : List Nat} (hl : Vl V R l) : (∀ c, c < V → D1 V E R l c = true → two (G1 V E R l (es V R E) (fcs V R (2 * E)) c)) ↔ ∀ c, c ∈ l → lb V E R c = c → flA V E R l c (Pc V E R c) := by
  classical
  have key : ∀ c, c ∈ l → lb V E R c = c → (two (G1 V E R l (es V R E) (fcs V R (2 * E)) c) ↔ flA V E R l c (Pc V E R c)) := fun c h1 h2 => by
    have e1 : (es V R E).countP (fun e => decide (lb V E R (og V R (2 * e)) = c)) = evl (Pc V E R c) R l := by
      rw [hl.evl h t h1 h2]
      unfold es cE
      rw [List.countP_filter]
      refine List.countP_congr (fun e _ => ?_)
      simp [and_comm]
    have e2 : l.countP (fun v => (R v).isEmpty && decide (lb V E R v = c)) = k2 (Pc V E R c) R l := by
      unfold k2 Pc
      refine List.countP_congr (fun v _ => ?_)
      simp [and_comm]
    unfold two flA G1
    dsimp only
    rw [e1, e2]
    exact Iff.rfl
  constructor
  · intro q c h1 h2
    exact (key c h1 h2).1 (q c (hl.low c h1) ((d1_iff h t hl).2 ⟨h1, h2⟩))
  · intro q c hc hd
    obtain ⟨h1, h2⟩ := (d1_iff h t hl).1 hd
    exact (key c h1 h2).2 (q c h1 h2)
end
end Go.Proofs.YtboafgimjadboaaGreatDoor

namespace Go.Proofs.YtboafgimjadboaaGreatDoor
open Go.RowKit
set_option linter.unusedVariables false

/-- A slice of numbers to be read, as whole numbers. -/
theorem RN.iv {w : World} {v : Value} {l : List Nat} (h : RN w v l) : IV w v (l.map (fun x : Nat => (x : Int))) := by
  obtain ⟨ad, n, cap, h1, h2, h3, h4⟩ := h
  refine ⟨ad, n, cap, h1, ⟨by simp [h2], h3, fun j z hz => ?_⟩⟩
  rw [List.getElem?_map] at hz
  cases hq : l[j]? with
  | none => rw [hq] at hz; simp at hz
  | some x =>
    rw [hq] at hz
    simp at hz
    subst hz
    exact h4 j x hq

section
variable {w : World} {lo tb V E : Nat} {R : Nat → List Nat}

theorem comp_good (h : TA w lo tb V E R) (hw : Tw V E R) (hE8 : E ≤ 1000) (hV1 : 1 ≤ V) (vv : Value) (l : List Nat) (hL : RN w vv l) (hln : l.length ≤ 1000) (hl : Vl V R l) :
    Calls Tryz.prog 84 #[.pointer (some ⟨tb, 0, none⟩), vv] w fun e w' => ∃ mb, e = .returned (.tuple #[.map (some mb), .nilIface]) ∧ w.heap.size ≤ mb ∧ PM w' mb V (D1 V E R l) (G1 V E R l (es V R E) (fcs V R (2 * E))) ∧ Below w.heap.size w w' := by
  refine (comp_any h hw hE8 hV1 vv _ hL.iv (by simpa using hln)).mono ?_
  rintro e w' ⟨d, k1, k2, k3⟩
  have := ck_zero hl k1
  subst this
  rcases k3 with ⟨k3, _⟩ | ⟨_, mb, m, k3, k4, k5, k6, k7⟩
  · exact absurd rfl k3
  · obtain rfl := map_inj k4
    exact ⟨mb, k3, k6, k7, k2⟩

theorem g1_sb (hE8 : E ≤ 1000) {l : List Nat} (hln : l.length ≤ 1000) (c : Nat) : Sb 100000 (G1 V E R l (es V R E) (fcs V R (2 * E)) c) := by
  have a1 := List.countP_le_length (p := fun v => decide (lb V E R v = c)) (l := l)
  have a2 := List.countP_le_length (p := fun e => decide (lb V E R (og V R (2 * e)) = c)) (l := es V R E)
  have a3 := List.countP_le_length (p := fun v => (R v).isEmpty && decide (lb V E R v = c)) (l := l)
  have a4 := List.countP_le_length (p := fun f => decide (lb V E R (og V R (f.headD 0)) = c)) (l := fcs V R (2 * E))
  have a5 : (es V R E).length ≤ E := by unfold es; exact Nat.le_trans (List.length_filter_le _ _) (by simp)
  have a6 := fcs_le V R (2 * E)
  unfold G1 Sb
  dsimp only
  refine ⟨⟨by omega, by omega⟩, ⟨by omega, by omega⟩, ⟨by omega, by omega⟩, by omega, by omega⟩





theorem sflat_ok (h : TA w lo tb V E R) (hw : Tw V E R) (hE8 : E ≤ 1000) (hV1 : 1 ≤ V) (vv : Value) (l : List Nat) (hL : RN w vv l) (hln : l.length ≤ 1000) (hl : Vl V R l) (s : Bool) (hs : s = true ↔ Xi V E R = 0) :
    Calls Tryz.prog 55 #[.pointer (some ⟨tb, 0, none⟩), vv] w fun e w' => e = .returned (.tuple #[.bool s, .nilIface]) ∧ Below w.heap.size w w' :=
  flat_map vv s (by rw [two_is h.tn hw hl, Vl.flat h.tn hw hl]; exact hs) (g1_sb hE8 hln) (comp_good h hw hE8 hV1 vv l hL hln hl)
end
end Go.Proofs.YtboafgimjadboaaGreatDoor
