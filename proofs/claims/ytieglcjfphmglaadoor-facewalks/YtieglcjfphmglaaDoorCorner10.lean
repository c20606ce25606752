/- The document's Check of a corner, walked. -/
import Derived.Test.YtieglcjfphmglaaDoorFind10
namespace Go.Proofs.YtieglcjfphmglaaDoor
open Go.RowKit
set_option linter.unusedVariables false

/-- There is such a corner. -/
def Co (V : Nat) (R : Nat → List Nat) (v b : Int) : Prop := ∃ u : Nat, v = (u : Int) ∧ u < V ∧ ((b = -1 ∧ R u = []) ∨ ∃ d : Nat, b = (d : Int) ∧ d ∈ R u)

theorem At.found {V E : Nat} {R : Nat → List Nat} (h : Tn V E R) {u d : Nat} (hu : u < V) (hd : d ∈ R u) {r s : Int} (ha : At V R (d : Int) r s) : r = (u : Int) ∧ ∃ i : Nat, s = (i : Int) ∧ (R u)[i]? = some d := by
  rcases ha with ⟨_, _, h3⟩ | ⟨u', i, hu', rfl, rfl, x, hx, e⟩
  · exact absurd rfl (h3 u hu d hd)
  · obtain rfl : x = d := by omega
    obtain rfl := h.one u' u x hu' hu (List.mem_of_getElem? hx) hd
    exact ⟨rfl, i, rfl, hx⟩

theorem At.none {V : Nat} {R : Nat → List Nat} {d : Int} (hd : ∀ u, u < V → ∀ x, x ∈ R u → (x : Int) ≠ d) {r s : Int} (ha : At V R d r s) : r = -1 ∧ s = -1 := by
  rcases ha with ⟨h1, h2, _⟩ | ⟨u', i, hu', _, _, x, hx, e⟩
  · exact ⟨h1, h2⟩
  · exact absurd e (hd u' hu' x (List.mem_of_getElem? hx))

set_option maxRecDepth 100000 in
set_option maxHeartbeats 2000000 in
theorem rcorner_range (tv : Value) (E V : Nat) (R : Nat → List Nat) (v b : Int) (w : World) (hv : RT w tv E V R) (h : v < 0 ∨ (V : Int) ≤ v) :
    Calls Tryd.prog 24 #[tv, .int .i64 v, .int .i64 b] w fun e w' => e = .returned (.int .i64 12) ∧ Below w.heap.size w w' := by
  obtain ⟨lv, rfl, ad, cap, rfl, _, _, _⟩ := hv
  by_cases h1 : v < 0
  · have d1 : decide (v < 0) = true := decide_eq_true h1
    clear h h1
    go_enter Tryd.func24, Tryd.ntmps24
    go_wp2_with fail
    go_ret
    exact ⟨rfl, balloc _ _⟩
  · have d1 : decide (v < 0) = false := decide_eq_false h1
    have d2 : decide ((V : Int) ≤ v) = true := decide_eq_true (by omega)
    clear h h1
    go_enter Tryd.func24, Tryd.ntmps24
    go_wp2_with fail
    go_ret
    exact ⟨rfl, balloc _ _⟩

set_option maxRecDepth 100000 in
set_option maxHeartbeats 4000000 in
theorem rcorner_any (tv : Value) (E V u : Nat) (R : Nat → List Nat) (b : Int) (w : World) (hv : RT w tv E V R) (ht : Tn V E R) (hu : u < V) (hV : V ≤ 1000) (hl : ∀ u, u < V → (R u).length ≤ 1000) :
    Calls Tryd.prog 24 #[tv, .int .i64 (u : Int), .int .i64 b] w fun e w' => ∃ c : Int, e = .returned (.int .i64 c) ∧ ((c = 0 ∧ Co V R (u : Int) b) ∨ (c = 13 ∧ ¬ Co V R (u : Int) b)) ∧ Below w.heap.size w w' := by
  have hf := hid (fun y (hy : Below w.heap.size w y) => rfind_ok tv E V R b y (hv.below hy) hV hl)
  obtain ⟨lv, rfl, hr⟩ := hv
  obtain ⟨c0, c1⟩ := two_new w (.int .i64 (E : Int)) lv 26
  have hb := hid (balloc w (.cells #[.int .i64 (E : Int), lv] 26))
  have hr1 := hr.below hb.out
  obtain ⟨ad, cap, rfl, hcap, ⟨hcap2, _⟩, hro⟩ := hr1
  obtain ⟨b1, o1, x, rfl, cx, hx⟩ := hro u hu
  obtain ⟨ad2, n2, cap2, rfl, hn2, _, _, _⟩ := hx
  obtain ⟨w1, hw1⟩ : ∃ w1, w.alloc (.cells #[.int .i64 (E : Int), .slice (some ⟨b1, o1, none⟩) V cap] 26) = w1 := ⟨_, rfl⟩
  rw [hw1] at c0 c1 hb cx
  have hlu := hl u hu
  rw [hn2] at hlu
  replace hn2 := hid hn2
  replace ht := hid ht
  have d1 : decide ((u : Int) < 0) = false := decide_eq_false (by omega)
  have d2 : decide ((V : Int) ≤ (u : Int)) = false := decide_eq_false (by omega)
  have d2' : decide (V ≤ u) = false := decide_eq_false (by omega)
  have i1 : (0 : Int) ≤ (u : Int) := by omega
  have i2 : (u : Int) < (V : Int) := by omega
  clear hr hro
  by_cases hb1 : b = -1
  · subst hb1
    by_cases hz : n2 = 0
    · have hco : Hid (Co V R (u : Int) (-1)) := ⟨u, rfl, hu, .inl ⟨rfl, List.eq_nil_of_length_eq_zero (by rw [hn2.out]; exact hz)⟩⟩
      subst hz
      go_enter Tryd.func24, Tryd.ntmps24
      go_wp2_with fail
      try rw [hw1]
      go_ret
      exact ⟨0, rfl, .inl ⟨rfl, hco.out⟩, hb.out⟩
    · have hco : Hid (¬ Co V R (u : Int) (-1)) := by
        rintro ⟨u', e, _, h | ⟨d, h, _⟩⟩
        · obtain rfl : u = u' := by omega
          exact hz (by rw [← hn2.out, h.2]; rfl)
        · omega
      have t1 : ((n2 : Int) == 0) = false := by simp; omega
      have t2 : ¬ ((n2 : Int) = 0) := by omega
      go_enter Tryd.func24, Tryd.ntmps24
      go_wp2_with fail
      try rw [hw1]
      refine (hf.out w1 hb.out).mono ?_
      rintro e w2 ⟨r, s, rfl, _, b2⟩
      have hb2 : Hid (Below w.heap.size w w2) := hb.out.trans (b2.mono hb.out.size)
      clear b2
      go_wp2_with fail
      go_ret
      exact ⟨13, rfl, .inr ⟨rfl, hco.out⟩, hb2.out⟩
  · have t1 : (b == -1) = false := by simpa using hb1
    by_cases hneg : b < 0
    · have hco : Hid (¬ Co V R (u : Int) b) := by
        rintro ⟨u', e, _, h | ⟨d, h, _⟩⟩
        · exact hb1 h.1
        · omega
      have t2 : decide (b < 0) = true := decide_eq_true hneg
      clear hneg
      go_enter Tryd.func24, Tryd.ntmps24
      go_wp2_with fail
      try rw [hw1]
      refine (hf.out w1 hb.out).mono ?_
      rintro e w2 ⟨r, s, rfl, _, b2⟩
      have hb2 : Hid (Below w.heap.size w w2) := hb.out.trans (b2.mono hb.out.size)
      clear b2
      go_wp2_with fail
      go_ret
      exact ⟨13, rfl, .inr ⟨rfl, hco.out⟩, hb2.out⟩
    · have t2 : decide (b < 0) = false := decide_eq_false hneg
      obtain ⟨d, hd⟩ : ∃ d : Nat, b = (d : Int) := ⟨b.toNat, by omega⟩
      replace hd := hid hd
      go_enter Tryd.func24, Tryd.ntmps24
      go_wp2_with fail
      try rw [hw1]
      refine (hf.out w1 hb.out).mono ?_
      rintro e w2 ⟨r, s, rfl, hat, b2⟩
      have hb2 : Hid (Below w.heap.size w w2) := hb.out.trans (b2.mono hb.out.size)
      clear b2
      by_cases hru : r = (u : Int)
      · have hco : Hid (Co V R (u : Int) b) := by
          rcases hat with ⟨h1, _⟩ | ⟨u', i, hu', h1, _, y, hy, e⟩
          · omega
          · obtain rfl : u = u' := by omega
            exact ⟨u, rfl, hu, .inr ⟨y, e.symm, List.mem_of_getElem? hy⟩⟩
        subst hru
        clear hat
        go_wp2_with fail
        go_ret
        exact ⟨0, rfl, .inl ⟨rfl, hco.out⟩, hb2.out⟩
      · have hco : Hid (¬ Co V R (u : Int) b) := by
          rintro ⟨u', e, _, h | ⟨d', h, hm⟩⟩
          · exact hb1 h.1
          · obtain rfl : u = u' := by omega
            rw [h] at hat
            exact hru (At.found ht.out hu hm hat).1
        have t3 : (r != (u : Int)) = true := by simpa using hru
        clear hat
        go_wp2_with fail
        go_ret
        exact ⟨13, rfl, .inr ⟨rfl, hco.out⟩, hb2.out⟩

end Go.Proofs.YtieglcjfphmglaaDoor
