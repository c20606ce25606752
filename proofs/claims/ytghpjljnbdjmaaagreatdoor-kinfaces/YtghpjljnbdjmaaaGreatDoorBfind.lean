/- The document's Find, Check, walked. The document's Check of a corner, walked. Corners, and how long the lists are. -/
import Derived.Test.YtghpjljnbdjmaaaGreatDoorBmem
namespace Go.Proofs.YtghpjljnbdjmaaaGreatDoor
open Go.RowKit
set_option linter.unusedVariables false

/-- Where a dart stands; (-1, -1): nowhere. -/
def At (V : Nat) (R : Nat → List Nat) (d : Int) (r s : Int) : Prop := (r = -1 ∧ s = -1 ∧ ∀ u, u < V → ∀ x, x ∈ R u → (x : Int) ≠ d) ∨ ∃ u i : Nat, u < V ∧ r = (u : Int) ∧ s = (i : Int) ∧ ∃ x, (R u)[i]? = some x ∧ (x : Int) = d

set_option maxRecDepth 100000 in
set_option maxHeartbeats 2000000 in
theorem rfind_ok (v : Value) (E V : Nat) (R : Nat → List Nat) (d : Int) (w : World) (hv : RT w v E V R) (hV : V ≤ 1000) (hl : ∀ u, u < V → (R u).length ≤ 1000) :
    Calls Tryz.prog 19 #[v, .int .i64 d] w fun e w' => ∃ r s, e = .returned (.tuple #[.int .i64 r, .int .i64 s]) ∧ At V R d r s ∧ Below w.heap.size w w' := by
  obtain ⟨lv, rfl, hr⟩ := hv
  have hr1 := hid (hr.below (balloc w (.cells #[.int .i64 (E : Int), lv] 27)))
  obtain ⟨c0, c1⟩ := two_new w (.int .i64 (E : Int)) lv 27
  have hb := hid (balloc w (.cells #[.int .i64 (E : Int), lv] 27))
  obtain ⟨ad, cap, rfl, hcap, ⟨hcap2, _⟩, hro⟩ := hr1.out
  replace hro := hid hro
  clear hr hr1
  obtain ⟨w1, hw1⟩ : ∃ w1, w.alloc (.cells #[.int .i64 (E : Int), .slice ad V cap] 27) = w1 := ⟨_, rfl⟩
  rw [hw1] at c0 c1 hb hro
  go_enter Tryz.func19, Tryz.ntmps19
  go_wp2_with fail
  try rw [hw1]
  clear hw1
  go_loop [6, 7] (fun s6 _ => ∃ u : Nat, u ≤ V ∧ s6 = .int .i64 (u : Int) ∧ Hid (∀ k, k < u → ∀ x, x ∈ R k → (x : Int) ≠ d)) (fun s6 _ => V - (intOf s6).toNat)
  case atStart => exact ⟨0, by omega, by go_num, fun k hk => by omega⟩
  case round =>
    obtain ⟨u, hu, rfl, hno⟩ := hrel
    rcases Nat.lt_or_ge u V with hlt | hge
    · obtain ⟨b, o, x, rfl, cx, hx⟩ := hro.out u hlt
      have hlu := hl u hlt
      obtain ⟨ad2, n2, cap2, rfl, hn2, hc2, hc3, hcell⟩ := hx
      rw [hn2] at hlu
      replace hcell := hid hcell
      replace hn2 := hid hn2
      have i1 : (0 : Int) ≤ (u : Int) := by omega
      have i2 : (u : Int) < (V : Int) := by omega
      go_wp2_with fail
      go_loop [7] (fun s7 => ∃ i : Nat, i ≤ n2 ∧ s7 = .int .i64 (i : Int) ∧ Hid (∀ k, k < i → ∀ x, (R u)[k]? = some x → (x : Int) ≠ d)) (fun s7 => n2 - (intOf s7).toNat)
      case atStart => exact ⟨0, by omega, by go_num, fun k hk => by omega⟩
      case round =>
        obtain ⟨i, hi, rfl, hin⟩ := hrel
        rcases Nat.lt_or_ge i n2 with hilt | hige
        · obtain ⟨y, hy⟩ : ∃ y, (R u)[i]? = some y := ⟨_, List.getElem?_eq_getElem (by rw [hn2.out]; exact hilt)⟩
          obtain ⟨b2, o2, rfl, cy⟩ := hcell.out i y hy
          have i3 : (0 : Int) ≤ (i : Int) := by omega
          have i4 : (i : Int) < (n2 : Int) := by omega
          by_cases hyd : (y : Int) = d
          · have t1 : ((y : Int) == d) = true := by simp [hyd]
            have fin : Hid (At V R d (u : Int) (i : Int)) := .inr ⟨u, i, hlt, rfl, rfl, y, hy, hyd⟩
            subst hyd
            clear hy hin hno
            go_wp2_with fail
            go_ret2
            exact ⟨_, _, rfl, fin.out, hb.out⟩
          · have t1 : ((y : Int) == d) = false := by simpa using hyd
            have hnext : Hid (∀ k, k < i + 1 → ∀ x, (R u)[k]? = some x → (x : Int) ≠ d) := fun k hk x hx => by
              by_cases e : k = i
              · subst e; rw [hy] at hx; cases hx; exact hyd
              · exact hin.out k (by omega) x hx
            clear hy hin
            go_wp2_with fail
            go_round
            case rel => exact ⟨i + 1, by omega, by go_num, hnext⟩
            case measure => simp [intOf]; omega
        · obtain rfl : i = n2 := by omega
          have hnext : Hid (∀ k, k < u + 1 → ∀ x, x ∈ R k → (x : Int) ≠ d) := fun k hk x hx => by
            by_cases e : k = u
            · subst e
              obtain ⟨q, hq⟩ := List.getElem?_of_mem hx
              exact hin.out q (by have := (List.getElem?_eq_some_iff.1 hq).1; rw [← hn2.out]; exact this) x hq
            · exact hno.out k (by omega) x hx
          clear hin hno
          go_wp2_with fail
          go_round
          case rel => exact ⟨u + 1, by omega, by go_num, hnext⟩
          case measure => simp [intOf]; omega
    · obtain rfl : u = V := by omega
      go_wp2_with fail
      go_ret2
      exact ⟨_, _, rfl, .inl ⟨rfl, rfl, hno.out⟩, hb.out⟩

end Go.Proofs.YtghpjljnbdjmaaaGreatDoor

namespace Go.Proofs.YtghpjljnbdjmaaaGreatDoor
open Go.RowKit
set_option linter.unusedVariables false

/-- There is such a corner. -/
def Co (V : Nat) (R : Nat → List Nat) (v b : Int) : Prop := ∃ u : Nat, v = (u : Int) ∧ u < V ∧ ((b = -1 ∧ R u = []) ∨ ∃ d : Nat, b = (d : Int) ∧ d ∈ R u)

theorem At.found {V E : Nat} {R : Nat → List Nat} (h : Tn V E R) {u d : Nat} (hu : u < V) (hd : d ∈ R u) {r s : Int} (ha : At V R (d : Int) r s) : r = (u : Int) ∧ ∃ i : Nat, s = (i : Int) ∧ (R u)[i]? = some d := by
  rcases ha with ⟨_, _, h3⟩ | ⟨u', i, hu', rfl, rfl, x, hx, e⟩
  · exact absurd rfl (h3 u hu d hd)
  · obtain rfl : x = d := by omega
    obtain rfl := h.one u' u x hu' hu (List.mem_of_getElem? hx) hd
    exact ⟨rfl, i, rfl, hx⟩

theorem At.none {V : Nat} {R : Nat → List Nat} {d : Int} (hd : ∀ u, u < V → ∀ x, x ∈ R u → (x : Int) ≠ d) {r s : Int} (ha : At V R d r s) : r = -1 ∧ s = -1 := by
  rcases ha with ⟨h1, h2, _⟩ | ⟨u', i, hu', _, _, x, hx, e⟩
  · exact ⟨h1, h2⟩
  · exact absurd e (hd u' hu' x (List.mem_of_getElem? hx))

set_option maxRecDepth 100000 in
set_option maxHeartbeats 2000000 in
theorem rcorner_range (tv : Value) (E V : Nat) (R : Nat → List Nat) (v b : Int) (w : World) (hv : RT w tv E V R) (h : v < 0 ∨ (V : Int) ≤ v) :
    Calls Tryz.prog 98 #[tv, .int .i64 v, .int .i64 b] w fun e w' => e = .returned (.int .i64 12) ∧ Below w.heap.size w w' := by
  obtain ⟨lv, rfl, ad, cap, rfl, _, _, _⟩ := hv
  by_cases h1 : v < 0
  · have d1 : decide (v < 0) = true := decide_eq_true h1
    clear h h1
    go_enter Tryz.func98, Tryz.ntmps98
    go_wp2_with fail
    go_ret
    exact ⟨rfl, balloc _ _⟩
  · have d1 : decide (v < 0) = false := decide_eq_false h1
    have d2 : decide ((V : Int) ≤ v) = true := decide_eq_true (by omega)
    clear h h1
    go_enter Tryz.func98, Tryz.ntmps98
    go_wp2_with fail
    go_ret
    exact ⟨rfl, balloc _ _⟩

set_option maxRecDepth 100000 in
set_option maxHeartbeats 4000000 in
theorem rcorner_any (tv : Value) (E V u : Nat) (R : Nat → List Nat) (b : Int) (w : World) (hv : RT w tv E V R) (ht : Tn V E R) (hu : u < V) (hV : V ≤ 1000) (hl : ∀ u, u < V → (R u).length ≤ 1000) :
    Calls Tryz.prog 98 #[tv, .int .i64 (u : Int), .int .i64 b] w fun e w' => ∃ c : Int, e = .returned (.int .i64 c) ∧ ((c = 0 ∧ Co V R (u : Int) b) ∨ (c = 13 ∧ ¬ Co V R (u : Int) b)) ∧ Below w.heap.size w w' := by
  have hf := hid (fun y (hy : Below w.heap.size w y) => rfind_ok tv E V R b y (hv.below hy) hV hl)
  obtain ⟨lv, rfl, hr⟩ := hv
  obtain ⟨c0, c1⟩ := two_new w (.int .i64 (E : Int)) lv 27
  have hb := hid (balloc w (.cells #[.int .i64 (E : Int), lv] 27))
  have hr1 := hr.below hb.out
  obtain ⟨ad, cap, rfl, hcap, ⟨hcap2, _⟩, hro⟩ := hr1
  obtain ⟨b1, o1, x, rfl, cx, hx⟩ := hro u hu
  obtain ⟨ad2, n2, cap2, rfl, hn2, _, _, _⟩ := hx
  obtain ⟨w1, hw1⟩ : ∃ w1, w.alloc (.cells #[.int .i64 (E : Int), .slice (some ⟨b1, o1, none⟩) V cap] 27) = w1 := ⟨_, rfl⟩
  rw [hw1] at c0 c1 hb cx
  have hlu := hl u hu
  rw [hn2] at hlu
  replace hn2 := hid hn2
  replace ht := hid ht
  have d1 : decide ((u : Int) < 0) = false := decide_eq_false (by omega)
  have d2 : decide ((V : Int) ≤ (u : Int)) = false := decide_eq_false (by omega)
  have d2' : decide (V ≤ u) = false := decide_eq_false (by omega)
  have i1 : (0 : Int) ≤ (u : Int) := by omega
  have i2 : (u : Int) < (V : Int) := by omega
  clear hr hro
  by_cases hb1 : b = -1
  · subst hb1
    by_cases hz : n2 = 0
    · have hco : Hid (Co V R (u : Int) (-1)) := ⟨u, rfl, hu, .inl ⟨rfl, List.eq_nil_of_length_eq_zero (by rw [hn2.out]; exact hz)⟩⟩
      subst hz
      go_enter Tryz.func98, Tryz.ntmps98
      go_wp2_with fail
      try rw [hw1]
      go_ret
      exact ⟨0, rfl, .inl ⟨rfl, hco.out⟩, hb.out⟩
    · have hco : Hid (¬ Co V R (u : Int) (-1)) := by
        rintro ⟨u', e, _, h | ⟨d, h, _⟩⟩
        · obtain rfl : u = u' := by omega
          exact hz (by rw [← hn2.out, h.2]; rfl)
        · omega
      have t1 : ((n2 : Int) == 0) = false := by simp; omega
      have t2 : ¬ ((n2 : Int) = 0) := by omega
      go_enter Tryz.func98, Tryz.ntmps98
      go_wp2_with fail
      try rw [hw1]
      refine (hf.out w1 hb.out).mono ?_
      rintro e w2 ⟨r, s, rfl, _, b2⟩
      have hb2 : Hid (Below w.heap.size w w2) := hb.out.trans (b2.mono hb.out.size)
      clear b2
      go_wp2_with fail
      go_ret
      exact ⟨13, rfl, .inr ⟨rfl, hco.out⟩, hb2.out⟩
  · have t1 : (b == -1) = false := by simpa using hb1
    by_cases hneg : b < 0
    · have hco : Hid (¬ Co V R (u : Int) b) := by
        rintro ⟨u', e, _, h | ⟨d, h, _⟩⟩
        · exact hb1 h.1
        · omega
      have t2 : decide (b < 0) = true := decide_eq_true hneg
      clear hneg
      go_enter Tryz.func98, Tryz.ntmps98
      go_wp2_with fail
      try rw [hw1]
      refine (hf.out w1 hb.out).mono ?_
      rintro e w2 ⟨r, s, rfl, _, b2⟩
      have hb2 : Hid (Below w.heap.size w w2) := hb.out.trans (b2.mono hb.out.size)
      clear b2
      go_wp2_with fail
      go_ret
      exact ⟨13, rfl, .inr ⟨rfl, hco.out⟩, hb2.out⟩
    · have t2 : decide (b < 0) = false := decide_eq_false hneg
      obtain ⟨d, hd⟩ : ∃ d : Nat, b = (d : Int) := ⟨b.toNat, by omega⟩
      replace hd := hid hd
      go_enter Tryz.func98, Tryz.ntmps98
      go_wp2_with fail
      try rw [hw1]
      refine (hf.out w1 hb.out).mono ?_
      rintro e w2 ⟨r, s, rfl, hat, b2⟩
      have hb2 : Hid (Below w.heap.size w w2) := hb.out.trans (b2.mono hb.out.size)
      clear b2
      by_cases hru : r = (u : Int)
      · have hco : Hid (Co V R (u : Int) b) := by
          rcases hat with ⟨h1, _⟩ | ⟨u', i, hu', h1, _, y, hy, e⟩
          · omega
          · obtain rfl : u = u' := by omega
            exact ⟨u, rfl, hu, .inr ⟨y, e.symm, List.mem_of_getElem? hy⟩⟩
        subst hru
        clear hat
        go_wp2_with fail
        go_ret
        exact ⟨0, rfl, .inl ⟨rfl, hco.out⟩, hb2.out⟩
      · have hco : Hid (¬ Co V R (u : Int) b) := by
          rintro ⟨u', e, _, h | ⟨d', h, hm⟩⟩
          · exact hb1 h.1
          · obtain rfl : u = u' := by omega
            rw [h] at hat
            exact hru (At.found ht.out hu hm hat).1
        have t3 : (r != (u : Int)) = true := by simpa using hru
        clear hat
        go_wp2_with fail
        go_ret
        exact ⟨13, rfl, .inr ⟨rfl, hco.out⟩, hb2.out⟩

end Go.Proofs.YtghpjljnbdjmaaaGreatDoor

namespace Go.Proofs.YtghpjljnbdjmaaaGreatDoor
open Go.RowKit
set_option linter.unusedVariables false

theorem pig : ∀ (l m : List Nat), l.Nodup → (∀ x, x ∈ l → x ∈ m) → l.length ≤ m.length
  | [], m, _, _ => by simp
  | x :: l, m, hn, hs => by
    have hx := hs x List.mem_cons_self
    obtain ⟨h1, h2⟩ := List.nodup_cons.1 hn
    have hlen := List.length_erase_of_mem hx
    have hpos : 0 < m.length := List.length_pos_of_mem hx
    have h3 := pig l (m.erase x) h2 (fun y hy => by
      have hne : y ≠ x := fun e => h1 (e ▸ hy)
      exact (List.mem_erase_of_ne hne).2 (hs y (List.mem_cons_of_mem _ hy)))
    simp
    omega

theorem Tn.len {V E : Nat} {R : Nat → List Nat} (h : Tn V E R) {v : Nat} (hv : v < V) : (R v).length ≤ 2 * E := by
  have := pig (R v) (List.range (2 * E)) (h.nd v hv) (fun x hx => List.mem_range.2 (h.low v x hv hx))
  simpa using this

/-- What a corner is behind. -/
def co (b : Int) : Option Nat := if b < 0 then none else some b.toNat
theorem co_none : co (-1) = none := rfl
theorem co_some (k : Nat) : co (k : Int) = some k := by unfold co; rw [if_neg (by omega)]; simp

theorem Co.mem {V : Nat} {R : Nat → List Nat} {v : Nat} {b : Int} (h : Co V R (v : Int) b) : ∀ y, co b = some y → y ∈ R v := by
  obtain ⟨u, e, _, h1 | ⟨d, rfl, h2⟩⟩ := h
  · rw [h1.1, co_none]; intro y hy; cases hy
  · obtain rfl : v = u := by omega
    rw [co_some]; intro y hy; cases hy; exact h2

end Go.Proofs.YtghpjljnbdjmaaaGreatDoor
