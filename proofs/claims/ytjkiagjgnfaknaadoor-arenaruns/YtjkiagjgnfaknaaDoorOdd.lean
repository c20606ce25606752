/- Which places may be: odd, mayBe, and the library's IndexFunc and ContainsFunc over it; slices of places that are read. -/
import Derived.Test.YtjkiagjgnfaknaaDoorArena
namespace Go.Proofs.YtjkiagjgnfaknaaDoor
open Go.RowKit

/-- The slice at 'ad' holds these places. -/
structure Prow (w : World) (ad : Option Addr) (ps : List (Int × Int)) : Prop where
  nil : ad = none → ps = []
  bound : ps.length ≤ 9223372036854775807
  num : ∀ (j : Nat) p, ps[j]? = some p → 0 ≤ p.1 ∧ p.1 < 4294967296
  cell : ∀ a, ad = some a → ∀ (j : Nat) p, ps[j]? = some p → w.cell? (a.add (j * 2)) = some (.int .u32 p.1) ∧ w.cell? (a.add (j * 2 + 1)) = some (.int .i64 p.2)

theorem add_add (a : Addr) (i j : Nat) : (a.add i).add j = a.add (i + j) := by
  unfold Addr.add
  by_cases hi : i = 0
  · subst hi; simp
  · by_cases hj : j = 0
    · subst hj; simp
    · simp [hi, hj, Nat.add_assoc]

theorem add_block (a : Addr) (j : Nat) : (a.add j).block = a.block := by unfold Addr.add; split <;> rfl

theorem Prow.below {w w' : World} {ad : Option Addr} {ps : List (Int × Int)} (h : Prow w ad ps) (hb : Below w.heap.size w w') : Prow w' ad ps :=
  ⟨h.nil, h.bound, h.num, fun a ha j p hz => by
    obtain ⟨h1, h2⟩ := h.cell a ha j p hz
    exact ⟨(hb.cell (World.block_lt_of_cell? w _ h1)).trans h1, (hb.cell (World.block_lt_of_cell? w _ h2)).trans h2⟩⟩

theorem Prow.of {w w' : World} {S : Nat → Prop} {ad : Option Addr} {ps : List (Int × Int)} (h : Prow w ad ps) (hw : Turned S w w') (ho : ∀ a, ad = some a → ¬ S a.block) : Prow w' ad ps :=
  ⟨h.nil, h.bound, h.num, fun a ha j p hz => by
    obtain ⟨h1, h2⟩ := h.cell a ha j p hz
    exact ⟨hw.cell h1 (by rw [add_block]; exact ho a ha), hw.cell h2 (by rw [add_block]; exact ho a ha)⟩⟩

theorem Prow.first {w : World} {a : Addr} {ps : List (Int × Int)} (h : Prow w (some a) ps) {j : Nat} {p : Int × Int} (hp : ps[j]? = some p) : w.cell? (a.add (j * 2)) = some (.int .u32 p.1) := (h.cell a rfl j p hp).1
theorem Prow.second {w : World} {a : Addr} {ps : List (Int × Int)} (h : Prow w (some a) ps) {j : Nat} {p : Int × Int} (hp : ps[j]? = some p) : w.cell? ⟨(a.add (j * 2)).block, (a.add (j * 2)).off + 1, none⟩ = some (.int .i64 p.2) := by
  show w.cell? ((a.add (j * 2)).add 1) = _
  rw [add_add]; exact (h.cell a rfl j p hp).2

def oddB (p : Int × Int) : Bool := if p.2 = 0 then p.1 == 4294967295 else if p.2 = 1 then p.1 == 0 else if p.2 = 2 then p.1 != 4294967295 else true

theorem oddB_ok {p : Int × Int} (h1 : 0 ≤ p.1) (h2 : p.1 < 4294967296) : oddB p = false ↔ okP p := by
  unfold oddB okP
  by_cases e0 : p.2 = 0
  · simp [e0, h1, h2]
  · by_cases e1 : p.2 = 1
    · simp [e1, h1, h2]
    · by_cases e2 : p.2 = 2
      · simp [e2, h1, h2]
      · simp [e0, e1, e2]

set_option maxHeartbeats 1000000 in
theorem odd_ok (a s : Int) (w : World) : Calls Tryd.prog 37 #[.agg #[.int .u32 a, .int .i64 s]] w fun e w' => e = .returned (.bool (oddB (a, s))) ∧ Below w.heap.size w w' := by
  have hb : Below w.heap.size w (w.alloc (.cells #[.int .u32 a, .int .i64 s] 70)) := (Below.refl _ _).alloc (Nat.le_refl _) _
  by_cases e0 : s = 0
  · subst e0
    go_enter Tryd.func37, Tryd.ntmps37
    go_wp2_with fail
    go_ret
    exact ⟨by simp [oddB], hb⟩
  · have t0 : decide (s = 0) = false := decide_eq_false e0
    by_cases e1 : s = 1
    · subst e1
      go_enter Tryd.func37, Tryd.ntmps37
      go_wp2_with fail
      go_ret
      exact ⟨by simp [oddB], hb⟩
    · have t1 : decide (s = 1) = false := decide_eq_false e1
      by_cases e2 : s = 2
      · subst e2
        go_enter Tryd.func37, Tryd.ntmps37
        go_wp2_with fail
        go_ret
        exact ⟨by simp [oddB], hb⟩
      · have t2 : decide (s = 2) = false := decide_eq_false e2
        go_enter Tryd.func37, Tryd.ntmps37
        go_wp2_with fail
        go_ret
        exact ⟨by simp [oddB, e0, e1, e2], hb⟩

set_option maxHeartbeats 1000000 in
theorem index_ok (ad : Option Addr) (ps : List (Int × Int)) (cap : Nat) (w : World) (h : Prow w ad ps) :
    Calls Tryd.prog 50 #[.slice ad ps.length cap, .func (.func 37) #[] #[]] w fun e w' => ∃ z : Int, e = .returned (.int .i64 z) ∧ decide (0 ≤ z) = ps.any oddB ∧ Below w.heap.size w w' := by
  have hl := h.bound
  go_enter Tryd.func50, Tryd.ntmps50
  go_wp2_with fail
  go_loopw [8] (fun u wr => ∃ j : Nat, j ≤ ps.length ∧ u = .int .i64 (j : Int) ∧ Hid (∀ (k : Nat) p, ps[k]? = some p → k < j → oddB p = false) ∧ Below w.heap.size w wr)
    (fun u _ => ps.length - (intOf u).toNat)
  case atStart => exact ⟨0, by omega, by go_num, fun _ _ _ h => by omega, Below.refl _ _⟩
  case round =>
    obtain ⟨j, hj, rfl, hno, hbr⟩ := hrel
    rcases Nat.lt_or_ge j ps.length with hlt | hge
    · obtain ⟨p, hp⟩ : ∃ p, ps[j]? = some p := ⟨_, List.getElem?_eq_getElem hlt⟩
      cases ad with
      | none => have := h.nil rfl; subst this; simp at hlt
      | some a =>
        have hc0 := (h.below hbr).first hp
        have hc1 := (h.below hbr).second hp
        have hph := hid hp
        clear hp
        go_wp2_with fail
        refine (odd_ok p.1 p.2 _).mono ?_
        rintro e w2 ⟨rfl, b2⟩
        have hb2 := hbr.trans (b2.mono hbr.size)
        cases ho : oddB (p.1, p.2) with
        | true =>
          go_wp2_with fail
          go_ret
          refine ⟨_, rfl, ?_, hb2⟩
          have : ps.any oddB = true := List.any_eq_true.2 ⟨p, List.mem_of_getElem? hph.out, ho⟩
          rw [this]
          simp
        | false =>
          have hoh := hid ho
          clear ho hc0 hc1 b2
          go_wp2_with fail
          go_roundw
          case rel =>
            refine ⟨j + 1, by omega, by go_num, fun k q hq hk => ?_, hb2⟩
            rcases Nat.lt_or_ge k j with h1 | h1
            · exact hno.out k q hq h1
            · obtain rfl : k = j := by omega
              rw [hph.out] at hq
              cases hq
              exact hoh.out
          case measure => simp [intOf]; omega
    · go_wp2_with fail
      go_ret
      refine ⟨_, rfl, ?_, hbr⟩
      have : ps.any oddB = false := by
        rw [List.any_eq_false]
        intro p hp
        obtain ⟨k, hk⟩ := List.mem_iff_getElem?.1 hp
        rw [hno.out k p hk (by have := (List.getElem?_eq_some_iff.1 hk).1; omega)]
        simp
      rw [this]
      rfl

set_option maxHeartbeats 1000000 in
theorem contains_ok (ad : Option Addr) (ps : List (Int × Int)) (cap : Nat) (w : World) (h : Prow w ad ps) :
    Calls Tryd.prog 36 #[.slice ad ps.length cap, .func (.func 37) #[] #[]] w fun e w' => e = .returned (.bool (ps.any oddB)) ∧ Below w.heap.size w w' := by
  go_enter Tryd.func36, Tryd.ntmps36
  go_wp2_with fail
  refine (index_ok ad ps cap _ h).mono ?_
  rintro e w2 ⟨z, rfl, hz, b2⟩
  go_wp2_with fail
  go_ret
  exact ⟨by rw [← hz]; rfl, b2⟩

/-- What mayBe says. -/
def mayB (n : Int) (ps : List (Int × Int)) : Bool := ps.isEmpty || (decide ((ps.length : Int) ≤ n) && decide ((atP ps (ps.length - 1)).1 ≠ 0) && !ps.any oddB)

theorem mayB_fair (n : Nat) (ps : List (Int × Int)) (hn : ∀ (j : Nat) p, ps[j]? = some p → 0 ≤ p.1 ∧ p.1 < 4294967296) : mayB n ps = true ↔ Fair n ps := by
  unfold mayB
  cases ps with
  | nil => simp [Fair.nil]
  | cons q qs =>
    generalize hps : q :: qs = ps at *
    have hne : ps.isEmpty = false := by subst hps; rfl
    have hpos : 0 < ps.length := by subst hps; simp
    rw [hne]
    simp only [Bool.false_or, Bool.and_eq_true, decide_eq_true_eq, Bool.not_eq_true', List.any_eq_false]
    obtain ⟨l, hl⟩ : ∃ l, ps[ps.length - 1]? = some l := ⟨_, List.getElem?_eq_getElem (by omega)⟩
    rw [atP_some hl]
    constructor
    · rintro ⟨⟨h1, h2⟩, h3⟩
      refine ⟨by omega, fun i p hp => ?_, fun i p hp hi => ?_⟩
      · have := h3 p (List.mem_of_getElem? hp)
        exact (oddB_ok (hn i p hp).1 (hn i p hp).2).1 (by simpa using this)
      · obtain rfl : i = ps.length - 1 := by omega
        rw [hl] at hp
        cases hp
        exact h2
    · intro hf
      refine ⟨⟨by have := hf.le; omega, hf.last _ _ hl (by omega)⟩, fun p hp => ?_⟩
      obtain ⟨i, hi⟩ := List.mem_iff_getElem?.1 hp
      rw [(oddB_ok (hn i p hi).1 (hn i p hi).2).2 (hf.ok i p hi)]
      simp

set_option maxHeartbeats 1000000 in
theorem mayBe_ok (n : Int) (ad : Option Addr) (ps : List (Int × Int)) (cap : Nat) (w : World) (h : Prow w ad ps) :
    Calls Tryd.prog 23 #[.int .i64 n, .slice ad ps.length cap] w fun e w' => e = .returned (.bool (mayB n ps)) ∧ Below w.heap.size w w' := by
  have hl := h.bound
  rcases Nat.eq_zero_or_pos ps.length with h0 | hpos
  · have : ps = [] := List.eq_nil_of_length_eq_zero h0
    subst this
    go_enter Tryd.func23, Tryd.ntmps23
    go_wp2_with fail
    go_ret
    exact ⟨rfl, Below.refl _ _⟩
  · have hne : ps.isEmpty = false := by cases ps with
      | nil => simp at hpos
      | cons _ _ => rfl
    have hm : Hid (mayB n ps = (decide ((ps.length : Int) ≤ n) && decide ((atP ps (ps.length - 1)).1 ≠ 0) && !ps.any oddB)) := by show mayB n ps = _; unfold mayB; rw [hne]; rfl
    by_cases hn : (ps.length : Int) ≤ n
    · obtain ⟨p, hp⟩ : ∃ p, ps[ps.length - 1]? = some p := ⟨_, List.getElem?_eq_getElem (by omega)⟩
      cases ad with
      | none => have := h.nil rfl; subst this; simp at hpos
      | some a =>
        obtain ⟨m, hM⟩ : ∃ m, ps.length = m + 1 := ⟨ps.length - 1, by omega⟩
        have hat := hid (atP_some hp)
        have hc := h.first hp
        have hco := contains_ok (some a) ps cap w h
        rw [hM] at hc hm hn hl hat hco
        simp only [Nat.add_sub_cancel] at hc hm hat
        rw [hM]
        clear hp hpos hM
        have hn2 := hid hn
        by_cases hz : p.1 = 0
        · rw [hz] at hc
          have tn : decide (n < (m : Int) + 1) = false := decide_eq_false (by simp at hn; omega)
          go_enter Tryd.func23, Tryd.ntmps23
          go_wp2_with fail
          go_ret
          refine ⟨?_, Below.refl _ _⟩
          rw [hm.out, hat.out, hz]
          simp
        · have hz2 : Hid (p.1 ≠ 0) := hz
          have tz : (p.1 == 0) = false := by simpa using hz
          have tn : decide (n < (m : Int) + 1) = false := decide_eq_false (by simp at hn; omega)
          go_enter Tryd.func23, Tryd.ntmps23
          go_wp2_with fail
          refine hco.mono ?_
          rintro e w2 ⟨rfl, b2⟩
          go_wp2_with fail
          go_ret
          refine ⟨?_, b2⟩
          rw [hm.out, hat.out, decide_eq_true hn2.out, decide_eq_true hz2.out]
          simp
    · have tn : decide (n < (ps.length : Int)) = true := decide_eq_true (by omega)
      have hn2 := hid hn
      go_enter Tryd.func23, Tryd.ntmps23
      go_wp2_with fail
      go_ret
      refine ⟨?_, Below.refl _ _⟩
      rw [hm.out, decide_eq_false (show ¬ (ps.length : Int) ≤ n by have := hn2.out; omega)]
      simp

end Go.Proofs.YtjkiagjgnfaknaaDoor
