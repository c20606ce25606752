/- 'All': the taken places, ascending; two slices of the same numbers. -/
import Derived.Test.YtddbeebnmjbfiaaDoorCalls2
import Derived.Test.YtddbeebnmjbfiaaDoorSure
import Derived.Test.YtddbeebnmjbfiaaDoorOpenInts
namespace Go.Proofs.YtddbeebnmjbfiaaDoor
open Go.RowKit

/-- The taken places below f. -/
def bel (l : List Bool) (f : Nat) : List Nat := (List.range f).filter (fun i => l[i]? == some true)

theorem bel_succ (l : List Bool) (f : Nat) : bel l (f + 1) = bel l f ++ (if l[f]? = some true then [f] else []) := by
  unfold bel
  rw [List.range_succ, List.filter_append]
  by_cases h : l[f]? = some true <;> simp [h]

theorem bel_skip (l : List Bool) (f : Nat) : ∀ d, (∀ y, f ≤ y → y < f + d → ¬ l[y]? = some true) → bel l (f + d) = bel l f
  | 0, _ => rfl
  | d + 1, h => by
    rw [← Nat.add_assoc, bel_succ, bel_skip l f d (fun y h1 h2 => h y h1 (by omega)), if_neg (h (f + d) (by omega) (by omega))]
    simp

theorem bel_to (l : List Bool) (f g : Nat) (hfg : f ≤ g) (h : ∀ y, f ≤ y → y < g → ¬ l[y]? = some true) : bel l g = bel l f := by
  rw [show g = f + (g - f) from by omega]
  exact bel_skip l f _ (fun y h1 h2 => h y h1 (by omega))

theorem bel_least (l : List Bool) (f x : Nat) (hx : Least (fun i => l[i]? = some true) f x) : bel l (x + 1) = bel l f ++ [x] := by
  have h0 : l[x]? = some true := hx.1
  rw [bel_succ, if_pos h0, bel_to l f x hx.2.1 (fun y h1 h2 h3 => by have := hx.2.2 y h3 h1; omega)]

theorem bel_le (l : List Bool) (f : Nat) : (bel l f).length ≤ f := by
  have := List.length_filter_le (fun i => l[i]? == some true) (List.range f)
  simpa [bel] using this

theorem bel_at (l : List Bool) (x : Nat) (hx : l[x]? = some true) : ∀ n, x < n → (bel l n)[(bel l x).length]? = some x
  | 0, h => by omega
  | n + 1, h => by
    rw [bel_succ]
    rcases Nat.lt_or_ge x n with h1 | h1
    · have ih := bel_at l x hx n h1
      have hl := (List.getElem?_eq_some_iff.1 ih).1
      rw [List.getElem?_append_left hl]
      exact ih
    · obtain rfl : x = n := by omega
      rw [if_pos hx]
      simp

theorem bel_count (l : List Bool) : ∀ f, (bel l f).length = (l.take f).count true
  | 0 => by simp [bel]
  | f + 1 => by
    rw [bel_succ, List.length_append, bel_count l f, List.take_add_one, List.count_append]
    congr 1
    cases h : l[f]? with
    | none => simp
    | some b => cases b <;> simp

theorem bel_all (l : List Bool) : (bel l l.length).length = l.count true := by rw [bel_count, List.take_length]

/-- The taken places as numbers. -/
def places (l : List Bool) : List Int := (bel l l.length).map (fun i : Nat => (i : Int))

theorem places_length (l : List Bool) : (places l).length = l.count true := by simp [places, bel_all]

def ic (i : Nat) : Value := .int .i64 (i : Int)

theorem infoInt : (Tryd.prog.info? 3).map (fun i => (i.zero, i.size, i.bytes)) = some (some (.int .i64 0), 1, 8) := by kernel_rfl

/-- What a row of one's own holds, as a slice. -/
theorem Ints.ofRow {w : World} {base : Nat} {v : Value} {ns : List Nat} (h : w.ownsRow base 3 1 v ns.length (ns.map ic)) (hb : ∀ x ∈ ns, x < 9223372036854775808) (hl : ns.length ≤ 1048576) :
    ∃ ad cap, v = .slice ad ns.length cap ∧ (∀ a, ad = some a → base ≤ a.block) ∧ Ints w ad (ns.map (fun i : Nat => (i : Int))) := by
  obtain ⟨_, h2⟩ := h
  rcases h2 with ⟨rfl, h0⟩ | ⟨g, cap, cur, rfl, hg, hh, hc1, hc2, hc3, hc4⟩
  · have : ns = [] := List.eq_nil_of_length_eq_zero h0
    subst this
    exact ⟨none, 0, rfl, by simp, fun _ => rfl, by simp, by simp, by simp⟩
  · refine ⟨_, cap, rfl, fun a ha => by cases ha; exact hg, by simp, by simp; omega, fun z hz => ?_, fun a ha j z hj => ?_⟩
    · obtain ⟨x, hx, rfl⟩ := List.mem_map.1 hz
      have := hb x hx
      omega
    · cases ha
      rw [List.getElem?_map] at hj
      obtain ⟨x, hx, rfl⟩ := Option.map_eq_some_iff.1 hj
      have hjl := (List.getElem?_eq_some_iff.1 hx).1
      have h3 : (cur.toList.take (ns.length * 1))[j]? = some (ic x) := by rw [hc4]; simp [hx]
      rw [List.getElem?_take, if_pos (by omega)] at h3
      rw [show Addr.add ⟨g, 0, none⟩ j = ⟨g, j, none⟩ from by simp [Addr.add]; omega]
      unfold World.cell?
      rw [hh]
      simpa [ic] using h3

/-- How far the walk over the taken places has still to go. -/
def left : Value → Value → Nat
  | .int _ q, .bool true => 1048577 - q.toNat
  | _, _ => 0

set_option maxRecDepth 100000 in
set_option maxHeartbeats 2000000 in
theorem all_ok (lo hi sb : Nat) (l : List Bool) (w : World) (h : Slots w lo hi sb l) (hT : Tab w) (h2 : 2 ≤ w.heap.size) :
    Calls Tryd.prog 22 #[.pointer (some ⟨sb, 0, none⟩)] w fun e w' => ∃ ad cap, e = .returned (.slice ad (places l).length cap) ∧ Ints w' ad (places l) ∧ Below w.heap.size w w' ∧ (∀ a, ad = some a → w.heap.size ≤ a.block) := by
  have hp := h.pos
  have hcl : l.count true ≤ l.length := List.count_le_length
  obtain ⟨i0, hif, hz0, hz1, hz2⟩ := info_parts infoInt
  have hs := hid h
  obtain ⟨C, hC⟩ : ∃ C, l.count true = C := ⟨_, rfl⟩
  have hlen := len_ok _ _ _ _ _ h
  rw [hC] at hlen hcl
  clear h
  go_enter Tryd.func22, Tryd.ntmps22
  go_wp2_with fail
  refine hlen.mono ?_
  rintro e w' ⟨rfl, rfl⟩
  clear hlen
  go_wp2_with (at_make; refine wpList_make_own _ rfl (.const (.int .i64 0)) (.tmp 7) 41 rfl w.heap.size 3 i0 (.int .i64 0) 1 Tryd.underlying41 hif hz0 hz1 .i64 .i64 _ C rfl rfl (by omega) (by rw [hz2]; omega) (by unfold maxLen; omega) (Nat.le_refl _) ?_; intro w1 hown hgrow; have hb1 := (Below.refl w.heap.size w).grown hgrow (Nat.le_refl _) (by simp); clear hgrow)
  have hs1 := hid (hs.out.of (Within.ofBelow hb1 w.heap.size w.heap.size) (Or.inl hp.2.2.1))
  have hT1 := hT.of (Within.ofBelow hb1 w.heap.size w.heap.size) (by omega)
  have hch : Hid (∀ (f : Nat) (wr : World), f ≤ 1048577 → Below w.heap.size w wr → Calls Tryd.prog 25 #[.pointer (some ⟨sb, 0, none⟩), .int .i64 (f : Int)] wr fun e w' => ∃ (x : Nat) (d : Bool), e = .returned (.tuple #[.int .i64 (x : Int), .bool d]) ∧ x ≤ 1048576 ∧ Hid ((d = true ∧ Least (fun i => l[i]? = some true) f x) ∨ (d = false ∧ ∀ x : Nat, l[x]? = some true → ¬ f ≤ x)) ∧ wr = w') := by
    intro f wr hf hb
    have hw := Within.ofBelow hb w.heap.size w.heap.size
    refine (nextS_nat lo hi sb f l wr (hs.out.of hw (Or.inl hp.2.2.1)) (hT.of hw (by omega)) (by omega)).mono ?_
    rintro e w' ⟨(⟨x, rfl, hx⟩ | ⟨rfl, hx⟩), rfl⟩
    · have hxl : x < l.length := (List.getElem?_eq_some_iff.1 (show l[x]? = some true from hx.1)).1
      exact ⟨x, true, rfl, by omega, hid (Or.inl ⟨rfl, hx⟩), rfl⟩
    · exact ⟨0, false, rfl, by omega, hid (Or.inr ⟨rfl, hx⟩), rfl⟩
  go_wp2_with fail
  refine (hch.out 0 w1 (by omega) hb1).mono ?_
  rintro e w' ⟨x0, d0, rfl, hx0, hn0, rfl⟩
  go_wp2_with fail
  go_loopw [3, 4, 5] (fun v u d wr => ∃ (f x : Nat) (q : Bool), f ≤ 1048577 ∧ x ≤ 1048576 ∧ u = .int .i64 (x : Int) ∧ d = .bool q ∧ Hid ((q = true ∧ Least (fun i => l[i]? = some true) f x) ∨ (q = false ∧ ∀ x : Nat, l[x]? = some true → ¬ f ≤ x)) ∧ wr.ownsRow w.heap.size 3 1 v (bel l f).length ((bel l f).map ic) ∧ Below w.heap.size w wr)
    (fun _ u d _ => left u d)
  case atStart => exact ⟨0, x0, d0, by omega, hx0, by go_num, rfl, hn0, by simpa [bel] using hown, hb1⟩
  case round =>
    obtain ⟨f, x, q, hf, hx, rfl, rfl, hn, hown, hbr⟩ := hrel
    cases q with
    | true =>
      have hlx : Hid (Least (fun i => l[i]? = some true) f x) := by
        rcases hn.out with ⟨_, h⟩ | ⟨h, _⟩
        · exact h
        · cases h
      have hbl := hid (bel_least l f x hlx.out)
      have hble := hid (bel_le l f)
      clear hn
      go_wp2_with (at_builtin; refine wpList_append_own _ rfl (.tmp 22) (.tmp 24) 41 rfl w.heap.size 3 i0 (.int .i64 0) 1 8 Tryd.underlying41 hif hz0 hz1 hz2 rfl (by decide) _ _ _ rfl (hown.alloc _) ⟨wr.heap.size, 0, none⟩ 1 1 [.int .i64 (x : Int)] rfl rfl (cell_one_new _ _ _) (by simp [Value.oneCell']) (by have := hble.out; unfold maxLen; omega) (by have := hble.out; omega) (by have := hbr.size; simp; omega) ?_; intro v3 w3 hown3 hgrow3 _)
      have hb3 := (hbr.alloc hbr.size (.cells #[.int .i64 (x : Int)] 3)).grown hgrow3 (by have := hbr.size; simp; omega) (fun k hk => (hown.lt k hk).1)
      have hown4 : w3.ownsRow w.heap.size 3 1 v3 (bel l (x + 1)).length ((bel l (x + 1)).map ic) := by
        rw [hbl.out, List.length_append, List.map_append]
        exact hown3
      clear hown3 hgrow3 hown
      refine (hch.out (x + 1) w3 (by omega) hb3).mono ?_
      rintro e w' ⟨x1, d1, rfl, hx1, hn1, rfl⟩
      go_wp2_with fail
      go_roundw
      case rel => exact ⟨x + 1, x1, d1, by omega, hx1, by go_num, rfl, hn1, hown4, hb3⟩
      case measure =>
        cases d1 with
        | false => simp [left]; omega
        | true =>
          rcases hn1.out with ⟨_, h⟩ | ⟨h, _⟩
          · have := h.2.1
            simp [left]; omega
          · cases h
    | false =>
      have hno : Hid (∀ x : Nat, l[x]? = some true → ¬ f ≤ x) := by
        rcases hn.out with ⟨h, _⟩ | ⟨_, h⟩
        · cases h
        · exact h
      have hsame : bel l f = bel l l.length := by
        rcases Nat.lt_or_ge f l.length with h1 | h1
        · exact (bel_to l f l.length (by omega) (fun y h2 _ h3 => hno.out y h3 h2)).symm
        · exact bel_to l l.length f h1 (fun y h2 _ h3 => by have := (List.getElem?_eq_some_iff.1 h3).1; omega)
      rw [hsame] at hown
      obtain ⟨ad, cp, hv, hbl, hI⟩ := Ints.ofRow hown (fun y hy => by
        have := List.mem_range.1 (List.mem_filter.1 hy).1
        omega) (by have := bel_le l l.length; omega)
      subst hv
      have hIh := hid hI
      have hblh := hid hbl
      clear hown hn hI hsame hbl
      go_wp2_with fail
      go_ret
      have hpl : (bel l l.length).length = (places l).length := by simp [places]
      rw [hpl]
      exact ⟨ad, cp, rfl, hIh.out, hbr, hblh.out⟩

theorem Ints.of {w w' : World} {lo hi : Nat} {ad : Option Addr} {l : List Int} (h : Ints w ad l) (hw : Within lo hi w w') (ho : ∀ a, ad = some a → hi ≤ a.block) : Ints w' ad l :=
  ⟨h.nil, h.bound, h.num, fun a ha j z hz => hw.cell (h.cell a ha j z hz) (Or.inr (by have := ho a ha; unfold Addr.add; split <;> exact this))⟩

set_option maxHeartbeats 2000000 in
theorem ints_same (a b : Option Addr) (ca cb : Nat) (zs : List Int) (w : World) (ha : Ints w a zs) (hb : Ints w b zs) :
    Calls Tryd.prog 21 #[.slice a zs.length ca, .slice b zs.length cb] w fun e w' => e = .returned (.bool true) ∧ Below w.heap.size w w' := by
  have hl := ha.bound
  go_enter Tryd.func21, Tryd.ntmps21
  go_wp2_with fail
  go_loopw [5] (fun u wr => ∃ j : Nat, j ≤ zs.length ∧ u = .int .i64 (j : Int) ∧ Below w.heap.size w wr)
    (fun u _ => zs.length - (intOf u).toNat)
  case atStart => exact ⟨0, by omega, by go_num, Below.refl _ _⟩
  case round =>
    obtain ⟨j, hj, rfl, hbr⟩ := hrel
    rcases Nat.lt_or_ge j zs.length with hlt | hge
    · obtain ⟨z, hz⟩ : ∃ z, zs[j]? = some z := ⟨_, List.getElem?_eq_getElem hlt⟩
      cases a with
      | none => have := ha.nil rfl; subst this; simp at hlt
      | some a =>
        cases b with
        | none => have := hb.nil rfl; subst this; simp at hlt
        | some b =>
          have hca := (ha.below hbr).cell a rfl j z hz
          have hcb := (hb.below hbr).cell b rfl j z hz
          clear hz
          go_wp2_with fail
          go_region
          go_wp2_with fail
          go_roundw
          case rel => exact ⟨j + 1, by omega, by go_num, hbr.drew⟩
          case measure => simp [intOf]; omega
    · go_wp2_with fail
      go_ret
      exact ⟨rfl, hbr⟩

end Go.Proofs.YtddbeebnmjbfiaaDoor
