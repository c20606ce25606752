/- The document's list of truths in memory; With and All of the reference. -/
import Derived.Test.YtddbeebnmjbfiaaDoorBack
import Derived.Laws.AppendOwnNone
namespace Go.Proofs.YtddbeebnmjbfiaaDoor
open Go.RowKit

/-- The slice at 'ad' holds these truths. -/
structure Bools (w : World) (ad : Option Addr) (cap : Nat) (l : List Bool) : Prop where
  le : l.length ≤ cap
  nil : ad = none → l = []
  cell : ∀ a, ad = some a → ∀ j b, l[j]? = some b → w.cell? (a.add j) = some (.bool b)

theorem add_block (a : Addr) (j : Nat) : (a.add j).block = a.block := by unfold Addr.add; split <;> rfl

theorem Bools.below {w w' : World} {ad : Option Addr} {cap : Nat} {l : List Bool} (h : Bools w ad cap l) (hb : Below w.heap.size w w') : Bools w' ad cap l :=
  ⟨h.le, h.nil, fun a ha j z hz => by
    have hc := h.cell a ha j z hz
    rw [hb.cell (World.block_lt_of_cell? w _ hc)]; exact hc⟩

theorem Bools.of {w w' : World} {lo hi cap : Nat} {ad : Option Addr} {l : List Bool} (h : Bools w ad cap l) (hw : Within lo hi w w') (ho : ∀ a, ad = some a → hi ≤ a.block) : Bools w' ad cap l :=
  ⟨h.le, h.nil, fun a ha j z hz => hw.cell (h.cell a ha j z hz) (Or.inr (by rw [add_block]; exact ho a ha))⟩

def bv (b : Bool) : Value := .bool b

theorem infoBool : (Tryd.prog.info? 4).map (fun i => (i.zero, i.size, i.bytes)) = some (some (.bool false), 1, 1) := by kernel_rfl

set_option maxRecDepth 100000 in
theorem make_bools (N : Nat) (hN : N ≤ 1048576) (w : World) :
    (Instr.makeSlice 29 (.int .i64 (N : Int)) (.int .i64 (N : Int))).run Tryd.prog w = .ok (.slice (some ⟨w.heap.size, 0, none⟩) N N) (w.alloc (.cells (Array.replicate N (.bool false)) 4)) := by
  obtain ⟨i0, hi, hz0, hz1, hz2⟩ := info_parts infoBool
  have h := run_make (P := Tryd.prog) w 29 4 i0 _ Tryd.underlying29 hi hz0 .i64 .i64 N N (by omega) (Int.le_refl _) (by rw [hz2]; omega) (by omega)
  rw [h]
  simp only [Int.toNat_natCast, hz1]
  congr 3
  apply Array.ext
  · simp [madeCells]
  · intro j h1 h2
    simp [madeCells, Value.cells, Nat.mod_one]

theorem Bools.made (N : Nat) (w : World) : Bools (w.alloc (.cells (Array.replicate N (.bool false)) 4)) (some ⟨w.heap.size, 0, none⟩) N (L N (fun _ => false)) := by
  refine ⟨by simp, by simp, fun a ha j b hb => ?_⟩
  cases ha
  rw [L_is] at hb
  obtain ⟨hj, rfl⟩ := hb
  rw [show Addr.add ⟨w.heap.size, 0, none⟩ j = ⟨w.heap.size, j, none⟩ from by simp [Addr.add]; omega]
  have hn := heap_alloc_new w (.cells (Array.replicate N (.bool false)) 4)
  unfold World.cell?
  rw [hn]
  simp [hj]

theorem bv_one (l : List Bool) : ∀ u ∈ l.map bv, u.oneCell' = true := by
  intro u hu
  obtain ⟨b, _, rfl⟩ := List.mem_map.1 hu
  rfl

theorem row_store {w : World} {base g cap x : Nat} {l : List Bool} (b : Bool) (h : w.ownsRow base 4 1 (.slice (some ⟨g, 0, none⟩) l.length cap) l.length (l.map bv)) (hx : x < l.length) :
    (∃ u, w.cell? ⟨g, x, none⟩ = some u) ∧ w.frozen? ⟨g, x, none⟩ = false ∧ base ≤ g ∧ Bools (w.setCell ⟨g, x, none⟩ (.bool b)) (some ⟨g, 0, none⟩) cap (l.set x b) := by
  obtain ⟨_, h2⟩ := h
  rcases h2 with ⟨h0, _⟩ | ⟨g', cap', cur, hv, hg, hh, hc1, hc2, hc3, hc4⟩
  · cases h0
  · cases hv
    have hget : ∀ (j : Nat) (b' : Bool), l[j]? = some b' → cur[j]? = some (.bool b') := by
      intro j b' hb'
      have hj := (List.getElem?_eq_some_iff.1 hb').1
      have h3 : (cur.toList.take (l.length * 1))[j]? = some (bv b') := by rw [hc4]; simp [hb']
      rw [List.getElem?_take, if_pos (by omega)] at h3
      simpa [bv] using h3
    refine ⟨?_, ?_, hg, ⟨by simpa using hc1, by simp, fun a ha j b' hb' => ?_⟩⟩
    · unfold World.cell?
      rw [hh]
      exact ⟨_, by simpa using hget x _ (List.getElem?_eq_getElem hx)⟩
    · unfold World.frozen?
      rw [hh]
      simp
    · cases ha
      rw [show Addr.add ⟨g, 0, none⟩ j = ⟨g, j, none⟩ from by simp [Addr.add]; omega]
      have hnew : (w.setCell ⟨g, x, none⟩ (.bool b)).heap[g]? = some (.cells (cur.setIfInBounds x (.bool b)) 4 (0, 0)) := by
        unfold World.setCell
        rw [Array.getElem?_modify, if_pos rfl, hh]
        simp
      unfold World.cell?
      rw [hnew]
      simp only [Option.isSome_none, Bool.false_eq_true, if_false]
      rw [List.getElem?_set] at hb'
      rw [Array.getElem?_setIfInBounds]
      split at hb'
      · rename_i hxj
        subst hxj
        have hxs : x < cur.size := by omega
        have e : b = b' := by simpa [hx] using hb'
        subst e
        simp [hxs]
      · rename_i hxj
        rw [if_neg hxj]
        exact hget j b' hb'

set_option maxRecDepth 100000 in
set_option maxHeartbeats 2000000 in
theorem with_ok (ad : Option Addr) (cap : Nat) (l : List Bool) (x : Nat) (b : Bool) (w : World) (h : Bools w ad cap l) (hx : x < l.length) (hl : l.length ≤ 1048576) :
    Calls Tryd.prog 13 #[.slice ad l.length cap, .int .i64 (x : Int), .bool b] w fun e w' => ∃ ad' cap', e = .returned (.slice (some ad') l.length cap') ∧ Bools w' (some ad') cap' (l.set x b) ∧ w.heap.size ≤ ad'.block ∧ Below w.heap.size w w' := by
  obtain ⟨i0, hi, hz0, hz1, hz2⟩ := info_parts infoBool
  cases ad with
  | none => have := h.nil rfl; subst this; simp at hx
  | some a0 =>
    go_enter Tryd.func13, Tryd.ntmps13
    go_wp2_with (at_builtin; refine wpList_append_own _ rfl (.tmp 8) (.tmp 9) 29 rfl w.heap.size 4 i0 (.bool false) 1 1 Tryd.underlying29 hi hz0 hz1 hz2 rfl (by decide) (.slice none 0 0) 0 [] rfl (World.ownsRow_nil _ _ _ _) a0 l.length cap (l.map bv) rfl (by simp) (fun j u hu => by
      rw [List.getElem?_map] at hu
      obtain ⟨b', hb', rfl⟩ := Option.map_eq_some_iff.1 hu
      exact h.cell a0 rfl j b' hb') (bv_one l) (by unfold maxLen; omega) (by omega) (Nat.le_refl _) ?_; intro v1 w1 hown hgrow hnn; have hb1 := (Below.refl w.heap.size w).grown hgrow (Nat.le_refl _) (by simp [Value.ownBlock]); rw [Nat.zero_add, List.nil_append] at hown; obtain ⟨g, cap', rfl⟩ := Joins.ownsRow_form hown (by omega); obtain ⟨⟨u, hc⟩, hf, hg, hB⟩ := row_store b hown hx; have hBh := hid hB; clear hown hgrow hnn hB)
    go_ret
    exact ⟨⟨g, 0, none⟩, cap', rfl, hBh.out, hg, hb1.setCell (p := ⟨g, x, none⟩) hg _⟩

set_option maxRecDepth 100000 in
set_option maxHeartbeats 2000000 in
theorem rall_ok (ad : Option Addr) (cap : Nat) (l : List Bool) (w : World) (h : Bools w ad cap l) (hl : l.length ≤ 1048576) :
    Calls Tryd.prog 19 #[.slice ad l.length cap] w fun e w' => ∃ ad' cap', e = .returned (.slice ad' (places l).length cap') ∧ Ints w' ad' (places l) ∧ Below w.heap.size w w' ∧ (∀ a, ad' = some a → w.heap.size ≤ a.block) := by
  obtain ⟨i0, hif, hz0, hz1, hz2⟩ := info_parts infoInt
  go_enter Tryd.func19, Tryd.ntmps19
  go_wp2_with fail
  go_loopw [3, 4] (fun v u wr => ∃ i : Nat, i ≤ l.length ∧ u = .int .i64 (i : Int) ∧ wr.ownsRow w.heap.size 3 1 v (bel l i).length ((bel l i).map ic) ∧ Below w.heap.size w wr)
    (fun _ u _ => l.length - (intOf u).toNat)
  case atStart => exact ⟨0, by omega, by go_num, by simpa [bel] using World.ownsRow_nil w w.heap.size 3 1, Below.refl _ _⟩
  case round =>
    obtain ⟨i, hi, rfl, hown, hbr⟩ := hrel
    rcases Nat.lt_or_ge i l.length with hlt | hge
    · obtain ⟨b, hb⟩ : ∃ b, l[i]? = some b := ⟨_, List.getElem?_eq_getElem hlt⟩
      cases ad with
      | none => have := h.nil rfl; subst this; simp at hlt
      | some a0 =>
        have hcell := (h.below hbr).cell a0 rfl i b hb
        have hble := hid (bel_le l i)
        have hbs := hid (bel_succ l i)
        have hbh := hid hb
        clear hb
        cases b with
        | true =>
          go_wp2_with (at_builtin; refine wpList_append_own _ rfl (.tmp 15) (.tmp 17) 41 rfl w.heap.size 3 i0 (.int .i64 0) 1 8 Tryd.underlying41 hif hz0 hz1 hz2 rfl (by decide) _ _ _ rfl (hown.alloc _) ⟨wr.heap.size, 0, none⟩ 1 1 [.int .i64 (i : Int)] rfl rfl (cell_one_new _ _ _) (by simp [Value.oneCell']) (by have := hble.out; unfold maxLen; omega) (by have := hble.out; omega) (by have := hbr.size; simp; omega) ?_; intro v3 w3 hown3 hgrow3 _)
          have hb3 := (hbr.alloc hbr.size (.cells #[.int .i64 (i : Int)] 3)).grown hgrow3 (by have := hbr.size; simp; omega) (fun k hk => (hown.lt k hk).1)
          have hown4 : w3.ownsRow w.heap.size 3 1 v3 (bel l (i + 1)).length ((bel l (i + 1)).map ic) := by
            rw [hbs.out, if_pos hbh.out, List.length_append, List.map_append]
            exact hown3
          clear hown3 hgrow3 hown
          go_roundw
          case rel => exact ⟨i + 1, by omega, by go_num, hown4, hb3⟩
          case measure => simp [intOf]; omega
        | false =>
          have hown4 : wr.ownsRow w.heap.size 3 1 u3 (bel l (i + 1)).length ((bel l (i + 1)).map ic) := by
            rw [hbs.out, if_neg (by rw [hbh.out]; simp), List.append_nil]
            exact hown
          clear hown
          go_wp2_with fail
          go_roundw
          case rel => exact ⟨i + 1, by omega, by go_num, hown4, hbr⟩
          case measure => simp [intOf]; omega
    · obtain rfl : i = l.length := by omega
      obtain ⟨ad', cp, hv, hbl, hI⟩ := Ints.ofRow hown (fun y hy => by
        have := List.mem_range.1 (List.mem_filter.1 hy).1
        omega) (by have := bel_le l l.length; omega)
      subst hv
      have hIh := hid hI
      have hblh := hid hbl
      clear hown hI hbl
      go_wp2_with fail
      go_ret
      have hpl : (bel l l.length).length = (places l).length := by simp [places]
      rw [hpl]
      exact ⟨ad', cp, rfl, hIh.out, hbr, hblh.out⟩

set_option maxHeartbeats 2000000 in
theorem rtake_hit (ad : Option Addr) (cap : Nat) (l : List Bool) (x : Nat) (w : World) (h : Bools w ad cap l) (hl : l.length ≤ 1048576) (hx : Least (fun i => l[i]? = some false) 0 x) :
    Calls Tryd.prog 11 #[.slice ad l.length cap] w fun e w' => e = .returned (.tuple #[.int .i64 (x : Int), .bool true]) ∧ w = w' := by
  have hxl : x < l.length := (List.getElem?_eq_some_iff.1 (show l[x]? = some false from hx.1)).1
  have hxh := hid hx
  go_enter Tryd.func11, Tryd.ntmps11
  go_wp2_with fail
  go_loopw [4] (fun u wr => ∃ i : Nat, i ≤ x ∧ u = .int .i64 (i : Int) ∧ wr = w)
    (fun u _ => l.length - (intOf u).toNat)
  case atStart => exact ⟨0, by omega, by go_num, rfl⟩
  case round =>
    obtain ⟨i, hi, rfl, rfl⟩ := hrel
    cases ad with
    | none => have := h.nil rfl; subst this; simp at hxl
    | some a0 =>
      rcases Nat.lt_or_ge i x with hlt | hge
      · obtain ⟨b, hb⟩ : ∃ b, l[i]? = some b := ⟨_, List.getElem?_eq_getElem (by omega)⟩
        cases b with
        | false => have := hxh.out.2.2 i hb (Nat.zero_le _); omega
        | true =>
          have hcell := h.cell a0 rfl i true hb
          clear hb
          go_wp2_with fail
          go_roundw
          case rel => exact ⟨i + 1, by omega, by go_num, trivial⟩
          case measure => simp [intOf]; omega
      · obtain rfl : i = x := by omega
        have hcell := h.cell a0 rfl i false hxh.out.1
        go_wp2_with fail
        go_ret2
        exact ⟨rfl, rfl⟩

set_option maxHeartbeats 2000000 in
theorem rtake_miss (ad : Option Addr) (cap : Nat) (l : List Bool) (w : World) (h : Bools w ad cap l) (hl : l.length ≤ 1048576) (hx : ∀ x : Nat, ¬ l[x]? = some false) :
    Calls Tryd.prog 11 #[.slice ad l.length cap] w fun e w' => e = .returned (.tuple #[.int .i64 0, .bool false]) ∧ w = w' := by
  have hxh := hid hx
  clear hx
  go_enter Tryd.func11, Tryd.ntmps11
  go_wp2_with fail
  go_loopw [4] (fun u wr => ∃ i : Nat, i ≤ l.length ∧ u = .int .i64 (i : Int) ∧ wr = w)
    (fun u _ => l.length - (intOf u).toNat)
  case atStart => exact ⟨0, by omega, by go_num, rfl⟩
  case round =>
    obtain ⟨i, hi, rfl, rfl⟩ := hrel
    rcases Nat.lt_or_ge i l.length with hlt | hge
    · obtain ⟨b, hb⟩ : ∃ b, l[i]? = some b := ⟨_, List.getElem?_eq_getElem (by omega)⟩
      cases ad with
      | none => have := h.nil rfl; subst this; simp at hlt
      | some a0 =>
        cases b with
        | false => exact absurd hb (hxh.out i)
        | true =>
          have hcell := h.cell a0 rfl i true hb
          clear hb
          go_wp2_with fail
          go_roundw
          case rel => exact ⟨i + 1, by omega, by go_num, trivial⟩
          case measure => simp [intOf]; omega
    · go_wp2_with fail
      go_ret2
      exact ⟨rfl, rfl⟩

end Go.Proofs.YtddbeebnmjbfiaaDoor
