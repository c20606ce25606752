/- 'All' of an Arena; 'sure' of the laws. -/
import Derived.Test.YtcngcomckoiklaaDoorDrop3
import Derived.Test.YtcngcomckoiklaaDoorOpenInts
namespace Go.Proofs.YtcngcomckoiklaaDoor
open Go.RowKit

def ic (i : Nat) : Value := .int .i64 (i : Int)

theorem infoInt : (Tryd.prog.info? 3).map (fun i => (i.zero, i.size, i.bytes)) = some (some (.int .i64 0), 1, 8) := by kernel_rfl

/-- What a row of one's own holds, as a slice. -/
theorem Ints.ofRow {w : World} {base : Nat} {v : Value} {ns : List Nat} (h : w.ownsRow base 3 1 v ns.length (ns.map ic)) (hb : ∀ x ∈ ns, x < 9223372036854775808) (hl : ns.length ≤ 1048576) :
    ∃ ad cap, v = .slice ad ns.length cap ∧ (∀ a, ad = some a → base ≤ a.block) ∧ Ints w ad (ns.map (fun i : Nat => (i : Int))) := by
  obtain ⟨_, h2⟩ := h
  rcases h2 with ⟨rfl, h0⟩ | ⟨g, cap, cur, rfl, hg, hh, hc1, hc2, hc3, hc4⟩
  · have : ns = [] := List.eq_nil_of_length_eq_zero h0
    subst this
    exact ⟨none, 0, rfl, by simp, fun _ => rfl, by simp, by simp, by simp⟩
  · refine ⟨_, cap, rfl, fun a ha => by cases ha; exact hg, by simp, by simp; omega, fun z hz => ?_, fun a ha j z hj => ?_⟩
    · obtain ⟨x, hx, rfl⟩ := List.mem_map.1 hz
      have := hb x hx
      omega
    · cases ha
      rw [List.getElem?_map] at hj
      obtain ⟨x, hx, rfl⟩ := Option.map_eq_some_iff.1 hj
      have hjl := (List.getElem?_eq_some_iff.1 hx).1
      have h3 : (cur.toList.take (ns.length * 1))[j]? = some (ic x) := by rw [hc4]; simp [hx]
      rw [List.getElem?_take, if_pos (by omega)] at h3
      rw [show Addr.add ⟨g, 0, none⟩ j = ⟨g, j, none⟩ from by simp [Addr.add]; omega]
      unfold World.cell?
      rw [hh]
      simpa [ic] using h3

/-- How far the walk over the held places has still to go. -/
def left : Value → Value → Nat
  | .int _ q, .bool true => 1048577 - q.toNat
  | _, _ => 0

/-- The live places as numbers. -/
def livesI (ps : List (Int × Int)) : List Int := (lives ps).map (fun i : Nat => (i : Int))

theorem livesI_length (ps : List (Int × Int)) : (livesI ps).length = liveN ps := by simp [livesI, lives_count]

theorem lv_after (ps : List (Int × Int)) (f : Nat) (h : ps.length ≤ f) : lv ps f = lives ps :=
  lv_skip ps ps.length f h (fun y h1 _ h3 => by rw [atP_none h1] at h3; cases h3)

/-- From a held place to the next: what is live between. -/
theorem lv_step {n : Nat} {ps : List (Int × Int)} (h : ps.length ≤ n) {f x : Nat} (hx : Least (fun i => (held n ps)[i]? = some true) f x) : lv ps x = lv ps f ∧ x < ps.length ∧ f ≤ x := by
  have h0 : (held n ps)[x]? = some true := hx.1
  rw [held_is h] at h0
  refine ⟨lv_skip ps f x hx.2.1 (fun y h1 h2 h3 => ?_), ?_, hx.2.1⟩
  · have hy : (held n ps)[y]? = some true := (held_is h _ _).2 ⟨by omega, by unfold heldB; rw [live_get h3]; simp [h3]⟩
    have := hx.2.2 y hy h1
    omega
  · rcases Nat.lt_or_ge x ps.length with h1 | h1
    · exact h1
    · unfold heldB at h0; rw [List.getElem?_eq_none h1] at h0; simp at h0

theorem lv_end {n : Nat} {ps : List (Int × Int)} (h : ps.length ≤ n) {f : Nat} (hx : ∀ x : Nat, (held n ps)[x]? = some true → ¬ f ≤ x) : lv ps f = lives ps := by
  rcases Nat.lt_or_ge f ps.length with h1 | h1
  · refine (lv_skip ps f ps.length (by omega) (fun y h2 h3 h4 => ?_)).symm
    exact hx y ((held_is h _ _).2 ⟨by omega, by unfold heldB; rw [live_get h4]; simp [h4]⟩) h2
  · exact lv_after ps f h1

set_option maxRecDepth 100000 in
set_option maxHeartbeats 2000000 in
theorem all3_ok (lo hi ab n : Nat) (ob : Option Nat) (ps : List (Int × Int)) (w : World) (h : Arena w lo hi ab ob n ps) (hT : Tab w) (h2 : 2 ≤ w.heap.size) :
    Calls Tryd.prog 17 #[.pointer (some ⟨ab, 0, none⟩)] w fun e w' => ∃ ad cap, e = .returned (.slice ad (livesI ps).length cap) ∧ Ints w' ad (livesI ps) ∧ Below w.heap.size w w' ∧ (∀ a, ad = some a → w.heap.size ≤ a.block) := by
  have hp := h.pos
  have hle := h.2.le
  obtain ⟨i0, hif, hz0, hz1, hz2⟩ := info_parts infoInt
  have hh := hid h
  have hlen := len3_ok _ _ _ _ _ _ _ h
  have hcl := liveN_le ps
  obtain ⟨C, hC⟩ : ∃ C, liveN ps = C := ⟨_, rfl⟩
  rw [hC] at hlen hcl
  obtain ⟨hs, sb, hc0, hc1, hsl, hsle⟩ := h.slots
  obtain ⟨pa, pc, hcp, hprow, hpob, _⟩ := h.slice
  have hslh := hid hsl
  have hprh := hid hprow
  clear h hc1 hsl hprow
  have hch : Hid (∀ (f : Nat) (wr : World), f ≤ 1048577 → Below w.heap.size w wr → Calls Tryd.prog 35 #[.pointer (some ⟨sb, 0, none⟩), .int .i64 (f : Int)] wr fun e w' => ∃ (x : Nat) (d : Bool), e = .returned (.tuple #[.int .i64 (x : Int), .bool d]) ∧ x ≤ 1048576 ∧ Hid ((d = true ∧ Least (fun i => (held n ps)[i]? = some true) f x) ∨ (d = false ∧ ∀ x : Nat, (held n ps)[x]? = some true → ¬ f ≤ x)) ∧ wr = w') := by
    intro f wr hf hb
    have hw := Within.ofBelow hb w.heap.size w.heap.size
    refine (nextS_nat lo hs sb f (held n ps) wr (hslh.out.of hw (Or.inl hslh.out.pos.2.2.1)) (hT.of hw (by omega)) (by omega)).mono ?_
    rintro e w' ⟨(⟨x, rfl, hx⟩ | ⟨rfl, hx⟩), rfl⟩
    · have hxl : x < n := ((held_is hle _ _).1 (show (held n ps)[x]? = some true from hx.1)).1
      exact ⟨x, true, rfl, by omega, hid (Or.inl ⟨rfl, hx⟩), rfl⟩
    · exact ⟨0, false, rfl, by omega, hid (Or.inr ⟨rfl, hx⟩), rfl⟩
  go_enter Tryd.func17, Tryd.ntmps17
  go_wp2_with fail
  refine hlen.mono ?_
  rintro e w0 ⟨rfl, b0⟩
  have hsz0 := b0.size
  clear hlen
  go_wp2_with (at_make; refine wpList_make_own _ rfl (.const (.int .i64 0)) (.tmp 9) 39 rfl w.heap.size 3 i0 (.int .i64 0) 1 Tryd.underlying39 hif hz0 hz1 .i64 .i64 _ C rfl rfl (by omega) (by rw [hz2]; omega) (by unfold maxLen; omega) hsz0 ?_; intro w1 hown hgrow; refine Hid.out ?_)
  have hb1 := b0.grown hgrow hsz0 (by simp)
  have hc01 := (hb1.cell (World.block_lt_of_cell? w _ hc0)).trans hc0
  clear hgrow
  refine hid ?_
  go_wp2_with fail
  refine (hch.out 0 w1 (by omega) hb1).mono ?_
  rintro e w' ⟨x0, d0, rfl, hx0, hn0, rfl⟩
  clear hc01
  go_wp2_with fail
  go_loopw [3, 4, 5] (fun v u d wr => ∃ (f x : Nat) (q : Bool), f ≤ 1048577 ∧ x ≤ 1048576 ∧ u = .int .i64 (x : Int) ∧ d = .bool q ∧ Hid ((q = true ∧ Least (fun i => (held n ps)[i]? = some true) f x) ∨ (q = false ∧ ∀ x : Nat, (held n ps)[x]? = some true → ¬ f ≤ x)) ∧ wr.ownsRow w.heap.size 3 1 v (lv ps f).length ((lv ps f).map ic) ∧ Below w.heap.size w wr)
    (fun _ u d _ => left u d)
  case atStart => exact ⟨0, x0, d0, by omega, hx0, by go_num, rfl, hn0, by simpa [lv] using hown, hb1⟩
  case round =>
    obtain ⟨f, x, q, hf, hx, rfl, rfl, hn, hown, hbr⟩ := hrel
    have hc0r := (hbr.cell (World.block_lt_of_cell? w _ hc0)).trans hc0
    have hcpr := (hbr.cell (World.block_lt_of_cell? w _ hcp)).trans hcp
    cases q with
    | true =>
      have hlx : Hid (Least (fun i => (held n ps)[i]? = some true) f x) := by
        rcases hn.out with ⟨_, h⟩ | ⟨h, _⟩
        · exact h
        · cases h
      obtain ⟨hst1, hxl, hfx⟩ := lv_step hle hlx.out
      have hsth := hid hst1
      obtain ⟨⟨A, s⟩, hxp⟩ : ∃ p, ps[x]? = some p := ⟨_, List.getElem?_eq_getElem hxl⟩
      have hat := hid (atP_some hxp)
      have hsuc := hid (lv_succ ps x)
      have hble := hid (lv_le ps f)
      clear hn hst1
      cases pa with
      | none => have := hprh.out.nil rfl; subst this; simp at hxl
      | some pa =>
        have hcs := (hprh.out.below hbr).second hxp
        clear hxp
        by_cases hs1 : s = 1
        · subst hs1
          go_wp2_with (at_builtin; refine wpList_append_own _ rfl (.tmp 39) (.tmp 41) 39 rfl w.heap.size 3 i0 (.int .i64 0) 1 8 Tryd.underlying39 hif hz0 hz1 hz2 rfl (by decide) _ _ _ rfl (hown.alloc _) ⟨wr.heap.size, 0, none⟩ 1 1 [.int .i64 (x : Int)] rfl rfl (cell_one_new _ _ _) (by simp [Value.oneCell']) (by have := hble.out; unfold maxLen; omega) (by have := hble.out; omega) (by have := hbr.size; simp; omega) ?_; intro v3 w3 hown3 hgrow3 _; refine Hid.out ?_)
          have hb3 := (hbr.alloc hbr.size (.cells #[.int .i64 (x : Int)] 3)).grown hgrow3 (by have := hbr.size; simp; omega) (fun k hk => (hown.lt k hk).1)
          have hown4 : w3.ownsRow w.heap.size 3 1 v3 (lv ps (x + 1)).length ((lv ps (x + 1)).map ic) := by
            rw [hsuc.out, hat.out, if_pos rfl, hsth.out, List.length_append, List.map_append]
            exact hown3
          have hc3 := (hb3.cell (World.block_lt_of_cell? w _ hc0)).trans hc0
          clear hown3 hgrow3 hown hc0r hcpr hcs
          refine hid ?_
          go_wp2_with fail
          refine (hch.out (x + 1) w3 (by omega) hb3).mono ?_
          rintro e w' ⟨x1, d1, rfl, hx1, hn1, rfl⟩
          clear hc3
          go_wp2_with fail
          go_roundw
          case rel => exact ⟨x + 1, x1, d1, by omega, hx1, by go_num, rfl, hn1, hown4, hb3⟩
          case measure =>
            cases d1 with
            | false => simp [left]; omega
            | true =>
              rcases hn1.out with ⟨_, h⟩ | ⟨h, _⟩
              · have := h.2.1
                simp [left]; omega
              · cases h
        · have ts : (s == 1) = false := by simpa using hs1
          have hown4 : wr.ownsRow w.heap.size 3 1 u3 (lv ps (x + 1)).length ((lv ps (x + 1)).map ic) := by
            rw [hsuc.out, hat.out, if_neg (by simpa using hs1), hsth.out, List.append_nil]
            exact hown
          clear hown
          go_wp2_with fail
          refine (hch.out (x + 1) wr (by omega) hbr).mono ?_
          rintro e w' ⟨x1, d1, rfl, hx1, hn1, rfl⟩
          go_wp2_with fail
          go_roundw
          case rel => exact ⟨x + 1, x1, d1, by omega, hx1, by go_num, rfl, hn1, hown4, hbr⟩
          case measure =>
            cases d1 with
            | false => simp [left]; omega
            | true =>
              rcases hn1.out with ⟨_, h⟩ | ⟨h, _⟩
              · have := h.2.1
                simp [left]; omega
              · cases h
    | false =>
      have hno : Hid (∀ x : Nat, (held n ps)[x]? = some true → ¬ f ≤ x) := by
        rcases hn.out with ⟨h, _⟩ | ⟨_, h⟩
        · cases h
        · exact h
      rw [lv_end hle hno.out] at hown
      have hlvl : (lives ps).length ≤ 1048576 := by have := lv_le ps ps.length; unfold lives; omega
      obtain ⟨ad, cp, hv, hbl, hI⟩ := Ints.ofRow hown (fun y hy => by
        have := ((lv_mem ps ps.length y).1 hy).1
        omega) hlvl
      subst hv
      have hIh := hid hI
      have hblh := hid hbl
      clear hown hn hI hbl
      go_wp2_with fail
      go_ret
      have hpl : (lives ps).length = (livesI ps).length := by simp [livesI]
      rw [hpl]
      exact ⟨ad, cp, rfl, hIh.out, hbr, hblh.out⟩

end Go.Proofs.YtcngcomckoiklaaDoor
