/- Clone, Load and New. -/
import Derived.Test.YtjkiagjgnfaknaaDoorOdd
import Derived.Laws.AppendOwnNone
import Derived.Lib.SliceRun
namespace Go.Proofs.YtjkiagjgnfaknaaDoor
open Go.RowKit

theorem infoPlace : (Tryd.prog.info? 70).map (fun i => (i.zero, i.size, i.bytes)) = some (some (.agg #[.int .u32 0, .int .i64 0]), 2, 16) := by kernel_rfl

theorem Prow.cells {w : World} {a : Addr} {ps : List (Int × Int)} (h : Prow w (some a) ps) : ∀ j u, (pcs ps)[j]? = some u → w.cell? (a.add j) = some u := by
  intro j u hu
  obtain ⟨i, p, hp, (⟨rfl, rfl⟩ | ⟨rfl, rfl⟩)⟩ := pcs_inv ps j u hu
  · exact (h.cell a rfl i p hp).1
  · exact (h.cell a rfl i p hp).2

theorem row_mono {w : World} {base base' : Nat} {e : TypeId} {size n : Nat} {v : Value} {xs : List Value} (h : w.ownsRow base e size v n xs) (hb : base' ≤ base) : w.ownsRow base' e size v n xs :=
  ⟨h.1, h.2.imp id fun ⟨g, cap, cur, h1, h2, h3⟩ => ⟨g, cap, cur, h1, Nat.le_trans hb h2, h3⟩⟩

/-- What one's own row of places holds, as a slice. -/
theorem Prow.ofRow {w : World} {base : Nat} {v : Value} {ps : List (Int × Int)} (h : w.ownsRow base 70 2 v ps.length (pcs ps)) (hn : ∀ (j : Nat) p, ps[j]? = some p → 0 ≤ p.1 ∧ p.1 < 4294967296) :
    ∃ ad cap, v = .slice ad ps.length cap ∧ v.ownBlock = ad.map (·.block) ∧ Prow w ad ps := by
  have hc := fun g => h.cells (g := g)
  obtain ⟨_, h2⟩ := h
  rcases h2 with ⟨rfl, h0⟩ | ⟨g, cap, cur, rfl, hg, hh, hc1, hc2, hc3, hc4⟩
  · have : ps = [] := List.eq_nil_of_length_eq_zero h0
    subst this
    exact ⟨none, 0, rfl, rfl, fun _ => rfl, by simp, by simp, by simp⟩
  · refine ⟨_, cap, rfl, rfl, by simp, by unfold maxLen at hc2; omega, hn, fun a ha j p hp => ?_⟩
    cases ha
    obtain ⟨h1, h2⟩ := pcs_get ps j p hp
    exact ⟨hc _ rfl _ _ h1, hc _ rfl _ _ h2⟩

set_option maxRecDepth 100000 in
set_option maxHeartbeats 1000000 in
theorem clone_ok (ad : Option Addr) (ps : List (Int × Int)) (cap : Nat) (w : World) (h : Prow w ad ps) (hl : ps.length ≤ 1048576) (h0 : ad = none → cap = 0) :
    Calls Tryd.prog 24 #[.slice ad ps.length cap] w fun e w' => ∃ v, e = .returned v ∧ w'.ownsRow w.heap.size 70 2 v ps.length (pcs ps) ∧ Below w.heap.size w w' := by
  obtain ⟨i0, hif, hz0, hz1, hz2⟩ := info_parts infoPlace
  cases ad with
  | none =>
    have := h.nil rfl
    subst this
    obtain rfl := h0 rfl
    have heq := Lib.run_eql_slice_nil (P := Tryd.prog) w 30 70 none 0 0 0 0 Tryd.underlying30
    go_enter Tryd.func24, Tryd.ntmps24
    go_wp2_with fail
    go_ret
    exact ⟨_, rfl, World.ownsRow_nil _ _ _ _, Below.refl _ _⟩
  | some a =>
    have hown : (w.alloc (.cells #[] 70)).ownsRow w.heap.size 70 2 (.slice (some ⟨w.heap.size, 0, none⟩) 0 0) 0 [] := World.ownsRow_lit w #[] 0 (Nat.le_refl _) (by decide) rfl
    have hb : Below w.heap.size w (w.alloc (.cells #[] 70)) := (Below.refl _ _).alloc (Nat.le_refl _) _
    have hp := h.below hb
    have heq := Lib.run_eql_slice_nil (P := Tryd.prog) w 30 70 (some a) ps.length cap 0 0 Tryd.underlying30
    go_enter Tryd.func24, Tryd.ntmps24
    go_wp2_with (at_builtin; refine wpList_append_own _ rfl (.tmp 5) (.tmp 6) 30 rfl w.heap.size 70 i0 _ 2 16 Tryd.underlying30 hif hz0 hz1 hz2 rfl (by decide) _ _ _ rfl hown a ps.length cap (pcs ps) rfl (pcs_length ps) hp.cells (pcs_one ps) (by unfold maxLen; omega) (by omega) (by simp) ?_; intro v3 w3 hown3 hgrow3 _)
    have hb3 := hb.grown hgrow3 (by simp) (fun k hk => (hown.lt k hk).1)
    rw [Nat.zero_add, List.nil_append] at hown3
    clear hown hp hgrow3
    go_wp2_with fail
    go_ret
    exact ⟨_, rfl, hown3, hb3⟩

theorem take_get {ps : List (Int × Int)} {i : Nat} {p : Int × Int} (h : ps[i]? = some p) : ps.take (i + 1) = ps.take i ++ [p] := by
  rw [List.take_add_one, h]; rfl

theorem held_next {n : Nat} {ps : List (Int × Int)} {i : Nat} {p : Int × Int} (h : ps[i]? = some p) (hn : ps.length ≤ n) : held n (ps.take (i + 1)) = (held n (ps.take i)).set i (decide (p.2 ≠ 0)) := by
  have hi := (List.getElem?_eq_some_iff.1 h).1
  have hl : (ps.take i).length = i := by simp; omega
  rw [take_get h, held_push p (by omega), hl]

theorem held_free {n : Nat} {ps : List (Int × Int)} {i : Nat} (h : i < ps.length) (hn : ps.length ≤ n) : (held n (ps.take i))[i]? = some false := by
  rw [held_is (by simp; omega)]
  refine ⟨by omega, ?_⟩
  unfold heldB
  rw [List.getElem?_take, if_neg (by omega)]

theorem set_same {l : List Bool} {i : Nat} {b : Bool} (h : l[i]? = some b) : l.set i b = l := by
  apply List.ext_getElem?
  intro j
  rw [List.getElem?_set]
  by_cases hj : i = j
  · subst hj; simp [h]; exact (List.getElem?_eq_some_iff.1 h).1
  · simp [hj]

/-- How far Load has come. -/
structure Loads (w : World) (ab sb : Nat) (ob : Option Nat) (n : Nat) (ps : List (Int × Int)) (i : Nat) (wr : World) : Prop where
  hold : ∃ hi, Hold wr w.heap.size hi ab sb ob (held n (ps.take i)) (wornN (ps.take i)) ps
  below : Below w.heap.size w wr

theorem Loads.more {w wr w' : World} {ab sb n i : Nat} {ob : Option Nat} {ps : List (Int × Int)} (h : Loads w ab sb ob n ps i wr) (hb : Below wr.heap.size wr w') : Loads w ab sb ob n ps i w' :=
  ⟨h.hold.imp fun _ hh => hh.below hb, h.below.trans (hb.mono h.below.size)⟩

theorem Loads.free {w wr : World} {ab sb n i : Nat} {ob : Option Nat} {ps : List (Int × Int)} (h : Loads w ab sb ob n ps i wr) {p : Int × Int} (hp : ps[i]? = some p) (hn : ps.length ≤ n) (h0 : p.2 = 0) : Loads w ab sb ob n ps (i + 1) wr := by
  refine ⟨h.hold.imp fun _ hh => ?_, h.below⟩
  have hi := (List.getElem?_eq_some_iff.1 hp).1
  rw [held_next hp hn, take_get hp, wornN_push, h0, if_neg (by decide), show decide ((0 : Int) ≠ 0) = false from rfl, set_same (held_free hi hn)]
  exact hh

/-- The slots' call, and what comes of it. -/
theorem Loads.claim {w wr : World} {ab sb n i : Nat} {ob : Option Nat} {ps : List (Int × Int)} (h : Loads w ab sb ob n ps i wr) {p : Int × Int} (hp : ps[i]? = some p) (hn : ps.length ≤ n) (h0 : p.2 ≠ 0) :
    Calls Tryd.prog 25 #[.pointer (some ⟨sb, 0, none⟩), .int .i64 (i : Int)] wr fun e w' => e = .returned .nilIface ∧ (∃ hi, Hold w' w.heap.size hi ab sb ob (held n (ps.take (i + 1))) (wornN (ps.take i)) ps) ∧ Below w.heap.size w w' ∧ (∀ k, ab ≤ k → k < wr.heap.size → w'.heap[k]? = wr.heap[k]?) := by
  obtain ⟨hi, hh⟩ := h.hold
  obtain ⟨hs, hsl, hle, hmk⟩ := hh.slots
  have hil := (List.getElem?_eq_some_iff.1 hp).1
  refine (claim_ok _ _ _ i _ _ hsl (held_free hil hn)).mono ?_
  rintro e w' ⟨rfl, hs', hw'⟩
  refine ⟨rfl, ⟨hi, ?_⟩, h.below.trans (hw'.below (Nat.le_refl _) h.below.size), fun k h1 h2 => hw'.block k h2 (Or.inr (by omega))⟩
  rw [held_next hp hn, decide_eq_true h0]
  exact hmk _ _ hs' hw'

set_option maxRecDepth 100000 in
set_option maxHeartbeats 4000000 in
theorem load_ok (n : Nat) (ad : Option Addr) (ps : List (Int × Int)) (cap : Nat) (w : World) (h : Prow w ad ps) (h0 : ad = none → cap = 0) (h1 : 1 ≤ n) (hn : n ≤ 1048576) (hf : Fair n ps) :
    Calls Tryd.prog 4 #[.int .i64 (n : Int), .slice ad ps.length cap] w fun e w' => ∃ ab ob, e = .returned (.tuple #[.pointer (some ⟨ab, 0, none⟩), .nilIface]) ∧ Arena w' w.heap.size w'.heap.size ab ob n ps ∧ Below w.heap.size w w' := by
  have hfl := hf.le
  have hfh := hid hf
  have hmay := hid ((mayB_fair n ps h.num).2 hf)
  clear hf
  go_enter Tryd.func4, Tryd.ntmps4
  go_wp2_with fail
  refine (new_ok n _ h1 hn).mono ?_
  rintro e w1 ⟨sb, rfl, s1, b1⟩
  have p1 := h.below b1
  go_wp2_with fail
  refine (mayBe_ok n ad ps cap _ p1).mono ?_
  rintro e w2 ⟨rfl, b2⟩
  rw [hmay.out]
  have b12 := b1.trans (b2.mono b1.size)
  have p2 := h.below b12
  have s2 := s1.of (Within.ofBelow b2 w1.heap.size w1.heap.size) (Or.inl (Nat.le_refl _))
  have hs1 := b1.size
  have hs2 := b2.size
  clear s1 p1
  go_wp2_with fail
  refine (clone_ok ad ps cap _ p2 (by omega) h0).mono ?_
  rintro e w3 ⟨pv, rfl, o3, b3⟩
  have hs3 := b3.size
  obtain ⟨pa, pc, hpv, _, _⟩ := Prow.ofRow o3 h.num
  subst hpv
  obtain ⟨pv, hpv⟩ : ∃ pv, Value.slice pa ps.length pc = pv := ⟨_, rfl⟩
  rw [hpv] at o3
  have hL : Hid (Loads w w3.heap.size sb pv.ownBlock n ps 0 (w3.alloc (.cells #[.pointer (some ⟨sb, 0, none⟩), .int .i64 0, pv] 72))) := by
    have b4 : Below w3.heap.size w3 (w3.alloc (.cells #[.pointer (some ⟨sb, 0, none⟩), .int .i64 0, pv] 72)) := (Below.refl _ _).alloc (Nat.le_refl _) _
    have b34 := b3.trans (b4.mono hs3)
    refine ⟨⟨w3.heap.size + 1, w1.heap.size, pv, ?_, by omega, by omega, by simp, ?_, ?_, rfl, ?_⟩, b12.trans (b34.mono (by omega))⟩
    · simp only [List.take_zero, held_nil]
      exact s2.of (Within.ofBelow b34 w2.heap.size w2.heap.size) (Or.inl hs2)
    · rw [heap_alloc_new]; rfl
    · exact (row_mono o3 hs2).alloc _
    · intro e; have := (o3.lt _ e).2; omega
  have hb4 := hid hL.out.below
  clear s2 o3 b3 b12 p2 b1 b2
  subst hpv
  go_wp2_with fail
  go_loopw [32] (fun u wr => ∃ j : Nat, j ≤ ps.length ∧ u = .int .i64 (j : Int) ∧ Hid (Loads w w3.heap.size sb (Value.slice pa ps.length pc).ownBlock n ps j wr))
    (fun u _ => ps.length - (intOf u).toNat)
  case atStart => exact ⟨0, by omega, by go_num, hL⟩
  case round =>
    obtain ⟨j, hj, rfl, hL⟩ := hrel
    rcases Nat.lt_or_ge j ps.length with hlt | hge
    · obtain ⟨⟨a, s⟩, hp⟩ : ∃ p, ps[j]? = some p := ⟨_, List.getElem?_eq_getElem hlt⟩
      cases ad with
      | none => have := h.nil rfl; subst this; simp at hlt
      | some ad =>
        have hc0 := (h.below hL.out.below).first hp
        have hc1 := (h.below hL.out.below).second hp
        have hph := hid hp
        have hA := hid (hL.out.more ((Below.refl wr.heap.size wr).alloc (Nat.le_refl _) (.cells #[.int .u32 a, .int .i64 s] 70)))
        have habr : w3.heap.size < wr.heap.size := by obtain ⟨hi, hh⟩ := hL.out.hold; have := hh.pos; omega
        clear hp hL
        by_cases e0 : s = 0
        · have hA2 := hid (hA.out.free hph.out hfl e0)
          subst e0
          go_wp2_with fail
          go_roundw
          case rel => exact ⟨j + 1, by omega, by go_num, hA2⟩
          case measure => simp [intOf]; omega
        · have t0 : (s == 0) = false := by simpa using e0
          go_wp2_with fail
          refine (hA.out.claim hph.out hfl e0).mono ?_
          rintro e w5 ⟨rfl, ⟨hi5, h5⟩, b5, k5⟩
          have hle := habr
          have h5h := hid h5
          have b5h := hid b5
          obtain ⟨hw1, hw2⟩ := h5.cell1
          have hwl := wornN_le (ps.take j)
          rw [List.length_take] at hwl
          obtain ⟨c, hc⟩ : ∃ c, wornN (ps.take j) = c := ⟨_, rfl⟩
          rw [hc] at hw1 hwl h5h
          have hch := hid hc
          have hcl : c ≤ 1048576 := by omega
          clear hc hwl
          have hce : w5.cell? ⟨wr.heap.size, 1, none⟩ = some (.int .i64 s) := by
            rw [World.cell?_of_block (k5 wr.heap.size (Nat.le_of_lt habr) (by simp))]
            simp
          clear h5 b5 hA k5
          by_cases e2 : s = 2
          · have hw6 := hid (h5h.out.worn (c + 1))
            have hb6 : Hid (Below w.heap.size w (w5.setCell ⟨w3.heap.size, 1, none⟩ (.int .i64 ((c + 1 : Nat) : Int)))) := b5h.out.setCell (by simp; omega) _
            have hcw : wornN (ps.take (j + 1)) = c + 1 := by rw [take_get hph.out, wornN_push, if_pos e2, hch.out]
            have hcwh := hid hcw
            subst e2
            clear hcw
            go_wp2_with fail
            go_roundw
            case rel =>
              refine ⟨j + 1, by omega, by go_num, ⟨hi5, ?_⟩, ?_⟩
              · rw [hcwh.out]; exact hw6.out
              · exact hb6.out
            case measure => simp [intOf]; omega
          · have t2 : (s == 2) = false := by simpa using e2
            go_wp2_with fail
            go_roundw
            case rel =>
              refine ⟨j + 1, by omega, by go_num, ⟨hi5, ?_⟩, b5h.out⟩
              rw [show wornN (ps.take (j + 1)) = c by rw [take_get hph.out, wornN_push, if_neg e2, hch.out]; rfl]
              exact h5h.out
            case measure => simp [intOf]; omega
    · obtain rfl : j = ps.length := by omega
      go_wp2_with fail
      go_ret2
      obtain ⟨⟨hi, hh⟩, hb⟩ := hL.out
      rw [List.take_length] at hh
      exact ⟨_, _, rfl, ⟨⟨sb, hh.hi hh.pos.2.2.2.2.1 (Nat.le_refl _)⟩, hfh.out⟩, hb⟩

set_option maxHeartbeats 1000000 in
theorem new3_ok (n : Nat) (w : World) (h1 : 1 ≤ n) (hn : n ≤ 1048576) :
    Calls Tryd.prog 33 #[.int .i64 (n : Int)] w fun e w' => ∃ ab ob, e = .returned (.tuple #[.pointer (some ⟨ab, 0, none⟩), .nilIface]) ∧ Arena w' w.heap.size w'.heap.size ab ob n [] ∧ Below w.heap.size w w' := by
  go_enter Tryd.func33, Tryd.ntmps33
  go_wp2_with fail
  refine (load_ok n none [] 0 _ ⟨fun _ => rfl, by simp, by simp, by simp⟩ (fun _ => rfl) h1 hn (Fair.nil n)).mono ?_
  rintro e w1 ⟨ab, ob, rfl, h2, h3⟩
  go_wp2_with fail
  go_ret2
  exact ⟨ab, ob, rfl, h2, h3⟩

end Go.Proofs.YtjkiagjgnfaknaaDoor
