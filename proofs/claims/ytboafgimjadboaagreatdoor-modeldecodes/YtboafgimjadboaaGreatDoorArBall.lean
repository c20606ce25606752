/- Clone, Load and New. Wrong sizes and wrong places. What place, Len, Full, Find and Handle of an Arena answer. From the reading of an argument that is a slice of numbers to the numbers that it holds. 'All' of an Arena; 'sure' of the laws. -/
import Derived.Test.YtboafgimjadboaaGreatDoorArBlist
import Derived.Test.YtboafgimjadboaaGreatDoorArBtree
import Derived.Laws.AppendOwnNone
import Derived.Lib.SliceRun
import Derived.Deep.RegionHeld3
import Derived.Handy
import Derived.ProofKit
import Derived.OpenShut
namespace Go.Proofs.YtboafgimjadboaaGreatDoor.Ar
open Go.RowKit

theorem infoPlace : (Tryz.prog.info? 86).map (fun i => (i.zero, i.size, i.bytes)) = some (some (.agg #[.int .u32 0, .int .i64 0]), 2, 16) := by kernel_rfl

theorem Prow.cells {w : World} {a : Addr} {ps : List (Int × Int)} (h : Prow w (some a) ps) : ∀ j u, (pcs ps)[j]? = some u → w.cell? (a.add j) = some u := by
  intro j u hu
  obtain ⟨i, p, hp, (⟨rfl, rfl⟩ | ⟨rfl, rfl⟩)⟩ := pcs_inv ps j u hu
  · exact (h.cell a rfl i p hp).1
  · exact (h.cell a rfl i p hp).2

theorem row_mono {w : World} {base base' : Nat} {e : TypeId} {size n : Nat} {v : Value} {xs : List Value} (h : w.ownsRow base e size v n xs) (hb : base' ≤ base) : w.ownsRow base' e size v n xs :=
  ⟨h.1, h.2.imp id fun ⟨g, cap, cur, h1, h2, h3⟩ => ⟨g, cap, cur, h1, Nat.le_trans hb h2, h3⟩⟩

/-- What one's own row of places holds, as a slice. -/
theorem Prow.ofRow {w : World} {base : Nat} {v : Value} {ps : List (Int × Int)} (h : w.ownsRow base 86 2 v ps.length (pcs ps)) (hn : ∀ (j : Nat) p, ps[j]? = some p → 0 ≤ p.1 ∧ p.1 < 4294967296) :
    ∃ ad cap, v = .slice ad ps.length cap ∧ v.ownBlock = ad.map (·.block) ∧ Prow w ad ps := by
  have hc := fun g => h.cells (g := g)
  obtain ⟨_, h2⟩ := h
  rcases h2 with ⟨rfl, h0⟩ | ⟨g, cap, cur, rfl, hg, hh, hc1, hc2, hc3, hc4⟩
  · have : ps = [] := List.eq_nil_of_length_eq_zero h0
    subst this
    exact ⟨none, 0, rfl, rfl, fun _ => rfl, by simp, by simp, by simp⟩
  · refine ⟨_, cap, rfl, rfl, by simp, by unfold maxLen at hc2; omega, hn, fun a ha j p hp => ?_⟩
    cases ha
    obtain ⟨h1, h2⟩ := pcs_get ps j p hp
    exact ⟨hc _ rfl _ _ h1, hc _ rfl _ _ h2⟩

set_option maxRecDepth 100000 in
set_option maxHeartbeats 1000000 in
theorem clone_ok (ad : Option Addr) (ps : List (Int × Int)) (cap : Nat) (w : World) (h : Prow w ad ps) (hl : ps.length ≤ 1048576) (h0 : ad = none → cap = 0) :
    Calls Tryz.prog 49 #[.slice ad ps.length cap] w fun e w' => ∃ v, e = .returned v ∧ w'.ownsRow w.heap.size 86 2 v ps.length (pcs ps) ∧ Below w.heap.size w w' := by
  obtain ⟨i0, hif, hz0, hz1, hz2⟩ := info_parts infoPlace
  cases ad with
  | none =>
    have := h.nil rfl
    subst this
    obtain rfl := h0 rfl
    have heq := Lib.run_eql_slice_nil (P := Tryz.prog) w 33 86 none 0 0 0 0 Tryz.underlying33
    go_enter Tryz.func49, Tryz.ntmps49
    go_wp2_with fail
    go_ret
    exact ⟨_, rfl, World.ownsRow_nil _ _ _ _, Below.refl _ _⟩
  | some a =>
    have hown : (w.alloc (.cells #[] 86)).ownsRow w.heap.size 86 2 (.slice (some ⟨w.heap.size, 0, none⟩) 0 0) 0 [] := World.ownsRow_lit w #[] 0 (Nat.le_refl _) (by decide) rfl
    have hb : Below w.heap.size w (w.alloc (.cells #[] 86)) := (Below.refl _ _).alloc (Nat.le_refl _) _
    have hp := h.below hb
    have heq := Lib.run_eql_slice_nil (P := Tryz.prog) w 33 86 (some a) ps.length cap 0 0 Tryz.underlying33
    go_enter Tryz.func49, Tryz.ntmps49
    go_wp2_with (at_builtin; refine wpList_append_own _ rfl (.tmp 5) (.tmp 6) 33 rfl w.heap.size 86 i0 _ 2 16 Tryz.underlying33 hif hz0 hz1 hz2 rfl (by decide) _ _ _ rfl hown a ps.length cap (pcs ps) rfl (pcs_length ps) hp.cells (pcs_one ps) (by unfold maxLen; omega) (by omega) (by simp) ?_; intro v3 w3 hown3 hgrow3 _)
    have hb3 := hb.grown hgrow3 (by simp) (fun k hk => (hown.lt k hk).1)
    rw [Nat.zero_add, List.nil_append] at hown3
    clear hown hp hgrow3
    go_wp2_with fail
    go_ret
    exact ⟨_, rfl, hown3, hb3⟩

theorem take_get {ps : List (Int × Int)} {i : Nat} {p : Int × Int} (h : ps[i]? = some p) : ps.take (i + 1) = ps.take i ++ [p] := by
  rw [List.take_add_one, h]; rfl

theorem held_next {n : Nat} {ps : List (Int × Int)} {i : Nat} {p : Int × Int} (h : ps[i]? = some p) (hn : ps.length ≤ n) : held n (ps.take (i + 1)) = (held n (ps.take i)).set i (decide (p.2 ≠ 0)) := by
  have hi := (List.getElem?_eq_some_iff.1 h).1
  have hl : (ps.take i).length = i := by simp; omega
  rw [take_get h, held_push p (by omega), hl]

theorem held_free {n : Nat} {ps : List (Int × Int)} {i : Nat} (h : i < ps.length) (hn : ps.length ≤ n) : (held n (ps.take i))[i]? = some false := by
  rw [held_is (by simp; omega)]
  refine ⟨by omega, ?_⟩
  unfold heldB
  rw [List.getElem?_take, if_neg (by omega)]

theorem set_same {l : List Bool} {i : Nat} {b : Bool} (h : l[i]? = some b) : l.set i b = l := by
  apply List.ext_getElem?
  intro j
  rw [List.getElem?_set]
  by_cases hj : i = j
  · subst hj; simp [h]; exact (List.getElem?_eq_some_iff.1 h).1
  · simp [hj]

/-- How far Load has come. -/
structure Loads (w : World) (ab sb : Nat) (ob : Option Nat) (n : Nat) (ps : List (Int × Int)) (i : Nat) (wr : World) : Prop where
  hold : ∃ hi, Hold wr w.heap.size hi ab sb ob (held n (ps.take i)) (wornN (ps.take i)) ps
  below : Below w.heap.size w wr

theorem Loads.more {w wr w' : World} {ab sb n i : Nat} {ob : Option Nat} {ps : List (Int × Int)} (h : Loads w ab sb ob n ps i wr) (hb : Below wr.heap.size wr w') : Loads w ab sb ob n ps i w' :=
  ⟨h.hold.imp fun _ hh => hh.below hb, h.below.trans (hb.mono h.below.size)⟩

theorem Loads.free {w wr : World} {ab sb n i : Nat} {ob : Option Nat} {ps : List (Int × Int)} (h : Loads w ab sb ob n ps i wr) {p : Int × Int} (hp : ps[i]? = some p) (hn : ps.length ≤ n) (h0 : p.2 = 0) : Loads w ab sb ob n ps (i + 1) wr := by
  refine ⟨h.hold.imp fun _ hh => ?_, h.below⟩
  have hi := (List.getElem?_eq_some_iff.1 hp).1
  rw [held_next hp hn, take_get hp, wornN_push, h0, if_neg (by decide), show decide ((0 : Int) ≠ 0) = false from rfl, set_same (held_free hi hn)]
  exact hh

/-- The slots' call, and what comes of it. -/
theorem Loads.claim {w wr : World} {ab sb n i : Nat} {ob : Option Nat} {ps : List (Int × Int)} (h : Loads w ab sb ob n ps i wr) {p : Int × Int} (hp : ps[i]? = some p) (hn : ps.length ≤ n) (h0 : p.2 ≠ 0) :
    Calls Tryz.prog 50 #[.pointer (some ⟨sb, 0, none⟩), .int .i64 (i : Int)] wr fun e w' => e = .returned .nilIface ∧ (∃ hi, Hold w' w.heap.size hi ab sb ob (held n (ps.take (i + 1))) (wornN (ps.take i)) ps) ∧ Below w.heap.size w w' ∧ (∀ k, ab ≤ k → k < wr.heap.size → w'.heap[k]? = wr.heap[k]?) := by
  obtain ⟨hi, hh⟩ := h.hold
  obtain ⟨hs, hsl, hle, hmk⟩ := hh.slots
  have hil := (List.getElem?_eq_some_iff.1 hp).1
  refine (claim_ok _ _ _ i _ _ hsl (held_free hil hn)).mono ?_
  rintro e w' ⟨rfl, hs', hw'⟩
  refine ⟨rfl, ⟨hi, ?_⟩, h.below.trans (hw'.below (Nat.le_refl _) h.below.size), fun k h1 h2 => hw'.block k h2 (Or.inr (by omega))⟩
  rw [held_next hp hn, decide_eq_true h0]
  exact hmk _ _ hs' hw'

set_option maxRecDepth 100000 in
set_option maxHeartbeats 4000000 in
theorem load_ok (n : Nat) (ad : Option Addr) (ps : List (Int × Int)) (cap : Nat) (w : World) (h : Prow w ad ps) (h0 : ad = none → cap = 0) (h1 : 1 ≤ n) (hn : n ≤ 1048576) (hf : Fair n ps) :
    Calls Tryz.prog 23 #[.int .i64 (n : Int), .slice ad ps.length cap] w fun e w' => ∃ ab ob, e = .returned (.tuple #[.pointer (some ⟨ab, 0, none⟩), .nilIface]) ∧ Arena w' w.heap.size w'.heap.size ab ob n ps ∧ Below w.heap.size w w' := by
  have hfl := hf.le
  have hfh := hid hf
  have hmay := hid ((mayB_fair n ps h.num).2 hf)
  clear hf
  go_enter Tryz.func23, Tryz.ntmps23
  go_wp2_with fail
  refine (new_ok n _ h1 hn).mono ?_
  rintro e w1 ⟨sb, rfl, s1, b1⟩
  have p1 := h.below b1
  go_wp2_with fail
  refine (mayBe_ok n ad ps cap _ p1).mono ?_
  rintro e w2 ⟨rfl, b2⟩
  rw [hmay.out]
  have b12 := b1.trans (b2.mono b1.size)
  have p2 := h.below b12
  have s2 := s1.of (Within.ofBelow b2 w1.heap.size w1.heap.size) (Or.inl (Nat.le_refl _))
  have hs1 := b1.size
  have hs2 := b2.size
  clear s1 p1
  go_wp2_with fail
  refine (clone_ok ad ps cap _ p2 (by omega) h0).mono ?_
  rintro e w3 ⟨pv, rfl, o3, b3⟩
  have hs3 := b3.size
  obtain ⟨pa, pc, hpv, _, _⟩ := Prow.ofRow o3 h.num
  subst hpv
  obtain ⟨pv, hpv⟩ : ∃ pv, Value.slice pa ps.length pc = pv := ⟨_, rfl⟩
  rw [hpv] at o3
  have hL : Hid (Loads w w3.heap.size sb pv.ownBlock n ps 0 (w3.alloc (.cells #[.pointer (some ⟨sb, 0, none⟩), .int .i64 0, pv] 108))) := by
    have b4 : Below w3.heap.size w3 (w3.alloc (.cells #[.pointer (some ⟨sb, 0, none⟩), .int .i64 0, pv] 108)) := (Below.refl _ _).alloc (Nat.le_refl _) _
    have b34 := b3.trans (b4.mono hs3)
    refine ⟨⟨w3.heap.size + 1, w1.heap.size, pv, ?_, by omega, by omega, by simp, ?_, ?_, rfl, ?_⟩, b12.trans (b34.mono (by omega))⟩
    · simp only [List.take_zero, held_nil]
      exact s2.of (Within.ofBelow b34 w2.heap.size w2.heap.size) (Or.inl hs2)
    · rw [heap_alloc_new]; rfl
    · exact (row_mono o3 hs2).alloc _
    · intro e; have := (o3.lt _ e).2; omega
  have hb4 := hid hL.out.below
  clear s2 o3 b3 b12 p2 b1 b2
  subst hpv
  go_wp2_with fail
  go_loopw [32] (fun u wr => ∃ j : Nat, j ≤ ps.length ∧ u = .int .i64 (j : Int) ∧ Hid (Loads w w3.heap.size sb (Value.slice pa ps.length pc).ownBlock n ps j wr))
    (fun u _ => ps.length - (intOf u).toNat)
  case atStart => exact ⟨0, by omega, by go_num, hL⟩
  case round =>
    obtain ⟨j, hj, rfl, hL⟩ := hrel
    rcases Nat.lt_or_ge j ps.length with hlt | hge
    · obtain ⟨⟨a, s⟩, hp⟩ : ∃ p, ps[j]? = some p := ⟨_, List.getElem?_eq_getElem hlt⟩
      cases ad with
      | none => have := h.nil rfl; subst this; simp at hlt
      | some ad =>
        have hc0 := (h.below hL.out.below).first hp
        have hc1 := (h.below hL.out.below).second hp
        have hph := hid hp
        have hA := hid (hL.out.more ((Below.refl wr.heap.size wr).alloc (Nat.le_refl _) (.cells #[.int .u32 a, .int .i64 s] 86)))
        have habr : w3.heap.size < wr.heap.size := by obtain ⟨hi, hh⟩ := hL.out.hold; have := hh.pos; omega
        clear hp hL
        by_cases e0 : s = 0
        · have hA2 := hid (hA.out.free hph.out hfl e0)
          subst e0
          go_wp2_with fail
          go_roundw
          case rel => exact ⟨j + 1, by omega, by go_num, hA2⟩
          case measure => simp [intOf]; omega
        · have t0 : (s == 0) = false := by simpa using e0
          go_wp2_with fail
          refine (hA.out.claim hph.out hfl e0).mono ?_
          rintro e w5 ⟨rfl, ⟨hi5, h5⟩, b5, k5⟩
          have hle := habr
          have h5h := hid h5
          have b5h := hid b5
          obtain ⟨hw1, hw2⟩ := h5.cell1
          have hwl := wornN_le (ps.take j)
          rw [List.length_take] at hwl
          obtain ⟨c, hc⟩ : ∃ c, wornN (ps.take j) = c := ⟨_, rfl⟩
          rw [hc] at hw1 hwl h5h
          have hch := hid hc
          have hcl : c ≤ 1048576 := by omega
          clear hc hwl
          have hce : w5.cell? ⟨wr.heap.size, 1, none⟩ = some (.int .i64 s) := by
            rw [World.cell?_of_block (k5 wr.heap.size (Nat.le_of_lt habr) (by simp))]
            simp
          clear h5 b5 hA k5
          by_cases e2 : s = 2
          · have hw6 := hid (h5h.out.worn (c + 1))
            have hb6 : Hid (Below w.heap.size w (w5.setCell ⟨w3.heap.size, 1, none⟩ (.int .i64 ((c + 1 : Nat) : Int)))) := b5h.out.setCell (by simp; omega) _
            have hcw : wornN (ps.take (j + 1)) = c + 1 := by rw [take_get hph.out, wornN_push, if_pos e2, hch.out]
            have hcwh := hid hcw
            subst e2
            clear hcw
            go_wp2_with fail
            go_roundw
            case rel =>
              refine ⟨j + 1, by omega, by go_num, ⟨hi5, ?_⟩, ?_⟩
              · rw [hcwh.out]; exact hw6.out
              · exact hb6.out
            case measure => simp [intOf]; omega
          · have t2 : (s == 2) = false := by simpa using e2
            go_wp2_with fail
            go_roundw
            case rel =>
              refine ⟨j + 1, by omega, by go_num, ⟨hi5, ?_⟩, b5h.out⟩
              rw [show wornN (ps.take (j + 1)) = c by rw [take_get hph.out, wornN_push, if_neg e2, hch.out]; rfl]
              exact h5h.out
            case measure => simp [intOf]; omega
    · obtain rfl : j = ps.length := by omega
      go_wp2_with fail
      go_ret2
      obtain ⟨⟨hi, hh⟩, hb⟩ := hL.out
      rw [List.take_length] at hh
      exact ⟨_, _, rfl, ⟨⟨sb, hh.hi hh.pos.2.2.2.2.1 (Nat.le_refl _)⟩, hfh.out⟩, hb⟩



end Go.Proofs.YtboafgimjadboaaGreatDoor.Ar

namespace Go.Proofs.YtboafgimjadboaaGreatDoor.Ar
open Go.RowKit

set_option maxRecDepth 100000 in
set_option maxHeartbeats 1000000 in
theorem new_bad (n : Int) (w : World) (h : n < 1 ∨ 1048576 < n) : Calls Tryz.prog 47 #[.int .i64 n] w fun e w' => e = .returned (.tuple #[.pointer none, .iface 67 (.int .i64 1)]) ∧ w = w' := by
  rcases h with h | h
  · have t : decide (n < 1) = true := decide_eq_true h
    go_enter Tryz.func47, Tryz.ntmps47
    go_wp2_with fail
    go_ret2
    exact ⟨rfl, rfl⟩
  · have t : decide (n < 1) = false := decide_eq_false (by omega)
    have t2 : decide (1048576 < n) = true := decide_eq_true h
    go_enter Tryz.func47, Tryz.ntmps47
    go_wp2_with fail
    go_ret2
    exact ⟨rfl, rfl⟩

set_option maxRecDepth 100000 in
set_option maxHeartbeats 1000000 in
theorem load3_size (n : Int) (ad : Option Addr) (len cap : Nat) (w : World) (h : n < 1 ∨ 1048576 < n) :
    Calls Tryz.prog 23 #[.int .i64 n, .slice ad len cap] w fun e w' => e = .returned (.tuple #[.pointer none, .iface 67 (.int .i64 1)]) ∧ Below w.heap.size w w' := by
  have hnb := new_bad n w h
  clear h
  go_enter Tryz.func23, Tryz.ntmps23
  go_wp2_with fail
  refine hnb.mono ?_
  rintro e w' ⟨rfl, rfl⟩
  clear hnb
  go_wp2_with fail
  go_ret2
  exact ⟨rfl, Below.refl _ _⟩

set_option maxRecDepth 100000 in
set_option maxHeartbeats 1000000 in
theorem load3_bad (n : Nat) (ad : Option Addr) (ps : List (Int × Int)) (cap : Nat) (w : World) (h : Prow w ad ps) (h1 : 1 ≤ n) (hn : n ≤ 1048576) (hf : ¬ Fair n ps) :
    Calls Tryz.prog 23 #[.int .i64 (n : Int), .slice ad ps.length cap] w fun e w' => e = .returned (.tuple #[.pointer none, .iface 67 (.int .i64 1)]) ∧ Below w.heap.size w w' := by
  have hmay : Hid (mayB n ps = false) := by
    cases hm : mayB n ps with
    | false => exact hid rfl
    | true => exact absurd ((mayB_fair n ps h.num).1 hm) hf
  clear hf
  go_enter Tryz.func23, Tryz.ntmps23
  go_wp2_with fail
  refine (new_ok n _ h1 hn).mono ?_
  rintro e w1 ⟨sb, rfl, s1, b1⟩
  have hmb := mayBe_ok n ad ps cap _ (h.below b1)
  rw [hmay.out] at hmb
  clear s1 h
  go_wp2_with fail
  refine hmb.mono ?_
  rintro e w2 ⟨rfl, b2⟩
  have hb := b1.trans (b2.mono b1.size)
  clear hmb b1 b2
  go_wp2_with fail
  go_ret2
  exact ⟨rfl, hb⟩

end Go.Proofs.YtboafgimjadboaaGreatDoor.Ar

namespace Go.Proofs.YtboafgimjadboaaGreatDoor.Ar
open Go.RowKit



theorem Fair.num {n : Nat} {ps : List (Int × Int)} (h : Fair n ps) : ∀ (j : Nat) p, ps[j]? = some p → 0 ≤ p.1 ∧ p.1 < 4294967296 := fun j p hp => ⟨(h.ok j p hp).1, (h.ok j p hp).2.1⟩

/-- The places' slice, to read. -/
theorem Arena.slice {w : World} {lo hi ab n : Nat} {ob : Option Nat} {ps : List (Int × Int)} (h : Arena w lo hi ab ob n ps) :
    ∃ ad cap, w.cell? ⟨ab, 2, none⟩ = some (.slice ad ps.length cap) ∧ Prow w ad ps ∧ ob = ad.map (·.block) ∧ (ad = none → cap = 0) := by
  obtain ⟨⟨sb, hh⟩, hf⟩ := h
  obtain ⟨hs, pv, h1, h2, h3, h4, _⟩ := hh.row
  have hr := h3.2
  obtain ⟨ad, cap, rfl, h6, h7⟩ := Prow.ofRow h3 hf.num
  refine ⟨ad, cap, h1, h7, by rw [← h4, h6], fun e => ?_⟩
  subst e
  rcases hr with ⟨e, _⟩ | ⟨g, c, cur, e, _⟩
  · injection e
  · injection e with e1; cases e1

theorem Arena.slots {w : World} {lo hi ab n : Nat} {ob : Option Nat} {ps : List (Int × Int)} (h : Arena w lo hi ab ob n ps) :
    ∃ hs sb, w.cell? ⟨ab, 0, none⟩ = some (.pointer (some ⟨sb, 0, none⟩)) ∧ w.cell? ⟨ab, 1, none⟩ = some (.int .i64 ((wornN ps : Nat) : Int)) ∧ Slots w lo hs sb (held n ps) ∧ hs ≤ ab := by
  obtain ⟨⟨sb, hh⟩, hf⟩ := h
  obtain ⟨hs, hsl, hle, _⟩ := hh.slots
  exact ⟨hs, sb, hh.cell0, hh.cell1.1, hsl, hle⟩



set_option maxHeartbeats 1000000 in
theorem len3_ok (lo hi ab n : Nat) (ob : Option Nat) (ps : List (Int × Int)) (w : World) (h : Arena w lo hi ab ob n ps) :
    Calls Tryz.prog 56 #[.pointer (some ⟨ab, 0, none⟩)] w fun e w' => e = .returned (.int .i64 ((liveN ps : Nat) : Int)) ∧ Below w.heap.size w w' := by
  obtain ⟨hs, sb, hc0, hc1, hsl, hle⟩ := h.slots
  have hlen : Hid (∀ x, Below w.heap.size w x → Calls Tryz.prog 85 #[.pointer (some ⟨sb, 0, none⟩)] x fun e w' => e = .returned (.int .i64 ((heldN ps : Nat) : Int)) ∧ x = w') := fun x hx => by
    have := len_ok _ _ _ _ _ (hsl.of (Within.ofBelow hx w.heap.size w.heap.size) (Or.inl hsl.pos.2.2.1))
    rw [held_count] at this
    exact this
  have hsp := h.2.split
  have hhl := heldN_le ps
  have hn := h.pos.2.1
  have hps := h.2.le
  have HS : Hid (∀ x, Below w.heap.size w x → Below w.heap.size w x ∧ x.cell? ⟨ab, 0, none⟩ = some (.pointer (some ⟨sb, 0, none⟩)) ∧ x.cell? ⟨ab, 1, none⟩ = some (.int .i64 ((wornN ps : Nat) : Int))) := fun x hx =>
    ⟨hx, (hx.cell (World.block_lt_of_cell? w _ hc0)).trans hc0, (hx.cell (World.block_lt_of_cell? w _ hc1)).trans hc1⟩
  obtain ⟨a, ha⟩ : ∃ a, heldN ps = a := ⟨_, rfl⟩
  obtain ⟨b, hb⟩ : ∃ b, wornN ps = b := ⟨_, rfl⟩
  obtain ⟨c, hc⟩ : ∃ c, liveN ps = c := ⟨_, rfl⟩
  rw [ha] at hlen hsp hhl
  rw [hb] at hsp hc1 HS
  rw [hc] at hsp
  rw [hc]
  subst hsp
  have hle2 : c + b ≤ 1048576 := by omega
  clear hsl ha hb hc h hc0 hc1 hle hhl hps hn
  go_enter Tryz.func56, Tryz.ntmps56
  go_wp2_with fail
  go_region_held3 (fun x => Below w.heap.size w x ∧ x.cell? ⟨ab, 0, none⟩ = some (.pointer (some ⟨sb, 0, none⟩)) ∧ x.cell? ⟨ab, 1, none⟩ = some (.int .i64 (b : Int)))
    (first | exact HS.out _ (Below.refl _ _).drew | exact HS.out _ (Below.refl _ _) | assumption | exact HS.out _ (by assumption))
    ((go_at_call 85; refine (hlen.out _ (by first | assumption | exact (And.left (by assumption)))).mono ?_; rintro e w' ⟨rfl, rfl⟩))
  all_goals
    go_wp2_with fail
    go_ret
    refine ⟨?_, by first | assumption | exact (And.left (by assumption))⟩
    simp
    rw [IntKind.wrap_i64]
    omega

/-- Is no place free? -/
def fullB (n : Nat) (ps : List (Int × Int)) : Bool := (heldN ps : Int) == (n : Int)



end Go.Proofs.YtboafgimjadboaaGreatDoor.Ar

namespace Go.Proofs.YtboafgimjadboaaGreatDoor.Ar
open Go.ChangeShapes Go.WideShapes Go.ChangeAt Go.RowKit

/-- The slice at 'ad' holds these numbers. -/
structure Ints (w : World) (ad : Option Addr) (l : List Int) : Prop where
  nil : ad = none → l = []
  bound : l.length ≤ 9223372036854775807
  num : ∀ z ∈ l, -9223372036854775808 ≤ z ∧ z < 9223372036854775808
  cell : ∀ a, ad = some a → ∀ j z, l[j]? = some z → w.cell? (a.add j) = some (.int .i64 z)

theorem Ints.below {w w' : World} {ad : Option Addr} {l : List Int} (h : Ints w ad l) (hb : Below w.heap.size w w') : Ints w' ad l :=
  ⟨h.nil, h.bound, h.num, fun a ha j z hz => by
    have hc := h.cell a ha j z hz
    have hl := World.block_lt_of_cell? w _ hc
    rw [hb.cell hl]; exact hc⟩

end Go.Proofs.YtboafgimjadboaaGreatDoor.Ar

namespace Go.Proofs.YtboafgimjadboaaGreatDoor.Ar
open Go.RowKit

def ic (i : Nat) : Value := .int .i64 (i : Int)

theorem infoInt : (Tryz.prog.info? 3).map (fun i => (i.zero, i.size, i.bytes)) = some (some (.int .i64 0), 1, 8) := by kernel_rfl

/-- What a row of one's own holds, as a slice. -/
theorem Ints.ofRow {w : World} {base : Nat} {v : Value} {ns : List Nat} (h : w.ownsRow base 3 1 v ns.length (ns.map ic)) (hb : ∀ x ∈ ns, x < 9223372036854775808) (hl : ns.length ≤ 1048576) :
    ∃ ad cap, v = .slice ad ns.length cap ∧ (∀ a, ad = some a → ∃ g, a = ⟨g, 0, none⟩) ∧ Ints w ad (ns.map (fun i : Nat => (i : Int))) := by
  obtain ⟨_, h2⟩ := h
  rcases h2 with ⟨rfl, h0⟩ | ⟨g, cap, cur, rfl, hg, hh, hc1, hc2, hc3, hc4⟩
  · have : ns = [] := List.eq_nil_of_length_eq_zero h0
    subst this
    exact ⟨none, 0, rfl, by simp, fun _ => rfl, by simp, by simp, by simp⟩
  · refine ⟨_, cap, rfl, fun a ha => by cases ha; exact ⟨_, rfl⟩, by simp, by simp; omega, fun z hz => ?_, fun a ha j z hj => ?_⟩
    · obtain ⟨x, hx, rfl⟩ := List.mem_map.1 hz
      have := hb x hx
      omega
    · cases ha
      rw [List.getElem?_map] at hj
      obtain ⟨x, hx, rfl⟩ := Option.map_eq_some_iff.1 hj
      have hjl := (List.getElem?_eq_some_iff.1 hx).1
      have h3 : (cur.toList.take (ns.length * 1))[j]? = some (ic x) := by rw [hc4]; simp [hx]
      rw [List.getElem?_take, if_pos (by omega)] at h3
      rw [show Addr.add ⟨g, 0, none⟩ j = ⟨g, j, none⟩ from by simp [Addr.add]; omega]
      unfold World.cell?
      rw [hh]
      simpa [ic] using h3

/-- How far the walk over the held places has still to go. -/
def left : Value → Value → Nat
  | .int _ q, .bool true => 1048577 - q.toNat
  | _, _ => 0

/-- The live places as numbers. -/
def livesI (ps : List (Int × Int)) : List Int := (lives ps).map (fun i : Nat => (i : Int))

theorem lv_after (ps : List (Int × Int)) (f : Nat) (h : ps.length ≤ f) : lv ps f = lives ps :=
  lv_skip ps ps.length f h (fun y h1 _ h3 => by rw [atP_none h1] at h3; cases h3)

/-- From a held place to the next: what is live between. -/
theorem lv_step {n : Nat} {ps : List (Int × Int)} (h : ps.length ≤ n) {f x : Nat} (hx : Least (fun i => (held n ps)[i]? = some true) f x) : lv ps x = lv ps f ∧ x < ps.length ∧ f ≤ x := by
  have h0 : (held n ps)[x]? = some true := hx.1
  rw [held_is h] at h0
  refine ⟨lv_skip ps f x hx.2.1 (fun y h1 h2 h3 => ?_), ?_, hx.2.1⟩
  · have hy : (held n ps)[y]? = some true := (held_is h _ _).2 ⟨by omega, by unfold heldB; rw [live_get h3]; simp [h3]⟩
    have := hx.2.2 y hy h1
    omega
  · rcases Nat.lt_or_ge x ps.length with h1 | h1
    · exact h1
    · unfold heldB at h0; rw [List.getElem?_eq_none h1] at h0; simp at h0

theorem lv_end {n : Nat} {ps : List (Int × Int)} (h : ps.length ≤ n) {f : Nat} (hx : ∀ x : Nat, (held n ps)[x]? = some true → ¬ f ≤ x) : lv ps f = lives ps := by
  rcases Nat.lt_or_ge f ps.length with h1 | h1
  · refine (lv_skip ps f ps.length (by omega) (fun y h2 h3 h4 => ?_)).symm
    exact hx y ((held_is h _ _).2 ⟨by omega, by unfold heldB; rw [live_get h4]; simp [h4]⟩) h2
  · exact lv_after ps f h1

set_option maxRecDepth 100000 in
set_option maxHeartbeats 2000000 in
theorem all3_ok (lo hi ab n : Nat) (ob : Option Nat) (ps : List (Int × Int)) (w : World) (h : Arena w lo hi ab ob n ps) (hT : Tab w) (h2 : 2 ≤ w.heap.size) :
    Calls Tryz.prog 27 #[.pointer (some ⟨ab, 0, none⟩)] w fun e w' => ∃ ad cap, e = .returned (.slice ad (livesI ps).length cap) ∧ Ints w' ad (livesI ps) ∧ Below w.heap.size w w' ∧ (∀ a, ad = some a → ∃ g, a = ⟨g, 0, none⟩) := by
  have hp := h.pos
  have hle := h.2.le
  obtain ⟨i0, hif, hz0, hz1, hz2⟩ := info_parts infoInt
  have hh := hid h
  have hlen := len3_ok _ _ _ _ _ _ _ h
  have hcl := liveN_le ps
  obtain ⟨C, hC⟩ : ∃ C, liveN ps = C := ⟨_, rfl⟩
  rw [hC] at hlen hcl
  obtain ⟨hs, sb, hc0, hc1, hsl, hsle⟩ := h.slots
  obtain ⟨pa, pc, hcp, hprow, hpob, _⟩ := h.slice
  have hslh := hid hsl
  have hprh := hid hprow
  clear h hc1 hsl hprow
  have hch : Hid (∀ (f : Nat) (wr : World), f ≤ 1048577 → Below w.heap.size w wr → Calls Tryz.prog 57 #[.pointer (some ⟨sb, 0, none⟩), .int .i64 (f : Int)] wr fun e w' => ∃ (x : Nat) (d : Bool), e = .returned (.tuple #[.int .i64 (x : Int), .bool d]) ∧ x ≤ 1048576 ∧ Hid ((d = true ∧ Least (fun i => (held n ps)[i]? = some true) f x) ∨ (d = false ∧ ∀ x : Nat, (held n ps)[x]? = some true → ¬ f ≤ x)) ∧ wr = w') := by
    intro f wr hf hb
    have hw := Within.ofBelow hb w.heap.size w.heap.size
    refine (nextS_nat lo hs sb f (held n ps) wr (hslh.out.of hw (Or.inl hslh.out.pos.2.2.1)) (hT.of hw (by omega)) (by omega)).mono ?_
    rintro e w' ⟨(⟨x, rfl, hx⟩ | ⟨rfl, hx⟩), rfl⟩
    · have hxl : x < n := ((held_is hle _ _).1 (show (held n ps)[x]? = some true from hx.1)).1
      exact ⟨x, true, rfl, by omega, hid (Or.inl ⟨rfl, hx⟩), rfl⟩
    · exact ⟨0, false, rfl, by omega, hid (Or.inr ⟨rfl, hx⟩), rfl⟩
  go_enter Tryz.func27, Tryz.ntmps27
  go_wp2_with fail
  refine hlen.mono ?_
  rintro e w0 ⟨rfl, b0⟩
  have hsz0 := b0.size
  clear hlen
  go_wp2_with (at_make; refine wpList_make_own _ rfl (.const (.int .i64 0)) (.tmp 9) 55 rfl w.heap.size 3 i0 (.int .i64 0) 1 Tryz.underlying55 hif hz0 hz1 .i64 .i64 _ C rfl rfl (by omega) (by rw [hz2]; omega) (by unfold maxLen; omega) hsz0 ?_; intro w1 hown hgrow; refine Hid.out ?_)
  have hb1 := b0.grown hgrow hsz0 (by simp)
  have hc01 := (hb1.cell (World.block_lt_of_cell? w _ hc0)).trans hc0
  clear hgrow
  refine hid ?_
  go_wp2_with fail
  refine (hch.out 0 w1 (by omega) hb1).mono ?_
  rintro e w' ⟨x0, d0, rfl, hx0, hn0, rfl⟩
  clear hc01
  go_wp2_with fail
  go_loopw [3, 4, 5] (fun v u d wr => ∃ (f x : Nat) (q : Bool), f ≤ 1048577 ∧ x ≤ 1048576 ∧ u = .int .i64 (x : Int) ∧ d = .bool q ∧ Hid ((q = true ∧ Least (fun i => (held n ps)[i]? = some true) f x) ∨ (q = false ∧ ∀ x : Nat, (held n ps)[x]? = some true → ¬ f ≤ x)) ∧ wr.ownsRow w.heap.size 3 1 v (lv ps f).length ((lv ps f).map ic) ∧ Below w.heap.size w wr)
    (fun _ u d _ => left u d)
  case atStart => exact ⟨0, x0, d0, by omega, hx0, by go_num, rfl, hn0, by simpa [lv] using hown, hb1⟩
  case round =>
    obtain ⟨f, x, q, hf, hx, rfl, rfl, hn, hown, hbr⟩ := hrel
    have hc0r := (hbr.cell (World.block_lt_of_cell? w _ hc0)).trans hc0
    have hcpr := (hbr.cell (World.block_lt_of_cell? w _ hcp)).trans hcp
    cases q with
    | true =>
      have hlx : Hid (Least (fun i => (held n ps)[i]? = some true) f x) := by
        rcases hn.out with ⟨_, h⟩ | ⟨h, _⟩
        · exact h
        · cases h
      obtain ⟨hst1, hxl, hfx⟩ := lv_step hle hlx.out
      have hsth := hid hst1
      obtain ⟨⟨A, s⟩, hxp⟩ : ∃ p, ps[x]? = some p := ⟨_, List.getElem?_eq_getElem hxl⟩
      have hat := hid (atP_some hxp)
      have hsuc := hid (lv_succ ps x)
      have hble := hid (lv_le ps f)
      clear hn hst1
      cases pa with
      | none => have := hprh.out.nil rfl; subst this; simp at hxl
      | some pa =>
        have hcs := (hprh.out.below hbr).second hxp
        clear hxp
        by_cases hs1 : s = 1
        · subst hs1
          go_wp2_with (at_builtin; refine wpList_append_own _ rfl (.tmp 39) (.tmp 41) 55 rfl w.heap.size 3 i0 (.int .i64 0) 1 8 Tryz.underlying55 hif hz0 hz1 hz2 rfl (by decide) _ _ _ rfl (hown.alloc _) ⟨wr.heap.size, 0, none⟩ 1 1 [.int .i64 (x : Int)] rfl rfl (cell_one_new _ _ _) (by simp [Value.oneCell']) (by have := hble.out; unfold maxLen; omega) (by have := hble.out; omega) (by have := hbr.size; simp; omega) ?_; intro v3 w3 hown3 hgrow3 _; refine Hid.out ?_)
          have hb3 := (hbr.alloc hbr.size (.cells #[.int .i64 (x : Int)] 3)).grown hgrow3 (by have := hbr.size; simp; omega) (fun k hk => (hown.lt k hk).1)
          have hown4 : w3.ownsRow w.heap.size 3 1 v3 (lv ps (x + 1)).length ((lv ps (x + 1)).map ic) := by
            rw [hsuc.out, hat.out, if_pos rfl, hsth.out, List.length_append, List.map_append]
            exact hown3
          have hc3 := (hb3.cell (World.block_lt_of_cell? w _ hc0)).trans hc0
          clear hown3 hgrow3 hown hc0r hcpr hcs
          refine hid ?_
          go_wp2_with fail
          refine (hch.out (x + 1) w3 (by omega) hb3).mono ?_
          rintro e w' ⟨x1, d1, rfl, hx1, hn1, rfl⟩
          clear hc3
          go_wp2_with fail
          go_roundw
          case rel => exact ⟨x + 1, x1, d1, by omega, hx1, by go_num, rfl, hn1, hown4, hb3⟩
          case measure =>
            cases d1 with
            | false => simp [left]; omega
            | true =>
              rcases hn1.out with ⟨_, h⟩ | ⟨h, _⟩
              · have := h.2.1
                simp [left]; omega
              · cases h
        · have ts : (s == 1) = false := by simpa using hs1
          have hown4 : wr.ownsRow w.heap.size 3 1 u3 (lv ps (x + 1)).length ((lv ps (x + 1)).map ic) := by
            rw [hsuc.out, hat.out, if_neg (by simpa using hs1), hsth.out, List.append_nil]
            exact hown
          clear hown
          go_wp2_with fail
          refine (hch.out (x + 1) wr (by omega) hbr).mono ?_
          rintro e w' ⟨x1, d1, rfl, hx1, hn1, rfl⟩
          go_wp2_with fail
          go_roundw
          case rel => exact ⟨x + 1, x1, d1, by omega, hx1, by go_num, rfl, hn1, hown4, hbr⟩
          case measure =>
            cases d1 with
            | false => simp [left]; omega
            | true =>
              rcases hn1.out with ⟨_, h⟩ | ⟨h, _⟩
              · have := h.2.1
                simp [left]; omega
              · cases h
    | false =>
      have hno : Hid (∀ x : Nat, (held n ps)[x]? = some true → ¬ f ≤ x) := by
        rcases hn.out with ⟨h, _⟩ | ⟨_, h⟩
        · cases h
        · exact h
      rw [lv_end hle hno.out] at hown
      have hlvl : (lives ps).length ≤ 1048576 := by have := lv_le ps ps.length; unfold lives; omega
      obtain ⟨ad, cp, hv, hbl, hI⟩ := Ints.ofRow hown (fun y hy => by
        have := ((lv_mem ps ps.length y).1 hy).1
        omega) hlvl
      subst hv
      have hIh := hid hI
      have hblh := hid hbl
      clear hown hn hI hbl
      go_wp2_with fail
      go_ret
      have hpl : (lives ps).length = (livesI ps).length := by simp [livesI]
      rw [hpl]
      exact ⟨ad, cp, rfl, hIh.out, hbr, hblh.out⟩

end Go.Proofs.YtboafgimjadboaaGreatDoor.Ar
