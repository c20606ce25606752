/- 'ints', 'mark', 'Check', walked. -/
import Derived.Test.YtjngdecpomogbaaDoorMem8
namespace Go.Proofs.YtjngdecpomogbaaDoor
open Go.RowKit
set_option linter.unusedVariables false

set_option maxRecDepth 100000 in
set_option maxHeartbeats 2000000 in
theorem ints_ok (u v : Value) (zs : List Int) (w : World) (hu : IV w u zs) (hv : IV w v zs) :
    Calls Tryd.prog 14 #[u, v] w fun e w' => e = .returned (.bool true) ∧ ∃ m, w' = w.drewN m := by
  obtain ⟨a, n, ca, rfl, ha⟩ := hu
  obtain ⟨b, n', cb, rfl, hb⟩ := hv
  obtain rfl : n' = n := by rw [← ha.len, ← hb.len]
  have hl := ha.len
  have hbig := ha.big
  replace ha := hid ha
  replace hb := hid hb
  replace hl := hid hl
  go_enter Tryd.func14, Tryd.ntmps14
  go_wp2_with fail
  go_loopw [5] (fun u wr => ∃ j : Nat, j ≤ n' ∧ u = .int .i64 (j : Int) ∧ Hid (∃ m, wr = w.drewN m))
    (fun u _ => n' - (intOf u).toNat)
  case atStart => exact ⟨0, by omega, by go_num, ⟨0, rfl⟩⟩
  case round =>
    obtain ⟨j, hj, rfl, hw⟩ := hrel
    rcases Nat.lt_or_ge j n' with hlt | hge
    · obtain ⟨z, hz⟩ : ∃ z, zs[j]? = some z := ⟨_, List.getElem?_eq_getElem (by rw [hl.out]; exact hlt)⟩
      obtain ⟨b1, o1, rfl, c1⟩ := ha.out.cell j z hz
      obtain ⟨b2, o2, rfl, c2⟩ := hb.out.cell j z hz
      have c1' : wr.cell? ⟨b1, o1 + j, none⟩ = some (.int .i64 z) := by
        obtain ⟨m, hm⟩ := hw.out
        rw [hm]; exact c1
      have c2' : wr.cell? ⟨b2, o2 + j, none⟩ = some (.int .i64 z) := by
        obtain ⟨m, hm⟩ := hw.out
        rw [hm]; exact c2
      have hw2 : Hid (∃ m, wr.drew = w.drewN m) := by
        obtain ⟨m, hm⟩ := hw.out
        exact ⟨m + 1, by rw [hm]; rfl⟩
      clear hz c1 c2
      have i1 : (0 : Int) ≤ (j : Int) := by omega
      have i2 : (j : Int) < (n' : Int) := by omega
      go_wp2_with fail
      go_region_held3 (fun y => y.cell? ⟨b1, o1 + j, none⟩ = some (.int .i64 z) ∧ y.cell? ⟨b2, o2 + j, none⟩ = some (.int .i64 z)) (go_keep) (fail)
      go_wp2_with fail
      go_roundw
      case rel => exact ⟨j + 1, by omega, by go_num, hw2⟩
      case measure => simp [intOf]; omega
    · obtain rfl : j = n' := by omega
      go_wp2_with fail
      go_ret
      exact ⟨rfl, hw.out⟩

set_option maxRecDepth 100000 in
set_option maxHeartbeats 1000000 in
theorem mark_yes (base n x : Nat) (w0 w : World) (v : Value) (p : Nat → Bool) (h : Mk base w0 w v n p) (hx : x < n) (hp : p x = false) (hn : n ≤ 1000) :
    Calls Tryd.prog 25 #[v, .int .i64 (x : Int)] w fun e w' => e = .returned (.bool true) ∧ Mk base w0 w' v n (on p x) := by
  obtain ⟨hr, hb, hl⟩ := h
  obtain ⟨g, cap, rfl, h1, h2⟩ := own_form hr (by omega)
  have hc : w.cell? ⟨g, x, none⟩ = some (.bool false) := by rw [hr.cellAt x (by omega), bl_get hx, hp]
  have hf : w.frozen? ⟨g, x, none⟩ = false := hr.frozenAt x
  obtain ⟨s1, s2⟩ := hr.stored x (.bool true)
  rw [bl_set] at s1
  have fin : Hid (Mk base w0 (w.setCell ⟨g, x, none⟩ (.bool true)) (.slice (some ⟨g, 0, none⟩) n cap) n (on p x)) := ⟨s1, below_grown hb hl hr (Nat.le_refl _) s2, hl⟩
  have i1 : (0 : Int) ≤ (x : Int) := by omega
  have i2 : (x : Int) < (n : Int) := by omega
  have i3 : ¬ ((x : Int) < 0) := by omega
  have i4 : ¬ ((n : Int) ≤ (x : Int)) := by omega
  clear s1 s2 hr hb
  go_enter Tryd.func25, Tryd.ntmps25
  go_wp2_with fail
  go_ret
  exact ⟨rfl, fin.out⟩

set_option maxRecDepth 100000 in
set_option maxHeartbeats 1000000 in
theorem mark_no (base n : Nat) (z : Int) (w0 w : World) (v : Value) (p : Nat → Bool) (h : Mk base w0 w v n p) (hz : z < 0 ∨ (n : Int) ≤ z ∨ (0 ≤ z ∧ z < n ∧ p z.toNat = true)) (hn : n ≤ 1000) :
    Calls Tryd.prog 25 #[v, .int .i64 z] w fun e w' => e = .returned (.bool false) ∧ Mk base w0 w' v n p := by
  have hh := hid h
  obtain ⟨hr, hb, hl⟩ := h
  rcases hz with hz | hz | ⟨hz1, hz2, hz3⟩
  · obtain ⟨ad, cap, rfl, h1, h2⟩ := own_any hr
    clear hr hb
    go_enter Tryd.func25, Tryd.ntmps25
    go_wp2_with fail
    go_ret
    exact ⟨rfl, hh.out⟩
  · obtain ⟨ad, cap, rfl, h1, h2⟩ := own_any hr
    clear hr hb
    have i3 : ¬ (z < 0) := by omega
    go_enter Tryd.func25, Tryd.ntmps25
    go_wp2_with fail
    go_ret
    exact ⟨rfl, hh.out⟩
  · obtain ⟨x, rfl⟩ : ∃ x : Nat, z = (x : Int) := ⟨z.toNat, by omega⟩
    simp only [Int.toNat_natCast] at hz3
    obtain ⟨g, cap, rfl, h1, h2⟩ := own_form hr (by omega)
    have hc : w.cell? ⟨g, x, none⟩ = some (.bool true) := by rw [hr.cellAt x (by omega), bl_get (by omega), hz3]
    have i3 : ¬ ((x : Int) < 0) := by omega
    have i4 : ¬ ((n : Int) ≤ (x : Int)) := by omega
    clear hr hb
    go_enter Tryd.func25, Tryd.ntmps25
    go_wp2_with fail
    go_ret
    exact ⟨rfl, hh.out⟩

/-- What the marks are behind some numbers. -/
def seen (zs : List Int) : Nat → Bool := fun y => decide ((y : Int) ∈ zs)
/-- The first numbers are each in range, none twice. -/
def Part (n : Nat) (zs : List Int) : Prop := zs.Nodup ∧ ∀ z, z ∈ zs → 0 ≤ z ∧ z < (n : Int)

theorem seen_on (zs : List Int) (x : Nat) : on (seen zs) x = seen (zs ++ [(x : Int)]) := by
  funext y
  unfold on seen
  by_cases e : y = x
  · subst e; simp
  · rw [if_neg e]; simp; omega

theorem Part.push {n : Nat} {zs : List Int} {z : Int} (h : Part n zs) (h1 : 0 ≤ z) (h2 : z < n) (h3 : z ∉ zs) : Part n (zs ++ [z]) := by
  refine ⟨List.nodup_append.2 ⟨h.1, by simp, fun a ha b hb e => ?_⟩, fun y hy => ?_⟩
  · simp at hb; subst hb; subst e; exact h3 ha
  · rcases List.mem_append.1 hy with hy | hy
    · exact h.2 y hy
    · simp at hy; subst hy; exact ⟨h1, h2⟩

theorem Part.pre {n : Nat} {a b : List Int} (h : Part n (a ++ b)) : Part n a := ⟨(List.nodup_append.1 h.1).1, fun z hz => h.2 z (List.mem_append_left _ hz)⟩

/-- One more number fits, or none does. -/
theorem Part.step {n : Nat} {zs : List Int} (h : Part n zs) (z : Int) : (∃ x : Nat, z = (x : Int) ∧ x < n ∧ seen zs x = false ∧ Part n (zs ++ [z])) ∨ ((z < 0 ∨ (n : Int) ≤ z ∨ (0 ≤ z ∧ z < n ∧ seen zs z.toNat = true)) ∧ ¬ Part n (zs ++ [z])) := by
  by_cases h1 : 0 ≤ z
  · by_cases h2 : z < n
    · by_cases h3 : z ∈ zs
      · refine .inr ⟨.inr (.inr ⟨h1, h2, ?_⟩), fun hp => ?_⟩
        · unfold seen; simp; rw [show max z 0 = z from by omega]; exact h3
        · exact (List.nodup_append.1 hp.1).2.2 z h3 z (by simp) rfl
      · refine .inl ⟨z.toNat, by omega, by omega, ?_, h.push h1 h2 h3⟩
        unfold seen; simp; rw [show max z 0 = z from by omega]; exact h3
    · exact .inr ⟨.inr (.inl (by omega)), fun hp => by have := hp.2 z (by simp); omega⟩
  · exact .inr ⟨.inl (by omega), fun hp => by have := hp.2 z (by simp); omega⟩

theorem take_next {zs : List Int} {j : Nat} {z : Int} (h : zs[j]? = some z) : zs.take (j + 1) = zs.take j ++ [z] := by
  rw [List.take_add_one, h]; rfl

set_option maxRecDepth 100000 in
set_option maxHeartbeats 2000000 in
theorem check_ok (v : Value) (zs : List Int) (w : World) (hv : IV w v zs) (hn : zs.length ≤ 1000) :
    Calls Tryd.prog 13 #[v] w fun e w' => ∃ r, e = .returned r ∧ ((Ord zs ∧ r = .nilIface) ∨ (¬ Ord zs ∧ r = .iface 49 (.int .i64 3))) ∧ Below w.heap.size w w' := by
  obtain ⟨i0, hif, hz0, hz1, hz2⟩ := info_parts infoBool
  obtain ⟨ad, n, cap, rfl, ha⟩ := hv
  have hl := hid ha.len
  rw [ha.len] at hn
  have hsl := hid ha
  clear ha
  go_enter Tryd.func13, Tryd.ntmps13
  go_wp2_with (at_make; refine wpList_make_full _ rfl (.tmp 7) (.tmp 7) 52 rfl w.heap.size 4 i0 (.bool false) 1 Tryd.underlying52 hif hz0 hz1 .i64 .i64 _ _ n rfl rfl rfl rfl (by rw [hz2]; omega) (by unfold maxLen; omega) (Nat.le_refl _) ?_; intro w1 hown hgrow)
  have hmk : Hid (Mk w.heap.size w w1 (.slice (some ⟨w.heap.size, 0, none⟩) n n) n (seen (zs.take 0))) := by
    rw [bl_made] at hown
    have e : bl n (fun _ => false) = bl n (seen (zs.take 0)) := bl_congr (fun i _ => by simp [seen])
    rw [e] at hown
    exact ⟨hown, (Below.refl _ _).grown hgrow (Nat.le_refl _) (by simp), Nat.le_refl _⟩
  clear hown hgrow
  go_wp2_with fail
  go_loopw [5, 11] (fun _ u wr => ∃ j : Nat, j ≤ n ∧ u = .int .i64 (j : Int) ∧ Hid (Mk w.heap.size w wr (.slice (some ⟨w.heap.size, 0, none⟩) n n) n (seen (zs.take j)) ∧ Part n (zs.take j)))
    (fun _ u _ => n - (intOf u).toNat)
  case atStart => exact ⟨0, by omega, by go_num, hmk.out, by simp [Part]⟩
  case round =>
    obtain ⟨j, hj, rfl, hst⟩ := hrel
    clear hmk
    rcases Nat.lt_or_ge j n with hlt | hge
    · obtain ⟨z, hz⟩ : ∃ z, zs[j]? = some z := ⟨_, List.getElem?_eq_getElem (by rw [hl.out]; exact hlt)⟩
      obtain ⟨b1, o1, rfl, c1⟩ := (hsl.out.below (w' := wr) hst.out.1.bel).cell j z hz
      have htk := hid (take_next hz)
      have i1 : (0 : Int) ≤ (j : Int) := by omega
      have i2 : (j : Int) < (n : Int) := by omega
      rcases hst.out.2.step z with ⟨x, rfl, hx, hp, hpt⟩ | ⟨hbad, hno⟩
      · rw [← htk.out] at hpt
        replace hpt := hid hpt
        have hmark := hid (mark_yes _ n x w wr _ _ hst.out.1 hx hp hn)
        clear hz hst hp
        go_wp2_with fail
        refine hmark.out.mono ?_
        rintro e w2 ⟨rfl, hm⟩
        rw [seen_on, ← htk.out] at hm
        replace hm := hid hm
        clear hmark
        go_wp2_with fail
        go_roundw
        case rel => exact ⟨j + 1, by omega, by go_num, hm.out, hpt.out⟩
        case measure => simp [intOf]; omega
      · have hmark := hid (mark_no _ n z w wr _ _ hst.out.1 hbad hn)
        have hord : Hid (¬ Ord zs) := fun ho => by
          apply hno
          rw [← htk.out]
          have h2 : Part n (zs.take (j + 1) ++ zs.drop (j + 1)) := by
            rw [List.take_append_drop, ← hl.out]; exact ho
          exact h2.pre
        clear hz hst hbad hno
        go_wp2_with fail
        refine hmark.out.mono ?_
        rintro e w2 ⟨rfl, hm⟩
        replace hm := hid hm
        clear hmark
        go_wp2_with fail
        go_ret
        exact ⟨_, rfl, .inr ⟨hord.out, rfl⟩, hm.out.bel⟩
    · obtain rfl : j = n := by omega
      have hord : Hid (Ord zs) := by
        have := hst.out.2
        rw [List.take_of_length_le (by rw [hl.out]; exact Nat.le_refl _)] at this
        unfold Part at this
        rw [← hl.out] at this
        exact this
      go_wp2_with fail
      go_ret
      exact ⟨_, rfl, .inl ⟨hord.out, rfl⟩, hst.out.1.bel⟩

theorem check_yes (v : Value) (zs : List Int) (w : World) (hv : IV w v zs) (hn : zs.length ≤ 1000) (ho : Ord zs) :
    Calls Tryd.prog 13 #[v] w fun e w' => e = .returned .nilIface ∧ Below w.heap.size w w' :=
  (check_ok v zs w hv hn).mono fun e w' ⟨r, e1, e2, b⟩ => by
    rcases e2 with ⟨_, rfl⟩ | ⟨h, _⟩
    · exact ⟨e1, b⟩
    · exact absurd ho h

theorem check_no (v : Value) (zs : List Int) (w : World) (hv : IV w v zs) (hn : zs.length ≤ 1000) (ho : ¬ Ord zs) :
    Calls Tryd.prog 13 #[v] w fun e w' => e = .returned (.iface 49 (.int .i64 3)) ∧ Below w.heap.size w w' :=
  (check_ok v zs w hv hn).mono fun e w' ⟨r, e1, e2, b⟩ => by
    rcases e2 with ⟨h, _⟩ | ⟨_, rfl⟩
    · exact absurd h ho
    · exact ⟨e1, b⟩

end Go.Proofs.YtjngdecpomogbaaDoor
