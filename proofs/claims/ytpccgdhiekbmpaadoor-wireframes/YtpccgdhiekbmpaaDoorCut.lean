/- What 'wire.Cut' answers. -/
import Derived.Test.YtpccgdhiekbmpaaDoorTake
namespace Go.Proofs.YtpccgdhiekbmpaaDoor
open Go.RowKit
set_option linter.unusedVariables false
attribute [local simp] be_length
attribute [local go_sem ↓] Go.wp_at_zero Go.wp_at_succ

set_option maxHeartbeats 400000 in
theorem cut_short (ad : Option Addr) (len cap : Nat) (w : World) (h : len < 4) :
    Calls Tryd.prog 17 #[.slice ad len cap] w fun e w' => e = .returned (.tuple #[.slice none 0 0, .slice none 0 0, .iface 48 (.int .i64 4)]) ∧ w = w' := by
  have h' : (len : Int) < 4 := by omega
  go_enter Tryd.func17, Tryd.ntmps17
  go_wp2
  go_ret3
  exact ⟨rfl, rfl⟩

set_option maxHeartbeats 400000 in
theorem cut_long (ad : Option Addr) (cap : Nat) (l : List UInt8) (S : Nat) (w : World) (hb : Bytes w ad cap l) (h4 : 4 ≤ l.length) (HS : Hid (num (l.take 4) = S)) (hS : 67108864 < S) :
    Calls Tryd.prog 17 #[.slice ad l.length cap] w fun e w' => e = .returned (.tuple #[.slice none 0 0, .slice none 0 0, .iface 48 (.int .i64 2)]) ∧ w = w' := by
  have hle := hb.le
  have c1 : (4 : Int) ≤ (cap : Int) := by omega
  have c2 : (4 : Int) ≤ (l.length : Int) := by omega
  go_enter Tryd.func17, Tryd.ntmps17
  go_wp2_with (go_at_call 20; refine (number_is _ _ _ (l.take 4) S _ ?_ (hb.take 4) ?_ HS).mono ?_; (simp; omega); (simp; omega); rintro e w1 ⟨rfl, rfl⟩)
  go_ret3
  exact ⟨rfl, rfl⟩

set_option maxHeartbeats 400000 in
theorem cut_end (ad : Option Addr) (cap : Nat) (l : List UInt8) (S : Nat) (w : World) (hb : Bytes w ad cap l) (h4 : 4 ≤ l.length) (HS : Hid (num (l.take 4) = S)) (hS : S ≤ 67108864) (hl : l.length < 4 + S) :
    Calls Tryd.prog 17 #[.slice ad l.length cap] w fun e w' => e = .returned (.tuple #[.slice none 0 0, .slice none 0 0, .iface 48 (.int .i64 4)]) ∧ w = w' := by
  have hle := hb.le
  have c1 : (4 : Int) ≤ (cap : Int) := by omega
  have c2 : (4 : Int) ≤ (l.length : Int) := by omega
  have hu : IntKind.u64.wrap ((l.length : Int) - 4) = (l.length : Int) - 4 := by rw [wrapU]; omega
  go_enter Tryd.func17, Tryd.ntmps17
  go_wp2_with (go_at_call 20; refine (number_is _ _ _ (l.take 4) S _ ?_ (hb.take 4) ?_ HS).mono ?_; (simp; omega); (simp; omega); rintro e w1 ⟨rfl, rfl⟩)
  go_ret3
  exact ⟨rfl, rfl⟩

theorem first_all {w : World} {ad : Option Addr} {l : List UInt8} (h : Bytes w ad 4 l) (m : Nat) : Bytes w ad 0 ((l.drop 4).take m) := (drop_all h).take m

theorem span_lies {w : World} {ad : Option Addr} {cap : Nat} {l : List UInt8} (h : Bytes w ad cap l) (n m : Nat) (hc : ¬ cap = n) : Bytes w (ad.map (·.add n)) (cap - n) ((l.drop n).take m) := (drop_lies h n hc).take m

set_option maxHeartbeats 400000 in
theorem cut_far (ad : Option Addr) (cap : Nat) (l : List UInt8) (S E : Nat) (w : World) (hb : Bytes w ad cap l) (HS : Hid (num (l.take 4) = S)) (hS : S ≤ 67108864) (hE : 4 + (S : Int) = (E : Int)) (hl : E ≤ l.length) (h4 : ¬ cap = 4) (hc : ¬ cap = E) :
    Calls Tryd.prog 17 #[.slice ad l.length cap] w fun e w' => ∃ g g', e = .returned (.tuple #[.slice (some ⟨g, 0, none⟩) (E - 4) (E - 4), .slice (some ⟨g', 0, none⟩) (l.length - E) (l.length - E), .nilIface]) ∧
      Bytes w' (some ⟨g, 0, none⟩) (E - 4) ((l.drop 4).take S) ∧ Bytes w' (some ⟨g', 0, none⟩) (l.length - E) (l.drop E) ∧ Below w.heap.size w w' := by
  have hle := hb.le
  have hbd := hb.bound
  have c1 : (4 : Int) ≤ (cap : Int) := by omega
  have c2 : (4 : Int) ≤ (l.length : Int) := by omega
  have c3 : (4 : Int) ≤ (E : Int) := by omega
  have c4 : (E : Int) ≤ (cap : Int) := by omega
  have c5 : (E : Int) ≤ (l.length : Int) := by omega
  have hu : IntKind.u64.wrap ((l.length : Int) - 4) = (l.length : Int) - 4 := by rw [wrapU]; omega
  have EQ : Hid (4 + S = E) := by show _ = _; omega
  go_enter Tryd.func17, Tryd.ntmps17
  go_wp2_with (go_at_call 20; refine (number_is _ _ _ (l.take 4) S _ ?_ (hb.take 4) ?_ HS).mono ?_; (simp; omega); (simp; omega); rintro e w1 ⟨rfl, rfl⟩)
  go_region_held3 (fun w' => Below w.heap.size w w') (first | exact (Below.refl _ _).drew | exact Below.refl _ _ | assumption | (exact Below.trans (by assumption) (Below.mono (by assumption) (Below.size (by assumption)))))
    (first
    | (go_at_call 21; have hp0 := hp; clear hp0; refine (copied_at _ _ _ (l.drop E) _ ?_ ?_).mono ?_; (simp only [List.length_drop] <;> omega); exact drop_lies (hb.below ((Below.refl w.heap.size w).drew.trans hbp)) E hc; rintro e w3 ⟨g', rfl, hq, hbq⟩)
    | (go_at_call 21; refine (copied_at _ _ _ ((l.drop 4).take S) _ ?_ ?_).mono ?_; (simp; omega); exact span_lies (hb.below (by assumption)) 4 S h4; rintro e w2 ⟨g, rfl, hp, hbp⟩))
  go_wp2_with fail
  go_ret3
  exact ⟨g, g', rfl, hp.below hbq, hq, by assumption⟩

set_option maxHeartbeats 400000 in
theorem cut_all (ad : Option Addr) (l : List UInt8) (S E : Nat) (w : World) (hb : Bytes w ad E l) (HS : Hid (num (l.take 4) = S)) (hS : S ≤ 67108864) (hE : 4 + (S : Int) = (E : Int)) (hl : E ≤ l.length) (h4 : ¬ E = 4) :
    Calls Tryd.prog 17 #[.slice ad l.length E] w fun e w' => ∃ g g', e = .returned (.tuple #[.slice (some ⟨g, 0, none⟩) (E - 4) (E - 4), .slice (some ⟨g', 0, none⟩) 0 0, .nilIface]) ∧
      Bytes w' (some ⟨g, 0, none⟩) (E - 4) ((l.drop 4).take S) ∧ Bytes w' (some ⟨g', 0, none⟩) 0 (l.drop E) ∧ Below w.heap.size w w' := by
  have hle := hb.le
  have hbd := hb.bound
  have c1 : (4 : Int) ≤ (E : Int) := by omega
  have c2 : (4 : Int) ≤ (l.length : Int) := by omega
  have c3 : (4 : Int) ≤ (E : Int) := by omega
  have c4 : (E : Int) ≤ (E : Int) := by omega
  have c5 : (E : Int) ≤ (l.length : Int) := by omega
  have hu : IntKind.u64.wrap ((l.length : Int) - 4) = (l.length : Int) - 4 := by rw [wrapU]; omega
  have EQ : Hid (4 + S = E) := by show _ = _; omega
  go_enter Tryd.func17, Tryd.ntmps17
  go_wp2_with (go_at_call 20; refine (number_is _ _ _ (l.take 4) S _ ?_ (hb.take 4) ?_ HS).mono ?_; (simp; omega); (simp; omega); rintro e w1 ⟨rfl, rfl⟩)
  go_region_held3 (fun w' => Below w.heap.size w w') (first | exact (Below.refl _ _).drew | exact Below.refl _ _ | assumption | (exact Below.trans (by assumption) (Below.mono (by assumption) (Below.size (by assumption)))))
    (first
    | (go_at_call 21; have hp0 := hp; clear hp0; refine (copied_at _ _ _ (l.drop E) _ ?_ ?_).mono ?_; (simp only [List.length_drop] <;> omega); exact drop_all (hb.below ((Below.refl w.heap.size w).drew.trans hbp)); rintro e w3 ⟨g', rfl, hq, hbq⟩)
    | (go_at_call 21; refine (copied_at _ _ _ ((l.drop 4).take S) _ ?_ ?_).mono ?_; (simp; omega); exact span_lies (hb.below (by assumption)) 4 S h4; rintro e w2 ⟨g, rfl, hp, hbp⟩))
  go_wp2_with fail
  go_ret3
  exact ⟨g, g', rfl, hp.below hbq, hq, by assumption⟩

set_option maxHeartbeats 400000 in
theorem cut_four (ad : Option Addr) (l : List UInt8) (S : Nat) (w : World) (hb : Bytes w ad 4 l) (HS : Hid (num (l.take 4) = S)) (hS : S ≤ 67108864) (hE : 4 + (S : Int) = (4 : Int)) (hl : 4 ≤ l.length) :
    Calls Tryd.prog 17 #[.slice ad l.length 4] w fun e w' => ∃ g g', e = .returned (.tuple #[.slice (some ⟨g, 0, none⟩) 0 0, .slice (some ⟨g', 0, none⟩) 0 0, .nilIface]) ∧
      Bytes w' (some ⟨g, 0, none⟩) 0 ((l.drop 4).take S) ∧ Bytes w' (some ⟨g', 0, none⟩) 0 (l.drop 4) ∧ Below w.heap.size w w' := by
  have hle := hb.le
  have hbd := hb.bound
  have c1 : (4 : Int) ≤ (4 : Int) := by omega
  have c2 : (4 : Int) ≤ (l.length : Int) := by omega
  have c3 : (4 : Int) ≤ (4 : Int) := by omega
  have c4 : (4 : Int) ≤ (4 : Int) := by omega
  have c5 : (4 : Int) ≤ (l.length : Int) := by omega
  have hu : IntKind.u64.wrap ((l.length : Int) - 4) = (l.length : Int) - 4 := by rw [wrapU]; omega
  have EQ : Hid (4 + S = 4) := by show _ = _; omega
  go_enter Tryd.func17, Tryd.ntmps17
  go_wp2_with (go_at_call 20; refine (number_is _ _ _ (l.take 4) S _ ?_ (hb.take 4) ?_ HS).mono ?_; (simp; omega); (simp; omega); rintro e w1 ⟨rfl, rfl⟩)
  go_region_held3 (fun w' => Below w.heap.size w w') (first | exact (Below.refl _ _).drew | exact Below.refl _ _ | assumption | (exact Below.trans (by assumption) (Below.mono (by assumption) (Below.size (by assumption)))))
    (first
    | (go_at_call 21; have hp0 := hp; clear hp0; refine (copied_at _ _ _ (l.drop 4) _ ?_ ?_).mono ?_; (simp only [List.length_drop] <;> omega); exact drop_all (hb.below ((Below.refl w.heap.size w).drew.trans hbp)); rintro e w3 ⟨g', rfl, hq, hbq⟩)
    | (go_at_call 21; refine (copied_at _ _ _ ((l.drop 4).take S) _ ?_ ?_).mono ?_; (simp; omega); exact first_all (hb.below (by assumption)) S; rintro e w2 ⟨g, rfl, hp, hbp⟩))
  go_wp2_with fail
  go_ret3
  exact ⟨g, g', rfl, hp.below hbq, hq, by assumption⟩

/-- A frame that is there is cut off. -/
theorem cut_ok (ad : Option Addr) (cap len : Nat) (l : List UInt8) (S : Nat) (w : World) (hlen : len = l.length) (hb : Bytes w ad cap l) (HS : Hid (num (l.take 4) = S)) (hS : S ≤ 67108864) (hl : 4 + S ≤ l.length) :
    Calls Tryd.prog 17 #[.slice ad len cap] w fun e w' => ∃ g g', e = .returned (.tuple #[.slice (some ⟨g, 0, none⟩) S S, .slice (some ⟨g', 0, none⟩) (l.length - (4 + S)) (l.length - (4 + S)), .nilIface]) ∧
      Bytes w' (some ⟨g, 0, none⟩) S ((l.drop 4).take S) ∧ Bytes w' (some ⟨g', 0, none⟩) (l.length - (4 + S)) (l.drop (4 + S)) ∧ Below w.heap.size w w' := by
  subst hlen
  have hle := hb.le
  have e1 : 4 + S - 4 = S := by omega
  by_cases hc : cap = 4 + S
  · subst hc
    have e2 : l.length - (4 + S) = 0 := by omega
    by_cases h4 : S = 0
    · subst h4
      have := cut_four ad l 0 w hb HS hS (by omega) hl
      rw [e2]
      exact this
    · have := cut_all ad l S (4 + S) w hb HS hS (by omega) hl (by omega)
      rw [e1] at this
      rw [e2]
      exact this
  · have := cut_far ad cap l S (4 + S) w hb HS hS (by omega) hl (by omega) hc
    rw [e1] at this
    exact this

theorem num_head (n : Nat) (t : List UInt8) (hn : n ≤ 67108864) : num ((be 4 n ++ t).take 4) = n := by
  rw [List.take_append_of_le_length (by simp), List.take_of_length_le (by simp), num_be, show 256 ^ 4 = 4294967296 from by decide]
  exact Nat.mod_eq_of_lt (by omega)

/-- A frame with bytes behind it is cut. -/
theorem cut_frame (ad : Option Addr) (cap len : Nat) (l m : List UInt8) (w : World) (hl : l.length ≤ 67108864) (hlen : len = 4 + l.length + m.length) (hb : Bytes w ad cap (be 4 l.length ++ (l ++ m))) :
    Calls Tryd.prog 17 #[.slice ad len cap] w fun e w' => ∃ g g', e = .returned (.tuple #[.slice (some ⟨g, 0, none⟩) l.length l.length, .slice (some ⟨g', 0, none⟩) m.length m.length, .nilIface]) ∧
      Bytes w' (some ⟨g, 0, none⟩) l.length l ∧ Bytes w' (some ⟨g', 0, none⟩) m.length m ∧ Below w.heap.size w w' := by
  have h := cut_ok ad cap len (be 4 l.length ++ (l ++ m)) l.length w (by simp <;> omega) hb (hid (num_head _ _ hl)) hl (by simp <;> omega)
  have e1 : (be 4 l.length ++ (l ++ m)).length - (4 + l.length) = m.length := by simp; omega
  have e0 : (be 4 l.length ++ (l ++ m)).drop 4 = l ++ m := by
    rw [List.drop_append_of_le_length (by simp), List.drop_of_length_le (by simp)]
    simp
  have e2 : ((be 4 l.length ++ (l ++ m)).drop 4).take l.length = l := by
    rw [e0]
    simp
  have e3 : (be 4 l.length ++ (l ++ m)).drop (4 + l.length) = m := by
    rw [← List.drop_drop, e0]
    simp
  rw [e1, e2, e3] at h
  exact h

/-- A frame that is cut short is none. -/
theorem cut_part (g k n cap : Nat) (l : List UInt8) (w : World) (hn : n = l.length) (hl : n ≤ 67108864) (hk : k < 4 + n) (hb : Bytes w (some ⟨g, 0, none⟩) cap (be 4 n ++ l)) :
    Calls Tryd.prog 17 #[.slice (some ⟨g, 0, none⟩) k k] w fun e w' => e = .returned (.tuple #[.slice none 0 0, .slice none 0 0, .iface 48 (.int .i64 4)]) ∧ w = w' := by
  by_cases h4 : k < 4
  · exact cut_short _ k k w h4
  · have hlen : ((be 4 n ++ l).take k).length = k := by simp; omega
    have h := cut_end (some ⟨g, 0, none⟩) k ((be 4 n ++ l).take k) n w (hb.takeCap k (by simp; omega)) (by omega) (hid (by rw [List.take_take, Nat.min_eq_left (by omega), num_head _ _ hl])) hl (by omega)
    rw [hlen] at h
    exact h

end Go.Proofs.YtpccgdhiekbmpaaDoor
