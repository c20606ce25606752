/- What Claim, Free, Has, Size and Next of a Slots answer. -/
import Derived.Test.YtjkiagjgnfaknaaDoorCalls
namespace Go.Proofs.YtjkiagjgnfaknaaDoor
open Go.RowKit

set_option maxHeartbeats 1000000 in
theorem claim_ok (lo hi sb x : Nat) (l : List Bool) (w : World) (h : Slots w lo hi sb l) (hx : l[x]? = some false) :
    Calls Tryd.prog 25 #[.pointer (some ⟨sb, 0, none⟩), .int .i64 (x : Int)] w fun e w' => e = .returned .nilIface ∧ Slots w' lo hi sb (l.set x true) ∧ Within lo hi w w' := by
  have hs := hid h
  obtain ⟨m1, m2, vF, vT, lbF, capF, lvF, lbT, capT, lvT, h1, h2, h3, h4, h5, h6, h7, h8⟩ := h
  have hxl : x < l.length := (List.getElem?_eq_some_iff.1 hx).1
  have hx2 := hid hx
  go_enter Tryd.func25, Tryd.ntmps25
  go_wp2_with fail
  refine (covers_yes sb 2 l.length x _ h8.size hxl).mono ?_
  rintro e w' ⟨rfl, rfl⟩
  go_wp2_with fail
  refine (has_in m1 m2 sb 2 l.length lbT capT x _ lvT _ h8 hxl).mono ?_
  rintro e w' ⟨d, rfl, hd, rfl⟩
  obtain rfl : d = false := by
    cases d with
    | false => rfl
    | true => have h := hd.1 rfl; rw [hx2.out] at h; cases h
  clear hd
  go_wp2_with fail
  refine (takeIn lo hi sb x l _ hs.out hx2.out).mono ?_
  rintro e w2 ⟨rfl, hs2, hw2⟩
  go_wp2_with fail
  go_ret
  exact ⟨rfl, hs2, hw2⟩

set_option maxHeartbeats 1000000 in
theorem claim_same (lo hi sb x : Nat) (l : List Bool) (w : World) (h : Slots w lo hi sb l) (hx : l[x]? = some true) :
    Calls Tryd.prog 25 #[.pointer (some ⟨sb, 0, none⟩), .int .i64 (x : Int)] w fun e w' => e = .returned (.iface 66 (.int .i64 20)) ∧ w = w' := by
  obtain ⟨m1, m2, vF, vT, lbF, capF, lvF, lbT, capT, lvT, h1, h2, h3, h4, h5, h6, h7, h8⟩ := h
  have hxl : x < l.length := (List.getElem?_eq_some_iff.1 hx).1
  go_enter Tryd.func25, Tryd.ntmps25
  go_wp2_with fail
  refine (covers_yes sb 2 l.length x _ h8.size hxl).mono ?_
  rintro e w' ⟨rfl, rfl⟩
  go_wp2_with fail
  refine (has_in m1 m2 sb 2 l.length lbT capT x _ lvT _ h8 hxl).mono ?_
  rintro e w' ⟨d, rfl, hd, rfl⟩
  obtain rfl : d = true := hd.2 hx
  clear hd
  go_wp2_with fail
  go_ret
  exact ⟨rfl, rfl⟩

theorem covers_out (sb so n : Nat) (X : Int) (w : World) (hs : w.cell? ⟨sb, so, none⟩ = some (.int .i64 (n : Int))) (hx : X < 0 ∨ (n : Int) ≤ X) :
    Calls Tryd.prog 38 #[.pointer (some ⟨sb, so, none⟩), .int .i64 X] w fun e w' => e = .returned (.bool false) ∧ w = w' := by
  rcases hx with h | h
  · exact covers_low sb so X w h
  · exact covers_high sb so n X w hs h

set_option maxHeartbeats 1000000 in
theorem claim_out (lo hi sb : Nat) (X : Int) (l : List Bool) (w : World) (h : Slots w lo hi sb l) (hx : X < 0 ∨ (l.length : Int) ≤ X) :
    Calls Tryd.prog 25 #[.pointer (some ⟨sb, 0, none⟩), .int .i64 X] w fun e w' => e = .returned (.iface 66 (.int .i64 12)) ∧ w = w' := by
  have hc := covers_out sb 2 l.length X w h.cell0 hx
  go_enter Tryd.func25, Tryd.ntmps25
  go_wp2_with fail
  refine hc.mono ?_
  rintro e w' ⟨rfl, rfl⟩
  go_wp2_with fail
  go_ret
  exact ⟨rfl, rfl⟩

set_option maxHeartbeats 1000000 in
theorem free_out (lo hi sb : Nat) (X : Int) (l : List Bool) (w : World) (h : Slots w lo hi sb l) (hx : X < 0 ∨ (l.length : Int) ≤ X) :
    Calls Tryd.prog 28 #[.pointer (some ⟨sb, 0, none⟩), .int .i64 X] w fun e w' => e = .returned (.iface 66 (.int .i64 12)) ∧ w = w' := by
  have hc := covers_out sb 2 l.length X w h.cell0 hx
  go_enter Tryd.func28, Tryd.ntmps28
  go_wp2_with fail
  refine hc.mono ?_
  rintro e w' ⟨rfl, rfl⟩
  go_wp2_with fail
  go_ret
  exact ⟨rfl, rfl⟩

set_option maxHeartbeats 1000000 in
theorem free_apart (lo hi sb x : Nat) (l : List Bool) (w : World) (h : Slots w lo hi sb l) (hx : l[x]? = some false) :
    Calls Tryd.prog 28 #[.pointer (some ⟨sb, 0, none⟩), .int .i64 (x : Int)] w fun e w' => e = .returned (.iface 66 (.int .i64 21)) ∧ w = w' := by
  obtain ⟨m1, m2, vF, vT, lbF, capF, lvF, lbT, capT, lvT, h1, h2, h3, h4, h5, h6, h7, h8⟩ := h
  have hxl : x < l.length := (List.getElem?_eq_some_iff.1 hx).1
  have hx2 := hid hx
  go_enter Tryd.func28, Tryd.ntmps28
  go_wp2_with fail
  refine (covers_yes sb 2 l.length x _ h8.size hxl).mono ?_
  rintro e w' ⟨rfl, rfl⟩
  go_wp2_with fail
  refine (has_in m1 m2 sb 2 l.length lbT capT x _ lvT _ h8 hxl).mono ?_
  rintro e w' ⟨d, rfl, hd, rfl⟩
  obtain rfl : d = false := by
    cases d with
    | false => rfl
    | true => have h := hd.1 rfl; rw [hx2.out] at h; cases h
  clear hd
  go_wp2_with fail
  go_ret
  exact ⟨rfl, rfl⟩

set_option maxHeartbeats 1000000 in
theorem size_ok (lo hi sb : Nat) (l : List Bool) (w : World) (h : Slots w lo hi sb l) :
    Calls Tryd.prog 29 #[.pointer (some ⟨sb, 0, none⟩)] w fun e w' => e = .returned (.int .i64 (l.length : Int)) ∧ w = w' := by
  have hc := h.cell0
  go_enter Tryd.func29, Tryd.ntmps29
  go_wp2_with fail
  go_ret
  exact ⟨rfl, rfl⟩









end Go.Proofs.YtjkiagjgnfaknaaDoor
