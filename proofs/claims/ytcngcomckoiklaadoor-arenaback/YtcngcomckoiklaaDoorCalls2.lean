/- What Claim, Free, Has, Size and Next of a Slots answer. -/
import Derived.Test.YtcngcomckoiklaaDoorCalls
namespace Go.Proofs.YtcngcomckoiklaaDoor
open Go.RowKit

set_option maxHeartbeats 1000000 in
theorem claim_ok (lo hi sb x : Nat) (l : List Bool) (w : World) (h : Slots w lo hi sb l) (hx : l[x]? = some false) :
    Calls Tryd.prog 33 #[.pointer (some ⟨sb, 0, none⟩), .int .i64 (x : Int)] w fun e w' => e = .returned .nilIface ∧ Slots w' lo hi sb (l.set x true) ∧ Within lo hi w w' := by
  have hs := hid h
  obtain ⟨m1, m2, vF, vT, lbF, capF, lvF, lbT, capT, lvT, h1, h2, h3, h4, h5, h6, h7, h8⟩ := h
  have hxl : x < l.length := (List.getElem?_eq_some_iff.1 hx).1
  have hx2 := hid hx
  go_enter Tryd.func33, Tryd.ntmps33
  go_wp2_with fail
  refine (covers_yes sb 2 l.length x _ h8.size hxl).mono ?_
  rintro e w' ⟨rfl, rfl⟩
  go_wp2_with fail
  refine (has_in m1 m2 sb 2 l.length lbT capT x _ lvT _ h8 hxl).mono ?_
  rintro e w' ⟨d, rfl, hd, rfl⟩
  obtain rfl : d = false := by
    cases d with
    | false => rfl
    | true => have h := hd.1 rfl; rw [hx2.out] at h; cases h
  clear hd
  go_wp2_with fail
  refine (takeIn lo hi sb x l _ hs.out hx2.out).mono ?_
  rintro e w2 ⟨rfl, hs2, hw2⟩
  go_wp2_with fail
  go_ret
  exact ⟨rfl, hs2, hw2⟩

set_option maxHeartbeats 1000000 in
theorem claim_same (lo hi sb x : Nat) (l : List Bool) (w : World) (h : Slots w lo hi sb l) (hx : l[x]? = some true) :
    Calls Tryd.prog 33 #[.pointer (some ⟨sb, 0, none⟩), .int .i64 (x : Int)] w fun e w' => e = .returned (.iface 74 (.int .i64 20)) ∧ w = w' := by
  obtain ⟨m1, m2, vF, vT, lbF, capF, lvF, lbT, capT, lvT, h1, h2, h3, h4, h5, h6, h7, h8⟩ := h
  have hxl : x < l.length := (List.getElem?_eq_some_iff.1 hx).1
  go_enter Tryd.func33, Tryd.ntmps33
  go_wp2_with fail
  refine (covers_yes sb 2 l.length x _ h8.size hxl).mono ?_
  rintro e w' ⟨rfl, rfl⟩
  go_wp2_with fail
  refine (has_in m1 m2 sb 2 l.length lbT capT x _ lvT _ h8 hxl).mono ?_
  rintro e w' ⟨d, rfl, hd, rfl⟩
  obtain rfl : d = true := hd.2 hx
  clear hd
  go_wp2_with fail
  go_ret
  exact ⟨rfl, rfl⟩

theorem covers_out (sb so n : Nat) (X : Int) (w : World) (hs : w.cell? ⟨sb, so, none⟩ = some (.int .i64 (n : Int))) (hx : X < 0 ∨ (n : Int) ≤ X) :
    Calls Tryd.prog 46 #[.pointer (some ⟨sb, so, none⟩), .int .i64 X] w fun e w' => e = .returned (.bool false) ∧ w = w' := by
  rcases hx with h | h
  · exact covers_low sb so X w h
  · exact covers_high sb so n X w hs h

set_option maxHeartbeats 1000000 in
theorem claim_out (lo hi sb : Nat) (X : Int) (l : List Bool) (w : World) (h : Slots w lo hi sb l) (hx : X < 0 ∨ (l.length : Int) ≤ X) :
    Calls Tryd.prog 33 #[.pointer (some ⟨sb, 0, none⟩), .int .i64 X] w fun e w' => e = .returned (.iface 74 (.int .i64 12)) ∧ w = w' := by
  have hc := covers_out sb 2 l.length X w h.cell0 hx
  go_enter Tryd.func33, Tryd.ntmps33
  go_wp2_with fail
  refine hc.mono ?_
  rintro e w' ⟨rfl, rfl⟩
  go_wp2_with fail
  go_ret
  exact ⟨rfl, rfl⟩

set_option maxHeartbeats 1000000 in
theorem free_out (lo hi sb : Nat) (X : Int) (l : List Bool) (w : World) (h : Slots w lo hi sb l) (hx : X < 0 ∨ (l.length : Int) ≤ X) :
    Calls Tryd.prog 39 #[.pointer (some ⟨sb, 0, none⟩), .int .i64 X] w fun e w' => e = .returned (.iface 74 (.int .i64 12)) ∧ w = w' := by
  have hc := covers_out sb 2 l.length X w h.cell0 hx
  go_enter Tryd.func39, Tryd.ntmps39
  go_wp2_with fail
  refine hc.mono ?_
  rintro e w' ⟨rfl, rfl⟩
  go_wp2_with fail
  go_ret
  exact ⟨rfl, rfl⟩

set_option maxHeartbeats 1000000 in
theorem free_apart (lo hi sb x : Nat) (l : List Bool) (w : World) (h : Slots w lo hi sb l) (hx : l[x]? = some false) :
    Calls Tryd.prog 39 #[.pointer (some ⟨sb, 0, none⟩), .int .i64 (x : Int)] w fun e w' => e = .returned (.iface 74 (.int .i64 21)) ∧ w = w' := by
  obtain ⟨m1, m2, vF, vT, lbF, capF, lvF, lbT, capT, lvT, h1, h2, h3, h4, h5, h6, h7, h8⟩ := h
  have hxl : x < l.length := (List.getElem?_eq_some_iff.1 hx).1
  have hx2 := hid hx
  go_enter Tryd.func39, Tryd.ntmps39
  go_wp2_with fail
  refine (covers_yes sb 2 l.length x _ h8.size hxl).mono ?_
  rintro e w' ⟨rfl, rfl⟩
  go_wp2_with fail
  refine (has_in m1 m2 sb 2 l.length lbT capT x _ lvT _ h8 hxl).mono ?_
  rintro e w' ⟨d, rfl, hd, rfl⟩
  obtain rfl : d = false := by
    cases d with
    | false => rfl
    | true => have h := hd.1 rfl; rw [hx2.out] at h; cases h
  clear hd
  go_wp2_with fail
  go_ret
  exact ⟨rfl, rfl⟩

set_option maxHeartbeats 1000000 in
theorem size_ok (lo hi sb : Nat) (l : List Bool) (w : World) (h : Slots w lo hi sb l) :
    Calls Tryd.prog 37 #[.pointer (some ⟨sb, 0, none⟩)] w fun e w' => e = .returned (.int .i64 (l.length : Int)) ∧ w = w' := by
  have hc := h.cell0
  go_enter Tryd.func37, Tryd.ntmps37
  go_wp2_with fail
  go_ret
  exact ⟨rfl, rfl⟩

set_option maxHeartbeats 1000000 in
theorem nextS_nat (lo hi sb f : Nat) (l : List Bool) (w : World) (h : Slots w lo hi sb l) (hT : Tab w) (hf : f < 9223372036854775808) :
    Calls Tryd.prog 35 #[.pointer (some ⟨sb, 0, none⟩), .int .i64 (f : Int)] w fun e w' => Nexts (fun i => l[i]? = some true) f e ∧ w = w' := by
  obtain ⟨m1, m2, vF, vT, lbF, capF, lvF, lbT, capT, lvT, h1, h2, h3, h4, h5, h6, h7, h8⟩ := h
  by_cases hn : ∃ x, Least (fun i => l[i]? = some true) f x
  · obtain ⟨x, hx⟩ := hn
    have hx2 := hid hx
    go_enter Tryd.func35, Tryd.ntmps35
    go_wp2_with fail
    refine (next_hit m1 m2 sb 2 l.length lbT capT f x _ lvT _ h8 hT hf hx).mono ?_
    rintro e w' ⟨rfl, rfl⟩
    clear hx
    go_wp2_with fail
    go_ret2
    exact ⟨Or.inl ⟨x, rfl, hx2.out⟩, rfl⟩
  · have hno : ∀ x : Nat, l[x]? = some true → ¬ f ≤ x := fun x hx hf => hn (least_is x hx hf)
    have hx2 := hid hno
    go_enter Tryd.func35, Tryd.ntmps35
    go_wp2_with fail
    refine (next_miss m1 m2 sb 2 l.length lbT capT f _ lvT _ h8 hT hf hno).mono ?_
    rintro e w' ⟨rfl, rfl⟩
    clear hno hn
    go_wp2_with fail
    go_ret2
    exact ⟨Or.inr ⟨rfl, hx2.out⟩, rfl⟩

theorem nextS_hit (lo hi sb f x : Nat) (l : List Bool) (w : World) (h : Slots w lo hi sb l) (hT : Tab w) (hf : f < 9223372036854775808) (hx : Least (fun i => l[i]? = some true) f x) :
    Calls Tryd.prog 35 #[.pointer (some ⟨sb, 0, none⟩), .int .i64 (f : Int)] w fun e w' => e = .returned (.tuple #[.int .i64 (x : Int), .bool true]) ∧ w = w' := by
  refine (nextS_nat lo hi sb f l w h hT hf).mono ?_
  rintro e w' ⟨(⟨y, rfl, hy⟩ | ⟨_, h⟩), rfl⟩
  · obtain rfl : y = x := Nat.le_antisymm (hy.2.2 x hx.1 hx.2.1) (hx.2.2 y hy.1 hy.2.1)
    exact ⟨rfl, rfl⟩
  · exact absurd hx.2.1 (h x hx.1)

theorem nextS_miss (lo hi sb f : Nat) (l : List Bool) (w : World) (h : Slots w lo hi sb l) (hT : Tab w) (hf : f < 9223372036854775808) (hx : ∀ x : Nat, l[x]? = some true → ¬ f ≤ x) :
    Calls Tryd.prog 35 #[.pointer (some ⟨sb, 0, none⟩), .int .i64 (f : Int)] w fun e w' => e = .returned (.tuple #[.int .i64 0, .bool false]) ∧ w = w' := by
  refine (nextS_nat lo hi sb f l w h hT hf).mono ?_
  rintro e w' ⟨(⟨y, rfl, hy⟩ | ⟨rfl, h⟩), rfl⟩
  · exact absurd hy.2.1 (hx y hy.1)
  · exact ⟨rfl, rfl⟩

set_option maxHeartbeats 1000000 in
theorem nextS_neg (lo hi sb : Nat) (F : Int) (l : List Bool) (w : World) (h : Slots w lo hi sb l) (hT : Tab w) (hF : F < 0) (e0 : Ending) (he : Nexts (fun i => l[i]? = some true) 0 e0) :
    Calls Tryd.prog 35 #[.pointer (some ⟨sb, 0, none⟩), .int .i64 F] w fun e w' => e = e0 ∧ w = w' := by
  obtain ⟨m1, m2, vF, vT, lbF, capF, lvF, lbT, capT, lvT, h1, h2, h3, h4, h5, h6, h7, h8⟩ := h
  have hc : Calls Tryd.prog 53 #[.pointer (some ⟨sb, 2, none⟩), .int .i64 F] w fun e w' => e = e0 ∧ w = w' := by
    refine (next_neg m1 m2 sb 2 l.length lbT capT F _ lvT w h8 hT hF).mono ?_
    rintro e w' ⟨hn, rfl⟩
    refine ⟨?_, rfl⟩
    rcases hn with ⟨x, rfl, hx⟩ | ⟨rfl, hx⟩ <;> rcases he with ⟨y, rfl, hy⟩ | ⟨rfl, hy⟩
    · obtain rfl : x = y := Nat.le_antisymm (hx.2.2 y hy.1 hy.2.1) (hy.2.2 x hx.1 hx.2.1)
      rfl
    · exact absurd hx.2.1 (hy x hx.1)
    · exact absurd hy.2.1 (hx y hy.1)
    · rfl
  rcases he with ⟨y, rfl, hy⟩ | ⟨rfl, hy⟩
  · go_enter Tryd.func35, Tryd.ntmps35
    go_wp2_with fail
    refine hc.mono ?_
    rintro e w' ⟨rfl, rfl⟩
    go_wp2_with fail
    go_ret2
    exact ⟨rfl, rfl⟩
  · go_enter Tryd.func35, Tryd.ntmps35
    go_wp2_with fail
    refine hc.mono ?_
    rintro e w' ⟨rfl, rfl⟩
    go_wp2_with fail
    go_ret2
    exact ⟨rfl, rfl⟩

end Go.Proofs.YtcngcomckoiklaaDoor
