/- What Take, Free and Len of a Slots answer. -/
import Derived.Test.YtjkiagjgnfaknaaDoorSlots
namespace Go.Proofs.YtjkiagjgnfaknaaDoor
open Go.RowKit

theorem Slots.cell0 {w : World} {lo hi sb : Nat} {l : List Bool} (h : Slots w lo hi sb l) : w.cell? ⟨sb, 2, none⟩ = some (.int .i64 (l.length : Int)) := by
  obtain ⟨m1, m2, vF, vT, lbF, capF, lvF, lbT, capT, lvT, h1, h2, h3, h4, h5, h6, h7, h8⟩ := h
  exact h8.size

theorem Slots.cell4 {w : World} {lo hi sb : Nat} {l : List Bool} (h : Slots w lo hi sb l) : w.cell? ⟨sb, 4, none⟩ = some (.int .i64 ((l.count true : Nat) : Int)) := by
  obtain ⟨m1, m2, vF, vT, lbF, capF, lvF, lbT, capT, lvT, h1, h2, h3, h4, h5, h6, h7, h8⟩ := h
  unfold World.cell?; rw [h6]; simp

set_option maxHeartbeats 1000000 in
theorem take_hit (lo hi sb x : Nat) (l : List Bool) (w : World) (h : Slots w lo hi sb l) (hT : Tab w) (hx : Least (fun i => l[i]? = some false) 0 x) :
    Calls Tryd.prog 31 #[.pointer (some ⟨sb, 0, none⟩)] w fun e w' => e = .returned (.tuple #[.int .i64 (x : Int), .nilIface]) ∧ Slots w' lo hi sb (l.set x true) ∧ Within lo hi w w' := by
  have hs := hid h
  obtain ⟨m1, m2, vF, vT, lbF, capF, lvF, lbT, capT, lvT, h1, h2, h3, h4, h5, h6, h7, h8⟩ := h
  go_enter Tryd.func31, Tryd.ntmps31
  go_wp2_with fail
  refine (next_hit lo m1 sb 0 l.length lbF capF 0 x _ lvF _ h7 hT (by omega) hx).mono ?_
  rintro e w' ⟨rfl, rfl⟩
  go_wp2_with fail
  refine (takeIn lo hi sb x l _ hs.out hx.1).mono ?_
  rintro e w2 ⟨rfl, hs2, hw2⟩
  go_wp2_with fail
  go_ret2
  exact ⟨rfl, hs2, hw2⟩

set_option maxHeartbeats 1000000 in
theorem take_full (lo hi sb : Nat) (l : List Bool) (w : World) (h : Slots w lo hi sb l) (hT : Tab w) (hx : ∀ x : Nat, ¬ l[x]? = some false) :
    Calls Tryd.prog 31 #[.pointer (some ⟨sb, 0, none⟩)] w fun e w' => e = .returned (.tuple #[.int .i64 0, .iface 66 (.int .i64 16)]) ∧ w = w' := by
  obtain ⟨m1, m2, vF, vT, lbF, capF, lvF, lbT, capT, lvT, h1, h2, h3, h4, h5, h6, h7, h8⟩ := h
  go_enter Tryd.func31, Tryd.ntmps31
  go_wp2_with fail
  refine (next_miss lo m1 sb 0 l.length lbF capF 0 _ lvF _ h7 hT (by omega) (fun x h => absurd h (hx x))).mono ?_
  rintro e w' ⟨rfl, rfl⟩
  go_wp2_with fail
  go_ret2
  exact ⟨rfl, rfl⟩

set_option maxHeartbeats 1000000 in
theorem free_hit (lo hi sb x : Nat) (l : List Bool) (w : World) (h : Slots w lo hi sb l) (hx : l[x]? = some true) :
    Calls Tryd.prog 28 #[.pointer (some ⟨sb, 0, none⟩), .int .i64 (x : Int)] w fun e w' => e = .returned .nilIface ∧ Slots w' lo hi sb (l.set x false) ∧ Within lo hi w w' := by
  obtain ⟨m1, m2, vF, vT, lbF, capF, lvF, lbT, capT, lvT, h1, h2, h3, h4, h5, h6, h7, h8⟩ := h
  have hxl : x < l.length := (List.getElem?_eq_some_iff.1 hx).1
  have hcnt := hid (count_off l x hx)
  have hcle := hid (List.count_le_length (a := true) (l := l))
  have hll := h7.good.le
  go_enter Tryd.func28, Tryd.ntmps28
  go_wp2_with fail
  refine (covers_yes sb 2 l.length x _ h8.size hxl).mono ?_
  rintro e w' ⟨rfl, rfl⟩
  go_wp2_with fail
  refine (has_in m1 m2 sb 2 l.length lbT capT x _ lvT _ h8 hxl).mono ?_
  rintro e w' ⟨d, rfl, hd, rfl⟩
  obtain rfl : d = true := hd.2 hx
  clear hd
  go_wp2_with fail
  refine (unset m1 m2 sb 2 l.length lbT capT x _ lvT _ h8 hxl).mono ?_
  rintro e w1 ⟨rfl, ⟨lvT', hT⟩, hw1⟩
  have hF1 := h7.of hw1 (Or.inl (Nat.le_refl _)) (Or.inr (by omega))
  go_wp2_with fail
  refine (set_ lo m1 sb 0 l.length lbF capF x _ lvF _ hF1 hxl).mono ?_
  rintro e w2 ⟨rfl, ⟨lvF', hF⟩, hw2⟩
  have hT2 := hT.of hw2 (Or.inr (Nat.le_refl _)) (Or.inr (by omega))
  have hh : w2.heap[sb]? = some (.cells #[.int .i64 (l.length : Int), vF, .int .i64 (l.length : Int), vT, .int .i64 ((l.count true : Nat) : Int)] 91 (0, 0)) := by
    rw [hw2.block sb (by have := hw1.size; omega) (Or.inr (by omega)), hw1.block sb (by omega) (Or.inr (by omega)), h6]
  have hc : w2.cell? ⟨sb, 4, none⟩ = some (.int .i64 ((l.count true : Nat) : Int)) := by unfold World.cell?; rw [hh]; simp
  have hz : w2.frozen? ⟨sb, 4, none⟩ = false := by unfold World.frozen?; rw [hh]; simp
  go_wp2_with fail
  refine (add64 ⟨sb, 4, none⟩ ((l.count true : Nat) : Int) (-1) (((l.set x false).count true : Nat) : Int) _ hc hz (by rw [← hcnt.out]; omega) (by omega) (by have := hcnt.out; have := hcle.out; omega)).mono ?_
  rintro e w3 ⟨rfl, rfl⟩
  have hfin : Hid (Slots (w2.setCell ⟨sb, 4, none⟩ (.int .i64 (((l.set x false).count true : Nat) : Int))) lo hi sb (l.set x false) ∧ Within lo hi w (w2.setCell ⟨sb, 4, none⟩ (.int .i64 (((l.set x false).count true : Nat) : Int)))) := by
    refine ⟨⟨m1, m2, vF, vT, lbF, capF, lvF', lbT, capT, lvT', h1, h2, h3, h4, ?_, ?_, ?_, ?_⟩, ?_⟩
    · have := hw1.size; have := hw2.size; simp; omega
    · unfold World.setCell
      rw [Array.getElem?_modify, if_pos rfl, hh]
      simp
    · rw [List.length_set]
      refine (hF.count (by omega) (by omega) _).same fun y => ?_
      rw [set_is l x y false false hxl]
      by_cases hy : y = x <;> simp [hy]
    · rw [List.length_set]
      refine (hT2.count (by omega) (by omega) _).same fun y => ?_
      rw [set_is l x y false true hxl]
      simp [and_comm]
    · exact ((hw1.mono h1 (by omega)).trans (hw2.mono (Nat.le_refl _) (by omega))).setCell (p := ⟨sb, 4, none⟩) (by simp; omega) h4 _
  clear hF hT hF1 hT2 hw1 hw2 hh hc hz h6 h7 h8
  go_wp2_with fail
  go_ret
  exact ⟨rfl, hfin.out⟩

set_option maxHeartbeats 1000000 in
theorem len_ok (lo hi sb : Nat) (l : List Bool) (w : World) (h : Slots w lo hi sb l) :
    Calls Tryd.prog 32 #[.pointer (some ⟨sb, 0, none⟩)] w fun e w' => e = .returned (.int .i64 ((l.count true : Nat) : Int)) ∧ w = w' := by
  have hc := h.cell4
  go_enter Tryd.func32, Tryd.ntmps32
  go_wp2_with fail
  refine (load64 sb 4 _ _ hc).mono ?_
  rintro e w' ⟨rfl, rfl⟩
  go_wp2_with fail
  go_ret
  exact ⟨rfl, rfl⟩

end Go.Proofs.YtjkiagjgnfaknaaDoor
