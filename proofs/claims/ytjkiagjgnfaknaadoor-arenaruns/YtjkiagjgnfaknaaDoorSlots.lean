/- A Slots in memory, and what its calls answer: New, Take, Free, Len. -/
import Derived.Test.YtjkiagjgnfaknaaDoorFill
import Derived.Test.YtjkiagjgnfaknaaDoorUnset
import Derived.Test.YtjkiagjgnfaknaaDoorNewWalk
import Derived.Laws.LoneSync
namespace Go.Proofs.YtjkiagjgnfaknaaDoor
open Go.RowKit

/-- What Slots holds: block sb, from lo to hi its own blocks; of the places those of l that are true are taken. -/
def Slots (w : World) (lo hi sb : Nat) (l : List Bool) : Prop :=
  ∃ m1 m2 vF vT lbF capF lvF lbT capT lvT, lo ≤ m1 ∧ m1 ≤ m2 ∧ m2 ≤ sb ∧ sb < hi ∧ hi ≤ w.heap.size ∧
    w.heap[sb]? = some (.cells #[.int .i64 (l.length : Int), vF, .int .i64 (l.length : Int), vT, .int .i64 ((l.count true : Nat) : Int)] 91 (0, 0)) ∧
    Marks w lo m1 sb 0 l.length (fun i => l[i]? = some false) lbF capF lvF ∧ Marks w m1 m2 sb 2 l.length (fun i => l[i]? = some true) lbT capT lvT

theorem Slots.pos {w : World} {lo hi sb : Nat} {l : List Bool} (h : Slots w lo hi sb l) : 1 ≤ l.length ∧ l.length ≤ 1048576 ∧ hi ≤ w.heap.size ∧ lo ≤ sb ∧ sb < hi := by
  obtain ⟨m1, m2, vF, vT, lbF, capF, lvF, lbT, capT, lvT, h1, h2, h3, h4, h5, h6, h7, h8⟩ := h
  exact ⟨h7.good.pos, h7.good.le, h5, by omega, h4⟩

theorem Slots.of {w w' : World} {lo hi sb lo' hi' : Nat} {l : List Bool} (h : Slots w lo hi sb l) (hw : Within lo' hi' w w') (ho : hi ≤ lo' ∨ hi' ≤ lo) : Slots w' lo hi sb l := by
  obtain ⟨m1, m2, vF, vT, lbF, capF, lvF, lbT, capT, lvT, h1, h2, h3, h4, h5, h6, h7, h8⟩ := h
  exact ⟨m1, m2, vF, vT, lbF, capF, lvF, lbT, capT, lvT, h1, h2, h3, h4, Nat.le_trans h5 hw.size, (hw.block sb (by omega) (by omega)).trans h6, h7.of hw (by omega) (by omega), h8.of hw (by omega) (by omega)⟩

theorem Marks.count {w : World} {lo hi sb so n lb cap : Nat} {P : Nat → Prop} {lv : List (Nat × List Nat)} (h : Marks w lo hi sb so n P lb cap lv) (hs : hi ≤ sb) (h4 : so + 1 < 4) (v : Value) : Marks (w.setCell ⟨sb, 4, none⟩ v) lo hi sb so n P lb cap lv := by
  refine ⟨?_, ?_, h.out, h.rep.of ((Within.refl sb (sb + 1) w).setCell (p := ⟨sb, 4, none⟩) (Nat.le_refl _) (Nat.lt_succ_self _) v) (Or.inl hs), h.good⟩
  · rw [World.cell?_setCell_other _ _ _ _ (by simp <;> omega)]; exact h.size
  · rw [World.cell?_setCell_other _ _ _ _ (by simp <;> omega)]; exact h.levels

theorem Marks.same {w : World} {lo hi sb so n lb cap : Nat} {P Q : Nat → Prop} {lv : List (Nat × List Nat)} (h : Marks w lo hi sb so n P lb cap lv) (e : ∀ x, P x ↔ Q x) : Marks w lo hi sb so n Q lb cap lv :=
  ⟨h.size, h.levels, h.out, h.rep, h.good.congr e⟩

theorem count_on (l : List Bool) (x : Nat) (h : l[x]? = some false) : (l.set x true).count true = l.count true + 1 := by
  obtain ⟨hx, e⟩ := List.getElem?_eq_some_iff.1 h
  rw [List.count_set hx, e]
  simp
theorem count_off (l : List Bool) (x : Nat) (h : l[x]? = some true) : (l.set x false).count true + 1 = l.count true := by
  obtain ⟨hx, e⟩ := List.getElem?_eq_some_iff.1 h
  have hp : 0 < l.count true := List.count_pos_iff.2 (List.mem_of_getElem? h)
  rw [List.count_set hx, e]
  simp
  omega

theorem set_is (l : List Bool) (x y : Nat) (a b : Bool) (hx : x < l.length) : (l.set x a)[y]? = some b ↔ (y = x ∧ a = b) ∨ (y ≠ x ∧ l[y]? = some b) := by
  rw [List.getElem?_set]
  by_cases h : x = y
  · subst h; simp [hx]
  · have h' : ¬ y = x := fun e => h e.symm
    simp [h, h']

set_option maxHeartbeats 1000000 in
theorem add64 (a : Addr) (x d s : Int) (w : World) (hc : w.cell? a = some (.int .i64 x)) (hz : w.frozen? a = false) (hs : x + d = s) (h1 : -9223372036854775808 ≤ s) (h2 : s < 9223372036854775808) :
    Calls Tryd.prog 47 #[.pointer (some a), .int .i64 d] w fun e w' => e = .returned (.int .i64 s) ∧ w' = w.setCell a (.int .i64 s) := by
  have hx := run_call_add (P := Tryd.prog) Tryd.func54 (by kernel_rfl) (by kernel_rfl) (by kernel_rfl) .i64 (by kernel_rfl) (y := d) (s := s) hc hz (by simp [go_sem]; rw [IntKind.wrap_i64]; omega)
  obtain ⟨b, o, sp⟩ := a
  obtain rfl : sp = none := by
    unfold World.cell? at hc
    split at hc
    · split at hc
      · cases hc
      · rename_i h; simpa using h
    · cases hc
  go_enter Tryd.func47, Tryd.ntmps47
  go_wp2
  go_ret
  exact ⟨rfl, rfl⟩

set_option maxHeartbeats 1000000 in
theorem load64 (b o : Nat) (x : Int) (w : World) (hc : w.cell? ⟨b, o, none⟩ = some (.int .i64 x)) :
    Calls Tryd.prog 49 #[.pointer (some ⟨b, o, none⟩)] w fun e w' => e = .returned (.int .i64 x) ∧ w = w' := by
  have hx := run_call_load (P := Tryd.prog) Tryd.func57 (by kernel_rfl) (by kernel_rfl) (by kernel_rfl) .i64 (by kernel_rfl) hc
  go_enter Tryd.func49, Tryd.ntmps49
  go_wp2
  go_ret
  exact ⟨rfl, rfl⟩

theorem least_is {P : Nat → Prop} {f : Nat} : ∀ x, P x → f ≤ x → ∃ y, Least P f y := by
  intro x
  induction x using Nat.strongRecOn with
  | ind x ih =>
    intro hx hf
    by_cases h : ∃ y, y < x ∧ P y ∧ f ≤ y
    · obtain ⟨y, hy, hp, hfy⟩ := h
      exact ih y hy hp hfy
    · exact ⟨x, hx, hf, fun y hy hfy => by
        rcases Nat.lt_or_ge y x with h1 | h1
        · exact absurd ⟨y, h1, hy, hfy⟩ h
        · exact h1⟩

theorem next_hit (lo hi sb so n lb cap f x : Nat) (P : Nat → Prop) (lv : List (Nat × List Nat)) (w : World) (hm : Marks w lo hi sb so n P lb cap lv) (hT : Tab w) (hfb : f < 9223372036854775808) (hx : Least P f x) :
    Calls Tryd.prog 48 #[.pointer (some ⟨sb, so, none⟩), .int .i64 (f : Int)] w fun e w' => e = .returned (.tuple #[.int .i64 (x : Int), .bool true]) ∧ w = w' := by
  refine (next_nat lo hi sb so n lb cap f P lv w hm hT hfb).mono ?_
  rintro e w' ⟨(⟨y, rfl, hy⟩ | ⟨_, h⟩), rfl⟩
  · obtain rfl : y = x := Nat.le_antisymm (hy.2.2 x hx.1 hx.2.1) (hx.2.2 y hy.1 hy.2.1)
    exact ⟨rfl, rfl⟩
  · exact absurd hx.2.1 (h x hx.1)

theorem next_miss (lo hi sb so n lb cap f : Nat) (P : Nat → Prop) (lv : List (Nat × List Nat)) (w : World) (hm : Marks w lo hi sb so n P lb cap lv) (hT : Tab w) (hfb : f < 9223372036854775808) (hx : ∀ x, P x → ¬ f ≤ x) :
    Calls Tryd.prog 48 #[.pointer (some ⟨sb, so, none⟩), .int .i64 (f : Int)] w fun e w' => e = .returned (.tuple #[.int .i64 0, .bool false]) ∧ w = w' := by
  refine (next_nat lo hi sb so n lb cap f P lv w hm hT hfb).mono ?_
  rintro e w' ⟨(⟨y, rfl, hy⟩ | ⟨rfl, h⟩), rfl⟩
  · exact absurd hy.2.1 (hx y hy.1)
  · exact ⟨rfl, rfl⟩

/-- The struct is laid behind both marks. -/
theorem made {w w1 w2 : World} {n lbF capF lbT capT : Nat} {lvF lvT : List (Nat × List Nat)} (hr1 : Rep w1 w.heap.size w1.heap.size lbF lvF) (hg1 : Good (lvF.map (·.2)) n (fun _ => False)) (hb1 : Below w.heap.size w w1)
    (hr2 : Rep w2 w1.heap.size w2.heap.size lbT lvT) (hg2 : Good (lvT.map (·.2)) n (fun _ => False)) (hb2 : Below w1.heap.size w1 w2) {w3 : World}
    (h3 : w3 = w2.alloc (.cells #[.int .i64 (n : Int), .slice (some ⟨lbF, 0, none⟩) lvF.length capF, .int .i64 (n : Int), .slice (some ⟨lbT, 0, none⟩) lvT.length capT, .int .i64 0] 91)) :
    w3.heap[w2.heap.size]? = some (.cells #[.int .i64 (n : Int), .slice (some ⟨lbF, 0, none⟩) lvF.length capF, .int .i64 (n : Int), .slice (some ⟨lbT, 0, none⟩) lvT.length capT, .int .i64 0] 91 (0, 0)) ∧
    Marks w3 w.heap.size w1.heap.size w2.heap.size 0 n (fun _ => False) lbF capF lvF ∧ Marks w3 w1.heap.size w2.heap.size w2.heap.size 2 n (fun _ => False) lbT capT lvT ∧ Below w.heap.size w w3 := by
  have hh : w3.heap[w2.heap.size]? = some (.cells #[.int .i64 (n : Int), .slice (some ⟨lbF, 0, none⟩) lvF.length capF, .int .i64 (n : Int), .slice (some ⟨lbT, 0, none⟩) lvT.length capT, .int .i64 0] 91 (0, 0)) := by
    rw [h3]; exact heap_alloc_new w2 _
  have hc : ∀ i, w3.cell? ⟨w2.heap.size, i, none⟩ = (#[.int .i64 (n : Int), .slice (some ⟨lbF, 0, none⟩) lvF.length capF, .int .i64 (n : Int), .slice (some ⟨lbT, 0, none⟩) lvT.length capT, .int .i64 0] : Array Value)[i]? := by
    intro i
    unfold World.cell?
    rw [hh]
    simp
  have hw2 : Within w1.heap.size w1.heap.size w1 w2 := Within.ofBelow hb2 _ _
  have hw3 : Within w2.heap.size w2.heap.size w2 w3 := by rw [h3]; exact (Within.refl _ _ _).alloc _
  have hs1 := hb1.size
  have hs2 := hb2.size
  refine ⟨hh, ⟨by rw [hc]; rfl, by rw [hc]; rfl, Or.inr hs2, (hr1.of hw2 (Or.inl (Nat.le_refl _))).of hw3 (Or.inl hs2), hg1⟩, ⟨by rw [hc]; rfl, by rw [hc]; rfl, Or.inr (Nat.le_refl _), hr2.of hw3 (Or.inl (Nat.le_refl _)), hg2⟩, ?_⟩
  rw [h3]
  exact (hb1.trans (hb2.mono hs1)).alloc (Nat.le_trans hs1 hs2) _

theorem count_none (n : Nat) : (List.replicate n false).count true = 0 := by rw [List.count_replicate]; rfl

set_option maxRecDepth 100000 in
set_option maxHeartbeats 2000000 in
theorem new_ok (n : Nat) (w : World) (h1 : 1 ≤ n) (hn : n ≤ 1048576) :
    Calls Tryd.prog 22 #[.int .i64 (n : Int)] w fun e w' => ∃ sb, e = .returned (.tuple #[.pointer (some ⟨sb, 0, none⟩), .nilIface]) ∧ Slots w' w.heap.size w'.heap.size sb (List.replicate n false) ∧ Below w.heap.size w w' := by
  go_enter Tryd.func22, Tryd.ntmps22
  go_wp2_with fail
  refine (newMarks n _ h1 hn).mono ?_
  rintro e w1 ⟨lbF, capF, lvF, rfl, hr1, hg1, hb1⟩
  go_wp2_with fail
  refine (newMarks n _ h1 hn).mono ?_
  rintro e w2 ⟨lbT, capT, lvT, rfl, hr2, hg2, hb2⟩
  go_wp2_with fail
  obtain ⟨hh, hmF, hmT, hb3⟩ := made (capF := capF) (capT := capT) hr1 hg1 hb1 hr2 hg2 hb2 rfl
  have hs1 := hb1.size
  have hs2 := hb2.size
  refine (fill w.heap.size w1.heap.size w2.heap.size 0 n lbF capF lvF _ hmF).mono ?_
  rintro e w4 ⟨rfl, ⟨lvF', hmF'⟩, hw4⟩
  have hfin : Hid (Slots w4 w.heap.size w4.heap.size w2.heap.size (List.replicate n false) ∧ Below w.heap.size w w4) := by
    have hsz := hw4.size
    simp at hsz
    refine ⟨⟨w1.heap.size, w2.heap.size, .slice (some ⟨lbF, 0, none⟩) lvF.length capF, .slice (some ⟨lbT, 0, none⟩) lvT.length capT, lbF, capF, lvF', lbT, capT, lvT, hs1, hs2, Nat.le_refl _, by omega, Nat.le_refl _, ?_, ?_, ?_⟩, hb3.trans (hw4.below (Nat.le_refl _) (by simp; omega))⟩
    · rw [hw4.block _ (by simp) (Or.inr hs2), hh, count_none, List.length_replicate]
      rfl
    · rw [List.length_replicate]
      exact hmF'.same fun x => by rw [List.getElem?_replicate]; simp
    · rw [List.length_replicate]
      exact (hmT.of hw4 (Or.inr (Nat.le_refl _)) (Or.inr hs2)).same fun x => by rw [List.getElem?_replicate]; simp
  clear hh hmF hmT hb3 hmF' hr1 hr2 hg1 hg2 hb1 hb2 hw4
  go_wp2_with fail
  go_ret2
  exact ⟨w2.heap.size, rfl, hfin.out⟩

set_option maxHeartbeats 1000000 in
theorem takeIn (lo hi sb x : Nat) (l : List Bool) (w : World) (h : Slots w lo hi sb l) (hx : l[x]? = some false) :
    Calls Tryd.prog 40 #[.pointer (some ⟨sb, 0, none⟩), .int .i64 (x : Int)] w fun e w' => e = .returned (.tuple #[]) ∧ Slots w' lo hi sb (l.set x true) ∧ Within lo hi w w' := by
  obtain ⟨m1, m2, vF, vT, lbF, capF, lvF, lbT, capT, lvT, h1, h2, h3, h4, h5, h6, h7, h8⟩ := h
  have hxl : x < l.length := (List.getElem?_eq_some_iff.1 hx).1
  have hcnt := hid (count_on l x hx)
  have hcle := hid (List.count_le_length (a := true) (l := l))
  have hll := h7.good.le
  go_enter Tryd.func40, Tryd.ntmps40
  go_wp2_with fail
  refine (unset lo m1 sb 0 l.length lbF capF x _ lvF _ h7 hxl).mono ?_
  rintro e w1 ⟨rfl, ⟨lvF', hF⟩, hw1⟩
  have hT1 := h8.of hw1 (Or.inr (Nat.le_refl _)) (Or.inr (by omega))
  go_wp2_with fail
  refine (set_ m1 m2 sb 2 l.length lbT capT x _ lvT _ hT1 hxl).mono ?_
  rintro e w2 ⟨rfl, ⟨lvT', hT⟩, hw2⟩
  have hF2 := hF.of hw2 (Or.inl (Nat.le_refl _)) (Or.inr (by omega))
  have hh : w2.heap[sb]? = some (.cells #[.int .i64 (l.length : Int), vF, .int .i64 (l.length : Int), vT, .int .i64 ((l.count true : Nat) : Int)] 91 (0, 0)) := by
    rw [hw2.block sb (by have := hw1.size; omega) (Or.inr (by omega)), hw1.block sb (by omega) (Or.inr (by omega)), h6]
  have hc : w2.cell? ⟨sb, 4, none⟩ = some (.int .i64 ((l.count true : Nat) : Int)) := by unfold World.cell?; rw [hh]; simp
  have hz : w2.frozen? ⟨sb, 4, none⟩ = false := by unfold World.frozen?; rw [hh]; simp
  go_wp2_with fail
  refine (add64 ⟨sb, 4, none⟩ ((l.count true : Nat) : Int) 1 (((l.set x true).count true : Nat) : Int) _ hc hz (by rw [hcnt.out]; omega) (by omega) (by have := hcnt.out; have := hcle.out; omega)).mono ?_
  rintro e w3 ⟨rfl, rfl⟩
  have hfin : Hid (Slots (w2.setCell ⟨sb, 4, none⟩ (.int .i64 (((l.set x true).count true : Nat) : Int))) lo hi sb (l.set x true) ∧ Within lo hi w (w2.setCell ⟨sb, 4, none⟩ (.int .i64 (((l.set x true).count true : Nat) : Int)))) := by
    refine ⟨⟨m1, m2, vF, vT, lbF, capF, lvF', lbT, capT, lvT', h1, h2, h3, h4, ?_, ?_, ?_, ?_⟩, ?_⟩
    · have := hw1.size; have := hw2.size; simp; omega
    · unfold World.setCell
      rw [Array.getElem?_modify, if_pos rfl, hh]
      simp
    · rw [List.length_set]
      refine (hF2.count (by omega) (by omega) _).same fun y => ?_
      rw [set_is l x y true false hxl]
      simp [and_comm]
    · rw [List.length_set]
      refine (hT.count (by omega) (by omega) _).same fun y => ?_
      rw [set_is l x y true true hxl]
      by_cases hy : y = x <;> simp [hy]
    · exact ((hw1.mono (Nat.le_refl _) (by omega)).trans (hw2.mono h1 (by omega))).setCell (p := ⟨sb, 4, none⟩) (by simp; omega) h4 _
  clear hF hT hF2 hT1 hw1 hw2 hh hc hz h6 h7 h8
  go_wp2_with fail
  go_end0
  exact ⟨rfl, hfin.out⟩

end Go.Proofs.YtjkiagjgnfaknaaDoor
