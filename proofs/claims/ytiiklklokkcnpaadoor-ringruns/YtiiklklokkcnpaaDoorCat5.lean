/- The library's Concat, walked. -/
import Derived.Test.YtiiklklokkcnpaaDoorSlib5
namespace Go.Proofs.YtiiklklokkcnpaaDoor
open Go.RowKit
set_option linter.unusedVariables false

set_option maxRecDepth 100000 in
set_option maxHeartbeats 4000000 in
theorem concat_ok (sb : Nat) (a1 a2 : Addr) (c1 c2 : Nat) (l1 l2 : List Nat) (w : World) (hs : w.heap[sb]? = some (.cells #[.slice (some a1) l1.length c1, .slice (some a2) l2.length c2] 47 (0, 0))) (h1 : Sl w a1 l1) (h2 : Sl w a2 l2) (hp : 1 ≤ l1.length + l2.length) (hl : l1.length + l2.length ≤ 16777240) :
    Calls Tryd.prog 40 #[.slice (some ⟨sb, 0, none⟩) 2 2] w fun e w' => ∃ u, e = .returned u ∧ w'.ownsRow w.heap.size 3 1 u (l1 ++ l2).length ((l1 ++ l2).map itm) ∧ Below w.heap.size w w' := by
  obtain ⟨i0, hif, hz0, hz1, hz2⟩ := info_parts infoInt
  have hcs : ∀ y, Below w.heap.size w y → y.cell? ⟨sb, 0, none⟩ = some (.slice (some a1) l1.length c1) ∧ y.cell? ⟨sb, 1, none⟩ = some (.slice (some a2) l2.length c2) := fun y hy => by
    have e := (hy.block sb (Array.getElem?_eq_some_iff.1 hs).1).trans hs
    constructor <;> (unfold World.cell?; rw [e]; simp)
  obtain ⟨q1, q2⟩ := hcs w (Below.refl _ _)
  replace hcs := hid hcs
  replace h1 := hid h1
  replace h2 := hid h2
  obtain ⟨n1, hn1⟩ : ∃ k, l1.length = k := ⟨_, rfl⟩
  obtain ⟨n2, hn2⟩ : ∃ k, l2.length = k := ⟨_, rfl⟩
  rw [hn1, hn2] at hcs hp hl
  rw [hn1] at q1
  rw [hn2] at q2
  replace hn1 := hid hn1
  replace hn2 := hid hn2
  clear hs
  go_enter Tryd.func40, Tryd.ntmps40
  go_wp2_with fail
  go_loopw [3, 5, 11] (fun s _ u wr => ∃ k z : Nat, k ≤ 2 ∧ u = .int .i64 (k : Int) ∧ s = .int .i64 (z : Int) ∧ Hid (z = if k = 0 then 0 else if k = 1 then n1 else n1 + n2) ∧ z ≤ n1 + n2 ∧ w = wr) (fun _ _ u _ => 2 - (intOf u).toNat)
  case atStart => exact ⟨0, 0, by omega, by go_num, by go_num, hid rfl, by omega, rfl⟩
  case round =>
    obtain ⟨k, z, hk, rfl, rfl, hz, hzl, rfl⟩ := hrel
    have hkc : k = 0 ∨ k = 1 ∨ k = 2 := by omega
    rcases hkc with rfl | rfl | rfl
    · obtain rfl : z = 0 := hz.out
      go_wp2_with fail
      go_roundw
      case rel => exact ⟨1, n1, by omega, by go_num, by go_num, hid rfl, by omega, by trivial⟩
      case measure => simp [intOf]
    · obtain rfl : n1 = z := hz.out.symm
      have t1 : decide ((n1 : Int) + (n2 : Int) < 0) = false := decide_eq_false (by omega)
      go_wp2_with fail
      go_roundw
      case rel => exact ⟨2, n1 + n2, by omega, by go_num, by go_num, hid rfl, by omega, by trivial⟩
      case measure => simp [intOf]
    · replace hz := hz.out
      simp at hz
      have hg := hid (grow_ok z w (by omega) (by omega))
      replace hz := hid hz
      go_wp2_with fail
      refine hg.out.mono ?_
      rintro e w1 ⟨u1, rfl, ho1, b1⟩
      have st1 := hid (And.intro ho1 b1)
      clear hg ho1 b1
      go_wp2_with fail
      go_loopw [6, 8, 27] (fun o _ u wr => ∃ k : Nat, k ≤ 2 ∧ u = .int .i64 (k : Int) ∧ Hid (∃ done, (k = 0 → done = []) ∧ (k = 1 → done = l1) ∧ (k = 2 → done = l1 ++ l2) ∧ wr.ownsRow w.heap.size 3 1 o done.length (done.map itm) ∧ Below w.heap.size w wr)) (fun _ _ u _ => 2 - (intOf u).toNat)
      case atStart => exact ⟨0, by omega, by go_num, hid ⟨[], fun _ => rfl, (fun e => by cases e), (fun e => by cases e), st1.out.1, st1.out.2⟩⟩
      case round =>
        clear st1
        obtain ⟨k, hk, rfl, hst⟩ := hrel
        have hkc : k = 0 ∨ k = 1 ∨ k = 2 := by omega
        rcases hkc with rfl | rfl | rfl
        · obtain ⟨done, hd, _, _, ho, hb⟩ := hst.out
          have ho : wr.ownsRow w.heap.size 3 1 u6 0 [] := by have := ho; rw [hd rfl] at this; exact this
          obtain ⟨q3, q4⟩ := hcs.out wr hb
          have hn := h1.out.below hb
          have hsz := hb.size
          go_wp2_with (at_builtin; refine wpList_append_own wr rfl (.tmp 31) (.tmp 32) 47 rfl w.heap.size 3 i0 _ 1 8 Tryd.underlying47 hif hz0 hz1 hz2 rfl (by decide) _ _ _ rfl ho a1 n1 c1 (l1.map itm) rfl (by simp [hn1.out]) hn (itm_one _) (by unfold maxLen; omega) (by omega) hsz ?_; intro v5 w5 ho5 hg5 _; refine Hid.out ?_)
          have st5 : Hid (∃ done, ((1 : Nat) = 0 → done = []) ∧ ((1 : Nat) = 1 → done = l1) ∧ ((1 : Nat) = 2 → done = l1 ++ l2) ∧ w5.ownsRow w.heap.size 3 1 v5 done.length (done.map itm) ∧ Below w.heap.size w w5) := hid ⟨l1, (fun e => by cases e), fun _ => rfl, (fun e => by cases e), by rw [hn1.out, ← List.nil_append (l1.map itm), ← Nat.zero_add n1]; exact ho5, below_grown hb (Nat.le_refl _) ho (Nat.le_refl _) hg5⟩
          clear ho hb ho5 hg5 q3 q4 hn hst
          refine hid ?_
          go_wp2_with fail
          go_roundw
          case rel => exact ⟨1, by omega, by go_num, st5⟩
          case measure => simp [intOf]
        · obtain ⟨done, _, hd, _, ho, hb⟩ := hst.out
          have ho : wr.ownsRow w.heap.size 3 1 u6 n1 (l1.map itm) := by have := ho; rw [hd rfl, hn1.out] at this; exact this
          obtain ⟨q3, q4⟩ := hcs.out wr hb
          have hn := h2.out.below hb
          have hsz := hb.size
          go_wp2_with (at_builtin; refine wpList_append_own wr rfl (.tmp 31) (.tmp 32) 47 rfl w.heap.size 3 i0 _ 1 8 Tryd.underlying47 hif hz0 hz1 hz2 rfl (by decide) _ _ _ rfl ho a2 n2 c2 (l2.map itm) rfl (by simp [hn2.out]) hn (itm_one _) (by unfold maxLen; omega) (by omega) hsz ?_; intro v5 w5 ho5 hg5 _; refine Hid.out ?_)
          have st5 : Hid (∃ done', ((2 : Nat) = 0 → done' = []) ∧ ((2 : Nat) = 1 → done' = l1) ∧ ((2 : Nat) = 2 → done' = l1 ++ l2) ∧ w5.ownsRow w.heap.size 3 1 v5 done'.length (done'.map itm) ∧ Below w.heap.size w w5) := hid ⟨l1 ++ l2, (fun e => by cases e), (fun e => by cases e), fun _ => rfl, by rw [List.length_append, hn1.out, hn2.out, List.map_append]; exact ho5, below_grown hb (Nat.le_refl _) ho (Nat.le_refl _) hg5⟩
          clear ho hb ho5 hg5 q3 q4 hn hst
          refine hid ?_
          go_wp2_with fail
          go_roundw
          case rel => exact ⟨2, by omega, by go_num, st5⟩
          case measure => simp [intOf]
        · obtain ⟨done, _, _, hd, ho, hb⟩ := hst.out
          rw [hd rfl] at ho
          have fin := hid (And.intro ho hb)
          clear ho hb hst
          go_wp2_with fail
          go_ret
          refine ⟨_, rfl, ?_, fin.out.2⟩
          have hf := fin.out.1
          rw [List.length_append, List.map_append] at hf
          exact hf

end Go.Proofs.YtiiklklokkcnpaaDoor
