/- 'sure' of the laws. -/
import Derived.Test.YtdmkbcbgjdmgdaaGreatDoorBwp
import Derived.Test.YtdmkbcbgjdmgdaaGreatDoorBerr
namespace Go.Proofs.YtdmkbcbgjdmgdaaGreatDoor
open Go.RowKit
set_option linter.unusedVariables false

theorem bt {a b c : World} (h : Below a.heap.size a b) (k : Below b.heap.size b c) : Below a.heap.size a c := h.trans (k.mono h.size)

/-- The labels of the faces {0, 1}, {2}. -/
def l3 (x : Nat) : Nat := if x = 2 then 1 else 0

theorem lb3 : Lb 3 (mrgS one 1 2) l3 := by
  intro x y hx hy
  have hx' : x = 0 ∨ x = 1 ∨ x = 2 := by omega
  have hy' : y = 0 ∨ y = 1 ∨ y = 2 := by omega
  rcases hx' with rfl | rfl | rfl <;> rcases hy' with rfl | rfl | rfl <;> decide

theorem no_new {n a b : Nat} (h : a ≠ b) : ¬ Lkd n one (fun _ => none) a b := fun q => by
  unfold Lkd at q
  rw [ad_new] at q
  exact iso_cn (fun _ k => k) (fun k => h (iN_inj (Nat.succ.inj k))) q

theorem fr_none {fi : Nat → Nat} {f g : Nat} {r ls : List Nat} (h : FR fi (eA fun _ => none) (eB fun _ => none) (Td fun _ => none) f g r ls) : f = g := by
  cases h with
  | nil => rfl
  | cons ht _ _ => obtain ⟨a, b, q⟩ := ht; cases q

set_option maxRecDepth 100000 in
set_option maxHeartbeats 4000000 in
theorem sure_ok (w : World) (hg : Handle w) : Calls Tryz.prog 14 #[] w fun e w' => e = .returned (.bool true) ∧ Below w.heap.size w w' := by
  have hnew := hid (WQ.new 3 2 w (by omega) (by omega) (by omega) (by omega) (fun _ => 0))
  have hg := hid hg
  go_enter Tryz.func14, Tryz.ntmps14
  go_wp2_with fail
  refine hnew.out.mono ?_
  rintro e w1 ⟨wb, rfl, h1⟩
  have hm := hid (h1.merge 0 1 (by omega) (by omega) (no_new (by omega)))
  clear hnew h1
  go_wp2_with fail
  refine hm.out.mono ?_
  rintro e w2 ⟨rfl, h2, _⟩
  have hn2 : ¬ Lkd 3 (mrgS one (0 + 1) (1 + 1)) (fun _ => none) 1 2 := fun q => by
    obtain ⟨r, ls, k⟩ := (h2.lkd_iff lb3 (by omega) (by omega)).1 q
    have := fr_none k
    simp [l3] at this
  have ht := hid (h2.tie 0 1 2 7 (by omega) (by omega) (by omega) (by omega) (by omega) rfl hn2)
  clear hm h2 hn2
  go_wp2_with fail
  refine ht.out.mono ?_
  rintro e w3 ⟨rfl, h3, _⟩
  have hfr : FR l3 (eA (updT (fun _ => none) 0 (some (1, 2)))) (eB (updT (fun _ => none) 0 (some (1, 2)))) (Td (updT (fun _ => none) 0 (some (1, 2)))) (l3 0) (l3 2) [0] [0, 1] := .cons ⟨1, 2, rfl⟩ (.inl ⟨rfl, rfl⟩) (.nil 1)
  have hl3 : Lkd 3 (mrgS one (0 + 1) (1 + 1)) (updT (fun _ => none) 0 (some (1, 2))) 0 2 := (h3.lkd_iff lb3 (by omega) (by omega)).2 ⟨_, _, hfr⟩
  have hw := hid (h3.weakY 0 2 (by omega) (by omega) hl3)
  have hun := hid (fun r ls (k : FR l3 _ _ _ (l3 0) (l3 2) r ls) (hn : ls.Nodup) => h3.uniq lb3 (show 0 < 3 by omega) (show 2 < 3 by omega) k hn hfr (by decide))
  have hl3 := hid hl3
  clear ht h3 hfr
  go_wp2_with fail
  refine hw.out.mono ?_
  rintro e w4 ⟨z, hz, rfl, h4, _⟩
  have hz0 : z = 0 := by
    obtain ⟨r, ls, k1, k2, k3⟩ := hz l3 lb3
    rw [hun.out r ls k1 k2] at k3
    exact k3.uniq (.inr ⟨[], 0, [], rfl, rfl, (fun e' he' => by simp at he'; rw [he']; omega), fun e' he' => by cases he'⟩)
  subst hz0
  have hms := hid (h4.merge_same 0 2 (by omega) (by omega) hl3.out)
  clear hw hz h4 hun
  go_wp2_with fail
  refine hms.out.mono ?_
  rintro e w5 ⟨rfl, h5, _⟩
  have b5 := h5.below
  have hnum := hid (num_err 20 w5 (hg.out.below b5))
  replace h5 := hid h5
  clear hms b5
  go_wp2_with fail
  refine hnum.out.mono ?_
  rintro e w6 ⟨rfl, b6⟩
  have h6 := h5.out.more b6
  have htd := hid (h6.tied 0)
  have hb := hid h6.below
  clear hnum b6 h6 h5
  go_wp2_with fail
  refine htd.out.mono ?_
  rintro e w7 ⟨rfl, b7⟩
  have fin := hid (bt hb.out b7)
  clear htd b7
  go_wp2_with fail
  go_ret
  exact ⟨rfl, fin.out⟩
end Go.Proofs.YtdmkbcbgjdmgdaaGreatDoor
