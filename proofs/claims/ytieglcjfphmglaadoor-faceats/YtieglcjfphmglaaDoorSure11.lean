/- The law's 'sure', walked. -/
import Derived.Test.YtieglcjfphmglaaDoorFAll11
import Derived.Test.YtieglcjfphmglaaDoorLists11
import Derived.Test.YtieglcjfphmglaaDoorTLay10
import Derived.Test.YtieglcjfphmglaaDoorTLift10
import Derived.Test.YtieglcjfphmglaaDoorCo10
namespace Go.Proofs.YtieglcjfphmglaaDoor
open Go.RowKit
set_option linter.unusedVariables false

theorem orb_fix {f : Nat → Nat} {x : Nat} (h : f x = x) : Pq.orb f x = [x] := by
  have hp : Pq.Per f x 1 := ⟨by decide, h, fun i h1 h2 => by omega⟩
  unfold Pq.orb
  rw [hp.eq]
  rfl

theorem orb_two {f : Nat → Nat} {x y : Nat} (h1 : f x = y) (h2 : f y = x) (hne : y ≠ x) : Pq.orb f x = [x, y] := by
  have hp : Pq.Per f x 2 := ⟨by decide, by show f (f x) = x; rw [h1, h2], fun i q1 q2 => by
    obtain rfl : i = 1 := by omega
    show f x ≠ x
    rw [h1]; exact hne⟩
  unfold Pq.orb
  rw [hp.eq]
  show [x, f x] = [x, y]
  rw [h1]

abbrev R00 : Nat → List Nat := fun _ => []
abbrev R01 : Nat → List Nat := layR R00 0 0 1 none none
abbrev R02 : Nat → List Nat := layR (liftR R01 0) 0 0 0 none none

theorem no00 (d : Nat) : ¬ In 2 R00 d := by rintro ⟨v, _, hm⟩; simp at hm

theorem tn01 : Tn 2 2 R01 ∧ Tw 2 2 R01 ∧ ∀ x, In 2 R01 x ↔ x = 2 * 0 + 1 ∨ x = 2 * 0 ∨ In 2 R00 x := (Tn.new 2 2).lay (Tw.new 2 2) (by decide) (by decide) (by decide) (fun y e => by cases e) (fun y e => by cases e) (no00 _)
theorem tn0l : Tn 2 2 (liftR R01 0) ∧ Tw 2 2 (liftR R01 0) ∧ ∀ x, In 2 (liftR R01 0) x ↔ In 2 R01 x ∧ x ≠ 2 * 0 ∧ x ≠ 2 * 0 + 1 := tn01.1.lift tn01.2.1
theorem no0l (d : Nat) : ¬ In 2 (liftR R01 0) d := fun h => by
  obtain ⟨h1, h2, h3⟩ := (tn0l.2.2 d).1 h
  rcases (tn01.2.2 d).1 h1 with q | q | q
  · exact h3 q
  · exact h2 q
  · exact no00 d q
theorem tn02 : Tn 2 2 R02 ∧ Tw 2 2 R02 ∧ ∀ x, In 2 R02 x ↔ x = 2 * 0 + 1 ∨ x = 2 * 0 ∨ In 2 (liftR R01 0) x := tn0l.1.lay tn0l.2.1 (by decide) (by decide) (by decide) (fun y e => by cases e) (fun y e => by cases e) (no0l _)

theorem fcs01 : fcs 2 R01 (2 * 2) = [[0, 1]] := by
  have i0 : In 2 R01 0 := (tn01.2.2 0).2 (.inr (.inl rfl))
  have i1 : In 2 R01 1 := (tn01.2.2 1).2 (.inl rfl)
  have n2 : ∀ x, 2 ≤ x → ¬ In 2 R01 x := fun x hx q => by
    rcases (tn01.2.2 x).1 q with q | q | q
    · omega
    · omega
    · exact no00 x q
  have f0 : fx 2 R01 0 = 1 := by rw [fx_yes i0]; exact (vx_at tn01.1 (show 1 < 2 by decide) (show 1 ∈ R01 1 by decide)).trans (by decide)
  have f1 : fx 2 R01 1 = 0 := by rw [fx_yes i1]; exact (vx_at tn01.1 (show 0 < 2 by decide) (show 0 ∈ R01 0 by decide)).trans (by decide)
  show fcs 2 R01 (3 + 1) = _
  rw [fcs_no (fun q => n2 3 (by decide) q.1)]
  show fcs 2 R01 (2 + 1) = _
  rw [fcs_no (fun q => n2 2 (by decide) q.1)]
  show fcs 2 R01 (1 + 1) = _
  rw [fcs_no (fun q => by have := q.2 1; change 1 ≤ fx 2 R01 1 at this; rw [f1] at this; omega)]
  show fcs 2 R01 (0 + 1) = _
  rw [fcs_yes i0 (fun k => Nat.zero_le _), orb_two f0 f1 (by decide)]
  simp [fcs]

theorem fcs02 : fcs 2 R02 (2 * 2) = [[0], [1]] := by
  have i0 : In 2 R02 0 := (tn02.2.2 0).2 (.inr (.inl rfl))
  have i1 : In 2 R02 1 := (tn02.2.2 1).2 (.inl rfl)
  have n2 : ∀ x, 2 ≤ x → ¬ In 2 R02 x := fun x hx q => by
    rcases (tn02.2.2 x).1 q with q | q | q
    · omega
    · omega
    · exact no0l x q
  have f0 : fx 2 R02 0 = 0 := by rw [fx_yes i0]; exact (vx_at tn02.1 (show 0 < 2 by decide) (show 1 ∈ R02 0 by decide)).trans (by decide)
  have f1 : fx 2 R02 1 = 1 := by rw [fx_yes i1]; exact (vx_at tn02.1 (show 0 < 2 by decide) (show 0 ∈ R02 0 by decide)).trans (by decide)
  have fit : ∀ k, Pq.it (fx 2 R02) k 1 = 1 := fun k => by
    induction k with
    | zero => rfl
    | succ k ih => show fx 2 R02 (Pq.it (fx 2 R02) k 1) = 1; rw [ih, f1]
  show fcs 2 R02 (3 + 1) = _
  rw [fcs_no (fun q => n2 3 (by decide) q.1)]
  show fcs 2 R02 (2 + 1) = _
  rw [fcs_no (fun q => n2 2 (by decide) q.1)]
  show fcs 2 R02 (1 + 1) = _
  rw [fcs_yes i1 (fun k => by rw [fit k]; exact Nat.le_refl _), orb_fix f1]
  show fcs 2 R02 (0 + 1) ++ _ = _
  rw [fcs_yes i0 (fun k => Nat.zero_le _), orb_fix f0]
  simp [fcs]

theorem rg_one {w : World} {u : Value} {l : List Nat} (hu : Rw 0 w u l) : Rg 0 (w.alloc (.cells #[u] 29)) (.slice (some ⟨w.heap.size, 0, none⟩) 1 1) [l] :=
  ⟨[u], rfl, World.ownsRow_lit w #[u] 1 (Nat.zero_le _) (by unfold maxLen; omega) rfl, fun i l' u' h1 h2 => by
    have hi := (List.getElem?_eq_some_iff.1 h1).1
    simp at hi
    subst hi
    cases h1
    cases h2
    exact hu.more (balloc w _)⟩

theorem rg_two {w : World} {u v : Value} {l m : List Nat} (hu : Rw 0 w u l) (hv : Rw 0 w v m) : Rg 0 (w.alloc (.cells #[u, v] 29)) (.slice (some ⟨w.heap.size, 0, none⟩) 2 2) [l, m] :=
  ⟨[u, v], rfl, World.ownsRow_lit w #[u, v] 2 (Nat.zero_le _) (by unfold maxLen; omega) rfl, fun i l' u' h1 h2 => by
    have hi := (List.getElem?_eq_some_iff.1 h1).1
    simp at hi
    match i, h1, h2 with
    | 0, h1, h2 => cases h1; cases h2; exact hu.more (balloc w _)
    | 1, h1, h2 => cases h1; cases h2; exact hv.more (balloc w _)
    | k + 2, _, _ => omega⟩

theorem rl_form {w : World} {v : Value} {ms : List (List Nat)} (h : RL w v ms) : ∃ ad cap, v = .slice ad ms.length cap := by
  obtain ⟨ad, cap, e, _⟩ := h
  exact ⟨ad, cap, e⟩

set_option maxRecDepth 100000 in
set_option maxHeartbeats 4000000 in
theorem sure_ok (w : World) : Calls Tryd.prog 16 #[] w fun x w' => x = .returned (.bool true) ∧ Below w.heap.size w w' := by
  have h1 := hid (new_ok 2 2 w (by decide) (by decide) (by decide) (by decide))
  have hco : ∀ u : Nat, u < 2 → Co 2 R00 (u : Int) (-1) := fun u hu => ⟨u, rfl, hu, .inl ⟨rfl, rfl⟩⟩
  have hcl : ∀ u : Nat, u < 2 → Co 2 (liftR R01 0) (u : Int) (-1) := fun u hu => ⟨u, rfl, hu, .inl ⟨rfl, by
    match u, hu with
    | 0, _ => decide
    | 1, _ => decide⟩⟩
  have h2 : Hid (∀ y : World, TA y w.heap.size w.heap.size 2 2 R00 → Calls Tryd.prog 29 #[.pointer (some ⟨w.heap.size, 0, none⟩), .int .i64 0, .agg #[.int .i64 0, .int .i64 (-1)], .agg #[.int .i64 1, .int .i64 (-1)]] y fun x w' => x = .returned .nilIface ∧ TA w' w.heap.size w.heap.size 2 2 R01 ∧ Kp w.heap.size y w') := hid (fun y hy => lay_ok hy 0 0 1 (-1) (-1) (by decide) (no00 _) (no00 _) (hco 0 (by decide)) (hco 1 (by decide)))
  have h5 : Hid (∀ y : World, TA y w.heap.size w.heap.size 2 2 R01 → Calls Tryd.prog 40 #[.pointer (some ⟨w.heap.size, 0, none⟩), .int .i64 0] y fun x w' => x = .returned .nilIface ∧ TA w' w.heap.size w.heap.size 2 2 (liftR R01 0) ∧ Kp w.heap.size y w') := hid (fun y hy => lift_ok hy 0 (by decide) ((tn01.2.2 0).2 (.inr (.inl rfl))) ((tn01.2.2 1).2 (.inl rfl)))
  have h6 : Hid (∀ y : World, TA y w.heap.size w.heap.size 2 2 (liftR R01 0) → Calls Tryd.prog 29 #[.pointer (some ⟨w.heap.size, 0, none⟩), .int .i64 0, .agg #[.int .i64 0, .int .i64 (-1)], .agg #[.int .i64 0, .int .i64 (-1)]] y fun x w' => x = .returned .nilIface ∧ TA w' w.heap.size w.heap.size 2 2 R02 ∧ Kp w.heap.size y w') := hid (fun y hy => lay_ok hy 0 0 0 (-1) (-1) (by decide) (no0l _) (no0l _) (hcl 0 (by decide)) (hcl 0 (by decide)))
  have h3 : Hid (∀ y : World, TA y w.heap.size w.heap.size 2 2 R01 → Calls Tryd.prog 13 #[.pointer (some ⟨w.heap.size, 0, none⟩)] y fun e w' => ∃ u, e = .returned u ∧ Rg y.heap.size w' u [[0, 1]] ∧ Below y.heap.size y w') := hid (fun y hy => by have := all_ok hy tn01.2.1 (by decide); rw [fcs01] at this; exact this)
  have h7 : Hid (∀ y : World, TA y w.heap.size w.heap.size 2 2 R02 → Calls Tryd.prog 13 #[.pointer (some ⟨w.heap.size, 0, none⟩)] y fun e w' => ∃ u, e = .returned u ∧ Rg y.heap.size w' u [[0], [1]] ∧ Below y.heap.size y w') := hid (fun y hy => by have := all_ok hy tn02.2.1 (by decide); rw [fcs02] at this; exact this)
  clear hco hcl
  go_enter Tryd.func16, Tryd.ntmps16
  go_wp2_with fail
  refine h1.out.mono ?_
  rintro x w1 ⟨rfl, a1, b1⟩
  replace a1 := hid a1
  replace b1 := hid b1
  go_wp2_with fail
  refine (h2.out w1 a1.out).mono ?_
  rintro x w2 ⟨rfl, a2, k2⟩
  have b2 : Hid (Below w.heap.size w w2) := b1.out.trans (k2.below b1.out.size)
  replace a2 := hid a2
  clear k2 a1 b1 h1 h2
  go_wp2_with fail
  refine (h3.out w2 a2.out).mono ?_
  rintro x w3 ⟨u3, rfl, hrg, b3⟩
  obtain ⟨ad3, cap3, rfl⟩ := rl_form hrg.rl
  have k4 : Rg 0 ((w3.alloc (.cells #[.int .i64 0, .int .i64 1] 3)).alloc (.cells #[.slice (some ⟨w3.heap.size, 0, none⟩) 2 2] 29)) (.slice (some ⟨(w3.alloc (.cells #[.int .i64 0, .int .i64 1] 3)).heap.size, 0, none⟩) 1 1) [[0, 1]] := rg_one (World.ownsRow_lit w3 #[.int .i64 0, .int .i64 1] 2 (Nat.zero_le _) (by unfold maxLen; omega) rfl)
  have bb : Below w3.heap.size w3 ((w3.alloc (.cells #[.int .i64 0, .int .i64 1] 3)).alloc (.cells #[.slice (some ⟨w3.heap.size, 0, none⟩) 2 2] 29)) := (balloc w3 _).alloc (by simp) _
  have h4 := hid (lists_ok _ _ [[0, 1]] _ (hrg.rl.below bb) k4.rl)
  have a4 := hid ((a2.out.more b3).more bb)
  have b4 := hid ((b2.out.trans (b3.mono b2.out.size)).trans (bb.mono (Nat.le_trans b2.out.size b3.size)))
  simp only [World.size_alloc] at h4
  clear hrg k4 bb b3 a2 b2 h3
  go_wp2_with fail
  refine h4.out.mono ?_
  rintro x w4 ⟨rfl, m4, rfl⟩
  have a4' := hid (a4.out.more (belowN (Below.refl _ _) m4))
  have b4' := hid (belowN b4.out m4)
  clear a4 b4 h4
  generalize (World.drewN _ m4) = w4 at *
  go_wp2_with fail
  refine (h5.out w4 a4'.out).mono ?_
  rintro x w5 ⟨rfl, a5, k5⟩
  have b5 : Hid (Below w.heap.size w w5) := b4'.out.trans (k5.below b4'.out.size)
  replace a5 := hid a5
  clear k5 a4' b4' h5
  go_wp2_with fail
  refine (h6.out w5 a5.out).mono ?_
  rintro x w6 ⟨rfl, a6, k6⟩
  have b6 : Hid (Below w.heap.size w w6) := b5.out.trans (k6.below b5.out.size)
  replace a6 := hid a6
  clear k6 a5 b5 h6
  go_wp2_with fail
  refine (h7.out w6 a6.out).mono ?_
  rintro x w7 ⟨u7, rfl, hrg, b7⟩
  obtain ⟨ad7, cap7, rfl⟩ := rl_form hrg.rl
  have bb : Below w7.heap.size w7 (((w7.alloc (.cells #[.int .i64 0] 3)).alloc (.cells #[.int .i64 1] 3)).alloc (.cells #[.slice (some ⟨w7.heap.size, 0, none⟩) 1 1, .slice (some ⟨w7.heap.size + 1, 0, none⟩) 1 1] 29)) := ((balloc w7 _).alloc (by simp) _).alloc (by simp; omega) _
  have k8 : Rg 0 (((w7.alloc (.cells #[.int .i64 0] 3)).alloc (.cells #[.int .i64 1] 3)).alloc (.cells #[.slice (some ⟨w7.heap.size, 0, none⟩) 1 1, .slice (some ⟨w7.heap.size + 1, 0, none⟩) 1 1] 29)) (.slice (some ⟨((w7.alloc (.cells #[.int .i64 0] 3)).alloc (.cells #[.int .i64 1] 3)).heap.size, 0, none⟩) 2 2) [[0], [1]] := by
    refine rg_two ?_ ?_
    · exact Rw.more (World.ownsRow_lit w7 #[.int .i64 0] 1 (Nat.zero_le _) (by unfold maxLen; omega) rfl) (balloc _ _)
    · have := World.ownsRow_lit (base := 0) (e := 3) (size := 1) (w7.alloc (.cells #[.int .i64 0] 3)) #[.int .i64 1] 1 (Nat.zero_le _) (by unfold maxLen; omega) rfl
      simp only [World.size_alloc] at this
      exact this
  have h8 := hid (lists_ok _ _ [[0], [1]] _ (hrg.rl.below bb) k8.rl)
  have b8 := hid ((b6.out.trans (b7.mono b6.out.size)).trans (bb.mono (Nat.le_trans b6.out.size b7.size)))
  simp only [World.size_alloc] at h8
  clear hrg k8 bb b7 a6 b6 h7
  go_wp2_with fail
  refine h8.out.mono ?_
  rintro x w8 ⟨rfl, m8, rfl⟩
  have b8' := hid (belowN b8.out m8)
  clear b8 h8
  go_wp2_with fail
  go_ret
  exact ⟨rfl, b8'.out⟩

end Go.Proofs.YtieglcjfphmglaaDoor
