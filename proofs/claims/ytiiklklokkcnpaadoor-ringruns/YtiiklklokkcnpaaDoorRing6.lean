/- The calls of Rings, walked: the second part. -/
import Derived.Test.YtiiklklokkcnpaaDoorRing5
import Derived.Deep.RegionHeld3
namespace Go.Proofs.YtiiklklokkcnpaaDoor
open Go.RowKit
set_option linter.unusedVariables false

section
variable {lo rb fb n : Nat} {w w0 : World} {v : Nat → Int} {seq : Nat → List Nat}

/-- A step of a place round a cycle. -/
theorem tmod_nat (a k : Nat) : ((a : Nat) : Int).tmod (k : Int) = ((a % k : Nat) : Int) := by
  rw [Int.tmod_eq_emod_of_nonneg (by omega)]
  rfl

theorem wrap_in (z : Int) (h1 : -9223372036854775808 ≤ z) (h2 : z ≤ 9223372036854775807) : IntKind.i64.wrap z = z := by rw [IntKind.wrap_i64]; omega

theorem step_up (i k : Nat) (hi : i < k) (hk : k ≤ 8388610) : (IntKind.i64.wrap (IntKind.i64.wrap ((i : Int) + (k : Int)) + 1)).tmod (k : Int) = (((i + 1) % k : Nat) : Int) := by
  have w3 : (i : Int) + (k : Int) + 1 = (((i + 1) + k : Nat) : Int) := by omega
  rw [wrap_in ((i : Int) + (k : Int)) (by omega) (by omega), wrap_in _ (by omega) (by omega), w3, tmod_nat, Nat.add_mod_right]

theorem step_down (i k : Nat) (hi : i < k) (hk : k ≤ 8388610) : (IntKind.i64.wrap (IntKind.i64.wrap ((i : Int) + (k : Int)) + (-1))).tmod (k : Int) = (((i + (k - 1)) % k : Nat) : Int) := by
  have w3 : (i : Int) + (k : Int) + (-1) = ((i + (k - 1) : Nat) : Int) := by omega
  rw [wrap_in ((i : Int) + (k : Int)) (by omega) (by omega), wrap_in _ (by omega) (by omega), w3, tmod_nat]

set_option maxRecDepth 100000 in
set_option maxHeartbeats 1000000 in
theorem RG.beside_up (h : RG lo w rb fb n v seq w0) (x : Nat) (hx : x < n) :
    Calls Tryd.prog 41 #[.pointer (some ⟨rb, 0, none⟩), .int .i64 (x : Int), .int .i64 1] w0 fun e w' => ∃ i d : Nat, (seq (x + 1))[i]? = some (x + 1) ∧ (seq (x + 1))[(i + 1) % (seq (x + 1)).length]? = some (d + 1) ∧ e = .returned (.tuple #[.int .i64 (d : Int), .nilIface]) ∧ RG lo w rb fb n v seq w' ∧ Keep w0 w' := by
  have hs := hid (h.place x hx)
  have hl := h.fs.part.len (x + 1) (by omega)
  go_enter Tryd.func41, Tryd.ntmps41
  go_wp2_with fail
  refine hs.out.mono ?_
  rintro e w2 ⟨i, hi, rfl, g2, k2⟩
  obtain ⟨k, hk⟩ : ∃ k, (seq (x + 1)).length = k := ⟨_, rfl⟩
  have hik := (List.getElem?_eq_some_iff.1 hi).1
  rw [hk] at hik hl ⊢
  have hkh := hid hk
  replace hi := hid hi
  have g2 := g2.drew
  have k2 := hid (k2.trans (Keep.ofBelow ((Below.refl _ _).drew)))
  have hk2 := hid (kept_ok g2.rb)
  have hst := step_up i k hik hl
  have hat := g2.fs.at x ((i + 1) % k) hx (by rw [hk]; exact Nat.mod_lt _ (by omega))
  rw [← hst] at hat
  have hat := hid hat
  have g2 := hid g2
  have t0 : ((k : Int) == 0) = false := by rw [beq_eq_false_iff_ne]; omega
  have t1 : ¬ (k = 0) := by omega
  have t2 : ¬ ((k : Int) = 0) := by omega
  clear hs h hk hst
  go_wp2_with fail
  go_region_held3 (fun w' => True) (first | exact True.intro | assumption | go_keep) (first
    | (go_at_call 31; refine hk2.out.mono ?_; rintro e w3 ⟨rfl, rfl⟩)
    | (go_at_call 42; refine hat.out.mono ?_; rintro e w4 ⟨d, hd, rfl, h4, k4⟩; have fin := hid (And.intro (g2.out.after k4 h4) (k2.out.trans k4)); replace hd := hid hd; clear h4 k4))
  all_goals
    go_wp2_with fail
    go_ret2
    exact ⟨i, d, hi.out, by rw [hkh.out]; exact hd.out, rfl, fin.out⟩

set_option maxRecDepth 100000 in
set_option maxHeartbeats 1000000 in
theorem RG.beside_down (h : RG lo w rb fb n v seq w0) (x : Nat) (hx : x < n) :
    Calls Tryd.prog 41 #[.pointer (some ⟨rb, 0, none⟩), .int .i64 (x : Int), .int .i64 (-1)] w0 fun e w' => ∃ i d : Nat, (seq (x + 1))[i]? = some (x + 1) ∧ (seq (x + 1))[(i + ((seq (x + 1)).length - 1)) % (seq (x + 1)).length]? = some (d + 1) ∧ e = .returned (.tuple #[.int .i64 (d : Int), .nilIface]) ∧ RG lo w rb fb n v seq w' ∧ Keep w0 w' := by
  have hs := hid (h.place x hx)
  have hl := h.fs.part.len (x + 1) (by omega)
  go_enter Tryd.func41, Tryd.ntmps41
  go_wp2_with fail
  refine hs.out.mono ?_
  rintro e w2 ⟨i, hi, rfl, g2, k2⟩
  obtain ⟨k, hk⟩ : ∃ k, (seq (x + 1)).length = k := ⟨_, rfl⟩
  have hik := (List.getElem?_eq_some_iff.1 hi).1
  rw [hk] at hik hl ⊢
  have hkh := hid hk
  replace hi := hid hi
  have g2 := g2.drew
  have k2 := hid (k2.trans (Keep.ofBelow ((Below.refl _ _).drew)))
  have hk2 := hid (kept_ok g2.rb)
  have hst := step_down i k hik hl
  have hat := g2.fs.at x ((i + (k - 1)) % k) hx (by rw [hk]; exact Nat.mod_lt _ (by omega))
  rw [← hst] at hat
  have hat := hid hat
  have g2 := hid g2
  have t0 : ((k : Int) == 0) = false := by rw [beq_eq_false_iff_ne]; omega
  have t1 : ¬ (k = 0) := by omega
  have t2 : ¬ ((k : Int) = 0) := by omega
  clear hs h hk hst
  go_wp2_with fail
  go_region_held3 (fun w' => True) (first | exact True.intro | assumption | go_keep) (first
    | (go_at_call 31; refine hk2.out.mono ?_; rintro e w3 ⟨rfl, rfl⟩)
    | (go_at_call 42; refine hat.out.mono ?_; rintro e w4 ⟨d, hd, rfl, h4, k4⟩; have fin := hid (And.intro (g2.out.after k4 h4) (k2.out.trans k4)); replace hd := hid hd; clear h4 k4))
  all_goals
    go_wp2_with fail
    go_ret2
    exact ⟨i, d, hi.out, by rw [hkh.out]; exact hd.out, rfl, fin.out⟩

set_option maxRecDepth 100000 in
set_option maxHeartbeats 1000000 in
theorem RG.beside_bad (h : RG lo w rb fb n v seq w0) (x : Int) (s : Int) (hx : ¬ (0 ≤ x ∧ x < (n : Int))) :
    Calls Tryd.prog 41 #[.pointer (some ⟨rb, 0, none⟩), .int .i64 x, .int .i64 s] w0 fun e w' => e = .returned (.tuple #[.int .i64 0, (.iface 62 (.int .i64 12))]) ∧ RG lo w rb fb n v seq w' ∧ Keep w0 w' := by
  have hs := hid (h.place_bad x hx)
  clear hx
  go_enter Tryd.func41, Tryd.ntmps41
  go_wp2_with fail
  refine hs.out.mono ?_
  rintro e w2 ⟨rfl, g2, k2⟩
  have fin := hid (And.intro g2 k2)
  clear hs g2 k2
  go_wp2_with fail
  go_ret2
  exact ⟨rfl, fin.out⟩

set_option maxRecDepth 100000 in
set_option maxHeartbeats 1000000 in
theorem RG.next (h : RG lo w rb fb n v seq w0) (x : Nat) (hx : x < n) :
    Calls Tryd.prog 23 #[.pointer (some ⟨rb, 0, none⟩), .int .i64 (x : Int)] w0 fun e w' => ∃ d : Nat, (rot (seq (x + 1)) (x + 1))[(1 % (seq (x + 1)).length)]? = some (d + 1) ∧ e = .returned (.tuple #[.int .i64 (d : Int), .nilIface]) ∧ RG lo w rb fb n v seq w' ∧ Keep w0 w' := by
  have p := h.fs.part
  have hs := hid (h.beside_up x hx)
  have hp := hid p
  clear h p
  go_enter Tryd.func23, Tryd.ntmps23
  go_wp2_with fail
  refine hs.out.mono ?_
  rintro e w2 ⟨i, d, hi, hd, rfl, g2, k2⟩
  have hd : Hid ((rot (seq (x + 1)) (x + 1))[(1 % (seq (x + 1)).length)]? = some (d + 1)) := hid (by
    have hik := (List.getElem?_eq_some_iff.1 hi).1
    have p := hp.out
    exact by rw [rot_get (p.nd _ (by omega)) hi (Nat.mod_lt _ (by omega)), Nat.add_mod_mod]; exact hd)
  have fin := hid (And.intro g2 k2)
  clear hs g2 k2 hi
  go_wp2_with fail
  go_ret2
  exact ⟨d, hd.out, rfl, fin.out⟩

set_option maxRecDepth 100000 in
set_option maxHeartbeats 1000000 in
theorem RG.next_bad (h : RG lo w rb fb n v seq w0) (x : Int) (hx : ¬ (0 ≤ x ∧ x < (n : Int))) :
    Calls Tryd.prog 23 #[.pointer (some ⟨rb, 0, none⟩), .int .i64 x] w0 fun e w' => e = .returned (.tuple #[.int .i64 0, (.iface 62 (.int .i64 12))]) ∧ RG lo w rb fb n v seq w' ∧ Keep w0 w' := by
  have hs := hid (h.beside_bad x 1 hx)
  clear h hx
  go_enter Tryd.func23, Tryd.ntmps23
  go_wp2_with fail
  refine hs.out.mono ?_
  rintro e w2 ⟨rfl, g2, k2⟩
  have fin := hid (And.intro g2 k2)
  clear hs g2 k2
  go_wp2_with fail
  go_ret2
  exact ⟨rfl, fin.out⟩

set_option maxRecDepth 100000 in
set_option maxHeartbeats 1000000 in
theorem RG.prev (h : RG lo w rb fb n v seq w0) (x : Nat) (hx : x < n) :
    Calls Tryd.prog 26 #[.pointer (some ⟨rb, 0, none⟩), .int .i64 (x : Int)] w0 fun e w' => ∃ d : Nat, (rot (seq (x + 1)) (x + 1))[((seq (x + 1)).length - 1)]? = some (d + 1) ∧ e = .returned (.tuple #[.int .i64 (d : Int), .nilIface]) ∧ RG lo w rb fb n v seq w' ∧ Keep w0 w' := by
  have p := h.fs.part
  have hs := hid (h.beside_down x hx)
  have hp := hid p
  clear h p
  go_enter Tryd.func26, Tryd.ntmps26
  go_wp2_with fail
  refine hs.out.mono ?_
  rintro e w2 ⟨i, d, hi, hd, rfl, g2, k2⟩
  have hd : Hid ((rot (seq (x + 1)) (x + 1))[((seq (x + 1)).length - 1)]? = some (d + 1)) := hid (by
    have hik := (List.getElem?_eq_some_iff.1 hi).1
    have p := hp.out
    exact by rw [rot_get (p.nd _ (by omega)) hi (by omega)]; exact hd)
  have fin := hid (And.intro g2 k2)
  clear hs g2 k2 hi
  go_wp2_with fail
  go_ret2
  exact ⟨d, hd.out, rfl, fin.out⟩

set_option maxRecDepth 100000 in
set_option maxHeartbeats 1000000 in
theorem RG.prev_bad (h : RG lo w rb fb n v seq w0) (x : Int) (hx : ¬ (0 ≤ x ∧ x < (n : Int))) :
    Calls Tryd.prog 26 #[.pointer (some ⟨rb, 0, none⟩), .int .i64 x] w0 fun e w' => e = .returned (.tuple #[.int .i64 0, (.iface 62 (.int .i64 12))]) ∧ RG lo w rb fb n v seq w' ∧ Keep w0 w' := by
  have hs := hid (h.beside_bad x (-1) hx)
  clear h hx
  go_enter Tryd.func26, Tryd.ntmps26
  go_wp2_with fail
  refine hs.out.mono ?_
  rintro e w2 ⟨rfl, g2, k2⟩
  have fin := hid (And.intro g2 k2)
  clear hs g2 k2
  go_wp2_with fail
  go_ret2
  exact ⟨rfl, fin.out⟩

set_option maxRecDepth 100000 in
set_option maxHeartbeats 2000000 in
theorem RG.turn (h : RG lo w rb fb n v seq w0) (x : Nat) (hx : x < n) :
    Calls Tryd.prog 15 #[.pointer (some ⟨rb, 0, none⟩), .int .i64 (x : Int)] w0 fun e w' => e = .returned .nilIface ∧ RG lo w rb fb n v (turnS seq (x + 1)) w' ∧ Keep w0 w' := by
  have p := h.fs.part
  have hs := hid (h.front x hx (List.length_pos_of_mem (p.self (x + 1) (by omega))))
  have p := hid p
  clear h
  go_enter Tryd.func15, Tryd.ntmps15
  go_wp2_with fail
  refine hs.out.mono ?_
  rintro e w2 ⟨d, hd, rfl, g2, k2⟩
  have hk2 := hid (kept_ok g2.rb)
  have hcu := hid (g2.fs.cut x hx)
  replace hd := hid hd
  have g2 := hid g2
  have k2 := hid k2
  clear hs
  go_wp2_with fail
  refine hk2.out.mono ?_
  rintro e w3 ⟨rfl, rfl⟩
  go_wp2_with fail
  refine hcu.out.mono ?_
  rintro e w4 ⟨A, B, hAB, rfl, h4, k4⟩
  have g4 := g2.out.after k4 h4
  have k4 := hid (k2.out.trans k4)
  replace hAB := hid hAB
  clear h4 hcu hk2 g2 k2
  cases A with
  | nil =>
    have e1 := turnS_at p.out (by omega) hAB.out
    have e2 := (cutS_nil2 p.out (show x + 1 ≠ 0 by omega) hAB.out)
    rw [List.nil_append] at hAB
    rw [e2] at g4
    have fin := hid g4
    replace e1 := hid e1
    clear g4 e2
    try simp only [List.isEmpty_nil, Bool.not_true]
    go_wp2_with fail
    go_ret
    exact ⟨rfl, by rw [e1.out]; exact fin.out, k4.out⟩
  | cons a A =>
    have hda : d + 1 = a := by have := hd.out; rw [hAB.out] at this; simpa using this.symm
    obtain ⟨j1, j2⟩ := turnS_cut p.out (show x + 1 ≠ 0 by omega) hAB.out (f := d + 1) (by rw [hda]; exact List.mem_cons_self)
    have hdn : d < n := by
      have := p.out.le (x + 1) (d + 1) (by omega) (by omega) (by rw [hAB.out, hda]; exact List.mem_append_left _ List.mem_cons_self)
      omega
    have hk4 := hid (kept_ok g4.rb)
    have hj := hid (g4.fs.join x d hx hdn j2)
    have g4 := hid g4
    replace j1 := hid j1
    clear j2 hda
    try simp only [List.isEmpty_cons, Bool.not_false]
    go_wp2_with fail
    refine hk4.out.mono ?_
    rintro e w5 ⟨rfl, rfl⟩
    go_wp2_with fail
    refine hj.out.mono ?_
    rintro e w6 ⟨rfl, h6, k6⟩
    rw [j1.out] at h6
    have fin := hid (And.intro (g4.out.after k6 h6) (k4.out.trans k6))
    clear hj hk4 h6 k6 g4
    go_wp2_with fail
    go_ret
    exact ⟨rfl, fin.out⟩

set_option maxRecDepth 100000 in
set_option maxHeartbeats 1000000 in
theorem RG.turn_bad (h : RG lo w rb fb n v seq w0) (x : Int) (hx : ¬ (0 ≤ x ∧ x < (n : Int))) :
    Calls Tryd.prog 15 #[.pointer (some ⟨rb, 0, none⟩), .int .i64 x] w0 fun e w' => e = .returned (.iface 62 (.int .i64 12)) ∧ RG lo w rb fb n v seq w' ∧ Keep w0 w' := by
  have hs := hid (h.front_bad x hx)
  clear h hx
  go_enter Tryd.func15, Tryd.ntmps15
  go_wp2_with fail
  refine hs.out.mono ?_
  rintro e w2 ⟨rfl, g2, k2⟩
  have fin := hid (And.intro g2 k2)
  clear hs g2 k2
  go_wp2_with fail
  go_ret
  exact ⟨rfl, fin.out⟩

set_option maxRecDepth 100000 in
set_option maxHeartbeats 2000000 in
theorem RG.split (h : RG lo w rb fb n v seq w0) (x y : Nat) (hx : x < n) (hy : y < n) (hne : x ≠ y) (hin : y + 1 ∈ seq (x + 1)) :
    Calls Tryd.prog 11 #[.pointer (some ⟨rb, 0, none⟩), .int .i64 (x : Int), .int .i64 (y : Int)] w0 fun e w' => e = .returned .nilIface ∧ RG lo w rb fb n v (splS seq (x + 1) (y + 1)) w' ∧ Keep w0 w' := by
  have p := h.fs.part
  have hs := hid (h.same x y hx hy true (decide_eq_true ((p.one (by omega) (by omega)).2 hin)))
  have p := hid p
  have t1 : ((x : Int) == (y : Int)) = false := by rw [beq_eq_false_iff_ne]; omega
  replace hin := hid hin
  clear h
  go_enter Tryd.func11, Tryd.ntmps11
  go_wp2_with fail
  refine hs.out.mono ?_
  rintro e w2 ⟨rfl, g2, k2⟩
  have ht := hid (g2.turn x hx)
  have k2 := hid k2
  clear hs g2
  go_wp2_with fail
  refine ht.out.mono ?_
  rintro e w3 ⟨rfl, g3, k3⟩
  have hk3 := hid (kept_ok g3.rb)
  have hcu := hid (g3.fs.cut y hy)
  have g3 := hid g3
  have k3 := hid (k2.out.trans k3)
  clear ht k2
  go_wp2_with fail
  refine hk3.out.mono ?_
  rintro e w4 ⟨rfl, rfl⟩
  go_wp2_with fail
  refine hcu.out.mono ?_
  rintro e w5 ⟨A, B, hAB, rfl, h5, k5⟩
  rw [turnS_in hin.out] at hAB
  rw [split_is p.out (show x + 1 ≠ 0 by omega) hAB] at h5
  have fin := hid (And.intro (g3.out.after k5 h5) (k3.out.trans k5))
  clear hcu hk3 h5 k5 g3 hAB
  generalize (!A.isEmpty) = bA
  go_wp2_with fail
  go_ret
  exact ⟨rfl, fin.out⟩

set_option maxRecDepth 100000 in
set_option maxHeartbeats 1000000 in
theorem RG.split_self (h : RG lo w rb fb n v seq w0) (x : Nat) (hx : x < n) :
    Calls Tryd.prog 11 #[.pointer (some ⟨rb, 0, none⟩), .int .i64 (x : Int), .int .i64 (x : Int)] w0 fun e w' => e = .returned (.iface 62 (.int .i64 20)) ∧ RG lo w rb fb n v seq w' ∧ Keep w0 w' := by
  have p := h.fs.part
  have hs := hid (h.same x x hx hx true (by simp))
  clear h p
  go_enter Tryd.func11, Tryd.ntmps11
  go_wp2_with fail
  refine hs.out.mono ?_
  rintro e w2 ⟨rfl, g2, k2⟩
  have fin := hid (And.intro g2 k2)
  clear hs g2 k2
  go_wp2_with fail
  go_ret
  exact ⟨rfl, fin.out⟩

set_option maxRecDepth 100000 in
set_option maxHeartbeats 1000000 in
theorem RG.split_apart (h : RG lo w rb fb n v seq w0) (x y : Nat) (hx : x < n) (hy : y < n) (hin : y + 1 ∉ seq (x + 1)) :
    Calls Tryd.prog 11 #[.pointer (some ⟨rb, 0, none⟩), .int .i64 (x : Int), .int .i64 (y : Int)] w0 fun e w' => e = .returned (.iface 62 (.int .i64 21)) ∧ RG lo w rb fb n v seq w' ∧ Keep w0 w' := by
  have p := h.fs.part
  have hs := hid (h.same x y hx hy false (decide_eq_false (fun e => hin ((p.one (by omega) (by omega)).1 e))))
  have hne : x ≠ y := fun e => hin (by rw [← e]; exact p.self _ (by omega))
  have t1 : ((x : Int) == (y : Int)) = false := by rw [beq_eq_false_iff_ne]; omega
  clear hin
  clear h p
  go_enter Tryd.func11, Tryd.ntmps11
  go_wp2_with fail
  refine hs.out.mono ?_
  rintro e w2 ⟨rfl, g2, k2⟩
  have fin := hid (And.intro g2 k2)
  clear hs g2 k2
  go_wp2_with fail
  go_ret
  exact ⟨rfl, fin.out⟩

set_option maxRecDepth 100000 in
set_option maxHeartbeats 1000000 in
theorem RG.split_bad (h : RG lo w rb fb n v seq w0) (x y : Int) (hx : ¬ ((0 ≤ x ∧ x < (n : Int)) ∧ (0 ≤ y ∧ y < (n : Int)))) :
    Calls Tryd.prog 11 #[.pointer (some ⟨rb, 0, none⟩), .int .i64 x, .int .i64 y] w0 fun e w' => e = .returned (.iface 62 (.int .i64 12)) ∧ RG lo w rb fb n v seq w' ∧ Keep w0 w' := by
  have p := h.fs.part
  have hs := hid (h.same_bad x y hx)
  clear hx
  clear h p
  go_enter Tryd.func11, Tryd.ntmps11
  go_wp2_with fail
  refine hs.out.mono ?_
  rintro e w2 ⟨rfl, g2, k2⟩
  have fin := hid (And.intro g2 k2)
  clear hs g2 k2
  go_wp2_with fail
  go_ret
  exact ⟨rfl, fin.out⟩

set_option maxRecDepth 100000 in
set_option maxHeartbeats 1000000 in
theorem RG.merge_same (h : RG lo w rb fb n v seq w0) (x y : Nat) (hx : x < n) (hy : y < n) (hin : y + 1 ∈ seq (x + 1)) :
    Calls Tryd.prog 10 #[.pointer (some ⟨rb, 0, none⟩), .int .i64 (x : Int), .int .i64 (y : Int)] w0 fun e w' => e = .returned (.iface 62 (.int .i64 20)) ∧ RG lo w rb fb n v seq w' ∧ Keep w0 w' := by
  have p := h.fs.part
  have hs := hid (h.same x y hx hy true (decide_eq_true ((p.one (by omega) (by omega)).2 hin)))
  clear hin
  clear h p
  go_enter Tryd.func10, Tryd.ntmps10
  go_wp2_with fail
  refine hs.out.mono ?_
  rintro e w2 ⟨rfl, g2, k2⟩
  have fin := hid (And.intro g2 k2)
  clear hs g2 k2
  go_wp2_with fail
  go_ret
  exact ⟨rfl, fin.out⟩

set_option maxRecDepth 100000 in
set_option maxHeartbeats 1000000 in
theorem RG.merge_bad (h : RG lo w rb fb n v seq w0) (x y : Int) (hx : ¬ ((0 ≤ x ∧ x < (n : Int)) ∧ (0 ≤ y ∧ y < (n : Int)))) :
    Calls Tryd.prog 10 #[.pointer (some ⟨rb, 0, none⟩), .int .i64 x, .int .i64 y] w0 fun e w' => e = .returned (.iface 62 (.int .i64 12)) ∧ RG lo w rb fb n v seq w' ∧ Keep w0 w' := by
  have p := h.fs.part
  have hs := hid (h.same_bad x y hx)
  clear hx
  clear h p
  go_enter Tryd.func10, Tryd.ntmps10
  go_wp2_with fail
  refine hs.out.mono ?_
  rintro e w2 ⟨rfl, g2, k2⟩
  have fin := hid (And.intro g2 k2)
  clear hs g2 k2
  go_wp2_with fail
  go_ret
  exact ⟨rfl, fin.out⟩

set_option maxRecDepth 100000 in
set_option maxHeartbeats 1000000 in
theorem RG.apart_bad (h : RG lo w rb fb n v seq w0) (x : Int) (hx : ¬ (0 ≤ x ∧ x < (n : Int))) :
    Calls Tryd.prog 13 #[.pointer (some ⟨rb, 0, none⟩), .int .i64 x] w0 fun e w' => e = .returned (.iface 62 (.int .i64 12)) ∧ RG lo w rb fb n v seq w' ∧ Keep w0 w' := by
  have p := h.fs.part
  have hs := hid (h.next_bad x hx)
  clear hx
  clear h p
  go_enter Tryd.func13, Tryd.ntmps13
  go_wp2_with fail
  refine hs.out.mono ?_
  rintro e w2 ⟨rfl, g2, k2⟩
  have fin := hid (And.intro g2 k2)
  clear hs g2 k2
  go_wp2_with fail
  go_ret
  exact ⟨rfl, fin.out⟩

set_option maxRecDepth 100000 in
set_option maxHeartbeats 2000000 in
theorem RG.apart (h : RG lo w rb fb n v seq w0) (x : Nat) (hx : x < n) (h2l : 2 ≤ (seq (x + 1)).length) :
    Calls Tryd.prog 13 #[.pointer (some ⟨rb, 0, none⟩), .int .i64 (x : Int)] w0 fun e w' => ∃ d : Nat, (rot (seq (x + 1)) (x + 1))[1]? = some (d + 1) ∧ e = .returned .nilIface ∧ RG lo w rb fb n v (splS seq (x + 1) (d + 1)) w' ∧ Keep w0 w' := by
  have p := hid h.fs.part
  have hs := hid (h.next x hx)
  have hm : Hid (1 % (seq (x + 1)).length = 1) := hid (Nat.mod_eq_of_lt (by omega))
  clear h h2l
  go_enter Tryd.func13, Tryd.ntmps13
  go_wp2_with fail
  refine hs.out.mono ?_
  rintro e w2 ⟨d, hd, rfl, g2, k2⟩
  rw [hm.out] at hd
  have hdm : d + 1 ∈ seq (x + 1) := rot_mem.1 (List.mem_of_getElem? hd)
  have hdn : d < n := by have := p.out.le (x + 1) (d + 1) (by omega) (by omega) hdm; omega
  have hdx : x ≠ d := fun e => by
    subst e
    obtain ⟨T, hT⟩ := rot_head (p.out.self (x + 1) (by omega))
    have hn := rot_nd (x := x + 1) (p.out.nd (x + 1) (by omega))
    rw [hT] at hd hn
    have : x + 1 ∈ T := List.mem_of_getElem? (i := 0) (by simpa using hd)
    exact (List.nodup_cons.1 hn).1 this
  have hsp := hid (g2.split x d hx hdn hdx hdm)
  replace hd := hid hd
  have k2 := hid k2
  clear hs g2 hdm
  go_wp2_with fail
  refine hsp.out.mono ?_
  rintro e w3 ⟨rfl, g3, k3⟩
  have fin := hid (And.intro g3 (k2.out.trans k3))
  clear hsp g3 k3
  go_wp2_with fail
  go_ret
  exact ⟨d, hd.out, rfl, fin.out⟩

set_option maxRecDepth 100000 in
set_option maxHeartbeats 2000000 in
theorem RG.apart_alone (h : RG lo w rb fb n v seq w0) (x : Nat) (hx : x < n) (h1l : (seq (x + 1)).length = 1) :
    Calls Tryd.prog 13 #[.pointer (some ⟨rb, 0, none⟩), .int .i64 (x : Int)] w0 fun e w' => e = .returned (.iface 62 (.int .i64 20)) ∧ RG lo w rb fb n v seq w' ∧ Keep w0 w' := by
  have p := hid h.fs.part
  have hs := hid (h.next x hx)
  have hl : Hid ((seq (x + 1)).length = 1) := hid h1l
  clear h h1l
  go_enter Tryd.func13, Tryd.ntmps13
  go_wp2_with fail
  refine hs.out.mono ?_
  rintro e w2 ⟨d, hd, rfl, g2, k2⟩
  rw [hl.out] at hd
  have hdx : d = x := by
    obtain ⟨T, hT⟩ := rot_head (p.out.self (x + 1) (by omega))
    rw [hT] at hd
    simp at hd
    exact hd.symm
  subst hdx
  have hsp := hid (g2.split_self d hx)
  have k2 := hid k2
  clear hs g2 hd
  go_wp2_with fail
  refine hsp.out.mono ?_
  rintro e w3 ⟨rfl, g3, k3⟩
  have fin := hid (And.intro g3 (k2.out.trans k3))
  clear hsp g3 k3
  go_wp2_with fail
  go_ret
  exact ⟨rfl, fin.out⟩

end

end Go.Proofs.YtiiklklokkcnpaaDoor
