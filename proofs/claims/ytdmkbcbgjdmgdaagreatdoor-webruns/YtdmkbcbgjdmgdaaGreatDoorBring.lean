/- The calls of Rings, walked. The calls of Rings, walked: the second part. -/
import Derived.Test.YtdmkbcbgjdmgdaaGreatDoorBseqd
import Derived.Deep.RegionHeld3
namespace Go.Proofs.YtdmkbcbgjdmgdaaGreatDoor
open Go.RowKit
set_option linter.unusedVariables false

/-- The block of a Rings: where its sequences are kept. -/
def RB (w : World) (rb fb : Nat) : Prop := w.heap[rb]? = some (.cells #[.pointer (some ⟨fb, 0, none⟩)] 98 (0, 0))

theorem RB.keep {w w' : World} {rb fb : Nat} (h : RB w rb fb) (k : Keep w w') : RB w' rb fb := k rb _ _ _ h (by decide) (by decide)

theorem RB.cell {w : World} {rb fb : Nat} (h : RB w rb fb) : w.cell? ⟨rb, 0, none⟩ = some (.pointer (some ⟨fb, 0, none⟩)) := by
  unfold World.cell?
  rw [h]
  simp

/-- Rings that were made since w. -/
structure RG (lo : Nat) (w : World) (rb fb n : Nat) (v : Nat → Int) (seq : Nat → List Nat) (wr : World) : Prop where
  fs : FS lo w fb n v seq wr
  rb : RB wr rb fb

theorem RG.more {lo rb fb n : Nat} {w wr w' : World} {v : Nat → Int} {seq : Nat → List Nat} (h : RG lo w rb fb n v seq wr) (hb : Below wr.heap.size wr w') : RG lo w rb fb n v seq w' := ⟨h.fs.more hb, h.rb.keep (Keep.ofBelow hb)⟩

theorem RG.alloc {lo rb fb n : Nat} {w wr : World} {v : Nat → Int} {seq : Nat → List Nat} (h : RG lo w rb fb n v seq wr) (o : Obj) : RG lo w rb fb n v seq (wr.alloc o) := h.more ((Below.refl _ _).alloc (Nat.le_refl _) o)

theorem RG.drew {lo rb fb n : Nat} {w wr : World} {v : Nat → Int} {seq : Nat → List Nat} (h : RG lo w rb fb n v seq wr) : RG lo w rb fb n v seq wr.drew := h.more (Below.refl _ _).drew

theorem RG.after {lo rb fb n : Nat} {w wr w' : World} {v v' : Nat → Int} {seq seq' : Nat → List Nat} (h : RG lo w rb fb n v seq wr) (k : Keep wr w') (f : FS lo w fb n v' seq' w') : RG lo w rb fb n v' seq' w' := ⟨f, h.rb.keep k⟩

set_option maxRecDepth 100000 in
theorem kept_ok {rb fb : Nat} {w : World} (h : RB w rb fb) : Calls Tryz.prog 70 #[.pointer (some ⟨rb, 0, none⟩)] w fun e w' => e = .returned (.pointer (some ⟨fb, 0, none⟩)) ∧ w = w' := by
  have hc := h.cell
  clear h
  go_enter Tryz.func70, Tryz.ntmps70
  go_wp2_with fail
  go_ret
  exact ⟨rfl, rfl⟩

set_option maxRecDepth 100000 in
theorem kept_nil (w : World) : Calls Tryz.prog 70 #[.pointer none] w fun e w' => e = .returned (.pointer none) ∧ w = w' := by
  go_enter Tryz.func70, Tryz.ntmps70
  go_wp2_with fail
  go_ret
  exact ⟨rfl, rfl⟩

section
variable {lo rb fb n : Nat} {w w0 : World} {v : Nat → Int} {seq : Nat → List Nat}

set_option maxRecDepth 100000 in
set_option maxHeartbeats 1000000 in
theorem RG.same (h : RG lo w rb fb n v seq w0) (x y : Nat) (hx : x < n) (hy : y < n) (B : Bool) (hB : decide (seq (x + 1) = seq (y + 1)) = B) :
    Calls Tryz.prog 44 #[.pointer (some ⟨rb, 0, none⟩), .int .i64 (x : Int), .int .i64 (y : Int)] w0 fun e w' => e = .returned (.tuple #[.bool B, .nilIface]) ∧ RG lo w rb fb n v seq w' ∧ Keep w0 w' := by
  have hk := hid (kept_ok h.rb)
  have hs := hid ((h.fs.same x y hx hy))
  have h := hid h
  rw [hB] at hs
  clear hB
  go_enter Tryz.func44, Tryz.ntmps44
  go_wp2_with fail
  refine hk.out.mono ?_
  rintro e w1 ⟨rfl, rfl⟩
  go_wp2_with fail
  refine hs.out.mono ?_
  rintro e w2 ⟨rfl, h2, k2⟩
  have fin := hid (And.intro (h.out.after k2 h2) k2)
  clear hs h2 k2
  go_wp2_with fail
  go_ret2
  exact ⟨rfl, fin.out⟩

set_option maxRecDepth 100000 in
set_option maxHeartbeats 1000000 in
theorem RG.len (h : RG lo w rb fb n v seq w0) (x : Nat) (hx : x < n) :
    Calls Tryz.prog 68 #[.pointer (some ⟨rb, 0, none⟩), .int .i64 (x : Int)] w0 fun e w' => e = .returned (.tuple #[.int .i64 ((seq (x + 1)).length : Int), .nilIface]) ∧ RG lo w rb fb n v seq w' ∧ Keep w0 w' := by
  have hk := hid (kept_ok h.rb)
  have hs := hid ((h.fs.size x hx))
  have h := hid h
  go_enter Tryz.func68, Tryz.ntmps68
  go_wp2_with fail
  refine hk.out.mono ?_
  rintro e w1 ⟨rfl, rfl⟩
  go_wp2_with fail
  refine hs.out.mono ?_
  rintro e w2 ⟨rfl, h2, k2⟩
  have fin := hid (And.intro (h.out.after k2 h2) k2)
  clear hs h2 k2
  go_wp2_with fail
  go_ret2
  exact ⟨rfl, fin.out⟩

set_option maxRecDepth 100000 in
set_option maxHeartbeats 1000000 in
theorem RG.len_bad (h : RG lo w rb fb n v seq w0) (x : Int) (hx : ¬ (0 ≤ x ∧ x < (n : Int))) :
    Calls Tryz.prog 68 #[.pointer (some ⟨rb, 0, none⟩), .int .i64 x] w0 fun e w' => e = .returned (.tuple #[.int .i64 0, (.iface 63 (.int .i64 12))]) ∧ RG lo w rb fb n v seq w' ∧ Keep w0 w' := by
  have hk := hid (kept_ok h.rb)
  have hs := hid ((h.fs.size_bad x hx))
  have h := hid h
  go_enter Tryz.func68, Tryz.ntmps68
  go_wp2_with fail
  refine hk.out.mono ?_
  rintro e w1 ⟨rfl, rfl⟩
  go_wp2_with fail
  refine hs.out.mono ?_
  rintro e w2 ⟨rfl, h2, k2⟩
  have fin := hid (And.intro (h.out.after k2 h2) k2)
  clear hs h2 k2
  go_wp2_with fail
  go_ret2
  exact ⟨rfl, fin.out⟩

set_option maxRecDepth 100000 in
set_option maxHeartbeats 1000000 in
theorem RG.same_bad (h : RG lo w rb fb n v seq w0) (x y : Int) (hx : ¬ ((0 ≤ x ∧ x < (n : Int)) ∧ (0 ≤ y ∧ y < (n : Int)))) :
    Calls Tryz.prog 44 #[.pointer (some ⟨rb, 0, none⟩), .int .i64 x, .int .i64 y] w0 fun e w' => e = .returned (.tuple #[.bool false, (.iface 63 (.int .i64 12))]) ∧ RG lo w rb fb n v seq w' ∧ Keep w0 w' := by
  have hk := hid (kept_ok h.rb)
  have hs := hid ((h.fs.same_bad x y hx))
  have h := hid h
  go_enter Tryz.func44, Tryz.ntmps44
  go_wp2_with fail
  refine hk.out.mono ?_
  rintro e w1 ⟨rfl, rfl⟩
  go_wp2_with fail
  refine hs.out.mono ?_
  rintro e w2 ⟨rfl, h2, k2⟩
  have fin := hid (And.intro (h.out.after k2 h2) k2)
  clear hs h2 k2
  go_wp2_with fail
  go_ret2
  exact ⟨rfl, fin.out⟩

set_option maxRecDepth 100000 in
set_option maxHeartbeats 1000000 in
theorem RG.front (h : RG lo w rb fb n v seq w0) (x : Nat) (hx : x < n) (h0 : 0 < (seq (x + 1)).length) :
    Calls Tryz.prog 82 #[.pointer (some ⟨rb, 0, none⟩), .int .i64 (x : Int)] w0 fun e w' => ∃ d : Nat, (seq (x + 1))[0]? = some (d + 1) ∧ e = .returned (.tuple #[.int .i64 (d : Int), .nilIface]) ∧ RG lo w rb fb n v seq w' ∧ Keep w0 w' := by
  have hk := hid (kept_ok h.rb)
  have hs := hid ((h.fs.at x 0 hx h0))
  have h := hid h
  go_enter Tryz.func82, Tryz.ntmps82
  go_wp2_with fail
  refine hk.out.mono ?_
  rintro e w1 ⟨rfl, rfl⟩
  go_wp2_with fail
  refine hs.out.mono ?_
  rintro e w2 ⟨d, hd, rfl, h2, k2⟩
  replace hd := hid hd
  have fin := hid (And.intro (h.out.after k2 h2) k2)
  clear hs h2 k2
  go_wp2_with fail
  go_ret2
  exact ⟨d, hd.out, rfl, fin.out⟩

set_option maxRecDepth 100000 in
set_option maxHeartbeats 1000000 in
theorem RG.front_bad (h : RG lo w rb fb n v seq w0) (x : Int) (hx : ¬ (0 ≤ x ∧ x < (n : Int))) :
    Calls Tryz.prog 82 #[.pointer (some ⟨rb, 0, none⟩), .int .i64 x] w0 fun e w' => e = .returned (.tuple #[.int .i64 0, (.iface 63 (.int .i64 12))]) ∧ RG lo w rb fb n v seq w' ∧ Keep w0 w' := by
  have hk := hid (kept_ok h.rb)
  have hs := hid ((h.fs.at_bad x 0 hx))
  have h := hid h
  go_enter Tryz.func82, Tryz.ntmps82
  go_wp2_with fail
  refine hk.out.mono ?_
  rintro e w1 ⟨rfl, rfl⟩
  go_wp2_with fail
  refine hs.out.mono ?_
  rintro e w2 ⟨rfl, h2, k2⟩
  have fin := hid (And.intro (h.out.after k2 h2) k2)
  clear hs h2 k2
  go_wp2_with fail
  go_ret2
  exact ⟨rfl, fin.out⟩

set_option maxRecDepth 100000 in
set_option maxHeartbeats 1000000 in
theorem RG.place (h : RG lo w rb fb n v seq w0) (x : Nat) (hx : x < n) :
    Calls Tryz.prog 113 #[.pointer (some ⟨rb, 0, none⟩), .int .i64 (x : Int)] w0 fun e w' => ∃ i : Nat, (seq (x + 1))[i]? = some (x + 1) ∧ e = .returned (.tuple #[.int .i64 (i : Int), .int .i64 ((seq (x + 1)).length : Int), .nilIface]) ∧ RG lo w rb fb n v seq w' ∧ Keep w0 w' := by
  have hk := hid (kept_ok h.rb)
  have hs := hid (h.fs.rank x hx)
  have h := hid h
  go_enter Tryz.func113, Tryz.ntmps113
  go_wp2_with fail
  refine hk.out.mono ?_
  rintro e w1 ⟨rfl, rfl⟩
  go_wp2_with fail
  refine hs.out.mono ?_
  rintro e w2 ⟨A, B, hAB, rfl, h2, k2⟩
  replace hAB := hid hAB
  have g2 := hid (h.out.after k2 h2)
  have k2 := hid k2
  have hk2 := hid (kept_ok g2.out.rb)
  have hs2 := hid (g2.out.fs.size x hx)
  clear hs hk h h2
  go_wp2_with fail
  refine hk2.out.mono ?_
  rintro e w3 ⟨rfl, rfl⟩
  go_wp2_with fail
  refine hs2.out.mono ?_
  rintro e w4 ⟨rfl, h4, k4⟩
  have fin := hid (And.intro (g2.out.after k4 h4) (k2.out.trans k4))
  clear hs2 hk2 h4 k4
  go_wp2_with fail
  go_ret3
  exact ⟨A.length, by rw [hAB.out]; simp, rfl, fin.out⟩

set_option maxRecDepth 100000 in
set_option maxHeartbeats 1000000 in
theorem RG.place_bad (h : RG lo w rb fb n v seq w0) (x : Int) (hx : ¬ (0 ≤ x ∧ x < (n : Int))) :
    Calls Tryz.prog 113 #[.pointer (some ⟨rb, 0, none⟩), .int .i64 x] w0 fun e w' => e = .returned (.tuple #[.int .i64 0, .int .i64 0, (.iface 63 (.int .i64 12))]) ∧ RG lo w rb fb n v seq w' ∧ Keep w0 w' := by
  have hk := hid (kept_ok h.rb)
  have hs := hid (h.fs.rank_bad x hx)
  have h := hid h
  clear hx
  go_enter Tryz.func113, Tryz.ntmps113
  go_wp2_with fail
  refine hk.out.mono ?_
  rintro e w1 ⟨rfl, rfl⟩
  go_wp2_with fail
  refine hs.out.mono ?_
  rintro e w2 ⟨rfl, h2, k2⟩
  have fin := hid (And.intro (h.out.after k2 h2) k2)
  clear hs h2 k2
  go_wp2_with fail
  go_ret3
  exact ⟨rfl, fin.out⟩

end

end Go.Proofs.YtdmkbcbgjdmgdaaGreatDoor

namespace Go.Proofs.YtdmkbcbgjdmgdaaGreatDoor
open Go.RowKit
set_option linter.unusedVariables false

section
variable {lo rb fb n : Nat} {w w0 : World} {v : Nat → Int} {seq : Nat → List Nat}

/-- A step of a place round a cycle. -/
theorem tmod_nat (a k : Nat) : ((a : Nat) : Int).tmod (k : Int) = ((a % k : Nat) : Int) := by
  rw [Int.tmod_eq_emod_of_nonneg (by omega)]
  rfl

theorem wrap_in (z : Int) (h1 : -9223372036854775808 ≤ z) (h2 : z ≤ 9223372036854775807) : IntKind.i64.wrap z = z := by rw [IntKind.wrap_i64]; omega

theorem step_up (i k : Nat) (hi : i < k) (hk : k ≤ 8388610) : (IntKind.i64.wrap (IntKind.i64.wrap ((i : Int) + (k : Int)) + 1)).tmod (k : Int) = (((i + 1) % k : Nat) : Int) := by
  have w3 : (i : Int) + (k : Int) + 1 = (((i + 1) + k : Nat) : Int) := by omega
  rw [wrap_in ((i : Int) + (k : Int)) (by omega) (by omega), wrap_in _ (by omega) (by omega), w3, tmod_nat, Nat.add_mod_right]

theorem step_down (i k : Nat) (hi : i < k) (hk : k ≤ 8388610) : (IntKind.i64.wrap (IntKind.i64.wrap ((i : Int) + (k : Int)) + (-1))).tmod (k : Int) = (((i + (k - 1)) % k : Nat) : Int) := by
  have w3 : (i : Int) + (k : Int) + (-1) = ((i + (k - 1) : Nat) : Int) := by omega
  rw [wrap_in ((i : Int) + (k : Int)) (by omega) (by omega), wrap_in _ (by omega) (by omega), w3, tmod_nat]

set_option maxRecDepth 100000 in
set_option maxHeartbeats 1000000 in
theorem RG.beside_up (h : RG lo w rb fb n v seq w0) (x : Nat) (hx : x < n) :
    Calls Tryz.prog 84 #[.pointer (some ⟨rb, 0, none⟩), .int .i64 (x : Int), .int .i64 1] w0 fun e w' => ∃ i d : Nat, (seq (x + 1))[i]? = some (x + 1) ∧ (seq (x + 1))[(i + 1) % (seq (x + 1)).length]? = some (d + 1) ∧ e = .returned (.tuple #[.int .i64 (d : Int), .nilIface]) ∧ RG lo w rb fb n v seq w' ∧ Keep w0 w' := by
  have hs := hid (h.place x hx)
  have hl := h.fs.part.len (x + 1) (by omega)
  go_enter Tryz.func84, Tryz.ntmps84
  go_wp2_with fail
  refine hs.out.mono ?_
  rintro e w2 ⟨i, hi, rfl, g2, k2⟩
  obtain ⟨k, hk⟩ : ∃ k, (seq (x + 1)).length = k := ⟨_, rfl⟩
  have hik := (List.getElem?_eq_some_iff.1 hi).1
  rw [hk] at hik hl ⊢
  have hkh := hid hk
  replace hi := hid hi
  have g2 := g2.drew
  have k2 := hid (k2.trans (Keep.ofBelow ((Below.refl _ _).drew)))
  have hk2 := hid (kept_ok g2.rb)
  have hst := step_up i k hik hl
  have hat := g2.fs.at x ((i + 1) % k) hx (by rw [hk]; exact Nat.mod_lt _ (by omega))
  rw [← hst] at hat
  have hat := hid hat
  have g2 := hid g2
  have t0 : ((k : Int) == 0) = false := by rw [beq_eq_false_iff_ne]; omega
  have t1 : ¬ (k = 0) := by omega
  have t2 : ¬ ((k : Int) = 0) := by omega
  clear hs h hk hst
  go_wp2_with fail
  go_region_held3 (fun w' => True) (first | exact True.intro | assumption | go_keep) (first
    | (go_at_call 70; refine hk2.out.mono ?_; rintro e w3 ⟨rfl, rfl⟩)
    | (go_at_call 112; refine hat.out.mono ?_; rintro e w4 ⟨d, hd, rfl, h4, k4⟩; have fin := hid (And.intro (g2.out.after k4 h4) (k2.out.trans k4)); replace hd := hid hd; clear h4 k4))
  all_goals
    go_wp2_with fail
    go_ret2
    exact ⟨i, d, hi.out, by rw [hkh.out]; exact hd.out, rfl, fin.out⟩

set_option maxRecDepth 100000 in
set_option maxHeartbeats 1000000 in
theorem RG.beside_down (h : RG lo w rb fb n v seq w0) (x : Nat) (hx : x < n) :
    Calls Tryz.prog 84 #[.pointer (some ⟨rb, 0, none⟩), .int .i64 (x : Int), .int .i64 (-1)] w0 fun e w' => ∃ i d : Nat, (seq (x + 1))[i]? = some (x + 1) ∧ (seq (x + 1))[(i + ((seq (x + 1)).length - 1)) % (seq (x + 1)).length]? = some (d + 1) ∧ e = .returned (.tuple #[.int .i64 (d : Int), .nilIface]) ∧ RG lo w rb fb n v seq w' ∧ Keep w0 w' := by
  have hs := hid (h.place x hx)
  have hl := h.fs.part.len (x + 1) (by omega)
  go_enter Tryz.func84, Tryz.ntmps84
  go_wp2_with fail
  refine hs.out.mono ?_
  rintro e w2 ⟨i, hi, rfl, g2, k2⟩
  obtain ⟨k, hk⟩ : ∃ k, (seq (x + 1)).length = k := ⟨_, rfl⟩
  have hik := (List.getElem?_eq_some_iff.1 hi).1
  rw [hk] at hik hl ⊢
  have hkh := hid hk
  replace hi := hid hi
  have g2 := g2.drew
  have k2 := hid (k2.trans (Keep.ofBelow ((Below.refl _ _).drew)))
  have hk2 := hid (kept_ok g2.rb)
  have hst := step_down i k hik hl
  have hat := g2.fs.at x ((i + (k - 1)) % k) hx (by rw [hk]; exact Nat.mod_lt _ (by omega))
  rw [← hst] at hat
  have hat := hid hat
  have g2 := hid g2
  have t0 : ((k : Int) == 0) = false := by rw [beq_eq_false_iff_ne]; omega
  have t1 : ¬ (k = 0) := by omega
  have t2 : ¬ ((k : Int) = 0) := by omega
  clear hs h hk hst
  go_wp2_with fail
  go_region_held3 (fun w' => True) (first | exact True.intro | assumption | go_keep) (first
    | (go_at_call 70; refine hk2.out.mono ?_; rintro e w3 ⟨rfl, rfl⟩)
    | (go_at_call 112; refine hat.out.mono ?_; rintro e w4 ⟨d, hd, rfl, h4, k4⟩; have fin := hid (And.intro (g2.out.after k4 h4) (k2.out.trans k4)); replace hd := hid hd; clear h4 k4))
  all_goals
    go_wp2_with fail
    go_ret2
    exact ⟨i, d, hi.out, by rw [hkh.out]; exact hd.out, rfl, fin.out⟩

set_option maxRecDepth 100000 in
set_option maxHeartbeats 1000000 in
theorem RG.beside_bad (h : RG lo w rb fb n v seq w0) (x : Int) (s : Int) (hx : ¬ (0 ≤ x ∧ x < (n : Int))) :
    Calls Tryz.prog 84 #[.pointer (some ⟨rb, 0, none⟩), .int .i64 x, .int .i64 s] w0 fun e w' => e = .returned (.tuple #[.int .i64 0, (.iface 63 (.int .i64 12))]) ∧ RG lo w rb fb n v seq w' ∧ Keep w0 w' := by
  have hs := hid (h.place_bad x hx)
  clear hx
  go_enter Tryz.func84, Tryz.ntmps84
  go_wp2_with fail
  refine hs.out.mono ?_
  rintro e w2 ⟨rfl, g2, k2⟩
  have fin := hid (And.intro g2 k2)
  clear hs g2 k2
  go_wp2_with fail
  go_ret2
  exact ⟨rfl, fin.out⟩

set_option maxRecDepth 100000 in
set_option maxHeartbeats 1000000 in
theorem RG.next (h : RG lo w rb fb n v seq w0) (x : Nat) (hx : x < n) :
    Calls Tryz.prog 57 #[.pointer (some ⟨rb, 0, none⟩), .int .i64 (x : Int)] w0 fun e w' => ∃ d : Nat, (rot (seq (x + 1)) (x + 1))[(1 % (seq (x + 1)).length)]? = some (d + 1) ∧ e = .returned (.tuple #[.int .i64 (d : Int), .nilIface]) ∧ RG lo w rb fb n v seq w' ∧ Keep w0 w' := by
  have p := h.fs.part
  have hs := hid (h.beside_up x hx)
  have hp := hid p
  clear h p
  go_enter Tryz.func57, Tryz.ntmps57
  go_wp2_with fail
  refine hs.out.mono ?_
  rintro e w2 ⟨i, d, hi, hd, rfl, g2, k2⟩
  have hd : Hid ((rot (seq (x + 1)) (x + 1))[(1 % (seq (x + 1)).length)]? = some (d + 1)) := hid (by
    have hik := (List.getElem?_eq_some_iff.1 hi).1
    have p := hp.out
    exact by rw [rot_get (p.nd _ (by omega)) hi (Nat.mod_lt _ (by omega)), Nat.add_mod_mod]; exact hd)
  have fin := hid (And.intro g2 k2)
  clear hs g2 k2 hi
  go_wp2_with fail
  go_ret2
  exact ⟨d, hd.out, rfl, fin.out⟩

set_option maxRecDepth 100000 in
set_option maxHeartbeats 1000000 in
theorem RG.next_bad (h : RG lo w rb fb n v seq w0) (x : Int) (hx : ¬ (0 ≤ x ∧ x < (n : Int))) :
    Calls Tryz.prog 57 #[.pointer (some ⟨rb, 0, none⟩), .int .i64 x] w0 fun e w' => e = .returned (.tuple #[.int .i64 0, (.iface 63 (.int .i64 12))]) ∧ RG lo w rb fb n v seq w' ∧ Keep w0 w' := by
  have hs := hid (h.beside_bad x 1 hx)
  clear h hx
  go_enter Tryz.func57, Tryz.ntmps57
  go_wp2_with fail
  refine hs.out.mono ?_
  rintro e w2 ⟨rfl, g2, k2⟩
  have fin := hid (And.intro g2 k2)
  clear hs g2 k2
  go_wp2_with fail
  go_ret2
  exact ⟨rfl, fin.out⟩

set_option maxRecDepth 100000 in
set_option maxHeartbeats 1000000 in
theorem RG.prev (h : RG lo w rb fb n v seq w0) (x : Nat) (hx : x < n) :
    Calls Tryz.prog 51 #[.pointer (some ⟨rb, 0, none⟩), .int .i64 (x : Int)] w0 fun e w' => ∃ d : Nat, (rot (seq (x + 1)) (x + 1))[((seq (x + 1)).length - 1)]? = some (d + 1) ∧ e = .returned (.tuple #[.int .i64 (d : Int), .nilIface]) ∧ RG lo w rb fb n v seq w' ∧ Keep w0 w' := by
  have p := h.fs.part
  have hs := hid (h.beside_down x hx)
  have hp := hid p
  clear h p
  go_enter Tryz.func51, Tryz.ntmps51
  go_wp2_with fail
  refine hs.out.mono ?_
  rintro e w2 ⟨i, d, hi, hd, rfl, g2, k2⟩
  have hd : Hid ((rot (seq (x + 1)) (x + 1))[((seq (x + 1)).length - 1)]? = some (d + 1)) := hid (by
    have hik := (List.getElem?_eq_some_iff.1 hi).1
    have p := hp.out
    exact by rw [rot_get (p.nd _ (by omega)) hi (by omega)]; exact hd)
  have fin := hid (And.intro g2 k2)
  clear hs g2 k2 hi
  go_wp2_with fail
  go_ret2
  exact ⟨d, hd.out, rfl, fin.out⟩

set_option maxRecDepth 100000 in
set_option maxHeartbeats 1000000 in
theorem RG.prev_bad (h : RG lo w rb fb n v seq w0) (x : Int) (hx : ¬ (0 ≤ x ∧ x < (n : Int))) :
    Calls Tryz.prog 51 #[.pointer (some ⟨rb, 0, none⟩), .int .i64 x] w0 fun e w' => e = .returned (.tuple #[.int .i64 0, (.iface 63 (.int .i64 12))]) ∧ RG lo w rb fb n v seq w' ∧ Keep w0 w' := by
  have hs := hid (h.beside_bad x (-1) hx)
  clear h hx
  go_enter Tryz.func51, Tryz.ntmps51
  go_wp2_with fail
  refine hs.out.mono ?_
  rintro e w2 ⟨rfl, g2, k2⟩
  have fin := hid (And.intro g2 k2)
  clear hs g2 k2
  go_wp2_with fail
  go_ret2
  exact ⟨rfl, fin.out⟩

set_option maxRecDepth 100000 in
set_option maxHeartbeats 2000000 in
theorem RG.turn (h : RG lo w rb fb n v seq w0) (x : Nat) (hx : x < n) :
    Calls Tryz.prog 83 #[.pointer (some ⟨rb, 0, none⟩), .int .i64 (x : Int)] w0 fun e w' => e = .returned .nilIface ∧ RG lo w rb fb n v (turnS seq (x + 1)) w' ∧ Keep w0 w' := by
  have p := h.fs.part
  have hs := hid (h.front x hx (List.length_pos_of_mem (p.self (x + 1) (by omega))))
  have p := hid p
  clear h
  go_enter Tryz.func83, Tryz.ntmps83
  go_wp2_with fail
  refine hs.out.mono ?_
  rintro e w2 ⟨d, hd, rfl, g2, k2⟩
  have hk2 := hid (kept_ok g2.rb)
  have hcu := hid (g2.fs.cut x hx)
  replace hd := hid hd
  have g2 := hid g2
  have k2 := hid k2
  clear hs
  go_wp2_with fail
  refine hk2.out.mono ?_
  rintro e w3 ⟨rfl, rfl⟩
  go_wp2_with fail
  refine hcu.out.mono ?_
  rintro e w4 ⟨A, B, hAB, rfl, h4, k4⟩
  have g4 := g2.out.after k4 h4
  have k4 := hid (k2.out.trans k4)
  replace hAB := hid hAB
  clear h4 hcu hk2 g2 k2
  cases A with
  | nil =>
    have e1 := turnS_at p.out (by omega) hAB.out
    have e2 := (cutS_nil2 p.out (show x + 1 ≠ 0 by omega) hAB.out)
    rw [List.nil_append] at hAB
    rw [e2] at g4
    have fin := hid g4
    replace e1 := hid e1
    clear g4 e2
    try simp only [List.isEmpty_nil, Bool.not_true]
    go_wp2_with fail
    go_ret
    exact ⟨rfl, by rw [e1.out]; exact fin.out, k4.out⟩
  | cons a A =>
    have hda : d + 1 = a := by have := hd.out; rw [hAB.out] at this; simpa using this.symm
    obtain ⟨j1, j2⟩ := turnS_cut p.out (show x + 1 ≠ 0 by omega) hAB.out (f := d + 1) (by rw [hda]; exact List.mem_cons_self)
    have hdn : d < n := by
      have := p.out.le (x + 1) (d + 1) (by omega) (by omega) (by rw [hAB.out, hda]; exact List.mem_append_left _ List.mem_cons_self)
      omega
    have hk4 := hid (kept_ok g4.rb)
    have hj := hid (g4.fs.join x d hx hdn j2)
    have g4 := hid g4
    replace j1 := hid j1
    clear j2 hda
    try simp only [List.isEmpty_cons, Bool.not_false]
    go_wp2_with fail
    refine hk4.out.mono ?_
    rintro e w5 ⟨rfl, rfl⟩
    go_wp2_with fail
    refine hj.out.mono ?_
    rintro e w6 ⟨rfl, h6, k6⟩
    rw [j1.out] at h6
    have fin := hid (And.intro (g4.out.after k6 h6) (k4.out.trans k6))
    clear hj hk4 h6 k6 g4
    go_wp2_with fail
    go_ret
    exact ⟨rfl, fin.out⟩

set_option maxRecDepth 100000 in
set_option maxHeartbeats 1000000 in
theorem RG.turn_bad (h : RG lo w rb fb n v seq w0) (x : Int) (hx : ¬ (0 ≤ x ∧ x < (n : Int))) :
    Calls Tryz.prog 83 #[.pointer (some ⟨rb, 0, none⟩), .int .i64 x] w0 fun e w' => e = .returned (.iface 63 (.int .i64 12)) ∧ RG lo w rb fb n v seq w' ∧ Keep w0 w' := by
  have hs := hid (h.front_bad x hx)
  clear h hx
  go_enter Tryz.func83, Tryz.ntmps83
  go_wp2_with fail
  refine hs.out.mono ?_
  rintro e w2 ⟨rfl, g2, k2⟩
  have fin := hid (And.intro g2 k2)
  clear hs g2 k2
  go_wp2_with fail
  go_ret
  exact ⟨rfl, fin.out⟩

set_option maxRecDepth 100000 in
set_option maxHeartbeats 2000000 in
theorem RG.split (h : RG lo w rb fb n v seq w0) (x y : Nat) (hx : x < n) (hy : y < n) (hne : x ≠ y) (hin : y + 1 ∈ seq (x + 1)) :
    Calls Tryz.prog 52 #[.pointer (some ⟨rb, 0, none⟩), .int .i64 (x : Int), .int .i64 (y : Int)] w0 fun e w' => e = .returned .nilIface ∧ RG lo w rb fb n v (splS seq (x + 1) (y + 1)) w' ∧ Keep w0 w' := by
  have p := h.fs.part
  have hs := hid (h.same x y hx hy true (decide_eq_true ((p.one (by omega) (by omega)).2 hin)))
  have p := hid p
  have t1 : ((x : Int) == (y : Int)) = false := by rw [beq_eq_false_iff_ne]; omega
  replace hin := hid hin
  clear h
  go_enter Tryz.func52, Tryz.ntmps52
  go_wp2_with fail
  refine hs.out.mono ?_
  rintro e w2 ⟨rfl, g2, k2⟩
  have ht := hid (g2.turn x hx)
  have k2 := hid k2
  clear hs g2
  go_wp2_with fail
  refine ht.out.mono ?_
  rintro e w3 ⟨rfl, g3, k3⟩
  have hk3 := hid (kept_ok g3.rb)
  have hcu := hid (g3.fs.cut y hy)
  have g3 := hid g3
  have k3 := hid (k2.out.trans k3)
  clear ht k2
  go_wp2_with fail
  refine hk3.out.mono ?_
  rintro e w4 ⟨rfl, rfl⟩
  go_wp2_with fail
  refine hcu.out.mono ?_
  rintro e w5 ⟨A, B, hAB, rfl, h5, k5⟩
  rw [turnS_in hin.out] at hAB
  rw [split_is p.out (show x + 1 ≠ 0 by omega) hAB] at h5
  have fin := hid (And.intro (g3.out.after k5 h5) (k3.out.trans k5))
  clear hcu hk3 h5 k5 g3 hAB
  generalize (!A.isEmpty) = bA
  go_wp2_with fail
  go_ret
  exact ⟨rfl, fin.out⟩

set_option maxRecDepth 100000 in
set_option maxHeartbeats 1000000 in
theorem RG.split_self (h : RG lo w rb fb n v seq w0) (x : Nat) (hx : x < n) :
    Calls Tryz.prog 52 #[.pointer (some ⟨rb, 0, none⟩), .int .i64 (x : Int), .int .i64 (x : Int)] w0 fun e w' => e = .returned (.iface 63 (.int .i64 20)) ∧ RG lo w rb fb n v seq w' ∧ Keep w0 w' := by
  have p := h.fs.part
  have hs := hid (h.same x x hx hx true (by simp))
  clear h p
  go_enter Tryz.func52, Tryz.ntmps52
  go_wp2_with fail
  refine hs.out.mono ?_
  rintro e w2 ⟨rfl, g2, k2⟩
  have fin := hid (And.intro g2 k2)
  clear hs g2 k2
  go_wp2_with fail
  go_ret
  exact ⟨rfl, fin.out⟩

set_option maxRecDepth 100000 in
set_option maxHeartbeats 1000000 in
theorem RG.split_apart (h : RG lo w rb fb n v seq w0) (x y : Nat) (hx : x < n) (hy : y < n) (hin : y + 1 ∉ seq (x + 1)) :
    Calls Tryz.prog 52 #[.pointer (some ⟨rb, 0, none⟩), .int .i64 (x : Int), .int .i64 (y : Int)] w0 fun e w' => e = .returned (.iface 63 (.int .i64 21)) ∧ RG lo w rb fb n v seq w' ∧ Keep w0 w' := by
  have p := h.fs.part
  have hs := hid (h.same x y hx hy false (decide_eq_false (fun e => hin ((p.one (by omega) (by omega)).1 e))))
  have hne : x ≠ y := fun e => hin (by rw [← e]; exact p.self _ (by omega))
  have t1 : ((x : Int) == (y : Int)) = false := by rw [beq_eq_false_iff_ne]; omega
  clear hin
  clear h p
  go_enter Tryz.func52, Tryz.ntmps52
  go_wp2_with fail
  refine hs.out.mono ?_
  rintro e w2 ⟨rfl, g2, k2⟩
  have fin := hid (And.intro g2 k2)
  clear hs g2 k2
  go_wp2_with fail
  go_ret
  exact ⟨rfl, fin.out⟩

set_option maxRecDepth 100000 in
set_option maxHeartbeats 1000000 in
theorem RG.split_bad (h : RG lo w rb fb n v seq w0) (x y : Int) (hx : ¬ ((0 ≤ x ∧ x < (n : Int)) ∧ (0 ≤ y ∧ y < (n : Int)))) :
    Calls Tryz.prog 52 #[.pointer (some ⟨rb, 0, none⟩), .int .i64 x, .int .i64 y] w0 fun e w' => e = .returned (.iface 63 (.int .i64 12)) ∧ RG lo w rb fb n v seq w' ∧ Keep w0 w' := by
  have p := h.fs.part
  have hs := hid (h.same_bad x y hx)
  clear hx
  clear h p
  go_enter Tryz.func52, Tryz.ntmps52
  go_wp2_with fail
  refine hs.out.mono ?_
  rintro e w2 ⟨rfl, g2, k2⟩
  have fin := hid (And.intro g2 k2)
  clear hs g2 k2
  go_wp2_with fail
  go_ret
  exact ⟨rfl, fin.out⟩

set_option maxRecDepth 100000 in
set_option maxHeartbeats 1000000 in
theorem RG.merge_same (h : RG lo w rb fb n v seq w0) (x y : Nat) (hx : x < n) (hy : y < n) (hin : y + 1 ∈ seq (x + 1)) :
    Calls Tryz.prog 55 #[.pointer (some ⟨rb, 0, none⟩), .int .i64 (x : Int), .int .i64 (y : Int)] w0 fun e w' => e = .returned (.iface 63 (.int .i64 20)) ∧ RG lo w rb fb n v seq w' ∧ Keep w0 w' := by
  have p := h.fs.part
  have hs := hid (h.same x y hx hy true (decide_eq_true ((p.one (by omega) (by omega)).2 hin)))
  clear hin
  clear h p
  go_enter Tryz.func55, Tryz.ntmps55
  go_wp2_with fail
  refine hs.out.mono ?_
  rintro e w2 ⟨rfl, g2, k2⟩
  have fin := hid (And.intro g2 k2)
  clear hs g2 k2
  go_wp2_with fail
  go_ret
  exact ⟨rfl, fin.out⟩

set_option maxRecDepth 100000 in
set_option maxHeartbeats 1000000 in
theorem RG.merge_bad (h : RG lo w rb fb n v seq w0) (x y : Int) (hx : ¬ ((0 ≤ x ∧ x < (n : Int)) ∧ (0 ≤ y ∧ y < (n : Int)))) :
    Calls Tryz.prog 55 #[.pointer (some ⟨rb, 0, none⟩), .int .i64 x, .int .i64 y] w0 fun e w' => e = .returned (.iface 63 (.int .i64 12)) ∧ RG lo w rb fb n v seq w' ∧ Keep w0 w' := by
  have p := h.fs.part
  have hs := hid (h.same_bad x y hx)
  clear hx
  clear h p
  go_enter Tryz.func55, Tryz.ntmps55
  go_wp2_with fail
  refine hs.out.mono ?_
  rintro e w2 ⟨rfl, g2, k2⟩
  have fin := hid (And.intro g2 k2)
  clear hs g2 k2
  go_wp2_with fail
  go_ret
  exact ⟨rfl, fin.out⟩







end

end Go.Proofs.YtdmkbcbgjdmgdaaGreatDoor
