/- The calls of Rings, walked. -/
import Derived.Test.YtiiklklokkcnpaaDoorRot5
import Derived.Test.YtiiklklokkcnpaaDoorAt4
import Derived.Test.YtiiklklokkcnpaaDoorErr5
namespace Go.Proofs.YtiiklklokkcnpaaDoor
open Go.RowKit
set_option linter.unusedVariables false

/-- The block of a Rings: where its sequences are kept. -/
def RB (w : World) (rb fb : Nat) : Prop := w.heap[rb]? = some (.cells #[.pointer (some ⟨fb, 0, none⟩)] 61 (0, 0))

theorem RB.keep {w w' : World} {rb fb : Nat} (h : RB w rb fb) (k : Keep w w') : RB w' rb fb := k rb _ _ _ h (by decide) (by decide)

theorem RB.cell {w : World} {rb fb : Nat} (h : RB w rb fb) : w.cell? ⟨rb, 0, none⟩ = some (.pointer (some ⟨fb, 0, none⟩)) := by
  unfold World.cell?
  rw [h]
  simp

/-- Rings that were made since w. -/
structure RG (lo : Nat) (w : World) (rb fb n : Nat) (v : Nat → Int) (seq : Nat → List Nat) (wr : World) : Prop where
  fs : FS lo w fb n v seq wr
  rb : RB wr rb fb

theorem RG.more {lo rb fb n : Nat} {w wr w' : World} {v : Nat → Int} {seq : Nat → List Nat} (h : RG lo w rb fb n v seq wr) (hb : Below wr.heap.size wr w') : RG lo w rb fb n v seq w' := ⟨h.fs.more hb, h.rb.keep (Keep.ofBelow hb)⟩

theorem RG.alloc {lo rb fb n : Nat} {w wr : World} {v : Nat → Int} {seq : Nat → List Nat} (h : RG lo w rb fb n v seq wr) (o : Obj) : RG lo w rb fb n v seq (wr.alloc o) := h.more ((Below.refl _ _).alloc (Nat.le_refl _) o)

theorem RG.drew {lo rb fb n : Nat} {w wr : World} {v : Nat → Int} {seq : Nat → List Nat} (h : RG lo w rb fb n v seq wr) : RG lo w rb fb n v seq wr.drew := h.more (Below.refl _ _).drew

theorem RG.after {lo rb fb n : Nat} {w wr w' : World} {v v' : Nat → Int} {seq seq' : Nat → List Nat} (h : RG lo w rb fb n v seq wr) (k : Keep wr w') (f : FS lo w fb n v' seq' w') : RG lo w rb fb n v' seq' w' := ⟨f, h.rb.keep k⟩

set_option maxRecDepth 100000 in
theorem kept_ok {rb fb : Nat} {w : World} (h : RB w rb fb) : Calls Tryd.prog 31 #[.pointer (some ⟨rb, 0, none⟩)] w fun e w' => e = .returned (.pointer (some ⟨fb, 0, none⟩)) ∧ w = w' := by
  have hc := h.cell
  clear h
  go_enter Tryd.func31, Tryd.ntmps31
  go_wp2_with fail
  go_ret
  exact ⟨rfl, rfl⟩

set_option maxRecDepth 100000 in
theorem kept_nil (w : World) : Calls Tryd.prog 31 #[.pointer none] w fun e w' => e = .returned (.pointer none) ∧ w = w' := by
  go_enter Tryd.func31, Tryd.ntmps31
  go_wp2_with fail
  go_ret
  exact ⟨rfl, rfl⟩

section
variable {lo rb fb n : Nat} {w w0 : World} {v : Nat → Int} {seq : Nat → List Nat}

set_option maxRecDepth 100000 in
set_option maxHeartbeats 1000000 in
theorem RG.same (h : RG lo w rb fb n v seq w0) (x y : Nat) (hx : x < n) (hy : y < n) (B : Bool) (hB : decide (seq (x + 1) = seq (y + 1)) = B) :
    Calls Tryd.prog 20 #[.pointer (some ⟨rb, 0, none⟩), .int .i64 (x : Int), .int .i64 (y : Int)] w0 fun e w' => e = .returned (.tuple #[.bool B, .nilIface]) ∧ RG lo w rb fb n v seq w' ∧ Keep w0 w' := by
  have hk := hid (kept_ok h.rb)
  have hs := hid ((h.fs.same x y hx hy))
  have h := hid h
  rw [hB] at hs
  clear hB
  go_enter Tryd.func20, Tryd.ntmps20
  go_wp2_with fail
  refine hk.out.mono ?_
  rintro e w1 ⟨rfl, rfl⟩
  go_wp2_with fail
  refine hs.out.mono ?_
  rintro e w2 ⟨rfl, h2, k2⟩
  have fin := hid (And.intro (h.out.after k2 h2) k2)
  clear hs h2 k2
  go_wp2_with fail
  go_ret2
  exact ⟨rfl, fin.out⟩

set_option maxRecDepth 100000 in
set_option maxHeartbeats 1000000 in
theorem RG.len (h : RG lo w rb fb n v seq w0) (x : Nat) (hx : x < n) :
    Calls Tryd.prog 25 #[.pointer (some ⟨rb, 0, none⟩), .int .i64 (x : Int)] w0 fun e w' => e = .returned (.tuple #[.int .i64 ((seq (x + 1)).length : Int), .nilIface]) ∧ RG lo w rb fb n v seq w' ∧ Keep w0 w' := by
  have hk := hid (kept_ok h.rb)
  have hs := hid ((h.fs.size x hx))
  have h := hid h
  go_enter Tryd.func25, Tryd.ntmps25
  go_wp2_with fail
  refine hk.out.mono ?_
  rintro e w1 ⟨rfl, rfl⟩
  go_wp2_with fail
  refine hs.out.mono ?_
  rintro e w2 ⟨rfl, h2, k2⟩
  have fin := hid (And.intro (h.out.after k2 h2) k2)
  clear hs h2 k2
  go_wp2_with fail
  go_ret2
  exact ⟨rfl, fin.out⟩

set_option maxRecDepth 100000 in
set_option maxHeartbeats 1000000 in
theorem RG.len_bad (h : RG lo w rb fb n v seq w0) (x : Int) (hx : ¬ (0 ≤ x ∧ x < (n : Int))) :
    Calls Tryd.prog 25 #[.pointer (some ⟨rb, 0, none⟩), .int .i64 x] w0 fun e w' => e = .returned (.tuple #[.int .i64 0, (.iface 62 (.int .i64 12))]) ∧ RG lo w rb fb n v seq w' ∧ Keep w0 w' := by
  have hk := hid (kept_ok h.rb)
  have hs := hid ((h.fs.size_bad x hx))
  have h := hid h
  go_enter Tryd.func25, Tryd.ntmps25
  go_wp2_with fail
  refine hk.out.mono ?_
  rintro e w1 ⟨rfl, rfl⟩
  go_wp2_with fail
  refine hs.out.mono ?_
  rintro e w2 ⟨rfl, h2, k2⟩
  have fin := hid (And.intro (h.out.after k2 h2) k2)
  clear hs h2 k2
  go_wp2_with fail
  go_ret2
  exact ⟨rfl, fin.out⟩

set_option maxRecDepth 100000 in
set_option maxHeartbeats 1000000 in
theorem RG.same_bad (h : RG lo w rb fb n v seq w0) (x y : Int) (hx : ¬ ((0 ≤ x ∧ x < (n : Int)) ∧ (0 ≤ y ∧ y < (n : Int)))) :
    Calls Tryd.prog 20 #[.pointer (some ⟨rb, 0, none⟩), .int .i64 x, .int .i64 y] w0 fun e w' => e = .returned (.tuple #[.bool false, (.iface 62 (.int .i64 12))]) ∧ RG lo w rb fb n v seq w' ∧ Keep w0 w' := by
  have hk := hid (kept_ok h.rb)
  have hs := hid ((h.fs.same_bad x y hx))
  have h := hid h
  go_enter Tryd.func20, Tryd.ntmps20
  go_wp2_with fail
  refine hk.out.mono ?_
  rintro e w1 ⟨rfl, rfl⟩
  go_wp2_with fail
  refine hs.out.mono ?_
  rintro e w2 ⟨rfl, h2, k2⟩
  have fin := hid (And.intro (h.out.after k2 h2) k2)
  clear hs h2 k2
  go_wp2_with fail
  go_ret2
  exact ⟨rfl, fin.out⟩

set_option maxRecDepth 100000 in
set_option maxHeartbeats 1000000 in
theorem RG.front (h : RG lo w rb fb n v seq w0) (x : Nat) (hx : x < n) (h0 : 0 < (seq (x + 1)).length) :
    Calls Tryd.prog 24 #[.pointer (some ⟨rb, 0, none⟩), .int .i64 (x : Int)] w0 fun e w' => ∃ d : Nat, (seq (x + 1))[0]? = some (d + 1) ∧ e = .returned (.tuple #[.int .i64 (d : Int), .nilIface]) ∧ RG lo w rb fb n v seq w' ∧ Keep w0 w' := by
  have hk := hid (kept_ok h.rb)
  have hs := hid ((h.fs.at x 0 hx h0))
  have h := hid h
  go_enter Tryd.func24, Tryd.ntmps24
  go_wp2_with fail
  refine hk.out.mono ?_
  rintro e w1 ⟨rfl, rfl⟩
  go_wp2_with fail
  refine hs.out.mono ?_
  rintro e w2 ⟨d, hd, rfl, h2, k2⟩
  replace hd := hid hd
  have fin := hid (And.intro (h.out.after k2 h2) k2)
  clear hs h2 k2
  go_wp2_with fail
  go_ret2
  exact ⟨d, hd.out, rfl, fin.out⟩

set_option maxRecDepth 100000 in
set_option maxHeartbeats 1000000 in
theorem RG.front_bad (h : RG lo w rb fb n v seq w0) (x : Int) (hx : ¬ (0 ≤ x ∧ x < (n : Int))) :
    Calls Tryd.prog 24 #[.pointer (some ⟨rb, 0, none⟩), .int .i64 x] w0 fun e w' => e = .returned (.tuple #[.int .i64 0, (.iface 62 (.int .i64 12))]) ∧ RG lo w rb fb n v seq w' ∧ Keep w0 w' := by
  have hk := hid (kept_ok h.rb)
  have hs := hid ((h.fs.at_bad x 0 hx))
  have h := hid h
  go_enter Tryd.func24, Tryd.ntmps24
  go_wp2_with fail
  refine hk.out.mono ?_
  rintro e w1 ⟨rfl, rfl⟩
  go_wp2_with fail
  refine hs.out.mono ?_
  rintro e w2 ⟨rfl, h2, k2⟩
  have fin := hid (And.intro (h.out.after k2 h2) k2)
  clear hs h2 k2
  go_wp2_with fail
  go_ret2
  exact ⟨rfl, fin.out⟩

set_option maxRecDepth 100000 in
set_option maxHeartbeats 1000000 in
theorem RG.place (h : RG lo w rb fb n v seq w0) (x : Nat) (hx : x < n) :
    Calls Tryd.prog 59 #[.pointer (some ⟨rb, 0, none⟩), .int .i64 (x : Int)] w0 fun e w' => ∃ i : Nat, (seq (x + 1))[i]? = some (x + 1) ∧ e = .returned (.tuple #[.int .i64 (i : Int), .int .i64 ((seq (x + 1)).length : Int), .nilIface]) ∧ RG lo w rb fb n v seq w' ∧ Keep w0 w' := by
  have hk := hid (kept_ok h.rb)
  have hs := hid (h.fs.rank x hx)
  have h := hid h
  go_enter Tryd.func59, Tryd.ntmps59
  go_wp2_with fail
  refine hk.out.mono ?_
  rintro e w1 ⟨rfl, rfl⟩
  go_wp2_with fail
  refine hs.out.mono ?_
  rintro e w2 ⟨A, B, hAB, rfl, h2, k2⟩
  replace hAB := hid hAB
  have g2 := hid (h.out.after k2 h2)
  have k2 := hid k2
  have hk2 := hid (kept_ok g2.out.rb)
  have hs2 := hid (g2.out.fs.size x hx)
  clear hs hk h h2
  go_wp2_with fail
  refine hk2.out.mono ?_
  rintro e w3 ⟨rfl, rfl⟩
  go_wp2_with fail
  refine hs2.out.mono ?_
  rintro e w4 ⟨rfl, h4, k4⟩
  have fin := hid (And.intro (g2.out.after k4 h4) (k2.out.trans k4))
  clear hs2 hk2 h4 k4
  go_wp2_with fail
  go_ret3
  exact ⟨A.length, by rw [hAB.out]; simp, rfl, fin.out⟩

set_option maxRecDepth 100000 in
set_option maxHeartbeats 1000000 in
theorem RG.place_bad (h : RG lo w rb fb n v seq w0) (x : Int) (hx : ¬ (0 ≤ x ∧ x < (n : Int))) :
    Calls Tryd.prog 59 #[.pointer (some ⟨rb, 0, none⟩), .int .i64 x] w0 fun e w' => e = .returned (.tuple #[.int .i64 0, .int .i64 0, (.iface 62 (.int .i64 12))]) ∧ RG lo w rb fb n v seq w' ∧ Keep w0 w' := by
  have hk := hid (kept_ok h.rb)
  have hs := hid (h.fs.rank_bad x hx)
  have h := hid h
  clear hx
  go_enter Tryd.func59, Tryd.ntmps59
  go_wp2_with fail
  refine hk.out.mono ?_
  rintro e w1 ⟨rfl, rfl⟩
  go_wp2_with fail
  refine hs.out.mono ?_
  rintro e w2 ⟨rfl, h2, k2⟩
  have fin := hid (And.intro (h.out.after k2 h2) k2)
  clear hs h2 k2
  go_wp2_with fail
  go_ret3
  exact ⟨rfl, fin.out⟩

end

end Go.Proofs.YtiiklklokkcnpaaDoor
