/- 'each' of a Web, walked: a tie's node linked with, or cut from, its ends. Where a Web stands: its rings, its trees, its ends. 'turn', 'ready' of a Web, walked. -/
import Derived.Test.YtdmkbcbgjdmgdaaGreatDoorBpure
import Derived.Test.YtdmkbcbgjdmgdaaGreatDoorCtApi6
import Derived.Test.YtdmkbcbgjdmgdaaGreatDoorBctc
import Derived.Test.YtdmkbcbgjdmgdaaGreatDoorBwm
import Derived.Deep.RegionHeld3
namespace Go.Proofs.YtdmkbcbgjdmgdaaGreatDoor
open Go.RowKit
set_option linter.unusedVariables false

theorem ends_at (x y : Int) (w : World) : (Instr.index 84 (.agg #[.int .i64 x, .int .i64 y]) (.int .i64 0)).run Tryz.prog w = .ok (.int .i64 x) w ∧ (Instr.index 84 (.agg #[.int .i64 x, .int .i64 y]) (.int .i64 1)).run Tryz.prog w = .ok (.int .i64 y) w := by
  have hi := info_parts infoInt
  obtain ⟨i0, hif, hz0, hz1, hz2⟩ := hi
  constructor <;> simp [Instr.index, asIntOf, run_underlying Tryz.underlying84, part, Go.sizeOf, typeInfo, hif, hz1, isAgg, run_underlying Tryz.underlying3, go_sem]

set_option maxRecDepth 100000 in
set_option maxHeartbeats 2000000 in
theorem each_link {lo cb N : Nat} {w w0 : World} {v : Nat → Int} {ad0 ad1 ad2 : Nat → Nat → Prop} (wb e a b : Nat) (h : Ct.FS lo w cb N v ad0 w0) (he : e ≤ 1048576) (ha : a ≤ 4194304) (hb : b ≤ 4194304)
    (h1 : ∀ y, Ct.FS lo w cb N v ad0 y → Calls Tryz.prog 56 #[.pointer (some ⟨cb, 0, none⟩), .int .i64 ((tN e : Nat) : Int), .int .i64 ((iN a : Nat) : Int)] y fun e w' => e = .returned .nilIface ∧ Ct.FS lo w cb N v ad1 w' ∧ Ct.Keep y w')
    (h2 : ∀ y, Ct.FS lo w cb N v ad1 y → Calls Tryz.prog 56 #[.pointer (some ⟨cb, 0, none⟩), .int .i64 ((tN e : Nat) : Int), .int .i64 ((iN b : Nat) : Int)] y fun e w' => e = .returned .nilIface ∧ Ct.FS lo w cb N v ad2 w' ∧ Ct.Keep y w') :
    Calls Tryz.prog 60 #[.pointer (some ⟨wb, 0, none⟩), .int .i64 (e : Int), .agg #[.int .i64 (a : Int), .int .i64 (b : Int)], .func (.func 56) #[.pointer (some ⟨cb, 0, none⟩)] #[]] w0 fun e w' => e = .returned .nilIface ∧ Ct.FS lo w cb N v ad2 w' ∧ Ct.Keep w0 w' := by
  have st0 : Hid (Ct.FS lo w cb N v ad0 (w0.alloc (.cells #[.int .i64 (a : Int), .int .i64 (b : Int)] 84)) ∧ Ct.Keep w0 (w0.alloc (.cells #[.int .i64 (a : Int), .int .i64 (b : Int)] 84))) := hid ⟨h.alloc _, (Ct.Keep.refl _).alloc _⟩
  have h1 := hid h1
  have h2 := hid h2
  clear h
  go_enter Tryz.func60, Tryz.ntmps60
  go_wp2_with fail
  go_loopw [10, 11, 13] (fun _ _ u wr => ∃ k : Nat, k ≤ 2 ∧ u = .int .i64 (k : Int) ∧ Hid ((k = 0 → Ct.FS lo w cb N v ad0 wr) ∧ (k = 1 → Ct.FS lo w cb N v ad1 wr) ∧ (k = 2 → Ct.FS lo w cb N v ad2 wr) ∧ Ct.Keep w0 wr)) (fun _ _ u _ => 2 - (intOf u).toNat)
  case atStart => exact ⟨0, by omega, by go_num, hid ⟨fun _ => st0.out.1, fun q => by omega, fun q => by omega, st0.out.2⟩⟩
  case round =>
    clear st0
    obtain ⟨k, hk, rfl, hst⟩ := hrel
    have hkc : k = 0 ∨ k = 1 ∨ k = 2 := by omega
    rcases hkc with rfl | rfl | rfl
    · have hi0 := (ends_at (a : Int) (b : Int) wr).1
      have hc := hid (h1.out wr (hst.out.1 rfl))
      have k3 := hid hst.out.2.2.2
      clear hst h1
      go_wp2_with fail
      refine (tnode_ok e he _).mono ?_
      rintro x w2 ⟨rfl, rfl⟩
      go_wp2_with fail
      refine (inode_ok a ha _).mono ?_
      rintro x w2 ⟨rfl, rfl⟩
      go_wp2_with fail
      refine hc.out.mono ?_
      rintro x w4 ⟨rfl, g4, k4⟩
      have st4 : Hid (Ct.FS lo w cb N v ad1 w4 ∧ Ct.Keep w0 w4) := hid ⟨g4, k3.out.trans k4⟩
      clear hc g4 k4
      go_wp2_with fail
      go_roundw
      case rel => exact ⟨1, by omega, by go_num, hid ⟨fun q => by omega, fun _ => st4.out.1, fun q => by omega, st4.out.2⟩⟩
      case measure => simp [intOf]
    · have hi0 := (ends_at (a : Int) (b : Int) wr).2
      have hc := hid (h2.out wr (hst.out.2.1 rfl))
      have k3 := hid hst.out.2.2.2
      clear hst h2
      go_wp2_with fail
      refine (tnode_ok e he _).mono ?_
      rintro x w2 ⟨rfl, rfl⟩
      go_wp2_with fail
      refine (inode_ok b hb _).mono ?_
      rintro x w2 ⟨rfl, rfl⟩
      go_wp2_with fail
      refine hc.out.mono ?_
      rintro x w4 ⟨rfl, g4, k4⟩
      have st4 : Hid (Ct.FS lo w cb N v ad2 w4 ∧ Ct.Keep w0 w4) := hid ⟨g4, k3.out.trans k4⟩
      clear hc g4 k4
      go_wp2_with fail
      go_roundw
      case rel => exact ⟨2, by omega, by go_num, hid ⟨fun q => by omega, fun q => by omega, fun _ => st4.out.1, st4.out.2⟩⟩
      case measure => simp [intOf]
    · have fin := hid (And.intro (hst.out.2.2.1 rfl) hst.out.2.2.2)
      clear hst h1 h2
      go_wp2_with fail
      go_ret
      exact ⟨rfl, fin.out⟩

set_option maxRecDepth 100000 in
set_option maxHeartbeats 2000000 in
theorem each_cut {lo cb N : Nat} {w w0 : World} {v : Nat → Int} {ad0 ad1 ad2 : Nat → Nat → Prop} (wb e a b : Nat) (h : Ct.FS lo w cb N v ad0 w0) (he : e ≤ 1048576) (ha : a ≤ 4194304) (hb : b ≤ 4194304)
    (h1 : ∀ y, Ct.FS lo w cb N v ad0 y → Calls Tryz.prog 53 #[.pointer (some ⟨cb, 0, none⟩), .int .i64 ((tN e : Nat) : Int), .int .i64 ((iN a : Nat) : Int)] y fun e w' => e = .returned .nilIface ∧ Ct.FS lo w cb N v ad1 w' ∧ Ct.Keep y w')
    (h2 : ∀ y, Ct.FS lo w cb N v ad1 y → Calls Tryz.prog 53 #[.pointer (some ⟨cb, 0, none⟩), .int .i64 ((tN e : Nat) : Int), .int .i64 ((iN b : Nat) : Int)] y fun e w' => e = .returned .nilIface ∧ Ct.FS lo w cb N v ad2 w' ∧ Ct.Keep y w') :
    Calls Tryz.prog 60 #[.pointer (some ⟨wb, 0, none⟩), .int .i64 (e : Int), .agg #[.int .i64 (a : Int), .int .i64 (b : Int)], .func (.func 53) #[.pointer (some ⟨cb, 0, none⟩)] #[]] w0 fun e w' => e = .returned .nilIface ∧ Ct.FS lo w cb N v ad2 w' ∧ Ct.Keep w0 w' := by
  have st0 : Hid (Ct.FS lo w cb N v ad0 (w0.alloc (.cells #[.int .i64 (a : Int), .int .i64 (b : Int)] 84)) ∧ Ct.Keep w0 (w0.alloc (.cells #[.int .i64 (a : Int), .int .i64 (b : Int)] 84))) := hid ⟨h.alloc _, (Ct.Keep.refl _).alloc _⟩
  have h1 := hid h1
  have h2 := hid h2
  clear h
  go_enter Tryz.func60, Tryz.ntmps60
  go_wp2_with fail
  go_loopw [10, 11, 13] (fun _ _ u wr => ∃ k : Nat, k ≤ 2 ∧ u = .int .i64 (k : Int) ∧ Hid ((k = 0 → Ct.FS lo w cb N v ad0 wr) ∧ (k = 1 → Ct.FS lo w cb N v ad1 wr) ∧ (k = 2 → Ct.FS lo w cb N v ad2 wr) ∧ Ct.Keep w0 wr)) (fun _ _ u _ => 2 - (intOf u).toNat)
  case atStart => exact ⟨0, by omega, by go_num, hid ⟨fun _ => st0.out.1, fun q => by omega, fun q => by omega, st0.out.2⟩⟩
  case round =>
    clear st0
    obtain ⟨k, hk, rfl, hst⟩ := hrel
    have hkc : k = 0 ∨ k = 1 ∨ k = 2 := by omega
    rcases hkc with rfl | rfl | rfl
    · have hi0 := (ends_at (a : Int) (b : Int) wr).1
      have hc := hid (h1.out wr (hst.out.1 rfl))
      have k3 := hid hst.out.2.2.2
      clear hst h1
      go_wp2_with fail
      refine (tnode_ok e he _).mono ?_
      rintro x w2 ⟨rfl, rfl⟩
      go_wp2_with fail
      refine (inode_ok a ha _).mono ?_
      rintro x w2 ⟨rfl, rfl⟩
      go_wp2_with fail
      refine hc.out.mono ?_
      rintro x w4 ⟨rfl, g4, k4⟩
      have st4 : Hid (Ct.FS lo w cb N v ad1 w4 ∧ Ct.Keep w0 w4) := hid ⟨g4, k3.out.trans k4⟩
      clear hc g4 k4
      go_wp2_with fail
      go_roundw
      case rel => exact ⟨1, by omega, by go_num, hid ⟨fun q => by omega, fun _ => st4.out.1, fun q => by omega, st4.out.2⟩⟩
      case measure => simp [intOf]
    · have hi0 := (ends_at (a : Int) (b : Int) wr).2
      have hc := hid (h2.out wr (hst.out.2.1 rfl))
      have k3 := hid hst.out.2.2.2
      clear hst h2
      go_wp2_with fail
      refine (tnode_ok e he _).mono ?_
      rintro x w2 ⟨rfl, rfl⟩
      go_wp2_with fail
      refine (inode_ok b hb _).mono ?_
      rintro x w2 ⟨rfl, rfl⟩
      go_wp2_with fail
      refine hc.out.mono ?_
      rintro x w4 ⟨rfl, g4, k4⟩
      have st4 : Hid (Ct.FS lo w cb N v ad2 w4 ∧ Ct.Keep w0 w4) := hid ⟨g4, k3.out.trans k4⟩
      clear hc g4 k4
      go_wp2_with fail
      go_roundw
      case rel => exact ⟨2, by omega, by go_num, hid ⟨fun q => by omega, fun q => by omega, fun _ => st4.out.1, st4.out.2⟩⟩
      case measure => simp [intOf]
    · have fin := hid (And.intro (hst.out.2.2.1 rfl) hst.out.2.2.2)
      clear hst h1 h2
      go_wp2_with fail
      go_ret
      exact ⟨rfl, fin.out⟩

end Go.Proofs.YtdmkbcbgjdmgdaaGreatDoor

namespace Go.Proofs.YtdmkbcbgjdmgdaaGreatDoor
open Go.RowKit
set_option linter.unusedVariables false

/-- A Web that was made since w. -/
structure WX (lo : Nat) (w : World) (wb n m rb fb cb N : Nat) (vz v : Nat → Int) (seq : Nat → List Nat) (adj : Nat → Nat → Prop) (tt : Nat → Option (Nat × Nat)) (wr : World) : Prop where
  wm : Wm lo wb n m rb cb tt wr
  rg : RG lo w rb fb n vz seq wr
  ct : Ct.FS lo w cb N v adj wr

/-- What its numbers are like. -/
structure WI (n m N : Nat) (seq : Nat → List Nat) (tt : Nat → Option (Nat × Nat)) (ky v : Nat → Int) : Prop where
  n1 : 1 ≤ n
  n2 : n ≤ 4194304
  m1 : 1 ≤ m
  m2 : m ≤ 1048576
  ni : ∀ x, x < n → iN x < N
  nt : ∀ e, e < m → tN e < N
  ends : ∀ e a b, tt e = some (a, b) → e < m ∧ a < n ∧ b < n ∧ a ≠ b
  val : ∀ e a b, tt e = some (a, b) → v (tN e + 1) = ky e ∧ -9223372036854775808 ≤ ky e ∧ ky e < 9223372036854775807
  itm : ∀ x, x < n → v (iN x + 1) = 9223372036854775807 ∨ (v (iN x + 1) = 0 ∧ seq (x + 1) = [x + 1] ∧ ∀ e a b, tt e = some (a, b) → x ≠ a ∧ x ≠ b)

/-- The Web, between calls. -/
def WS (lo : Nat) (w : World) (wb n m : Nat) (seq : Nat → List Nat) (tt : Nat → Option (Nat × Nat)) (ky : Nat → Int) (wr : World) : Prop :=
  ∃ rb fb cb N vz v, WX lo w wb n m rb fb cb N vz v seq (Ad n seq tt) tt wr ∧ WI n m N seq tt ky v

section
variable {lo wb n m rb fb cb N : Nat} {w w0 w' : World} {vz vz' v v' : Nat → Int} {seq seq' : Nat → List Nat} {adj adj' : Nat → Nat → Prop} {tt tt' : Nat → Option (Nat × Nat)} {ky : Nat → Int}

theorem WX.more (h : WX lo w wb n m rb fb cb N vz v seq adj tt w0) (hb : Below w0.heap.size w0 w') : WX lo w wb n m rb fb cb N vz v seq adj tt w' := ⟨h.wm.more hb, h.rg.more hb, h.ct.more hb⟩
theorem WX.alloc (h : WX lo w wb n m rb fb cb N vz v seq adj tt w0) (o : Obj) : WX lo w wb n m rb fb cb N vz v seq adj tt (w0.alloc o) := h.more ((Below.refl _ _).alloc (Nat.le_refl _) o)
theorem WX.drew (h : WX lo w wb n m rb fb cb N vz v seq adj tt w0) : WX lo w wb n m rb fb cb N vz v seq adj tt w0.drew := h.more (Below.refl _ _).drew

theorem WX.ring (h : WX lo w wb n m rb fb cb N vz v seq adj tt w0) (g : RG lo w rb fb n vz' seq' w') (k : Keep w0 w') : WX lo w wb n m rb fb cb N vz' v seq' adj tt w' := ⟨h.wm.keep k, g, ct_of h.ct k g.fs.below⟩
theorem WX.trees (h : WX lo w wb n m rb fb cb N vz v seq adj tt w0) (g : Ct.FS lo w cb N v' adj' w') (k : Ct.Keep w0 w') : WX lo w wb n m rb fb cb N vz v' seq adj' tt w' := ⟨h.wm.ct k, rg_of h.rg k g.below, g⟩
theorem WX.own (h : WX lo w wb n m rb fb cb N vz v seq adj tt w0) (g : Wm lo wb n m rb cb tt' w') (k : KeepO w0 w') (hb : Below lo w0 w') : WX lo w wb n m rb fb cb N vz v seq adj tt' w' := ⟨g, rg_ofO h.rg k hb, ct_ofO h.ct k hb⟩
theorem WX.part (h : WX lo w wb n m rb fb cb N vz v seq adj tt w0) : Part n seq := h.rg.fs.part
theorem WX.below (h : WX lo w wb n m rb fb cb N vz v seq adj tt w0) : Below lo w w0 := h.rg.fs.below
theorem WX.los (h : WX lo w wb n m rb fb cb N vz v seq adj tt w0) : lo ≤ w0.heap.size := Nat.le_trans h.rg.fs.lw h.below.size

theorem KeepW.drew {a b : World} (h : KeepW a b) : KeepW a b.drew := h
theorem KeepW.alloc {a b : World} (h : KeepW a b) (o : Obj) : KeepW a (b.alloc o) := h.trans (.ofBelow ((Below.refl _ _).alloc (Nat.le_refl _) o))

theorem WS.more (h : WS lo w wb n m seq tt ky w0) (hb : Below w0.heap.size w0 w') : WS lo w wb n m seq tt ky w' := by
  obtain ⟨rb, fb, cb, N, vz, v, h1, h2⟩ := h
  exact ⟨rb, fb, cb, N, vz, v, h1.more hb, h2⟩
theorem WS.below (h : WS lo w wb n m seq tt ky w0) : Below lo w w0 := by
  obtain ⟨rb, fb, cb, N, vz, v, h1, h2⟩ := h
  exact h1.below
theorem WS.part (h : WS lo w wb n m seq tt ky w0) : Part n seq := by
  obtain ⟨rb, fb, cb, N, vz, v, h1, h2⟩ := h
  exact h1.part
theorem WS.wood (h : WS lo w wb n m seq tt ky w0) : Wood (Ad n seq tt) := by
  obtain ⟨rb, fb, cb, N, vz, v, h1, h2⟩ := h
  exact h1.ct.wood

set_option maxRecDepth 100000 in
set_option maxHeartbeats 2000000 in
theorem WX.linked (h : WX lo w wb n m rb fb cb N vz v seq adj tt w0) (hn : n ≤ 4194304) (hN : ∀ x, x < n → iN x < N) (a b : Nat) (ha : a < n) (hb : b < n) (B : Bool) (hB : B = true ↔ Cn adj (iN a + 1) (iN b + 1)) :
    Calls Tryz.prog 16 #[.pointer (some ⟨wb, 0, none⟩), .int .i64 (a : Int), .int .i64 (b : Int)] w0 fun e w' => e = .returned (.tuple #[.bool B, .nilIface]) ∧ WX lo w wb n m rb fb cb N vz v seq adj tt w' ∧ KeepW w0 w' := by
  have hl := hid (h.wm.look2 a b ha hb)
  have h1 := (h.alloc (.cells #[.int .i64 (a : Int), .int .i64 (b : Int)] 3))
  have k1 := hid (((KeepW.refl w0).alloc (.cells #[.int .i64 (a : Int), .int .i64 (b : Int)] 3)))
  have hs : Hid (Calls Tryz.prog 45 #[.pointer (some ⟨cb, 0, none⟩), .int .i64 ((iN a : Nat) : Int), .int .i64 ((iN b : Nat) : Int)] (w0.alloc (.cells #[.int .i64 (a : Int), .int .i64 (b : Int)] 3)).drew fun e w' => e = .returned (.tuple #[.bool B, .nilIface]) ∧ Ct.FS lo w cb N v adj w' ∧ Ct.Keep (w0.alloc (.cells #[.int .i64 (a : Int), .int .i64 (b : Int)] 3)).drew w') := hid (by
    cases B with
    | true =>
      obtain ⟨l, hr⟩ := (hB.1 rfl).rd
      exact h1.drew.ct.sameY _ _ (hN a ha) (hN b hb) l hr
    | false => exact h1.drew.ct.sameN _ _ (hN a ha) (hN b hb) (Cn.no (fun q => by have := hB.2 q; cases this)))
  clear h hB hN
  go_enter Tryz.func16, Tryz.ntmps16
  go_wp2_with fail
  refine hl.out.mono ?_
  rintro e w1 ⟨rfl, hw1⟩
  clear hl
  generalize w0.alloc (.cells #[.int .i64 (a : Int), .int .i64 (b : Int)] 3) = wa at *
  subst hw1
  obtain ⟨c0, c1, c2, c3⟩ := h1.wm.cells
  have h1 := hid h1
  go_wp2_with fail
  go_region_held3 (fun w' => w'.cell? ⟨wb, 3, none⟩ = some (.pointer (some ⟨cb, 0, none⟩))) (first | assumption | exact c3 | go_keep) (first
    | (go_at_call 29; refine (inode_ok _ (by omega) _).mono ?_; rintro e w3 ⟨rfl, rfl⟩)
    | (go_at_call 45; refine hs.out.mono ?_; rintro e w4 ⟨rfl, h4, k4⟩; have fin := hid (And.intro (h1.out.drew.trees h4 k4) (k1.out.drew.trans (.ofCt k4))); have c3' := fin.out.1.wm.cells.2.2.2; clear h4 k4))
  all_goals
    go_wp2_with fail
    go_ret2
    exact ⟨rfl, fin.out⟩
end
end Go.Proofs.YtdmkbcbgjdmgdaaGreatDoor

namespace Go.Proofs.YtdmkbcbgjdmgdaaGreatDoor
open Go.RowKit
set_option linter.unusedVariables false

section
variable {lo wb n m rb fb cb N : Nat} {w w0 w' : World} {vz vz' v v' : Nat → Int} {seq seq' : Nat → List Nat} {adj adj' : Nat → Nat → Prop} {tt tt' : Nat → Option (Nat × Nat)} {ky : Nat → Int}

set_option maxRecDepth 100000 in
set_option maxHeartbeats 4000000 in
theorem WX.turn (h : WX lo w wb n m rb fb cb N vz v seq (Ad n seq tt) tt w0) (hn : n ≤ 4194304) (hN : ∀ x, x < n → iN x < N) (x : Nat) (hx : x < n) :
    Calls Tryz.prog 50 #[.pointer (some ⟨wb, 0, none⟩), .int .i64 (x : Int)] w0 fun e w' => e = .returned .nilIface ∧ WX lo w wb n m rb fb cb N vz v (turnS seq (x + 1)) (Ad n (turnS seq (x + 1)) tt) tt w' ∧ KeepW w0 w' := by
  have p := h.part
  have hf := hid (h.rg.front x hx (List.length_pos_of_mem (p.self (x + 1) (by omega))))
  obtain ⟨c0, c1, c2, c3⟩ := h.wm.cells
  have p := hid p
  have hN := hid hN
  have h := hid h
  go_enter Tryz.func50, Tryz.ntmps50
  go_wp2_with fail
  refine hf.out.mono ?_
  rintro e w1 ⟨d, hd, rfl, g1, k1⟩
  have h1 := h.out.ring g1 k1
  have K1 := hid (KeepW.ofKeep k1)
  clear hf g1 k1 h c0 c1 c2 c3
  by_cases hdx : d = x
  · subst hdx
    obtain ⟨B, hB⟩ : ∃ B, seq (d + 1) = (d + 1) :: B := by
      cases hs : seq (d + 1) with
      | nil => rw [hs] at hd; cases hd
      | cons c B => rw [hs] at hd; simp at hd; exact ⟨B, by rw [hd]⟩
    have e1 := turnS_at p.out (show d + 1 ≠ 0 by omega) hB
    have fin : Hid (WX lo w wb n m rb fb cb N vz v (turnS seq (d + 1)) (Ad n (turnS seq (d + 1)) tt) tt w1 ∧ KeepW w0 w1) := by rw [e1]; exact hid ⟨h1, K1.out⟩
    have v1 : ((d : Int) == (d : Int)) = true := by simp
    clear h1 hd hB e1 p
    go_wp2_with fail
    go_ret
    exact ⟨rfl, fin.out⟩
  · have hdn : d < n := by have := p.out.le (x + 1) (d + 1) (by omega) (by omega) (List.mem_of_getElem? hd); omega
    have v1 : ((d : Int) == (x : Int)) = false := by rw [beq_eq_false_iff_ne]; omega
    have hp1 := hid (h1.rg.prev d hdn)
    obtain ⟨c0, c1, c2, c3⟩ := h1.wm.cells
    have h1 := hid h1
    have hd := hid hd
    have hdx := hid hdx
    go_wp2_with fail
    refine hp1.out.mono ?_
    rintro e w2 ⟨l, hl, rfl, g2, k2⟩
    have h2 := h1.out.ring g2 k2
    have K2 := hid (K1.out.trans (KeepW.ofKeep k2))
    have hl := hid hl
    clear hp1 g2 k2 h1 K1 c0 c1 c2 c3
    have hp2 := hid (h2.rg.prev x hx)
    obtain ⟨c0, c1, c2, c3⟩ := h2.wm.cells
    have h2 := hid h2
    go_wp2_with fail
    refine hp2.out.mono ?_
    rintro e w3 ⟨pr, hp, rfl, g3, k3⟩
    have h3 := h2.out.ring g3 k3
    have K3 := hid (K2.out.trans (KeepW.ofKeep k3))
    clear hp2 g3 k3 h2 K2 c0 c1 c2 c3
    obtain ⟨⟨b1, b2, b3⟩, l1, l2, l3⟩ := turn_links (tt := tt) p.out hx hd.out hdx.out hl.out hp
    have l3 := l3 h3.ct.wood
    have hcut := hid (h3.drew.ct.cut _ _ (hN.out pr b3) (hN.out x hx) l1)
    obtain ⟨c0, c1, c2, c3⟩ := h3.wm.cells
    have h3 := hid h3
    have l2 := hid l2
    have l3 := hid l3
    clear hp l1 hd hdx hl p
    go_wp2_with fail
    go_region_held3 (fun w' => w'.cell? ⟨wb, 3, none⟩ = some (.pointer (some ⟨cb, 0, none⟩))) (first | assumption | exact c3 | go_keep) (first
      | (go_at_call 29; refine (inode_ok _ (by omega) _).mono ?_; rintro e w4 ⟨rfl, rfl⟩)
      | (go_at_call 53; refine hcut.out.mono ?_; rintro e w4 ⟨rfl, g4, k4⟩; have h4 := hid (h3.out.drew.trees g4 k4); have K4 := hid (K3.out.drew.trans (.ofCt k4)); have c3' := h4.out.wm.cells.2.2.2; clear g4 k4))
    all_goals
      clear hcut h3 K3 c0 c1 c2 c3
      have hlink := hid (h4.out.drew.ct.link _ _ (hN.out l b2) (hN.out d b1) (Cn.no l3.out))
      go_wp2_with fail
      go_region_held3 (fun w' => w'.cell? ⟨wb, 3, none⟩ = some (.pointer (some ⟨cb, 0, none⟩))) (first | assumption | exact c3' | go_keep) (first
        | (go_at_call 29; refine (inode_ok _ (by omega) _).mono ?_; rintro e w5 ⟨rfl, rfl⟩)
        | (go_at_call 56; refine hlink.out.mono ?_; rintro e w5 ⟨rfl, g5, k5⟩; rw [l2.out] at g5; have h5 := hid (h4.out.drew.trees g5 k5); have K5 := hid (K4.out.drew.trans (.ofCt k5)); have c3'' := h5.out.wm.cells.2.2.2; clear g5 k5))
      all_goals
        clear hlink h4 K4 c3' c3''
        have ht := hid (h5.out.rg.turn x hx)
        obtain ⟨c0, c1, c2, c3⟩ := h5.out.wm.cells
        go_wp2_with fail
        refine ht.out.mono ?_
        rintro e w6 ⟨rfl, g6, k6⟩
        have fin := hid (And.intro (h5.out.ring g6 k6) (K5.out.trans (KeepW.ofKeep k6)))
        clear ht g6 k6 h5 K5
        go_wp2_with fail
        go_ret
        exact ⟨rfl, fin.out⟩

/-- The values of two items set. -/
def max2 (v : Nat → Int) (a b : Nat) : Nat → Int := Ct.setV (Ct.setV v (iN a + 1) 9223372036854775807) (iN b + 1) 9223372036854775807

set_option maxRecDepth 100000 in
set_option maxHeartbeats 4000000 in
theorem WX.ready (h : WX lo w wb n m rb fb cb N vz v seq adj tt w0) (hn : n ≤ 4194304) (hN : ∀ x, x < n → iN x < N) (a b : Nat) (ha : a < n) (hb : b < n) (hno : ¬ Cn adj (iN a + 1) (iN b + 1)) :
    Calls Tryz.prog 54 #[.pointer (some ⟨wb, 0, none⟩), .int .i64 (a : Int), .int .i64 (b : Int)] w0 fun e w' => e = .returned .nilIface ∧ WX lo w wb n m rb fb cb N vz (max2 v a b) seq adj tt w' ∧ KeepW w0 w' := by
  have hl := hid (h.linked hn hN a b ha hb false ⟨fun q => by (cases q), fun q => absurd q hno⟩)
  have hN := hid hN
  clear h hno
  go_enter Tryz.func54, Tryz.ntmps54
  go_wp2_with fail
  refine hl.out.mono ?_
  rintro e w1 ⟨rfl, h1, K1⟩
  have st1 : Hid (WX lo w wb n m rb fb cb N vz v seq adj tt w1 ∧ KeepW w0 w1) := hid ⟨h1, K1⟩
  clear hl h1 K1
  go_wp2_with fail
  go_loopw [10, 11, 27] (fun _ _ u wr => ∃ k : Nat, k ≤ 2 ∧ u = .int .i64 (k : Int) ∧ Hid ((k = 0 → WX lo w wb n m rb fb cb N vz v seq adj tt wr) ∧ (k = 1 → WX lo w wb n m rb fb cb N vz (Ct.setV v (iN a + 1) 9223372036854775807) seq adj tt wr) ∧ (k = 2 → WX lo w wb n m rb fb cb N vz (max2 v a b) seq adj tt wr) ∧ KeepW w0 wr)) (fun _ _ u _ => 2 - (intOf u).toNat)
  case atStart => exact ⟨0, by omega, by go_num, hid ⟨fun _ => st1.out.1, fun q => by omega, fun q => by omega, st1.out.2⟩⟩
  case round =>
    clear st1
    obtain ⟨k, hk, rfl, hst⟩ := hrel
    have hkc : k = 0 ∨ k = 1 ∨ k = 2 := by omega
    rcases hkc with rfl | rfl | rfl
    · have hi0 := (pair_at (a : Int) (b : Int) wr).1
      have h3 := hst.out.1 rfl
      have K3 := hid hst.out.2.2.2
      have hset := hid (h3.drew.ct.set _ (hN.out a ha) 9223372036854775807)
      obtain ⟨c0, c1, c2, c3⟩ := h3.wm.cells
      have h3 := hid h3
      clear hst
      go_wp2_with fail
      go_region_held3 (fun w' => w'.cell? ⟨wb, 3, none⟩ = some (.pointer (some ⟨cb, 0, none⟩))) (first | assumption | exact c3 | go_keep) (first
        | (go_at_call 29; refine (inode_ok _ (by omega) _).mono ?_; rintro e w4 ⟨rfl, rfl⟩)
        | (go_at_call 58; refine hset.out.mono ?_; rintro e w4 ⟨rfl, g4, k4⟩; have h4 := hid (And.intro (h3.out.drew.trees g4 k4) (K3.out.drew.trans (.ofCt k4))); have c3' := h4.out.1.wm.cells.2.2.2; clear g4 k4))
      all_goals
        clear hset h3 K3 c0 c1 c2 c3 c3'
        go_wp2_with fail
        go_roundw
        case rel => exact ⟨1, by omega, by go_num, hid ⟨fun q => by omega, fun _ => h4.out.1, fun q => by omega, h4.out.2⟩⟩
        case measure => simp [intOf]
    · have hi0 := (pair_at (a : Int) (b : Int) wr).2
      have h3 := hst.out.2.1 rfl
      have K3 := hid hst.out.2.2.2
      have hset := hid (h3.drew.ct.set _ (hN.out b hb) 9223372036854775807)
      obtain ⟨c0, c1, c2, c3⟩ := h3.wm.cells
      have h3 := hid h3
      clear hst
      go_wp2_with fail
      go_region_held3 (fun w' => w'.cell? ⟨wb, 3, none⟩ = some (.pointer (some ⟨cb, 0, none⟩))) (first | assumption | exact c3 | go_keep) (first
        | (go_at_call 29; refine (inode_ok _ (by omega) _).mono ?_; rintro e w4 ⟨rfl, rfl⟩)
        | (go_at_call 58; refine hset.out.mono ?_; rintro e w4 ⟨rfl, g4, k4⟩; have h4 := hid (And.intro (h3.out.drew.trees g4 k4) (K3.out.drew.trans (.ofCt k4))); have c3' := h4.out.1.wm.cells.2.2.2; clear g4 k4))
      all_goals
        clear hset h3 K3 c0 c1 c2 c3 c3'
        go_wp2_with fail
        go_roundw
        case rel => exact ⟨2, by omega, by go_num, hid ⟨fun q => by omega, fun q => by omega, fun _ => h4.out.1, h4.out.2⟩⟩
        case measure => simp [intOf]
    · have fin := hid (And.intro (hst.out.2.2.1 rfl) hst.out.2.2.2)
      clear hst
      go_wp2_with fail
      go_ret
      exact ⟨rfl, fin.out⟩

set_option maxRecDepth 100000 in
set_option maxHeartbeats 4000000 in
theorem WX.ready_same (h : WX lo w wb n m rb fb cb N vz v seq adj tt w0) (hn : n ≤ 4194304) (hN : ∀ x, x < n → iN x < N) (a b : Nat) (ha : a < n) (hb : b < n) (hc : Cn adj (iN a + 1) (iN b + 1)) :
    Calls Tryz.prog 54 #[.pointer (some ⟨wb, 0, none⟩), .int .i64 (a : Int), .int .i64 (b : Int)] w0 fun e w' => e = .returned (.iface 63 (.int .i64 20)) ∧ WX lo w wb n m rb fb cb N vz v seq adj tt w' ∧ KeepW w0 w' := by
  have hl := hid (h.linked hn hN a b ha hb true ⟨fun q => hc, fun q => rfl⟩)
  clear h hc hN
  go_enter Tryz.func54, Tryz.ntmps54
  go_wp2_with fail
  refine hl.out.mono ?_
  rintro e w1 ⟨rfl, h1, K1⟩
  have st1 : Hid (WX lo w wb n m rb fb cb N vz v seq adj tt w1 ∧ KeepW w0 w1) := hid ⟨h1, K1⟩
  clear hl h1 K1
  go_wp2_with fail
  go_ret
  exact ⟨rfl, st1.out⟩

set_option maxRecDepth 100000 in
set_option maxHeartbeats 2000000 in
theorem WX.linked_bad (h : WX lo w wb n m rb fb cb N vz v seq adj tt w0) (a b : Int) (hx : ¬ ((0 ≤ a ∧ a < (n : Int)) ∧ (0 ≤ b ∧ b < (n : Int)))) :
    Calls Tryz.prog 16 #[.pointer (some ⟨wb, 0, none⟩), .int .i64 a, .int .i64 b] w0 fun e w' => e = .returned (.tuple #[.bool false, .iface 63 (.int .i64 12)]) ∧ WX lo w wb n m rb fb cb N vz v seq adj tt w' ∧ KeepW w0 w' := by
  have hl := hid (h.wm.bad2 a b hx)
  have fin := hid (And.intro (h.alloc (.cells #[.int .i64 a, .int .i64 b] 3)) ((KeepW.refl w0).alloc (.cells #[.int .i64 a, .int .i64 b] 3)))
  clear h hx
  go_enter Tryz.func16, Tryz.ntmps16
  go_wp2_with fail
  refine hl.out.mono ?_
  rintro e w1 ⟨rfl, hw1⟩
  clear hl
  generalize w0.alloc (.cells #[.int .i64 a, .int .i64 b] 3) = wa at *
  subst hw1
  go_wp2_with fail
  go_ret2
  exact ⟨rfl, fin.out⟩

set_option maxRecDepth 100000 in
set_option maxHeartbeats 4000000 in
theorem WX.ready_bad (h : WX lo w wb n m rb fb cb N vz v seq adj tt w0) (a b : Int) (hx : ¬ ((0 ≤ a ∧ a < (n : Int)) ∧ (0 ≤ b ∧ b < (n : Int)))) :
    Calls Tryz.prog 54 #[.pointer (some ⟨wb, 0, none⟩), .int .i64 a, .int .i64 b] w0 fun e w' => e = .returned (.iface 63 (.int .i64 12)) ∧ WX lo w wb n m rb fb cb N vz v seq adj tt w' ∧ KeepW w0 w' := by
  have hl := hid (h.linked_bad a b hx)
  clear h hx
  go_enter Tryz.func54, Tryz.ntmps54
  go_wp2_with fail
  refine hl.out.mono ?_
  rintro e w1 ⟨rfl, h1, K1⟩
  have st1 : Hid (WX lo w wb n m rb fb cb N vz v seq adj tt w1 ∧ KeepW w0 w1) := hid ⟨h1, K1⟩
  clear hl h1 K1
  go_wp2_with fail
  go_ret
  exact ⟨rfl, st1.out⟩
end
end Go.Proofs.YtdmkbcbgjdmgdaaGreatDoor
