/- 'ArenaLoads', walked. -/
import Derived.Test.YtcngcomckoiklaaDoorRload3
import Derived.Test.YtcngcomckoiklaaDoorPlaces3
import Derived.Test.YtcngcomckoiklaaDoorRegion
namespace Go.Proofs.YtcngcomckoiklaaDoor
open Go.RowKit
set_option linter.unusedVariables false

set_option maxRecDepth 100000 in
set_option maxHeartbeats 8000000 in
theorem loads_law (n : Int) (ad : Option Addr) (ps : List (Int × Int)) (cap : Nat) (w : World) (hE : Env w) (h : Prow w ad ps) (hb : ps.length * 16 ≤ 140737488355328) :
    Calls Tryd.prog 3 #[.int .i64 n, .slice ad ps.length cap] w fun e w' => e = .returned (.bool true) ∧ Below w.heap.size w w' := by
  have hl := h.bound
  have hEh := hid hE
  have hph := hid h
  clear hE h
  by_cases hbig : 500 < ps.length
  · have t1 : decide ((500 : Int) < (ps.length : Int)) = true := decide_eq_true (by omega)
    by_cases hge : (ps.length : Int) ≤ n
    · have t2 : decide ((ps.length : Int) ≤ n) = true := decide_eq_true hge
      go_enter Tryd.func3, Tryd.ntmps3
      go_wp2_with fail
      refine (sure_ok _ hEh.out.2).mono ?_
      rintro e w1 ⟨rfl, b1⟩
      go_wp2_with fail
      go_ret
      exact ⟨rfl, b1⟩
    · have t2 : decide ((ps.length : Int) ≤ n) = false := decide_eq_false hge
      have hlt : n < (ps.length : Int) := by omega
      go_enter Tryd.func3, Tryd.ntmps3
      go_wp2_with fail
      refine (give_ok ad ps cap _ hph.out hb).mono ?_
      rintro e w1 ⟨ad1, cap1, rfl, hp1, h01, b1⟩
      have hE1 := hid (hEh.out.below b1)
      have hb1 := hid b1
      by_cases hn : n < 1 ∨ 1048576 < n
      · have hld := hid (load3_size n ad1 ps.length cap1 w1 hn)
        have hrl := hid (fun y (hy : Prow y ad ps) => rload_size n ad ps.length cap y (by omega))
        clear hp1 h01 b1
        go_wp2_with fail
        refine hld.out.mono ?_
        rintro e w2 ⟨rfl, b2⟩
        have hE2 := hid (hE1.out.below b2)
        have hb2 := hid (hb1.out.trans (b2.mono hb1.out.size))
        clear b2 hld
        go_wp2_with fail
        refine (hrl.out _ (hph.out.below hb2.out)).mono ?_
        rintro e w3 ⟨rfl, b3⟩
        have b3a := b3.alloc b3.size (.cells #[.int .i64 0, .slice none 0 0] 32)
        have hE3 := hid (hE2.out.below b3a)
        have hb3 := hid (hb2.out.trans (b3a.mono hb2.out.size))
        clear hE2 b3 b3a hrl
        go_wp2_with fail
        refine (num_err 1 _ hE3.out.1).mono ?_
        rintro e w4 ⟨rfl, b4⟩
        have hE4 := hid (hE3.out.below b4)
        have hb4 := hid (hb3.out.trans (b4.mono hb3.out.size))
        clear hE3 b4
        go_wp2_with fail
        refine (sure_ok _ hE4.out.2).mono ?_
        rintro e w6 ⟨rfl, b6⟩
        have hb6 := hid (hb4.out.trans (b6.mono hb4.out.size))
        clear b6
        go_wp2_with fail
        go_ret
        exact ⟨rfl, hb6.out⟩
      · obtain ⟨m, rfl⟩ : ∃ m : Nat, n = (m : Int) := ⟨n.toNat, by omega⟩
        have hm1 : 1 ≤ m := by omega
        have hm2 : m ≤ 1048576 := by omega
        have hld := hid (load3_bad m ad1 ps cap1 w1 hp1 hm1 hm2 (fun hf => by have := hf.le; omega))
        have hrl := hid (fun y (hy : Prow y ad ps) => rload_size (m : Int) ad ps.length cap y (by omega))
        clear hp1 h01 b1
        go_wp2_with fail
        refine hld.out.mono ?_
        rintro e w2 ⟨rfl, b2⟩
        have hE2 := hid (hE1.out.below b2)
        have hb2 := hid (hb1.out.trans (b2.mono hb1.out.size))
        clear b2 hld
        go_wp2_with fail
        refine (hrl.out _ (hph.out.below hb2.out)).mono ?_
        rintro e w3 ⟨rfl, b3⟩
        have b3a := b3.alloc b3.size (.cells #[.int .i64 0, .slice none 0 0] 32)
        have hE3 := hid (hE2.out.below b3a)
        have hb3 := hid (hb2.out.trans (b3a.mono hb2.out.size))
        clear hE2 b3 b3a hrl
        go_wp2_with fail
        refine (num_err 1 _ hE3.out.1).mono ?_
        rintro e w4 ⟨rfl, b4⟩
        have hE4 := hid (hE3.out.below b4)
        have hb4 := hid (hb3.out.trans (b4.mono hb3.out.size))
        clear hE3 b4
        go_wp2_with fail
        refine (sure_ok _ hE4.out.2).mono ?_
        rintro e w6 ⟨rfl, b6⟩
        have hb6 := hid (hb4.out.trans (b6.mono hb4.out.size))
        clear b6
        go_wp2_with fail
        go_ret
        exact ⟨rfl, hb6.out⟩
  · have t1 : decide ((500 : Int) < (ps.length : Int)) = false := decide_eq_false (by omega)
    go_enter Tryd.func3, Tryd.ntmps3
    go_wp2_with fail
    refine (give_ok ad ps cap _ hph.out hb).mono ?_
    rintro e w1 ⟨ad1, cap1, rfl, hp1, h01, b1⟩
    have hE1 := hid (hEh.out.below b1)
    have hb1 := hid b1
    by_cases hn : n < 1 ∨ 1048576 < n
    · have hld := hid (load3_size n ad1 ps.length cap1 w1 hn)
      have hrl := hid (fun y (hy : Prow y ad ps) => rload_size n ad ps.length cap y (by omega))
      clear hp1 h01 b1
      go_wp2_with fail
      refine hld.out.mono ?_
      rintro e w2 ⟨rfl, b2⟩
      have hE2 := hid (hE1.out.below b2)
      have hb2 := hid (hb1.out.trans (b2.mono hb1.out.size))
      clear b2 hld
      go_wp2_with fail
      refine (hrl.out _ (hph.out.below hb2.out)).mono ?_
      rintro e w3 ⟨rfl, b3⟩
      have b3a := b3.alloc b3.size (.cells #[.int .i64 0, .slice none 0 0] 32)
      have hE3 := hid (hE2.out.below b3a)
      have hb3 := hid (hb2.out.trans (b3a.mono hb2.out.size))
      clear hE2 b3 b3a hrl
      go_wp2_with fail
      refine (num_err 1 _ hE3.out.1).mono ?_
      rintro e w4 ⟨rfl, b4⟩
      have hE4 := hid (hE3.out.below b4)
      have hb4 := hid (hb3.out.trans (b4.mono hb3.out.size))
      clear hE3 b4
      go_wp2_with fail
      refine (sure_ok _ hE4.out.2).mono ?_
      rintro e w6 ⟨rfl, b6⟩
      have hb6 := hid (hb4.out.trans (b6.mono hb4.out.size))
      clear b6
      go_wp2_with fail
      go_ret
      exact ⟨rfl, hb6.out⟩
    · obtain ⟨m, rfl⟩ : ∃ m : Nat, n = (m : Int) := ⟨n.toNat, by omega⟩
      have hm1 : 1 ≤ m := by omega
      have hm2 : m ≤ 1048576 := by omega
      by_cases hle : ps.length ≤ m
      · by_cases hf : Fair m ps
        · have hld := SA.load m ad1 ps cap1 w1 hE1.out.2 hp1 h01 hm1 hm2 hf
          have hrl := hid (fun y (hy : Prow y ad ps) => rload_in m ad ps cap y hy hm1 hm2 hf.le (ra m ad ps.length cap) 0 (fun _ => ⟨rfl, rfl⟩) (fun e => absurd hf e))
          have hfl := hf.le
          clear hp1 h01 b1 hf
          go_wp2_with fail
          refine hld.mono ?_
          rintro e w2 ⟨ab, rfl, s2⟩
          have s2h := hid s2
          have hP2 := hid (hph.out.below (hb1.out.trans (s2.below.mono hb1.out.size)))
          clear hld s2
          go_wp2_with fail
          refine (hrl.out _ hP2.out).mono ?_
          rintro e w3 ⟨rfl, b3⟩
          have b3a := b3.alloc b3.size (.cells #[.int .i64 (m : Int), .slice ad ps.length cap] 32)
          have s3 := hid (s2h.out.more b3a)
          have hP3 := hid (hP2.out.below b3a)
          have c3 := hid (heap_alloc_new w3 (.cells #[.int .i64 (m : Int), .slice ad ps.length cap] 32))
          clear s2h hP2 b3 b3a hrl
          go_wp2_with fail
          refine (num_nil _).mono ?_
          rintro e w5 ⟨rfl, b5⟩
          have sX := hid (s3.out.more b5)
          have hPX := hid (hP3.out.below b5)
          have cX : w5.heap[w3.heap.size]? = some (.cells #[.int .i64 (m : Int), .slice ad ps.length cap] 32 (0, 0)) := (b5.block _ (by simp)).trans c3.out
          obtain ⟨bb, hbb⟩ : ∃ bb, w3.heap.size = bb := ⟨_, rfl⟩
          rw [hbb] at cX
          have cXh := hid cX
          obtain ⟨x0, x1⟩ := blk2 cX
          clear s3 hP3 c3 b5 cX
          have HS : Hid (∀ y, Below w5.heap.size w5 y → Below w5.heap.size w5 y ∧ y.cell? ⟨bb, 0, none⟩ = some (.int .i64 (m : Int)) ∧ y.cell? ⟨bb, 1, none⟩ = some (.slice ad ps.length cap)) := fun y hy => ⟨hy, blk2 ((hy.block _ (Array.getElem?_eq_some_iff.1 cXh.out).1).trans cXh.out)⟩
          obtain ⟨fb, hfb⟩ : ∃ fb, decide (lowP ps = m) = fb := ⟨_, rfl⟩
          have hPl : Hid (∀ y, Below w5.heap.size w5 y → Calls Tryd.prog 15 #[.pointer (some ⟨ab, 0, none⟩)] y fun e w' => ∃ ad cap, e = .returned (.slice ad ps.length cap) ∧ Prow w' ad ps ∧ Below y.heap.size y w') := fun y hy => by
            obtain ⟨ob, ha⟩ := (sX.out.more hy).arena
            refine (places3_ok _ _ _ _ _ _ _ ha).mono ?_
            rintro e w' ⟨ad, cap, rfl, h1, _, _, h2⟩
            exact ⟨ad, cap, rfl, h1, h2⟩
          have hAl : Hid (∀ y, Below w5.heap.size w5 y → Calls Tryd.prog 17 #[.pointer (some ⟨ab, 0, none⟩)] y fun e w' => ∃ ad cap, e = .returned (.slice ad (livesI ps).length cap) ∧ Ints w' ad (livesI ps) ∧ Below y.heap.size y w') := fun y hy => (sX.out.more hy).all
          have hFu : Hid (∀ y, Below w5.heap.size w5 y → Calls Tryd.prog 19 #[.pointer (some ⟨ab, 0, none⟩)] y fun e w' => e = .returned (.bool fb) ∧ Below y.heap.size y w') := fun y hy => (sX.out.more hy).full fb hfb
          have hRf : Hid (∀ y, Below w5.heap.size w5 y → Calls Tryd.prog 20 #[ra m ad ps.length cap] y fun e w' => e = .returned (.bool fb) ∧ Below y.heap.size y w') := fun y hy => by
            have := rfull_ok m ad ps cap y (hPX.out.below hy) hfl hm2
            rw [hfb] at this
            exact this
          have hLe : Hid (∀ y, Below w5.heap.size w5 y → Calls Tryd.prog 21 #[.pointer (some ⟨ab, 0, none⟩)] y fun e w' => e = .returned (.int .i64 (((livesI ps).length : Nat) : Int)) ∧ Below y.heap.size y w') := fun y hy => by
            have := (sX.out.more hy).len
            rw [← livesI_length] at this
            exact this
          rw [hbb]
          clear hfb hbb
          go_wp2_with fail
          refine wp_region_noPanic ?_
          refine wp_region_held_drew (S := fun w' => Below w5.heap.size w5 w' ∧ w'.cell? ⟨bb, 0, none⟩ = some (.int .i64 (m : Int)) ∧ w'.cell? ⟨bb, 1, none⟩ = some (.slice ad ps.length cap)) (by kernel_rfl) (HS.out _ (Below.refl _ _).drew) (fun hHeld => ?_)
          refine takeH (i := 0) (v := ?_) (a' := ?_) ({ dst := some 46, op := Op.move (Operand.tmp 5), type := 24, pos := "law.go:85", after := #[], guard := none }) rfl (by kernel_rfl) (by kernel_rfl) (by kernel_rfl) (fun _ _ _ h => h) (by rfl) ?_ (by assumption) ?_ ?_
          rotate_left 2
          · (intro w' hSw; go_simp; try with_reducible rfl)
          · (simp only [Act.put, List.setIfInBounds_toArray, List.set_cons_zero, List.set_cons_succ]; try rfl)
          refine takeH (i := 2) (v := ?_) (a' := ?_) ({ dst := some 48, op := Op.fieldAddr 32 (Operand.tmp 7) 1, type := 0, pos := "law.go:85", after := #[], guard := none }) rfl (by kernel_rfl) (by kernel_rfl) (by kernel_rfl) (fun _ _ _ h => h) (by rfl) ?_ (by assumption) ?_ ?_
          rotate_left 2
          · (intro w' hSw; go_simp; try with_reducible rfl)
          · (simp only [Act.put, List.setIfInBounds_toArray, List.set_cons_zero, List.set_cons_succ]; try rfl)
          refine takeH (i := 3) (v := ?_) (a' := ?_) ({ dst := some 49, op := Op.load 22 (Operand.tmp 48), type := 22, pos := "law.go:85", after := #[{ on := 2, ground := Ground.data }], guard := none }) rfl (by kernel_rfl) (by kernel_rfl) (by kernel_rfl) (fun _ _ _ h => h) (by rfl) ?_ (by assumption) ?_ ?_
          rotate_left 2
          · (intro w' hSw; go_simp; try with_reducible rfl)
          · (simp only [Act.put, List.setIfInBounds_toArray, List.set_cons_zero, List.set_cons_succ]; try rfl)
          refine wpAnyH_ready (rs := [1]) (by kernel_rfl) (by simp) ?_
          refine AllReadyH.cons (o := { dst := some 47, op := Op.call { callee := Callee.value (Operand.func 15), args := #[Operand.tmp 46], argTypes := #[24] }, type := 29, pos := "law.go:85", after := #[{ on := 0, ground := Ground.data }], guard := none }) rfl (fun K hK => ?_) AllReadyH.nil
          go_simp
          refine (hPl.out _ (Below.refl _ _).drew).mono ?_
          rintro e w6 ⟨pa, pc, rfl, hp6, b6⟩
          go_wp2_with fail
          refine hK.out _ _ (HS.out _ ((Below.refl _ _).drew.trans b6)) (fun hHeld => ?_)
          clear hK K
          try simp only [Act.put, List.setIfInBounds_toArray, List.set_cons_zero, List.set_cons_succ]
          have bX6 : Below w5.heap.size w5 w6 := (Below.refl w5.heap.size w5).drew.trans b6
          refine stronger (fun w' => Below w6.heap.size w6 w' ∧ w'.cell? ⟨bb, 0, none⟩ = some (.int .i64 (m : Int)) ∧ w'.cell? ⟨bb, 1, none⟩ = some (.slice ad ps.length cap)) (fun w' h => ⟨bX6.trans (h.1.mono bX6.size), h.2⟩) ?_
          clear hHeld
          have hHeld := (show Below w6.heap.size w6 w6 ∧ w6.cell? ⟨bb, 0, none⟩ = some (.int .i64 (m : Int)) ∧ w6.cell? ⟨bb, 1, none⟩ = some (.slice ad ps.length cap) from ⟨Below.refl _ _, (HS.out _ bX6).2⟩)
          refine wpAnyH_ready (rs := [4]) (by kernel_rfl) (by simp) ?_
          refine AllReadyH.cons (o := { dst := some 50, op := Op.call { callee := Callee.value (Operand.func 14), args := #[Operand.tmp 47, Operand.tmp 49], argTypes := #[29, 22] }, type := 4, pos := "law.go:85", after := #[{ on := 1, ground := Ground.data }, { on := 3, ground := Ground.data }, { on := 1, ground := Ground.chain }], guard := none }) rfl (fun K hK => ?_) AllReadyH.nil
          go_simp
          refine (same_ok _ _ _ _ _ _ hp6 (hPX.out.below bX6)).mono ?_
          rintro e w7 ⟨rfl, b7⟩
          go_wp2_with fail
          refine hK.out _ _ (⟨b7, (HS.out _ (bX6.trans (b7.mono bX6.size))).2⟩) (fun hHeld => ?_)
          clear hK K
          try simp only [Act.put, List.setIfInBounds_toArray, List.set_cons_zero, List.set_cons_succ]
          have bX7 : Below w5.heap.size w5 w7 := bX6.trans (b7.mono bX6.size)
          refine stronger (fun w' => Below w7.heap.size w7 w' ∧ w'.cell? ⟨bb, 0, none⟩ = some (.int .i64 (m : Int)) ∧ w'.cell? ⟨bb, 1, none⟩ = some (.slice ad ps.length cap)) (fun w' h => ⟨b7.trans (h.1.mono b7.size), h.2⟩) ?_
          clear hHeld
          have hHeld := (show Below w7.heap.size w7 w7 ∧ w7.cell? ⟨bb, 0, none⟩ = some (.int .i64 (m : Int)) ∧ w7.cell? ⟨bb, 1, none⟩ = some (.slice ad ps.length cap) from ⟨Below.refl _ _, (HS.out _ bX7).2⟩)
          refine takeH (i := 5) (v := ?_) (a' := ?_) ({ dst := some 51, op := Op.move (Operand.tmp 50), type := 4, pos := "law.go:85", after := #[{ on := 4, ground := Ground.data }, { on := 4, ground := Ground.chain }], guard := none }) rfl (by kernel_rfl) (by kernel_rfl) (by kernel_rfl) (fun _ _ _ h => h) (by rfl) ?_ (by assumption) ?_ ?_
          rotate_left 2
          · (intro w' hSw; go_simp; try with_reducible rfl)
          · (simp only [Act.put, List.setIfInBounds_toArray, List.set_cons_zero, List.set_cons_succ]; try rfl)
          refine takeH (i := 6) (v := ?_) (a' := ?_) ({ dst := some 52, op := Op.move (Operand.tmp 5), type := 24, pos := "law.go:85", after := #[{ on := 5, ground := Ground.guard }], guard := some (5, true) }) rfl (by kernel_rfl) (by kernel_rfl) (by kernel_rfl) (fun _ _ _ h => h) (by rfl) ?_ (by assumption) ?_ ?_
          rotate_left 2
          · (intro w' hSw; go_simp; try with_reducible rfl)
          · (simp only [Act.put, List.setIfInBounds_toArray, List.set_cons_zero, List.set_cons_succ]; try rfl)
          refine takeH (i := 8) (v := ?_) (a' := ?_) ({ dst := some 54, op := Op.load 32 (Operand.tmp 7), type := 32, pos := "law.go:85", after := #[{ on := 5, ground := Ground.guard }], guard := some (5, true) }) rfl (by kernel_rfl) (by kernel_rfl) (by kernel_rfl) (fun _ _ _ h => h) (by rfl) ?_ (by assumption) ?_ ?_
          rotate_left 2
          · (intro w' hSw; go_simp; try with_reducible rfl)
          · (simp only [Act.put, List.setIfInBounds_toArray, List.set_cons_zero, List.set_cons_succ]; try rfl)
          refine wpAnyH_ready (rs := [7]) (by kernel_rfl) (by simp) ?_
          refine AllReadyH.cons (o := { dst := some 53, op := Op.call { callee := Callee.value (Operand.func 17), args := #[Operand.tmp 52], argTypes := #[24] }, type := 39, pos := "law.go:85", after := #[{ on := 6, ground := Ground.data }, { on := 5, ground := Ground.chain }, { on := 5, ground := Ground.guard }], guard := some (5, true) }) rfl (fun K hK => ?_) AllReadyH.nil
          go_simp
          refine (hAl.out _ bX7).mono ?_
          rintro e w8 ⟨aa, ac, rfl, hI8, b8⟩
          go_wp2_with fail
          refine hK.out _ _ (⟨b8, (HS.out _ (bX7.trans (b8.mono bX7.size))).2⟩) (fun hHeld => ?_)
          clear hK K
          try simp only [Act.put, List.setIfInBounds_toArray, List.set_cons_zero, List.set_cons_succ]
          have bX8 : Below w5.heap.size w5 w8 := bX7.trans (b8.mono bX7.size)
          refine stronger (fun w' => Below w8.heap.size w8 w' ∧ w'.cell? ⟨bb, 0, none⟩ = some (.int .i64 (m : Int)) ∧ w'.cell? ⟨bb, 1, none⟩ = some (.slice ad ps.length cap)) (fun w' h => ⟨b8.trans (h.1.mono b8.size), h.2⟩) ?_
          clear hHeld
          have hHeld := (show Below w8.heap.size w8 w8 ∧ w8.cell? ⟨bb, 0, none⟩ = some (.int .i64 (m : Int)) ∧ w8.cell? ⟨bb, 1, none⟩ = some (.slice ad ps.length cap) from ⟨Below.refl _ _, (HS.out _ bX8).2⟩)
          refine wpAnyH_ready (rs := [9]) (by kernel_rfl) (by simp) ?_
          refine AllReadyH.cons (o := { dst := some 55, op := Op.call { callee := Callee.value (Operand.func 18), args := #[Operand.tmp 54], argTypes := #[32] }, type := 39, pos := "law.go:85", after := #[{ on := 8, ground := Ground.data }, { on := 7, ground := Ground.chain }, { on := 5, ground := Ground.guard }], guard := some (5, true) }) rfl (fun K hK => ?_) AllReadyH.nil
          go_simp
          refine (rall_ok _ _ _ _ _ (hPX.out.below bX8) (by omega)).mono ?_
          rintro e w9 ⟨ja, jc, rfl, hJ9, b9⟩
          go_wp2_with fail
          refine hK.out _ _ (⟨b9, (HS.out _ (bX8.trans (b9.mono bX8.size))).2⟩) (fun hHeld => ?_)
          clear hK K
          try simp only [Act.put, List.setIfInBounds_toArray, List.set_cons_zero, List.set_cons_succ]
          have bX9 : Below w5.heap.size w5 w9 := bX8.trans (b9.mono bX8.size)
          refine stronger (fun w' => Below w9.heap.size w9 w' ∧ w'.cell? ⟨bb, 0, none⟩ = some (.int .i64 (m : Int)) ∧ w'.cell? ⟨bb, 1, none⟩ = some (.slice ad ps.length cap)) (fun w' h => ⟨b9.trans (h.1.mono b9.size), h.2⟩) ?_
          clear hHeld
          have hHeld := (show Below w9.heap.size w9 w9 ∧ w9.cell? ⟨bb, 0, none⟩ = some (.int .i64 (m : Int)) ∧ w9.cell? ⟨bb, 1, none⟩ = some (.slice ad ps.length cap) from ⟨Below.refl _ _, (HS.out _ bX9).2⟩)
          refine wpAnyH_ready (rs := [10]) (by kernel_rfl) (by simp) ?_
          refine AllReadyH.cons (o := { dst := some 56, op := Op.call { callee := Callee.value (Operand.func 16), args := #[Operand.tmp 53, Operand.tmp 55], argTypes := #[39, 39] }, type := 4, pos := "law.go:85", after := #[{ on := 7, ground := Ground.data }, { on := 9, ground := Ground.data }, { on := 9, ground := Ground.chain }, { on := 5, ground := Ground.guard }], guard := some (5, true) }) rfl (fun K hK => ?_) AllReadyH.nil
          go_simp
          refine (ints_same _ _ _ _ _ _ (hI8.below b9) hJ9).mono ?_
          rintro e w10 ⟨rfl, b10⟩
          go_wp2_with fail
          refine hK.out _ _ (⟨b10, (HS.out _ (bX9.trans (b10.mono bX9.size))).2⟩) (fun hHeld => ?_)
          clear hK K
          try simp only [Act.put, List.setIfInBounds_toArray, List.set_cons_zero, List.set_cons_succ]
          have bX10 : Below w5.heap.size w5 w10 := bX9.trans (b10.mono bX9.size)
          refine stronger (fun w' => Below w10.heap.size w10 w' ∧ w'.cell? ⟨bb, 0, none⟩ = some (.int .i64 (m : Int)) ∧ w'.cell? ⟨bb, 1, none⟩ = some (.slice ad ps.length cap)) (fun w' h => ⟨b10.trans (h.1.mono b10.size), h.2⟩) ?_
          clear hHeld
          have hHeld := (show Below w10.heap.size w10 w10 ∧ w10.cell? ⟨bb, 0, none⟩ = some (.int .i64 (m : Int)) ∧ w10.cell? ⟨bb, 1, none⟩ = some (.slice ad ps.length cap) from ⟨Below.refl _ _, (HS.out _ bX10).2⟩)
          refine takeH (i := 11) (v := ?_) (a' := ?_) ({ dst := some 57, op := Op.pick (Operand.tmp 51) (Operand.tmp 56) (Operand.const (Value.bool false)), type := 4, pos := "law.go:85", after := #[{ on := 5, ground := Ground.data }, { on := 10, ground := Ground.data }], guard := none }) rfl (by kernel_rfl) (by kernel_rfl) (by kernel_rfl) (fun _ _ _ h => h) (by rfl) ?_ (by assumption) ?_ ?_
          rotate_left 2
          · (intro w' hSw; go_simp; try with_reducible rfl)
          · (simp only [Act.put, List.setIfInBounds_toArray, List.set_cons_zero, List.set_cons_succ]; try rfl)
          refine takeH (i := 12) (v := ?_) (a' := ?_) ({ dst := some 58, op := Op.move (Operand.tmp 57), type := 4, pos := "law.go:85", after := #[{ on := 11, ground := Ground.data }, { on := 10, ground := Ground.chain }], guard := none }) rfl (by kernel_rfl) (by kernel_rfl) (by kernel_rfl) (fun _ _ _ h => h) (by rfl) ?_ (by assumption) ?_ ?_
          rotate_left 2
          · (intro w' hSw; go_simp; try with_reducible rfl)
          · (simp only [Act.put, List.setIfInBounds_toArray, List.set_cons_zero, List.set_cons_succ]; try rfl)
          refine takeH (i := 13) (v := ?_) (a' := ?_) ({ dst := some 59, op := Op.move (Operand.tmp 5), type := 24, pos := "law.go:85", after := #[{ on := 12, ground := Ground.guard }], guard := some (12, true) }) rfl (by kernel_rfl) (by kernel_rfl) (by kernel_rfl) (fun _ _ _ h => h) (by rfl) ?_ (by assumption) ?_ ?_
          rotate_left 2
          · (intro w' hSw; go_simp; try with_reducible rfl)
          · (simp only [Act.put, List.setIfInBounds_toArray, List.set_cons_zero, List.set_cons_succ]; try rfl)
          refine takeH (i := 15) (v := ?_) (a' := ?_) ({ dst := some 61, op := Op.load 32 (Operand.tmp 7), type := 32, pos := "law.go:85", after := #[{ on := 12, ground := Ground.guard }], guard := some (12, true) }) rfl (by kernel_rfl) (by kernel_rfl) (by kernel_rfl) (fun _ _ _ h => h) (by rfl) ?_ (by assumption) ?_ ?_
          rotate_left 2
          · (intro w' hSw; go_simp; try with_reducible rfl)
          · (simp only [Act.put, List.setIfInBounds_toArray, List.set_cons_zero, List.set_cons_succ]; try rfl)
          refine wpAnyH_ready (rs := [14]) (by kernel_rfl) (by simp) ?_
          refine AllReadyH.cons (o := { dst := some 60, op := Op.call { callee := Callee.value (Operand.func 19), args := #[Operand.tmp 59], argTypes := #[24] }, type := 4, pos := "law.go:85", after := #[{ on := 13, ground := Ground.data }, { on := 12, ground := Ground.chain }, { on := 12, ground := Ground.guard }], guard := some (12, true) }) rfl (fun K hK => ?_) AllReadyH.nil
          go_simp
          refine (hFu.out _ bX10).mono ?_
          rintro e w11 ⟨rfl, b11⟩
          go_wp2_with fail
          refine hK.out _ _ (⟨b11, (HS.out _ (bX10.trans (b11.mono bX10.size))).2⟩) (fun hHeld => ?_)
          clear hK K
          try simp only [Act.put, List.setIfInBounds_toArray, List.set_cons_zero, List.set_cons_succ]
          have bX11 : Below w5.heap.size w5 w11 := bX10.trans (b11.mono bX10.size)
          refine stronger (fun w' => Below w11.heap.size w11 w' ∧ w'.cell? ⟨bb, 0, none⟩ = some (.int .i64 (m : Int)) ∧ w'.cell? ⟨bb, 1, none⟩ = some (.slice ad ps.length cap)) (fun w' h => ⟨b11.trans (h.1.mono b11.size), h.2⟩) ?_
          clear hHeld
          have hHeld := (show Below w11.heap.size w11 w11 ∧ w11.cell? ⟨bb, 0, none⟩ = some (.int .i64 (m : Int)) ∧ w11.cell? ⟨bb, 1, none⟩ = some (.slice ad ps.length cap) from ⟨Below.refl _ _, (HS.out _ bX11).2⟩)
          refine wpAnyH_ready (rs := [16]) (by kernel_rfl) (by simp) ?_
          refine AllReadyH.cons (o := { dst := some 62, op := Op.call { callee := Callee.value (Operand.func 20), args := #[Operand.tmp 61], argTypes := #[32] }, type := 4, pos := "law.go:85", after := #[{ on := 15, ground := Ground.data }, { on := 14, ground := Ground.chain }, { on := 12, ground := Ground.guard }], guard := some (12, true) }) rfl (fun K hK => ?_) AllReadyH.nil
          go_simp
          refine (hRf.out _ bX11).mono ?_
          rintro e w12 ⟨rfl, b12⟩
          go_wp2_with fail
          refine hK.out _ _ (⟨b12, (HS.out _ (bX11.trans (b12.mono bX11.size))).2⟩) (fun hHeld => ?_)
          clear hK K
          try simp only [Act.put, List.setIfInBounds_toArray, List.set_cons_zero, List.set_cons_succ]
          have bX12 : Below w5.heap.size w5 w12 := bX11.trans (b12.mono bX11.size)
          refine stronger (fun w' => Below w12.heap.size w12 w' ∧ w'.cell? ⟨bb, 0, none⟩ = some (.int .i64 (m : Int)) ∧ w'.cell? ⟨bb, 1, none⟩ = some (.slice ad ps.length cap)) (fun w' h => ⟨b12.trans (h.1.mono b12.size), h.2⟩) ?_
          clear hHeld
          have hHeld := (show Below w12.heap.size w12 w12 ∧ w12.cell? ⟨bb, 0, none⟩ = some (.int .i64 (m : Int)) ∧ w12.cell? ⟨bb, 1, none⟩ = some (.slice ad ps.length cap) from ⟨Below.refl _ _, (HS.out _ bX12).2⟩)
          refine takeH (i := 17) (v := ?_) (a' := ?_) ({ dst := some 63, op := Op.binOp BinOp.eql 4 (Operand.tmp 60) (Operand.tmp 62) 4, type := 4, pos := "law.go:85", after := #[{ on := 14, ground := Ground.data }, { on := 16, ground := Ground.data }, { on := 12, ground := Ground.guard }], guard := some (12, true) }) rfl (by kernel_rfl) (by kernel_rfl) (by kernel_rfl) (fun _ _ _ h => h) (by rfl) ?_ (by assumption) ?_ ?_
          rotate_left 2
          · (intro w' hSw; go_simp; try with_reducible rfl)
          · (simp only [Act.put, List.setIfInBounds_toArray, List.set_cons_zero, List.set_cons_succ]; try rfl)
          refine takeH (i := 18) (v := ?_) (a' := ?_) ({ dst := some 64, op := Op.pick (Operand.tmp 58) (Operand.tmp 63) (Operand.const (Value.bool false)), type := 4, pos := "law.go:85", after := #[{ on := 12, ground := Ground.data }, { on := 17, ground := Ground.data }], guard := none }) rfl (by kernel_rfl) (by kernel_rfl) (by kernel_rfl) (fun _ _ _ h => h) (by rfl) ?_ (by assumption) ?_ ?_
          rotate_left 2
          · (intro w' hSw; go_simp; try with_reducible rfl)
          · (simp only [Act.put, List.setIfInBounds_toArray, List.set_cons_zero, List.set_cons_succ]; try rfl)
          refine takeH (i := 19) (v := ?_) (a' := ?_) ({ dst := some 65, op := Op.move (Operand.tmp 64), type := 4, pos := "law.go:85", after := #[{ on := 18, ground := Ground.data }, { on := 16, ground := Ground.chain }], guard := none }) rfl (by kernel_rfl) (by kernel_rfl) (by kernel_rfl) (fun _ _ _ h => h) (by rfl) ?_ (by assumption) ?_ ?_
          rotate_left 2
          · (intro w' hSw; go_simp; try with_reducible rfl)
          · (simp only [Act.put, List.setIfInBounds_toArray, List.set_cons_zero, List.set_cons_succ]; try rfl)
          refine takeH (i := 20) (v := ?_) (a' := ?_) ({ dst := some 66, op := Op.move (Operand.tmp 5), type := 24, pos := "law.go:85", after := #[{ on := 19, ground := Ground.guard }], guard := some (19, true) }) rfl (by kernel_rfl) (by kernel_rfl) (by kernel_rfl) (fun _ _ _ h => h) (by rfl) ?_ (by assumption) ?_ ?_
          rotate_left 2
          · (intro w' hSw; go_simp; try with_reducible rfl)
          · (simp only [Act.put, List.setIfInBounds_toArray, List.set_cons_zero, List.set_cons_succ]; try rfl)
          refine takeH (i := 22) (v := ?_) (a' := ?_) ({ dst := some 68, op := Op.load 32 (Operand.tmp 7), type := 32, pos := "law.go:85", after := #[{ on := 19, ground := Ground.guard }], guard := some (19, true) }) rfl (by kernel_rfl) (by kernel_rfl) (by kernel_rfl) (fun _ _ _ h => h) (by rfl) ?_ (by assumption) ?_ ?_
          rotate_left 2
          · (intro w' hSw; go_simp; try with_reducible rfl)
          · (simp only [Act.put, List.setIfInBounds_toArray, List.set_cons_zero, List.set_cons_succ]; try rfl)
          refine wpAnyH_ready (rs := [21]) (by kernel_rfl) (by simp) ?_
          refine AllReadyH.cons (o := { dst := some 67, op := Op.call { callee := Callee.value (Operand.func 21), args := #[Operand.tmp 66], argTypes := #[24] }, type := 3, pos := "law.go:85", after := #[{ on := 20, ground := Ground.data }, { on := 19, ground := Ground.chain }, { on := 19, ground := Ground.guard }], guard := some (19, true) }) rfl (fun K hK => ?_) AllReadyH.nil
          go_simp
          refine (hLe.out _ bX12).mono ?_
          rintro e w13 ⟨rfl, b13⟩
          go_wp2_with fail
          refine hK.out _ _ (⟨b13, (HS.out _ (bX12.trans (b13.mono bX12.size))).2⟩) (fun hHeld => ?_)
          clear hK K
          try simp only [Act.put, List.setIfInBounds_toArray, List.set_cons_zero, List.set_cons_succ]
          have bX13 : Below w5.heap.size w5 w13 := bX12.trans (b13.mono bX12.size)
          refine stronger (fun w' => Below w13.heap.size w13 w' ∧ w'.cell? ⟨bb, 0, none⟩ = some (.int .i64 (m : Int)) ∧ w'.cell? ⟨bb, 1, none⟩ = some (.slice ad ps.length cap)) (fun w' h => ⟨b13.trans (h.1.mono b13.size), h.2⟩) ?_
          clear hHeld
          have hHeld := (show Below w13.heap.size w13 w13 ∧ w13.cell? ⟨bb, 0, none⟩ = some (.int .i64 (m : Int)) ∧ w13.cell? ⟨bb, 1, none⟩ = some (.slice ad ps.length cap) from ⟨Below.refl _ _, (HS.out _ bX13).2⟩)
          refine wpAnyH_ready (rs := [23]) (by kernel_rfl) (by simp) ?_
          refine AllReadyH.cons (o := { dst := some 69, op := Op.call { callee := Callee.value (Operand.func 18), args := #[Operand.tmp 68], argTypes := #[32] }, type := 39, pos := "law.go:85", after := #[{ on := 22, ground := Ground.data }, { on := 21, ground := Ground.chain }, { on := 19, ground := Ground.guard }], guard := some (19, true) }) rfl (fun K hK => ?_) AllReadyH.nil
          go_simp
          refine (rall_ok _ _ _ _ _ (hPX.out.below bX13) (by omega)).mono ?_
          rintro e w14 ⟨ka, kc, rfl, hJ14, b14⟩
          go_wp2_with fail
          refine hK.out _ _ (⟨b14, (HS.out _ (bX13.trans (b14.mono bX13.size))).2⟩) (fun hHeld => ?_)
          clear hK K
          try simp only [Act.put, List.setIfInBounds_toArray, List.set_cons_zero, List.set_cons_succ]
          have bX14 : Below w5.heap.size w5 w14 := bX13.trans (b14.mono bX13.size)
          refine stronger (fun w' => Below w14.heap.size w14 w' ∧ w'.cell? ⟨bb, 0, none⟩ = some (.int .i64 (m : Int)) ∧ w'.cell? ⟨bb, 1, none⟩ = some (.slice ad ps.length cap)) (fun w' h => ⟨b14.trans (h.1.mono b14.size), h.2⟩) ?_
          clear hHeld
          have hHeld := (show Below w14.heap.size w14 w14 ∧ w14.cell? ⟨bb, 0, none⟩ = some (.int .i64 (m : Int)) ∧ w14.cell? ⟨bb, 1, none⟩ = some (.slice ad ps.length cap) from ⟨Below.refl _ _, (HS.out _ bX14).2⟩)
          refine takeH (i := 24) (v := ?_) (a' := ?_) ({ dst := some 70, op := Op.call { callee := Callee.builtin Builtin.len, args := #[Operand.tmp 69], argTypes := #[39] }, type := 3, pos := "law.go:85", after := #[{ on := 23, ground := Ground.data }, { on := 19, ground := Ground.guard }], guard := some (19, true) }) rfl (by kernel_rfl) (by kernel_rfl) (by kernel_rfl) (fun _ _ _ h => h) (by rfl) ?_ (by assumption) ?_ ?_
          rotate_left 2
          · (intro w' hSw; go_simp; try with_reducible rfl)
          · (simp only [Act.put, List.setIfInBounds_toArray, List.set_cons_zero, List.set_cons_succ]; try rfl)
          refine takeH (i := 25) (v := ?_) (a' := ?_) ({ dst := some 71, op := Op.binOp BinOp.eql 3 (Operand.tmp 67) (Operand.tmp 70) 3, type := 4, pos := "law.go:85", after := #[{ on := 21, ground := Ground.data }, { on := 24, ground := Ground.data }, { on := 19, ground := Ground.guard }], guard := some (19, true) }) rfl (by kernel_rfl) (by kernel_rfl) (by kernel_rfl) (fun _ _ _ h => h) (by rfl) ?_ (by assumption) ?_ ?_
          rotate_left 2
          · (intro w' hSw; go_simp; try with_reducible rfl)
          · (simp only [Act.put, List.setIfInBounds_toArray, List.set_cons_zero, List.set_cons_succ]; try rfl)
          refine takeH (i := 26) (v := ?_) (a' := ?_) ({ dst := some 72, op := Op.pick (Operand.tmp 65) (Operand.tmp 71) (Operand.const (Value.bool false)), type := 4, pos := "law.go:85", after := #[{ on := 19, ground := Ground.data }, { on := 25, ground := Ground.data }], guard := none }) rfl (by kernel_rfl) (by kernel_rfl) (by kernel_rfl) (fun _ _ _ h => h) (by rfl) ?_ (by assumption) ?_ ?_
          rotate_left 2
          · (intro w' hSw; go_simp; try with_reducible rfl)
          · (simp only [Act.put, List.setIfInBounds_toArray, List.set_cons_zero, List.set_cons_succ]; try rfl)
          refine takeH (i := 27) (v := ?_) (a' := ?_) ({ dst := some 73, op := Op.move (Operand.tmp 72), type := 4, pos := "law.go:85", after := #[{ on := 26, ground := Ground.data }, { on := 23, ground := Ground.chain }], guard := none }) rfl (by kernel_rfl) (by kernel_rfl) (by kernel_rfl) (fun _ _ _ h => h) (by rfl) ?_ (by assumption) ?_ ?_
          rotate_left 2
          · (intro w' hSw; go_simp; try with_reducible rfl)
          · (simp only [Act.put, List.setIfInBounds_toArray, List.set_cons_zero, List.set_cons_succ]; try rfl)
          refine wpAnyH_ready (rs := [28]) (by kernel_rfl) (by simp) ?_
          refine AllReadyH.cons (o := { dst := some 74, op := Op.call { callee := Callee.value (Operand.func 9), args := #[], argTypes := #[] }, type := 4, pos := "law.go:85", after := #[{ on := 27, ground := Ground.chain }, { on := 27, ground := Ground.guard }], guard := some (27, true) }) rfl (fun K hK => ?_) AllReadyH.nil
          go_simp
          refine (sure_ok _ (sX.out.more bX14).env).mono ?_
          rintro e w15 ⟨rfl, b15⟩
          go_wp2_with fail
          refine hK.out _ _ (⟨b15, (HS.out _ (bX14.trans (b15.mono bX14.size))).2⟩) (fun hHeld => ?_)
          clear hK K
          try simp only [Act.put, List.setIfInBounds_toArray, List.set_cons_zero, List.set_cons_succ]
          have bX15 : Below w5.heap.size w5 w15 := bX14.trans (b15.mono bX14.size)
          refine stronger (fun w' => Below w15.heap.size w15 w' ∧ w'.cell? ⟨bb, 0, none⟩ = some (.int .i64 (m : Int)) ∧ w'.cell? ⟨bb, 1, none⟩ = some (.slice ad ps.length cap)) (fun w' h => ⟨b15.trans (h.1.mono b15.size), h.2⟩) ?_
          clear hHeld
          have hHeld := (show Below w15.heap.size w15 w15 ∧ w15.cell? ⟨bb, 0, none⟩ = some (.int .i64 (m : Int)) ∧ w15.cell? ⟨bb, 1, none⟩ = some (.slice ad ps.length cap) from ⟨Below.refl _ _, (HS.out _ bX15).2⟩)
          refine takeH (i := 29) (v := ?_) (a' := ?_) ({ dst := some 75, op := Op.pick (Operand.tmp 73) (Operand.tmp 74) (Operand.const (Value.bool false)), type := 4, pos := "law.go:85", after := #[{ on := 27, ground := Ground.data }, { on := 28, ground := Ground.data }], guard := none }) rfl (by kernel_rfl) (by kernel_rfl) (by kernel_rfl) (fun _ _ _ h => h) (by rfl) ?_ (by assumption) ?_ ?_
          rotate_left 2
          · (intro w' hSw; go_simp; try with_reducible rfl)
          · (simp only [Act.put, List.setIfInBounds_toArray, List.set_cons_zero, List.set_cons_succ]; try rfl)
          refine takeH (i := 30) (v := ?_) (a' := ?_) ({ dst := some 4, op := Op.assign (Operand.tmp 75), type := 4, pos := "law.go:85", after := #[{ on := 29, ground := Ground.data }, { on := 28, ground := Ground.chain }, { on := 0, ground := Ground.phase }, { on := 1, ground := Ground.phase }, { on := 2, ground := Ground.phase }, { on := 3, ground := Ground.phase }, { on := 4, ground := Ground.phase }, { on := 5, ground := Ground.phase }, { on := 6, ground := Ground.phase }, { on := 7, ground := Ground.phase }, { on := 8, ground := Ground.phase }, { on := 9, ground := Ground.phase }, { on := 10, ground := Ground.phase }, { on := 11, ground := Ground.phase }, { on := 12, ground := Ground.phase }, { on := 13, ground := Ground.phase }, { on := 14, ground := Ground.phase }, { on := 15, ground := Ground.phase }, { on := 16, ground := Ground.phase }, { on := 17, ground := Ground.phase }, { on := 18, ground := Ground.phase }, { on := 19, ground := Ground.phase }, { on := 20, ground := Ground.phase }, { on := 21, ground := Ground.phase }, { on := 22, ground := Ground.phase }, { on := 23, ground := Ground.phase }, { on := 24, ground := Ground.phase }, { on := 25, ground := Ground.phase }, { on := 26, ground := Ground.phase }, { on := 27, ground := Ground.phase }, { on := 28, ground := Ground.phase }, { on := 29, ground := Ground.phase }], guard := none }) rfl (by kernel_rfl) (by kernel_rfl) (by kernel_rfl) (fun _ _ _ h => h) (by rfl) ?_ (by assumption) ?_ ?_
          rotate_left 2
          · (intro w' hSw; go_simp; try with_reducible rfl)
          · (simp only [Act.put, List.setIfInBounds_toArray, List.set_cons_zero, List.set_cons_succ]; try rfl)
          refine wpAnyH_done (by kernel_rfl) ?_ _
          refine NoPanic.normal ?_
          go_wp2_with fail
          go_ret
          exact ⟨rfl, hb1.out.trans ((sX.out.more bX15).below.mono hb1.out.size)⟩
        · have hld := hid (load3_bad m ad1 ps cap1 w1 hp1 hm1 hm2 hf)
          have hrl := hid (fun y (hy : Prow y ad ps) => rload_in m ad ps cap y hy hm1 hm2 hle (ra 0 none 0 0) 1 (fun e => absurd e hf) (fun _ => ⟨rfl, rfl⟩))
          clear hp1 h01 b1
          go_wp2_with fail
          refine hld.out.mono ?_
          rintro e w2 ⟨rfl, b2⟩
          have hE2 := hid (hE1.out.below b2)
          have hb2 := hid (hb1.out.trans (b2.mono hb1.out.size))
          clear b2 hld
          go_wp2_with fail
          refine (hrl.out _ (hph.out.below hb2.out)).mono ?_
          rintro e w3 ⟨rfl, b3⟩
          have b3a := b3.alloc b3.size (.cells #[.int .i64 0, .slice none 0 0] 32)
          have hE3 := hid (hE2.out.below b3a)
          have hb3 := hid (hb2.out.trans (b3a.mono hb2.out.size))
          clear hE2 b3 b3a hrl
          go_wp2_with fail
          refine (num_err 1 _ hE3.out.1).mono ?_
          rintro e w4 ⟨rfl, b4⟩
          have hE4 := hid (hE3.out.below b4)
          have hb4 := hid (hb3.out.trans (b4.mono hb3.out.size))
          clear hE3 b4
          go_wp2_with fail
          refine (sure_ok _ hE4.out.2).mono ?_
          rintro e w6 ⟨rfl, b6⟩
          have hb6 := hid (hb4.out.trans (b6.mono hb4.out.size))
          clear b6
          go_wp2_with fail
          go_ret
          exact ⟨rfl, hb6.out⟩
      · have hld := hid (load3_bad m ad1 ps cap1 w1 hp1 hm1 hm2 (fun hf => by have := hf.le; omega))
        have hrl := hid (fun y (hy : Prow y ad ps) => rload_size (m : Int) ad ps.length cap y (by omega))
        clear hp1 h01 b1
        go_wp2_with fail
        refine hld.out.mono ?_
        rintro e w2 ⟨rfl, b2⟩
        have hE2 := hid (hE1.out.below b2)
        have hb2 := hid (hb1.out.trans (b2.mono hb1.out.size))
        clear b2 hld
        go_wp2_with fail
        refine (hrl.out _ (hph.out.below hb2.out)).mono ?_
        rintro e w3 ⟨rfl, b3⟩
        have b3a := b3.alloc b3.size (.cells #[.int .i64 0, .slice none 0 0] 32)
        have hE3 := hid (hE2.out.below b3a)
        have hb3 := hid (hb2.out.trans (b3a.mono hb2.out.size))
        clear hE2 b3 b3a hrl
        go_wp2_with fail
        refine (num_err 1 _ hE3.out.1).mono ?_
        rintro e w4 ⟨rfl, b4⟩
        have hE4 := hid (hE3.out.below b4)
        have hb4 := hid (hb3.out.trans (b4.mono hb3.out.size))
        clear hE3 b4
        go_wp2_with fail
        refine (sure_ok _ hE4.out.2).mono ?_
        rintro e w6 ⟨rfl, b6⟩
        have hb6 := hid (hb4.out.trans (b6.mono hb4.out.size))
        clear b6
        go_wp2_with fail
        go_ret
        exact ⟨rfl, hb6.out⟩

end Go.Proofs.YtcngcomckoiklaaDoor
