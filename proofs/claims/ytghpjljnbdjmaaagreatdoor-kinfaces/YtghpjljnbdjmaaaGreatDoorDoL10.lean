/- 'do', walked: an edge laid. -/
import Derived.Test.YtghpjljnbdjmaaaGreatDoorBdo
import Derived.Test.YtghpjljnbdjmaaaGreatDoorRegion
namespace Go.Proofs.YtghpjljnbdjmaaaGreatDoor
open Go.RowKit
set_option linter.unusedVariables false

theorem corner_any (tv : Value) (E V : Nat) (R : Nat → List Nat) (c0 c1 : Int) (raw : Bool) (w : World) (hv : RT w tv E V R) (ht : Tn V E R) (hV1 : 1 ≤ V) (hV : V ≤ 1000) (hE : E ≤ 100) :
    Calls Tryz.prog 65 #[tv, .agg #[.int .i64 c0, .int .i64 c1], .bool raw] w fun x w' => ∃ (a b : Int), x = .returned (.agg #[.int .i64 a, .int .i64 b]) ∧ Below w.heap.size w w' := by
  cases raw with
  | true => exact (corner_raw tv E V R c0 c1 w hv).mono fun x w' ⟨e, b⟩ => ⟨c0, c1, e, b⟩
  | false => exact (corner_ok tv E V R c0 c1 w hv ht hV1 hV hE).mono fun x w' ⟨u, b, e, _, _, h⟩ => ⟨(u : Int), b, e, h⟩

theorem bcell {W w1 : World} (hb : Below W.heap.size W w1) : (∀ b o, b < W.heap.size → w1.cell? ⟨b, o, none⟩ = W.cell? ⟨b, o, none⟩) ∧ (∀ b o, b < W.heap.size → w1.frozen? ⟨b, o, none⟩ = W.frozen? ⟨b, o, none⟩) :=
  ⟨fun b o h => hb.cell (p := ⟨b, o, none⟩) h, fun b o h => hb.frozen (p := ⟨b, o, none⟩) h⟩
theorem Dk.alloc {s F : Nat} {lv : Value} {q : Ac} {y : World} (h : Dk s F lv q y) (o : Obj) : Dk s F lv q (y.alloc o) := h.below (balloc y o)
theorem Dk.drew {s F : Nat} {lv : Value} {q : Ac} {y : World} (h : Dk s F lv q y) : Dk s F lv q y.drew := h
theorem Dk.set2 {s F : Nat} {lv : Value} {q : Ac} {y : World} (h : Dk s F lv q y) {P : Nat} (hP : s + 3 ≤ P) (u v : Value) : Dk s F lv q ((y.setCell ⟨P, 0, none⟩ u).setCell ⟨P, 1, none⟩ v) := by
  have k : ∀ b, b ≠ P → ((y.setCell ⟨P, 0, none⟩ u).setCell ⟨P, 1, none⟩ v).heap[b]? = y.heap[b]? := fun b hb => by rw [Below.heap_setCell _ _ _ _ hb, Below.heap_setCell _ _ _ _ hb]
  exact ⟨(k s (by omega)).trans h.1, (k (s + 1) (by omega)).trans h.2.1, (k (s + 2) (by omega)).trans h.2.2⟩
theorem Dk.six {s F : Nat} {lv : Value} {k e a0 a1 b0 b1 : Int} {y : World} (h : Dk s F lv ⟨k, e, a0, a1, b0, b1⟩ y) : y.cell? ⟨s, 0, none⟩ = some (.int .i64 (F : Int)) ∧ y.cell? ⟨s, 1, none⟩ = some lv ∧ y.cell? ⟨s + 1, 2, none⟩ = some (.int .i64 a0) ∧ y.cell? ⟨s + 1, 3, none⟩ = some (.int .i64 a1) ∧ y.cell? ⟨s + 1, 4, none⟩ = some (.int .i64 b0) ∧ y.cell? ⟨s + 1, 5, none⟩ = some (.int .i64 b1) := by
  obtain ⟨_, _, x2, x3, x4, x5⟩ := h.act
  obtain ⟨x0, x1, _, _⟩ := blk2 h.1
  exact ⟨x0, x1, x2, x3, x4, x5⟩

theorem al_keep {y : World} {b : Nat} {o o' : Obj} (h : y.heap[b]? = some o) : (y.alloc o').heap[b]? = some o := (Below.heap_alloc _ _ _ (Array.getElem?_eq_some_iff.1 h).1).trans h
abbrev zp : Obj := .cells #[.int .i64 0, .int .i64 0] 23 (0, 0)

set_option maxRecDepth 100000 in
set_option maxHeartbeats 4000000 in
theorem do_lay {w : World} {lo tb V E F : Nat} {xv : Value} {R : Nat → List Nat} (h : Bo w lo tb xv V E F R) (q : Ac) (κ : Nat) (hκ : wrap64 ((IntKind.u64.wrap q.k).tmod 12) = (κ : Int)) (hκ9 : κ ≤ 9) (hg : Handle w) (hlo : 0 < lo) (hV1 : 1 ≤ V) (hV : V ≤ 1000) (hE : F ≤ 100) (hef : (q.e < 0 ∨ (E : Int) ≤ q.e) ∨ q.e < (F : Int)) :
    Calls Tryz.prog 32 #[.pointer (some ⟨tb, 0, none⟩), xv, acv q] w fun x w' => ∃ xv' R', x = .returned (.tuple #[xv', .bool true]) ∧ Bo w' lo tb xv' V E F R' ∧ Kp lo w w' := by
  have hboth := hid (fun a0 a1 b0 b1 => both_lay h q.e a0 a1 b0 b1 hef hE hV)
  have hcor := hid (fun c0 c1 raw y (hy : Below w.heap.size w y) => corner_any xv F V R c0 c1 raw y (h.rt.below hy) h.tn hV1 hV hE)
  replace hg := hid hg
  have hle := h.le
  have hta := hid h.ta
  have hrt := h.rt
  obtain ⟨lv, rfl, ad, cap, rfl, _⟩ := hrt
  have hk := hid (Dk.new w F (.slice ad V cap) q)
  obtain ⟨w1, hw1⟩ : ∃ w1, ((w.alloc (.cells #[.int .i64 (F : Int), .slice ad V cap] 27)).alloc (.cells #[.int .i64 q.k, .int .i64 q.e, .int .i64 q.a0, .int .i64 q.a1, .int .i64 q.b0, .int .i64 q.b1] 73)).alloc (.cells #[.int .i64 0, .slice none 0 0] 27) = w1 := ⟨_, rfl⟩
  have hb1 : Hid (Below w.heap.size w w1) := by
    rw [← hw1]
    exact hid ((((Below.refl w.heap.size w).alloc (Nat.le_refl _) _).alloc (by simp) _).alloc (by simp; omega) _)
  rw [hw1] at hk
  have hsz : Hid (w1.heap.size ≤ w.heap.size + 3) := by rw [← hw1]; exact hid (by simp)
  replace hw1 := hid hw1
  obtain ⟨k0, k1, k2, k3, k4, k5⟩ := hk.out.act
  obtain ⟨p0, p1, _, _⟩ := blk2 hk.out.1
  have t1 : decide (9 < (κ : Int)) = false := decide_eq_false (by omega)
  have t1' : decide ((κ : Int) > 9) = false := decide_eq_false (by omega)
  obtain ⟨qk, qe, qa0, qa1, qb0, qb1⟩ := q
  simp only [] at *
  clear h hef
  go_enter Tryz.func32, Tryz.ntmps32
  go_upto_region 1 with fail
  rw [hw1.out]
  go_upto_region 5 with fail
  clear k0 hw1 t1 t1'
  try rw [hκ]
  clear hκ
  generalize ((κ : Int) == 9) = raw
  go_cut [11, 12] from 38 to 49 (fun s11 s12 wx => ∃ (P Q : Nat) (a0 a1 b0 b1 : Int), s11 = .pointer (some ⟨P, 0, none⟩) ∧ s12 = .pointer (some ⟨Q, 0, none⟩) ∧ Hid (Below w.heap.size w wx ∧ Dk w.heap.size F (.slice ad V cap) ⟨qk, qe, qa0, qa1, qb0, qb1⟩ wx ∧ wx.heap[P]? = some (.cells #[.int .i64 a0, .int .i64 a1] 23 (0, 0)) ∧ wx.heap[Q]? = some (.cells #[.int .i64 b0, .int .i64 b1] 23 (0, 0))))
  case first =>
    clear k1 k2 k3 k4 k5 p0 p1 hsz
    refine wp_region_noPanic ?_
    refine wp_region_held_drew (S := fun y => Dk w.heap.size F (.slice ad V cap) ⟨qk, qe, qa0, qa1, qb0, qb1⟩ y) (by kernel_rfl) hk.out (fun hHeld => ?_)
    refine takeH (i := 0) (v := ?_) (a' := ?_) ({ dst := some 38, op := Op.load 27 (Operand.tmp 4), type := 27, pos := "law.go:67", after := #[], guard := none }) rfl (by kernel_rfl) (by kernel_rfl) (by kernel_rfl) (fun _ _ _ h => h) (by rfl) ?_ (by assumption) ?_ ?_
    rotate_left 2
    · (intro w' hSw; obtain ⟨q0, q1, q2, q3, q4, q5⟩ := Dk.six hSw; clear hSw; go_simp; try with_reducible rfl)
    · (simp only [Act.put, List.setIfInBounds_toArray, List.set_cons_zero, List.set_cons_succ]; try rfl)
    refine takeH (i := 1) (v := ?_) (a' := ?_) ({ dst := some 39, op := Op.fieldAddr 73 (Operand.tmp 5) 2, type := 0, pos := "law.go:67", after := #[], guard := none }) rfl (by kernel_rfl) (by kernel_rfl) (by kernel_rfl) (fun _ _ _ h => h) (by rfl) ?_ (by assumption) ?_ ?_
    rotate_left 2
    · (intro w' hSw; obtain ⟨q0, q1, q2, q3, q4, q5⟩ := Dk.six hSw; clear hSw; go_simp; try with_reducible rfl)
    · (simp only [Act.put, List.setIfInBounds_toArray, List.set_cons_zero, List.set_cons_succ]; try rfl)
    refine takeH (i := 2) (v := ?_) (a' := ?_) ({ dst := some 40, op := Op.load 23 (Operand.tmp 39), type := 23, pos := "law.go:67", after := #[{ on := 1, ground := Ground.data }], guard := none }) rfl (by kernel_rfl) (by kernel_rfl) (by kernel_rfl) (fun _ _ _ h => h) (by rfl) ?_ (by assumption) ?_ ?_
    rotate_left 2
    · (intro w' hSw; obtain ⟨q0, q1, q2, q3, q4, q5⟩ := Dk.six hSw; clear hSw; go_simp; try with_reducible rfl)
    · (simp only [Act.put, List.setIfInBounds_toArray, List.set_cons_zero, List.set_cons_succ]; try rfl)
    refine takeH (i := 3) (v := ?_) (a' := ?_) ({ dst := some 41, op := Op.move (Operand.tmp 8), type := 3, pos := "law.go:67", after := #[], guard := none }) rfl (by kernel_rfl) (by kernel_rfl) (by kernel_rfl) (fun _ _ _ h => h) (by rfl) ?_ (by assumption) ?_ ?_
    rotate_left 2
    · (intro w' hSw; obtain ⟨q0, q1, q2, q3, q4, q5⟩ := Dk.six hSw; clear hSw; go_simp; try with_reducible rfl)
    · (simp only [Act.put, List.setIfInBounds_toArray, List.set_cons_zero, List.set_cons_succ]; try rfl)
    refine takeH (i := 4) (v := ?_) (a' := ?_) ({ dst := some 42, op := Op.binOp BinOp.eql 3 (Operand.tmp 41) (Operand.const (Value.int IntKind.i64 9)) 3, type := 4, pos := "law.go:67", after := #[{ on := 3, ground := Ground.data }], guard := none }) rfl (by kernel_rfl) (by kernel_rfl) (by kernel_rfl) (fun _ _ _ h => h) (by rfl) ?_ (by assumption) ?_ ?_
    rotate_left 2
    · (intro w' hSw; obtain ⟨q0, q1, q2, q3, q4, q5⟩ := Dk.six hSw; clear hSw; go_simp; try with_reducible rfl)
    · (simp only [Act.put, List.setIfInBounds_toArray, List.set_cons_zero, List.set_cons_succ]; try rfl)
    refine takeH (i := 6) (v := ?_) (a' := ?_) ({ dst := some 44, op := Op.load 27 (Operand.tmp 4), type := 27, pos := "law.go:67", after := #[], guard := none }) rfl (by kernel_rfl) (by kernel_rfl) (by kernel_rfl) (fun _ _ _ h => h) (by rfl) ?_ (by assumption) ?_ ?_
    rotate_left 2
    · (intro w' hSw; obtain ⟨q0, q1, q2, q3, q4, q5⟩ := Dk.six hSw; clear hSw; go_simp; try with_reducible rfl)
    · (simp only [Act.put, List.setIfInBounds_toArray, List.set_cons_zero, List.set_cons_succ]; try rfl)
    refine takeH (i := 7) (v := ?_) (a' := ?_) ({ dst := some 45, op := Op.fieldAddr 73 (Operand.tmp 5) 3, type := 0, pos := "law.go:67", after := #[], guard := none }) rfl (by kernel_rfl) (by kernel_rfl) (by kernel_rfl) (fun _ _ _ h => h) (by rfl) ?_ (by assumption) ?_ ?_
    rotate_left 2
    · (intro w' hSw; obtain ⟨q0, q1, q2, q3, q4, q5⟩ := Dk.six hSw; clear hSw; go_simp; try with_reducible rfl)
    · (simp only [Act.put, List.setIfInBounds_toArray, List.set_cons_zero, List.set_cons_succ]; try rfl)
    refine takeH (i := 8) (v := ?_) (a' := ?_) ({ dst := some 46, op := Op.load 23 (Operand.tmp 45), type := 23, pos := "law.go:67", after := #[{ on := 7, ground := Ground.data }], guard := none }) rfl (by kernel_rfl) (by kernel_rfl) (by kernel_rfl) (fun _ _ _ h => h) (by rfl) ?_ (by assumption) ?_ ?_
    rotate_left 2
    · (intro w' hSw; obtain ⟨q0, q1, q2, q3, q4, q5⟩ := Dk.six hSw; clear hSw; go_simp; try with_reducible rfl)
    · (simp only [Act.put, List.setIfInBounds_toArray, List.set_cons_zero, List.set_cons_succ]; try rfl)
    refine takeH (i := 9) (v := ?_) (a' := ?_) ({ dst := some 47, op := Op.move (Operand.tmp 8), type := 3, pos := "law.go:67", after := #[], guard := none }) rfl (by kernel_rfl) (by kernel_rfl) (by kernel_rfl) (fun _ _ _ h => h) (by rfl) ?_ (by assumption) ?_ ?_
    rotate_left 2
    · (intro w' hSw; obtain ⟨q0, q1, q2, q3, q4, q5⟩ := Dk.six hSw; clear hSw; go_simp; try with_reducible rfl)
    · (simp only [Act.put, List.setIfInBounds_toArray, List.set_cons_zero, List.set_cons_succ]; try rfl)
    refine takeH (i := 10) (v := ?_) (a' := ?_) ({ dst := some 48, op := Op.binOp BinOp.eql 3 (Operand.tmp 47) (Operand.const (Value.int IntKind.i64 9)) 3, type := 4, pos := "law.go:67", after := #[{ on := 9, ground := Ground.data }], guard := none }) rfl (by kernel_rfl) (by kernel_rfl) (by kernel_rfl) (fun _ _ _ h => h) (by rfl) ?_ (by assumption) ?_ ?_
    rotate_left 2
    · (intro w' hSw; obtain ⟨q0, q1, q2, q3, q4, q5⟩ := Dk.six hSw; clear hSw; go_simp; try with_reducible rfl)
    · (simp only [Act.put, List.setIfInBounds_toArray, List.set_cons_zero, List.set_cons_succ]; try rfl)
    have hb0 := hid hb1.out.drew
    have hk0 := hid hk.out.drew
    clear hHeld
    generalize w1.drew = y0 at hb0 hk0 ⊢
    refine wpAnyH_ready (rs := [5, 12, 13]) (by kernel_rfl) (by simp) ?_
    refine (AllReadyH.cons (o := { dst := some 43, op := Op.call { callee := Callee.value (Operand.func 65), args := #[Operand.tmp 38, Operand.tmp 40, Operand.tmp 42], argTypes := #[27, 23, 4] }, type := 23, pos := "law.go:67", after := #[{ on := 0, ground := Ground.data }, { on := 2, ground := Ground.data }, { on := 4, ground := Ground.data }], guard := none }) rfl (fun K hK => ?_) (AllReadyH.cons (o := { dst := some 11, op := Op.alloc 23, type := 0, pos := "law.go:67", after := #[], guard := none }) rfl (fun K hK => ?_) (AllReadyH.cons (o := { dst := some 12, op := Op.alloc 23, type := 0, pos := "law.go:67", after := #[], guard := none }) rfl (fun K hK => ?_) AllReadyH.nil)))
    · skip
      go_simp
      refine (hcor.out _ _ _ _ hb0.out).mono ?_
      rintro x y1 ⟨a0, a1, rfl, b2⟩
      have hk1 := hid (hk0.out.below b2)
      have hb1 : Hid (Below w.heap.size w y1) := hb0.out.trans (b2.mono hb0.out.size)
      clear b2
      try go_wp2_with fail
      refine hK.out _ _ hk1.out (fun hHeld => ?_)
      clear hK K hHeld
      try simp only [Act.put, List.setIfInBounds_toArray, List.set_cons_zero, List.set_cons_succ]
      refine wpAnyH_ready (rs := [11, 12, 13]) (by kernel_rfl) (by simp) ?_
      refine (AllReadyH.cons (o := { dst := some 49, op := Op.call { callee := Callee.value (Operand.func 65), args := #[Operand.tmp 44, Operand.tmp 46, Operand.tmp 48], argTypes := #[27, 23, 4] }, type := 23, pos := "law.go:67", after := #[{ on := 6, ground := Ground.data }, { on := 8, ground := Ground.data }, { on := 10, ground := Ground.data }, { on := 5, ground := Ground.chain }], guard := none }) rfl (fun K hK => ?_) (AllReadyH.cons (o := { dst := some 11, op := Op.alloc 23, type := 0, pos := "law.go:67", after := #[], guard := none }) rfl (fun K hK => ?_) (AllReadyH.cons (o := { dst := some 12, op := Op.alloc 23, type := 0, pos := "law.go:67", after := #[], guard := none }) rfl (fun K hK => ?_) AllReadyH.nil)))
      · skip
        go_simp
        refine (hcor.out _ _ _ _ hb1.out).mono ?_
        rintro x y2 ⟨b0, b1, rfl, b2⟩
        have hk2 := hid (hk1.out.below b2)
        have hb2 : Hid (Below w.heap.size w y2) := hb1.out.trans (b2.mono hb1.out.size)
        clear b2
        try go_wp2_with fail
        refine hK.out _ _ hk2.out (fun hHeld => ?_)
        clear hK K hHeld
        try simp only [Act.put, List.setIfInBounds_toArray, List.set_cons_zero, List.set_cons_succ]
        refine wpAnyH_ready (rs := [12, 13]) (by kernel_rfl) (by simp) ?_
        refine (AllReadyH.cons (o := { dst := some 11, op := Op.alloc 23, type := 0, pos := "law.go:67", after := #[], guard := none }) rfl (fun K hK => ?_) (AllReadyH.cons (o := { dst := some 12, op := Op.alloc 23, type := 0, pos := "law.go:67", after := #[], guard := none }) rfl (fun K hK => ?_) AllReadyH.nil))
        · skip
          go_simp
          refine hK.out _ _ (hk2.out.alloc _) (fun hHeld => ?_)
          clear hK K hHeld
          try simp only [Act.put, List.setIfInBounds_toArray, List.set_cons_zero, List.set_cons_succ]
          obtain ⟨y3, hy⟩ : ∃ y, y2.alloc (.cells #[.int .i64 0, .int .i64 0] 23) = y := ⟨_, rfl⟩
          have hb3 : Hid (Below w.heap.size w y3) := by rw [← hy]; exact hid (hb2.out.alloc hb2.out.size _)
          have hk3 : Hid (Dk w.heap.size F (.slice ad V cap) ⟨qk, qe, qa0, qa1, qb0, qb1⟩ y3) := by rw [← hy]; exact hid (hk2.out.alloc _)
          have hP3 : Hid (y3.heap[y2.heap.size]? = some zp) := by rw [← hy]; exact hid (heap_alloc_new _ _)
          have hlP : w.heap.size + 3 ≤ y2.heap.size := by have := (Array.getElem?_eq_some_iff.1 hk2.out.2.2).1; omega
          rw [hy]
          clear hy
          refine wpAnyH_ready (rs := [13]) (by kernel_rfl) (by simp) ?_
          refine (AllReadyH.cons (o := { dst := some 12, op := Op.alloc 23, type := 0, pos := "law.go:67", after := #[], guard := none }) rfl (fun K hK => ?_) AllReadyH.nil)
          go_simp
          refine hK.out _ _ (hk3.out.alloc _) (fun hHeld => ?_)
          clear hK K hHeld
          try simp only [Act.put, List.setIfInBounds_toArray, List.set_cons_zero, List.set_cons_succ]
          obtain ⟨y4, hy⟩ : ∃ y, y3.alloc (.cells #[.int .i64 0, .int .i64 0] 23) = y := ⟨_, rfl⟩
          have hb4 : Hid (Below w.heap.size w y4) := by rw [← hy]; exact hid (hb3.out.alloc hb3.out.size _)
          have hk4 : Hid (Dk w.heap.size F (.slice ad V cap) ⟨qk, qe, qa0, qa1, qb0, qb1⟩ y4) := by rw [← hy]; exact hid (hk3.out.alloc _)
          have hQ4 : Hid (y4.heap[y3.heap.size]? = some zp) := by rw [← hy]; exact hid (heap_alloc_new _ _)
          have hlQ : w.heap.size + 3 ≤ y3.heap.size := by have := (Array.getElem?_eq_some_iff.1 hk3.out.2.2).1; omega
          have hP4 : Hid (y4.heap[y2.heap.size]? = some zp) := by rw [← hy]; exact hid (al_keep hP3.out)
          have hPQ : y2.heap.size ≠ y3.heap.size := by have := (Array.getElem?_eq_some_iff.1 hP3.out).1; omega
          rw [hy]
          clear hy
          refine wpAnyH_ready (rs := [14]) (by kernel_rfl) (by simp) ?_
          refine (AllReadyH.cons (o := { dst := none, op := Op.store 23 (Operand.tmp 11) (Operand.tmp 43), type := 0, pos := "law.go:67", after := #[{ on := 12, ground := Ground.data }, { on := 5, ground := Ground.data }, { on := 11, ground := Ground.chain }, { on := 0, ground := Ground.phase }, { on := 1, ground := Ground.phase }, { on := 2, ground := Ground.phase }, { on := 3, ground := Ground.phase }, { on := 4, ground := Ground.phase }, { on := 5, ground := Ground.phase }, { on := 6, ground := Ground.textOnly Departure.lateStores }, { on := 7, ground := Ground.textOnly Departure.lateStores }, { on := 8, ground := Ground.textOnly Departure.lateStores }, { on := 9, ground := Ground.textOnly Departure.lateStores }, { on := 10, ground := Ground.textOnly Departure.lateStores }, { on := 11, ground := Ground.textOnly Departure.lateStoresUnsure }, { on := 12, ground := Ground.phase }, { on := 13, ground := Ground.phase }], guard := none }) rfl (fun K hK => ?_) AllReadyH.nil)
          obtain ⟨z1, z2, z3, z4⟩ := blk2 hP4.out
          go_simp
          try go_wp2_with fail
          refine hK.out _ _ (hk4.out.set2 hlP _ _) (fun hHeld => ?_)
          clear hK K hHeld z1 z2 z3 z4
          try simp only [Act.put, List.setIfInBounds_toArray, List.set_cons_zero, List.set_cons_succ]
          obtain ⟨y5, hy⟩ : ∃ y, (y4.setCell ⟨y2.heap.size, 0, none⟩ (.int .i64 a0)).setCell ⟨y2.heap.size, 1, none⟩ (.int .i64 a1) = y := ⟨_, rfl⟩
          have hb5 : Hid (Below w.heap.size w y5) := by rw [← hy]; exact hid (below2 hb4.out (by omega) _ _)
          have hk5 : Hid (Dk w.heap.size F (.slice ad V cap) ⟨qk, qe, qa0, qa1, qb0, qb1⟩ y5) := by rw [← hy]; exact hid (hk4.out.set2 hlP _ _)
          have hP5 : Hid (y5.heap[y2.heap.size]? = some (.cells #[.int .i64 a0, .int .i64 a1] 23 (0, 0))) := by rw [← hy]; exact hid (set2_block hP4.out _ _)
          have hQ5 : Hid (y5.heap[y3.heap.size]? = some zp) := by rw [← hy, Below.heap_setCell _ _ _ _ (by show y3.heap.size ≠ y2.heap.size; omega), Below.heap_setCell _ _ _ _ (by show y3.heap.size ≠ y2.heap.size; omega)]; exact hQ4
          rw [hy]
          clear hy
          refine wpAnyH_ready (rs := [15]) (by kernel_rfl) (by simp) ?_
          refine (AllReadyH.cons (o := { dst := none, op := Op.store 23 (Operand.tmp 12) (Operand.tmp 49), type := 0, pos := "law.go:67", after := #[{ on := 13, ground := Ground.data }, { on := 11, ground := Ground.data }, { on := 14, ground := Ground.chain }, { on := 0, ground := Ground.phase }, { on := 1, ground := Ground.phase }, { on := 2, ground := Ground.phase }, { on := 3, ground := Ground.phase }, { on := 4, ground := Ground.phase }, { on := 5, ground := Ground.phase }, { on := 6, ground := Ground.phase }, { on := 7, ground := Ground.phase }, { on := 8, ground := Ground.phase }, { on := 9, ground := Ground.phase }, { on := 10, ground := Ground.phase }, { on := 11, ground := Ground.phase }, { on := 12, ground := Ground.phase }, { on := 13, ground := Ground.phase }, { on := 14, ground := Ground.phase }], guard := none }) rfl (fun K hK => ?_) AllReadyH.nil)
          obtain ⟨z1, z2, z3, z4⟩ := blk2 hQ5.out
          go_simp
          try go_wp2_with fail
          refine hK.out _ _ (hk5.out.set2 hlQ _ _) (fun hHeld => ?_)
          clear hK K hHeld z1 z2 z3 z4
          try simp only [Act.put, List.setIfInBounds_toArray, List.set_cons_zero, List.set_cons_succ]
          obtain ⟨y6, hy⟩ : ∃ y, (y5.setCell ⟨y3.heap.size, 0, none⟩ (.int .i64 b0)).setCell ⟨y3.heap.size, 1, none⟩ (.int .i64 b1) = y := ⟨_, rfl⟩
          have hb6 : Hid (Below w.heap.size w y6) := by rw [← hy]; exact hid (below2 hb5.out (by omega) _ _)
          have hk6 : Hid (Dk w.heap.size F (.slice ad V cap) ⟨qk, qe, qa0, qa1, qb0, qb1⟩ y6) := by rw [← hy]; exact hid (hk5.out.set2 hlQ _ _)
          have hQ6 : Hid (y6.heap[y3.heap.size]? = some (.cells #[.int .i64 b0, .int .i64 b1] 23 (0, 0))) := by rw [← hy]; exact hid (set2_block hQ5.out _ _)
          have hP6 : Hid (y6.heap[y2.heap.size]? = some (.cells #[.int .i64 a0, .int .i64 a1] 23 (0, 0))) := by rw [← hy, Below.heap_setCell _ _ _ _ (by show y2.heap.size ≠ y3.heap.size; omega), Below.heap_setCell _ _ _ _ (by show y2.heap.size ≠ y3.heap.size; omega)]; exact hP5
          rw [hy]
          clear hy
          refine wpAnyH_done (by kernel_rfl) ?_ _
          refine NoPanic.normal ?_
          go_wp2_with fail
          go_meet
          case rel => exact ⟨_, _, a0, a1, b0, b1, rfl, rfl, hb6.out, hk6.out, hP6.out, hQ6.out⟩
        · skip
          go_simp
          refine hK.out _ _ (hk2.out.alloc _) (fun hHeld => ?_)
          clear hK K hHeld
          try simp only [Act.put, List.setIfInBounds_toArray, List.set_cons_zero, List.set_cons_succ]
          obtain ⟨y7, hy⟩ : ∃ y, y2.alloc (.cells #[.int .i64 0, .int .i64 0] 23) = y := ⟨_, rfl⟩
          have hb7 : Hid (Below w.heap.size w y7) := by rw [← hy]; exact hid (hb2.out.alloc hb2.out.size _)
          have hk7 : Hid (Dk w.heap.size F (.slice ad V cap) ⟨qk, qe, qa0, qa1, qb0, qb1⟩ y7) := by rw [← hy]; exact hid (hk2.out.alloc _)
          have hQ7 : Hid (y7.heap[y2.heap.size]? = some zp) := by rw [← hy]; exact hid (heap_alloc_new _ _)
          have hlQ : w.heap.size + 3 ≤ y2.heap.size := by have := (Array.getElem?_eq_some_iff.1 hk2.out.2.2).1; omega
          rw [hy]
          clear hy
          refine wpAnyH_ready (rs := [12]) (by kernel_rfl) (by simp) ?_
          refine (AllReadyH.cons (o := { dst := some 11, op := Op.alloc 23, type := 0, pos := "law.go:67", after := #[], guard := none }) rfl (fun K hK => ?_) AllReadyH.nil)
          go_simp
          refine hK.out _ _ (hk7.out.alloc _) (fun hHeld => ?_)
          clear hK K hHeld
          try simp only [Act.put, List.setIfInBounds_toArray, List.set_cons_zero, List.set_cons_succ]
          obtain ⟨y8, hy⟩ : ∃ y, y7.alloc (.cells #[.int .i64 0, .int .i64 0] 23) = y := ⟨_, rfl⟩
          have hb8 : Hid (Below w.heap.size w y8) := by rw [← hy]; exact hid (hb7.out.alloc hb7.out.size _)
          have hk8 : Hid (Dk w.heap.size F (.slice ad V cap) ⟨qk, qe, qa0, qa1, qb0, qb1⟩ y8) := by rw [← hy]; exact hid (hk7.out.alloc _)
          have hP8 : Hid (y8.heap[y7.heap.size]? = some zp) := by rw [← hy]; exact hid (heap_alloc_new _ _)
          have hlP : w.heap.size + 3 ≤ y7.heap.size := by have := (Array.getElem?_eq_some_iff.1 hk7.out.2.2).1; omega
          have hQ8 : Hid (y8.heap[y2.heap.size]? = some zp) := by rw [← hy]; exact hid (al_keep hQ7.out)
          have hPQ : y2.heap.size ≠ y7.heap.size := by have := (Array.getElem?_eq_some_iff.1 hQ7.out).1; omega
          rw [hy]
          clear hy
          refine wpAnyH_ready (rs := [14]) (by kernel_rfl) (by simp) ?_
          refine (AllReadyH.cons (o := { dst := none, op := Op.store 23 (Operand.tmp 11) (Operand.tmp 43), type := 0, pos := "law.go:67", after := #[{ on := 12, ground := Ground.data }, { on := 5, ground := Ground.data }, { on := 11, ground := Ground.chain }, { on := 0, ground := Ground.phase }, { on := 1, ground := Ground.phase }, { on := 2, ground := Ground.phase }, { on := 3, ground := Ground.phase }, { on := 4, ground := Ground.phase }, { on := 5, ground := Ground.phase }, { on := 6, ground := Ground.textOnly Departure.lateStores }, { on := 7, ground := Ground.textOnly Departure.lateStores }, { on := 8, ground := Ground.textOnly Departure.lateStores }, { on := 9, ground := Ground.textOnly Departure.lateStores }, { on := 10, ground := Ground.textOnly Departure.lateStores }, { on := 11, ground := Ground.textOnly Departure.lateStoresUnsure }, { on := 12, ground := Ground.phase }, { on := 13, ground := Ground.phase }], guard := none }) rfl (fun K hK => ?_) AllReadyH.nil)
          obtain ⟨z1, z2, z3, z4⟩ := blk2 hP8.out
          go_simp
          try go_wp2_with fail
          refine hK.out _ _ (hk8.out.set2 hlP _ _) (fun hHeld => ?_)
          clear hK K hHeld z1 z2 z3 z4
          try simp only [Act.put, List.setIfInBounds_toArray, List.set_cons_zero, List.set_cons_succ]
          obtain ⟨y9, hy⟩ : ∃ y, (y8.setCell ⟨y7.heap.size, 0, none⟩ (.int .i64 a0)).setCell ⟨y7.heap.size, 1, none⟩ (.int .i64 a1) = y := ⟨_, rfl⟩
          have hb9 : Hid (Below w.heap.size w y9) := by rw [← hy]; exact hid (below2 hb8.out (by omega) _ _)
          have hk9 : Hid (Dk w.heap.size F (.slice ad V cap) ⟨qk, qe, qa0, qa1, qb0, qb1⟩ y9) := by rw [← hy]; exact hid (hk8.out.set2 hlP _ _)
          have hP9 : Hid (y9.heap[y7.heap.size]? = some (.cells #[.int .i64 a0, .int .i64 a1] 23 (0, 0))) := by rw [← hy]; exact hid (set2_block hP8.out _ _)
          have hQ9 : Hid (y9.heap[y2.heap.size]? = some zp) := by rw [← hy, Below.heap_setCell _ _ _ _ (by show y2.heap.size ≠ y7.heap.size; omega), Below.heap_setCell _ _ _ _ (by show y2.heap.size ≠ y7.heap.size; omega)]; exact hQ8
          rw [hy]
          clear hy
          refine wpAnyH_ready (rs := [15]) (by kernel_rfl) (by simp) ?_
          refine (AllReadyH.cons (o := { dst := none, op := Op.store 23 (Operand.tmp 12) (Operand.tmp 49), type := 0, pos := "law.go:67", after := #[{ on := 13, ground := Ground.data }, { on := 11, ground := Ground.data }, { on := 14, ground := Ground.chain }, { on := 0, ground := Ground.phase }, { on := 1, ground := Ground.phase }, { on := 2, ground := Ground.phase }, { on := 3, ground := Ground.phase }, { on := 4, ground := Ground.phase }, { on := 5, ground := Ground.phase }, { on := 6, ground := Ground.phase }, { on := 7, ground := Ground.phase }, { on := 8, ground := Ground.phase }, { on := 9, ground := Ground.phase }, { on := 10, ground := Ground.phase }, { on := 11, ground := Ground.phase }, { on := 12, ground := Ground.phase }, { on := 13, ground := Ground.phase }, { on := 14, ground := Ground.phase }], guard := none }) rfl (fun K hK => ?_) AllReadyH.nil)
          obtain ⟨z1, z2, z3, z4⟩ := blk2 hQ9.out
          go_simp
          try go_wp2_with fail
          refine hK.out _ _ (hk9.out.set2 hlQ _ _) (fun hHeld => ?_)
          clear hK K hHeld z1 z2 z3 z4
          try simp only [Act.put, List.setIfInBounds_toArray, List.set_cons_zero, List.set_cons_succ]
          obtain ⟨y10, hy⟩ : ∃ y, (y9.setCell ⟨y2.heap.size, 0, none⟩ (.int .i64 b0)).setCell ⟨y2.heap.size, 1, none⟩ (.int .i64 b1) = y := ⟨_, rfl⟩
          have hb10 : Hid (Below w.heap.size w y10) := by rw [← hy]; exact hid (below2 hb9.out (by omega) _ _)
          have hk10 : Hid (Dk w.heap.size F (.slice ad V cap) ⟨qk, qe, qa0, qa1, qb0, qb1⟩ y10) := by rw [← hy]; exact hid (hk9.out.set2 hlQ _ _)
          have hQ10 : Hid (y10.heap[y2.heap.size]? = some (.cells #[.int .i64 b0, .int .i64 b1] 23 (0, 0))) := by rw [← hy]; exact hid (set2_block hQ9.out _ _)
          have hP10 : Hid (y10.heap[y7.heap.size]? = some (.cells #[.int .i64 a0, .int .i64 a1] 23 (0, 0))) := by rw [← hy, Below.heap_setCell _ _ _ _ (by show y7.heap.size ≠ y2.heap.size; omega), Below.heap_setCell _ _ _ _ (by show y7.heap.size ≠ y2.heap.size; omega)]; exact hP9
          rw [hy]
          clear hy
          refine wpAnyH_done (by kernel_rfl) ?_ _
          refine NoPanic.normal ?_
          go_wp2_with fail
          go_meet
          case rel => exact ⟨_, _, a0, a1, b0, b1, rfl, rfl, hb10.out, hk10.out, hP10.out, hQ10.out⟩
      · skip
        go_simp
        refine hK.out _ _ (hk1.out.alloc _) (fun hHeld => ?_)
        clear hK K hHeld
        try simp only [Act.put, List.setIfInBounds_toArray, List.set_cons_zero, List.set_cons_succ]
        obtain ⟨y11, hy⟩ : ∃ y, y1.alloc (.cells #[.int .i64 0, .int .i64 0] 23) = y := ⟨_, rfl⟩
        have hb11 : Hid (Below w.heap.size w y11) := by rw [← hy]; exact hid (hb1.out.alloc hb1.out.size _)
        have hk11 : Hid (Dk w.heap.size F (.slice ad V cap) ⟨qk, qe, qa0, qa1, qb0, qb1⟩ y11) := by rw [← hy]; exact hid (hk1.out.alloc _)
        have hP11 : Hid (y11.heap[y1.heap.size]? = some zp) := by rw [← hy]; exact hid (heap_alloc_new _ _)
        have hlP : w.heap.size + 3 ≤ y1.heap.size := by have := (Array.getElem?_eq_some_iff.1 hk1.out.2.2).1; omega
        rw [hy]
        clear hy
        refine wpAnyH_ready (rs := [11, 13]) (by kernel_rfl) (by simp) ?_
        refine (AllReadyH.cons (o := { dst := some 49, op := Op.call { callee := Callee.value (Operand.func 65), args := #[Operand.tmp 44, Operand.tmp 46, Operand.tmp 48], argTypes := #[27, 23, 4] }, type := 23, pos := "law.go:67", after := #[{ on := 6, ground := Ground.data }, { on := 8, ground := Ground.data }, { on := 10, ground := Ground.data }, { on := 5, ground := Ground.chain }], guard := none }) rfl (fun K hK => ?_) (AllReadyH.cons (o := { dst := some 12, op := Op.alloc 23, type := 0, pos := "law.go:67", after := #[], guard := none }) rfl (fun K hK => ?_) AllReadyH.nil))
        · skip
          go_simp
          refine (hcor.out _ _ _ _ hb11.out).mono ?_
          rintro x y12 ⟨b0, b1, rfl, b2⟩
          have hk12 := hid (hk11.out.below b2)
          have hb12 : Hid (Below w.heap.size w y12) := hb11.out.trans (b2.mono hb11.out.size)
          have hP12 := hid ((b2.block _ (Array.getElem?_eq_some_iff.1 hP11.out).1).trans hP11.out)
          clear b2
          try go_wp2_with fail
          refine hK.out _ _ hk12.out (fun hHeld => ?_)
          clear hK K hHeld
          try simp only [Act.put, List.setIfInBounds_toArray, List.set_cons_zero, List.set_cons_succ]
          refine wpAnyH_ready (rs := [13]) (by kernel_rfl) (by simp) ?_
          refine (AllReadyH.cons (o := { dst := some 12, op := Op.alloc 23, type := 0, pos := "law.go:67", after := #[], guard := none }) rfl (fun K hK => ?_) AllReadyH.nil)
          go_simp
          refine hK.out _ _ (hk12.out.alloc _) (fun hHeld => ?_)
          clear hK K hHeld
          try simp only [Act.put, List.setIfInBounds_toArray, List.set_cons_zero, List.set_cons_succ]
          obtain ⟨y13, hy⟩ : ∃ y, y12.alloc (.cells #[.int .i64 0, .int .i64 0] 23) = y := ⟨_, rfl⟩
          have hb13 : Hid (Below w.heap.size w y13) := by rw [← hy]; exact hid (hb12.out.alloc hb12.out.size _)
          have hk13 : Hid (Dk w.heap.size F (.slice ad V cap) ⟨qk, qe, qa0, qa1, qb0, qb1⟩ y13) := by rw [← hy]; exact hid (hk12.out.alloc _)
          have hQ13 : Hid (y13.heap[y12.heap.size]? = some zp) := by rw [← hy]; exact hid (heap_alloc_new _ _)
          have hlQ : w.heap.size + 3 ≤ y12.heap.size := by have := (Array.getElem?_eq_some_iff.1 hk12.out.2.2).1; omega
          have hP13 : Hid (y13.heap[y1.heap.size]? = some zp) := by rw [← hy]; exact hid (al_keep hP12.out)
          have hPQ : y1.heap.size ≠ y12.heap.size := by have := (Array.getElem?_eq_some_iff.1 hP12.out).1; omega
          rw [hy]
          clear hy
          refine wpAnyH_ready (rs := [14]) (by kernel_rfl) (by simp) ?_
          refine (AllReadyH.cons (o := { dst := none, op := Op.store 23 (Operand.tmp 11) (Operand.tmp 43), type := 0, pos := "law.go:67", after := #[{ on := 12, ground := Ground.data }, { on := 5, ground := Ground.data }, { on := 11, ground := Ground.chain }, { on := 0, ground := Ground.phase }, { on := 1, ground := Ground.phase }, { on := 2, ground := Ground.phase }, { on := 3, ground := Ground.phase }, { on := 4, ground := Ground.phase }, { on := 5, ground := Ground.phase }, { on := 6, ground := Ground.textOnly Departure.lateStores }, { on := 7, ground := Ground.textOnly Departure.lateStores }, { on := 8, ground := Ground.textOnly Departure.lateStores }, { on := 9, ground := Ground.textOnly Departure.lateStores }, { on := 10, ground := Ground.textOnly Departure.lateStores }, { on := 11, ground := Ground.textOnly Departure.lateStoresUnsure }, { on := 12, ground := Ground.phase }, { on := 13, ground := Ground.phase }], guard := none }) rfl (fun K hK => ?_) AllReadyH.nil)
          obtain ⟨z1, z2, z3, z4⟩ := blk2 hP13.out
          go_simp
          try go_wp2_with fail
          refine hK.out _ _ (hk13.out.set2 hlP _ _) (fun hHeld => ?_)
          clear hK K hHeld z1 z2 z3 z4
          try simp only [Act.put, List.setIfInBounds_toArray, List.set_cons_zero, List.set_cons_succ]
          obtain ⟨y14, hy⟩ : ∃ y, (y13.setCell ⟨y1.heap.size, 0, none⟩ (.int .i64 a0)).setCell ⟨y1.heap.size, 1, none⟩ (.int .i64 a1) = y := ⟨_, rfl⟩
          have hb14 : Hid (Below w.heap.size w y14) := by rw [← hy]; exact hid (below2 hb13.out (by omega) _ _)
          have hk14 : Hid (Dk w.heap.size F (.slice ad V cap) ⟨qk, qe, qa0, qa1, qb0, qb1⟩ y14) := by rw [← hy]; exact hid (hk13.out.set2 hlP _ _)
          have hP14 : Hid (y14.heap[y1.heap.size]? = some (.cells #[.int .i64 a0, .int .i64 a1] 23 (0, 0))) := by rw [← hy]; exact hid (set2_block hP13.out _ _)
          have hQ14 : Hid (y14.heap[y12.heap.size]? = some zp) := by rw [← hy, Below.heap_setCell _ _ _ _ (by show y12.heap.size ≠ y1.heap.size; omega), Below.heap_setCell _ _ _ _ (by show y12.heap.size ≠ y1.heap.size; omega)]; exact hQ13
          rw [hy]
          clear hy
          refine wpAnyH_ready (rs := [15]) (by kernel_rfl) (by simp) ?_
          refine (AllReadyH.cons (o := { dst := none, op := Op.store 23 (Operand.tmp 12) (Operand.tmp 49), type := 0, pos := "law.go:67", after := #[{ on := 13, ground := Ground.data }, { on := 11, ground := Ground.data }, { on := 14, ground := Ground.chain }, { on := 0, ground := Ground.phase }, { on := 1, ground := Ground.phase }, { on := 2, ground := Ground.phase }, { on := 3, ground := Ground.phase }, { on := 4, ground := Ground.phase }, { on := 5, ground := Ground.phase }, { on := 6, ground := Ground.phase }, { on := 7, ground := Ground.phase }, { on := 8, ground := Ground.phase }, { on := 9, ground := Ground.phase }, { on := 10, ground := Ground.phase }, { on := 11, ground := Ground.phase }, { on := 12, ground := Ground.phase }, { on := 13, ground := Ground.phase }, { on := 14, ground := Ground.phase }], guard := none }) rfl (fun K hK => ?_) AllReadyH.nil)
          obtain ⟨z1, z2, z3, z4⟩ := blk2 hQ14.out
          go_simp
          try go_wp2_with fail
          refine hK.out _ _ (hk14.out.set2 hlQ _ _) (fun hHeld => ?_)
          clear hK K hHeld z1 z2 z3 z4
          try simp only [Act.put, List.setIfInBounds_toArray, List.set_cons_zero, List.set_cons_succ]
          obtain ⟨y15, hy⟩ : ∃ y, (y14.setCell ⟨y12.heap.size, 0, none⟩ (.int .i64 b0)).setCell ⟨y12.heap.size, 1, none⟩ (.int .i64 b1) = y := ⟨_, rfl⟩
          have hb15 : Hid (Below w.heap.size w y15) := by rw [← hy]; exact hid (below2 hb14.out (by omega) _ _)
          have hk15 : Hid (Dk w.heap.size F (.slice ad V cap) ⟨qk, qe, qa0, qa1, qb0, qb1⟩ y15) := by rw [← hy]; exact hid (hk14.out.set2 hlQ _ _)
          have hQ15 : Hid (y15.heap[y12.heap.size]? = some (.cells #[.int .i64 b0, .int .i64 b1] 23 (0, 0))) := by rw [← hy]; exact hid (set2_block hQ14.out _ _)
          have hP15 : Hid (y15.heap[y1.heap.size]? = some (.cells #[.int .i64 a0, .int .i64 a1] 23 (0, 0))) := by rw [← hy, Below.heap_setCell _ _ _ _ (by show y1.heap.size ≠ y12.heap.size; omega), Below.heap_setCell _ _ _ _ (by show y1.heap.size ≠ y12.heap.size; omega)]; exact hP14
          rw [hy]
          clear hy
          refine wpAnyH_done (by kernel_rfl) ?_ _
          refine NoPanic.normal ?_
          go_wp2_with fail
          go_meet
          case rel => exact ⟨_, _, a0, a1, b0, b1, rfl, rfl, hb15.out, hk15.out, hP15.out, hQ15.out⟩
        · skip
          go_simp
          refine hK.out _ _ (hk11.out.alloc _) (fun hHeld => ?_)
          clear hK K hHeld
          try simp only [Act.put, List.setIfInBounds_toArray, List.set_cons_zero, List.set_cons_succ]
          obtain ⟨y16, hy⟩ : ∃ y, y11.alloc (.cells #[.int .i64 0, .int .i64 0] 23) = y := ⟨_, rfl⟩
          have hb16 : Hid (Below w.heap.size w y16) := by rw [← hy]; exact hid (hb11.out.alloc hb11.out.size _)
          have hk16 : Hid (Dk w.heap.size F (.slice ad V cap) ⟨qk, qe, qa0, qa1, qb0, qb1⟩ y16) := by rw [← hy]; exact hid (hk11.out.alloc _)
          have hQ16 : Hid (y16.heap[y11.heap.size]? = some zp) := by rw [← hy]; exact hid (heap_alloc_new _ _)
          have hlQ : w.heap.size + 3 ≤ y11.heap.size := by have := (Array.getElem?_eq_some_iff.1 hk11.out.2.2).1; omega
          have hP16 : Hid (y16.heap[y1.heap.size]? = some zp) := by rw [← hy]; exact hid (al_keep hP11.out)
          have hPQ : y1.heap.size ≠ y11.heap.size := by have := (Array.getElem?_eq_some_iff.1 hP11.out).1; omega
          rw [hy]
          clear hy
          refine wpAnyH_ready (rs := [11]) (by kernel_rfl) (by simp) ?_
          refine (AllReadyH.cons (o := { dst := some 49, op := Op.call { callee := Callee.value (Operand.func 65), args := #[Operand.tmp 44, Operand.tmp 46, Operand.tmp 48], argTypes := #[27, 23, 4] }, type := 23, pos := "law.go:67", after := #[{ on := 6, ground := Ground.data }, { on := 8, ground := Ground.data }, { on := 10, ground := Ground.data }, { on := 5, ground := Ground.chain }], guard := none }) rfl (fun K hK => ?_) AllReadyH.nil)
          go_simp
          refine (hcor.out _ _ _ _ hb16.out).mono ?_
          rintro x y17 ⟨b0, b1, rfl, b2⟩
          have hk17 := hid (hk16.out.below b2)
          have hb17 : Hid (Below w.heap.size w y17) := hb16.out.trans (b2.mono hb16.out.size)
          have hP17 := hid ((b2.block _ (Array.getElem?_eq_some_iff.1 hP16.out).1).trans hP16.out)
          have hQ17 := hid ((b2.block _ (Array.getElem?_eq_some_iff.1 hQ16.out).1).trans hQ16.out)
          clear b2
          try go_wp2_with fail
          refine hK.out _ _ hk17.out (fun hHeld => ?_)
          clear hK K hHeld
          try simp only [Act.put, List.setIfInBounds_toArray, List.set_cons_zero, List.set_cons_succ]
          refine wpAnyH_ready (rs := [14]) (by kernel_rfl) (by simp) ?_
          refine (AllReadyH.cons (o := { dst := none, op := Op.store 23 (Operand.tmp 11) (Operand.tmp 43), type := 0, pos := "law.go:67", after := #[{ on := 12, ground := Ground.data }, { on := 5, ground := Ground.data }, { on := 11, ground := Ground.chain }, { on := 0, ground := Ground.phase }, { on := 1, ground := Ground.phase }, { on := 2, ground := Ground.phase }, { on := 3, ground := Ground.phase }, { on := 4, ground := Ground.phase }, { on := 5, ground := Ground.phase }, { on := 6, ground := Ground.textOnly Departure.lateStores }, { on := 7, ground := Ground.textOnly Departure.lateStores }, { on := 8, ground := Ground.textOnly Departure.lateStores }, { on := 9, ground := Ground.textOnly Departure.lateStores }, { on := 10, ground := Ground.textOnly Departure.lateStores }, { on := 11, ground := Ground.textOnly Departure.lateStoresUnsure }, { on := 12, ground := Ground.phase }, { on := 13, ground := Ground.phase }], guard := none }) rfl (fun K hK => ?_) AllReadyH.nil)
          obtain ⟨z1, z2, z3, z4⟩ := blk2 hP17.out
          go_simp
          try go_wp2_with fail
          refine hK.out _ _ (hk17.out.set2 hlP _ _) (fun hHeld => ?_)
          clear hK K hHeld z1 z2 z3 z4
          try simp only [Act.put, List.setIfInBounds_toArray, List.set_cons_zero, List.set_cons_succ]
          obtain ⟨y18, hy⟩ : ∃ y, (y17.setCell ⟨y1.heap.size, 0, none⟩ (.int .i64 a0)).setCell ⟨y1.heap.size, 1, none⟩ (.int .i64 a1) = y := ⟨_, rfl⟩
          have hb18 : Hid (Below w.heap.size w y18) := by rw [← hy]; exact hid (below2 hb17.out (by omega) _ _)
          have hk18 : Hid (Dk w.heap.size F (.slice ad V cap) ⟨qk, qe, qa0, qa1, qb0, qb1⟩ y18) := by rw [← hy]; exact hid (hk17.out.set2 hlP _ _)
          have hP18 : Hid (y18.heap[y1.heap.size]? = some (.cells #[.int .i64 a0, .int .i64 a1] 23 (0, 0))) := by rw [← hy]; exact hid (set2_block hP17.out _ _)
          have hQ18 : Hid (y18.heap[y11.heap.size]? = some zp) := by rw [← hy, Below.heap_setCell _ _ _ _ (by show y11.heap.size ≠ y1.heap.size; omega), Below.heap_setCell _ _ _ _ (by show y11.heap.size ≠ y1.heap.size; omega)]; exact hQ17
          rw [hy]
          clear hy
          refine wpAnyH_ready (rs := [15]) (by kernel_rfl) (by simp) ?_
          refine (AllReadyH.cons (o := { dst := none, op := Op.store 23 (Operand.tmp 12) (Operand.tmp 49), type := 0, pos := "law.go:67", after := #[{ on := 13, ground := Ground.data }, { on := 11, ground := Ground.data }, { on := 14, ground := Ground.chain }, { on := 0, ground := Ground.phase }, { on := 1, ground := Ground.phase }, { on := 2, ground := Ground.phase }, { on := 3, ground := Ground.phase }, { on := 4, ground := Ground.phase }, { on := 5, ground := Ground.phase }, { on := 6, ground := Ground.phase }, { on := 7, ground := Ground.phase }, { on := 8, ground := Ground.phase }, { on := 9, ground := Ground.phase }, { on := 10, ground := Ground.phase }, { on := 11, ground := Ground.phase }, { on := 12, ground := Ground.phase }, { on := 13, ground := Ground.phase }, { on := 14, ground := Ground.phase }], guard := none }) rfl (fun K hK => ?_) AllReadyH.nil)
          obtain ⟨z1, z2, z3, z4⟩ := blk2 hQ18.out
          go_simp
          try go_wp2_with fail
          refine hK.out _ _ (hk18.out.set2 hlQ _ _) (fun hHeld => ?_)
          clear hK K hHeld z1 z2 z3 z4
          try simp only [Act.put, List.setIfInBounds_toArray, List.set_cons_zero, List.set_cons_succ]
          obtain ⟨y19, hy⟩ : ∃ y, (y18.setCell ⟨y11.heap.size, 0, none⟩ (.int .i64 b0)).setCell ⟨y11.heap.size, 1, none⟩ (.int .i64 b1) = y := ⟨_, rfl⟩
          have hb19 : Hid (Below w.heap.size w y19) := by rw [← hy]; exact hid (below2 hb18.out (by omega) _ _)
          have hk19 : Hid (Dk w.heap.size F (.slice ad V cap) ⟨qk, qe, qa0, qa1, qb0, qb1⟩ y19) := by rw [← hy]; exact hid (hk18.out.set2 hlQ _ _)
          have hQ19 : Hid (y19.heap[y11.heap.size]? = some (.cells #[.int .i64 b0, .int .i64 b1] 23 (0, 0))) := by rw [← hy]; exact hid (set2_block hQ18.out _ _)
          have hP19 : Hid (y19.heap[y1.heap.size]? = some (.cells #[.int .i64 a0, .int .i64 a1] 23 (0, 0))) := by rw [← hy, Below.heap_setCell _ _ _ _ (by show y1.heap.size ≠ y11.heap.size; omega), Below.heap_setCell _ _ _ _ (by show y1.heap.size ≠ y11.heap.size; omega)]; exact hP18
          rw [hy]
          clear hy
          refine wpAnyH_done (by kernel_rfl) ?_ _
          refine NoPanic.normal ?_
          go_wp2_with fail
          go_meet
          case rel => exact ⟨_, _, a0, a1, b0, b1, rfl, rfl, hb19.out, hk19.out, hP19.out, hQ19.out⟩
      · skip
        go_simp
        refine hK.out _ _ (hk1.out.alloc _) (fun hHeld => ?_)
        clear hK K hHeld
        try simp only [Act.put, List.setIfInBounds_toArray, List.set_cons_zero, List.set_cons_succ]
        obtain ⟨y20, hy⟩ : ∃ y, y1.alloc (.cells #[.int .i64 0, .int .i64 0] 23) = y := ⟨_, rfl⟩
        have hb20 : Hid (Below w.heap.size w y20) := by rw [← hy]; exact hid (hb1.out.alloc hb1.out.size _)
        have hk20 : Hid (Dk w.heap.size F (.slice ad V cap) ⟨qk, qe, qa0, qa1, qb0, qb1⟩ y20) := by rw [← hy]; exact hid (hk1.out.alloc _)
        have hQ20 : Hid (y20.heap[y1.heap.size]? = some zp) := by rw [← hy]; exact hid (heap_alloc_new _ _)
        have hlQ : w.heap.size + 3 ≤ y1.heap.size := by have := (Array.getElem?_eq_some_iff.1 hk1.out.2.2).1; omega
        rw [hy]
        clear hy
        refine wpAnyH_ready (rs := [11, 12]) (by kernel_rfl) (by simp) ?_
        refine (AllReadyH.cons (o := { dst := some 49, op := Op.call { callee := Callee.value (Operand.func 65), args := #[Operand.tmp 44, Operand.tmp 46, Operand.tmp 48], argTypes := #[27, 23, 4] }, type := 23, pos := "law.go:67", after := #[{ on := 6, ground := Ground.data }, { on := 8, ground := Ground.data }, { on := 10, ground := Ground.data }, { on := 5, ground := Ground.chain }], guard := none }) rfl (fun K hK => ?_) (AllReadyH.cons (o := { dst := some 11, op := Op.alloc 23, type := 0, pos := "law.go:67", after := #[], guard := none }) rfl (fun K hK => ?_) AllReadyH.nil))
        · skip
          go_simp
          refine (hcor.out _ _ _ _ hb20.out).mono ?_
          rintro x y21 ⟨b0, b1, rfl, b2⟩
          have hk21 := hid (hk20.out.below b2)
          have hb21 : Hid (Below w.heap.size w y21) := hb20.out.trans (b2.mono hb20.out.size)
          have hQ21 := hid ((b2.block _ (Array.getElem?_eq_some_iff.1 hQ20.out).1).trans hQ20.out)
          clear b2
          try go_wp2_with fail
          refine hK.out _ _ hk21.out (fun hHeld => ?_)
          clear hK K hHeld
          try simp only [Act.put, List.setIfInBounds_toArray, List.set_cons_zero, List.set_cons_succ]
          refine wpAnyH_ready (rs := [12]) (by kernel_rfl) (by simp) ?_
          refine (AllReadyH.cons (o := { dst := some 11, op := Op.alloc 23, type := 0, pos := "law.go:67", after := #[], guard := none }) rfl (fun K hK => ?_) AllReadyH.nil)
          go_simp
          refine hK.out _ _ (hk21.out.alloc _) (fun hHeld => ?_)
          clear hK K hHeld
          try simp only [Act.put, List.setIfInBounds_toArray, List.set_cons_zero, List.set_cons_succ]
          obtain ⟨y22, hy⟩ : ∃ y, y21.alloc (.cells #[.int .i64 0, .int .i64 0] 23) = y := ⟨_, rfl⟩
          have hb22 : Hid (Below w.heap.size w y22) := by rw [← hy]; exact hid (hb21.out.alloc hb21.out.size _)
          have hk22 : Hid (Dk w.heap.size F (.slice ad V cap) ⟨qk, qe, qa0, qa1, qb0, qb1⟩ y22) := by rw [← hy]; exact hid (hk21.out.alloc _)
          have hP22 : Hid (y22.heap[y21.heap.size]? = some zp) := by rw [← hy]; exact hid (heap_alloc_new _ _)
          have hlP : w.heap.size + 3 ≤ y21.heap.size := by have := (Array.getElem?_eq_some_iff.1 hk21.out.2.2).1; omega
          have hQ22 : Hid (y22.heap[y1.heap.size]? = some zp) := by rw [← hy]; exact hid (al_keep hQ21.out)
          have hPQ : y1.heap.size ≠ y21.heap.size := by have := (Array.getElem?_eq_some_iff.1 hQ21.out).1; omega
          rw [hy]
          clear hy
          refine wpAnyH_ready (rs := [14]) (by kernel_rfl) (by simp) ?_
          refine (AllReadyH.cons (o := { dst := none, op := Op.store 23 (Operand.tmp 11) (Operand.tmp 43), type := 0, pos := "law.go:67", after := #[{ on := 12, ground := Ground.data }, { on := 5, ground := Ground.data }, { on := 11, ground := Ground.chain }, { on := 0, ground := Ground.phase }, { on := 1, ground := Ground.phase }, { on := 2, ground := Ground.phase }, { on := 3, ground := Ground.phase }, { on := 4, ground := Ground.phase }, { on := 5, ground := Ground.phase }, { on := 6, ground := Ground.textOnly Departure.lateStores }, { on := 7, ground := Ground.textOnly Departure.lateStores }, { on := 8, ground := Ground.textOnly Departure.lateStores }, { on := 9, ground := Ground.textOnly Departure.lateStores }, { on := 10, ground := Ground.textOnly Departure.lateStores }, { on := 11, ground := Ground.textOnly Departure.lateStoresUnsure }, { on := 12, ground := Ground.phase }, { on := 13, ground := Ground.phase }], guard := none }) rfl (fun K hK => ?_) AllReadyH.nil)
          obtain ⟨z1, z2, z3, z4⟩ := blk2 hP22.out
          go_simp
          try go_wp2_with fail
          refine hK.out _ _ (hk22.out.set2 hlP _ _) (fun hHeld => ?_)
          clear hK K hHeld z1 z2 z3 z4
          try simp only [Act.put, List.setIfInBounds_toArray, List.set_cons_zero, List.set_cons_succ]
          obtain ⟨y23, hy⟩ : ∃ y, (y22.setCell ⟨y21.heap.size, 0, none⟩ (.int .i64 a0)).setCell ⟨y21.heap.size, 1, none⟩ (.int .i64 a1) = y := ⟨_, rfl⟩
          have hb23 : Hid (Below w.heap.size w y23) := by rw [← hy]; exact hid (below2 hb22.out (by omega) _ _)
          have hk23 : Hid (Dk w.heap.size F (.slice ad V cap) ⟨qk, qe, qa0, qa1, qb0, qb1⟩ y23) := by rw [← hy]; exact hid (hk22.out.set2 hlP _ _)
          have hP23 : Hid (y23.heap[y21.heap.size]? = some (.cells #[.int .i64 a0, .int .i64 a1] 23 (0, 0))) := by rw [← hy]; exact hid (set2_block hP22.out _ _)
          have hQ23 : Hid (y23.heap[y1.heap.size]? = some zp) := by rw [← hy, Below.heap_setCell _ _ _ _ (by show y1.heap.size ≠ y21.heap.size; omega), Below.heap_setCell _ _ _ _ (by show y1.heap.size ≠ y21.heap.size; omega)]; exact hQ22
          rw [hy]
          clear hy
          refine wpAnyH_ready (rs := [15]) (by kernel_rfl) (by simp) ?_
          refine (AllReadyH.cons (o := { dst := none, op := Op.store 23 (Operand.tmp 12) (Operand.tmp 49), type := 0, pos := "law.go:67", after := #[{ on := 13, ground := Ground.data }, { on := 11, ground := Ground.data }, { on := 14, ground := Ground.chain }, { on := 0, ground := Ground.phase }, { on := 1, ground := Ground.phase }, { on := 2, ground := Ground.phase }, { on := 3, ground := Ground.phase }, { on := 4, ground := Ground.phase }, { on := 5, ground := Ground.phase }, { on := 6, ground := Ground.phase }, { on := 7, ground := Ground.phase }, { on := 8, ground := Ground.phase }, { on := 9, ground := Ground.phase }, { on := 10, ground := Ground.phase }, { on := 11, ground := Ground.phase }, { on := 12, ground := Ground.phase }, { on := 13, ground := Ground.phase }, { on := 14, ground := Ground.phase }], guard := none }) rfl (fun K hK => ?_) AllReadyH.nil)
          obtain ⟨z1, z2, z3, z4⟩ := blk2 hQ23.out
          go_simp
          try go_wp2_with fail
          refine hK.out _ _ (hk23.out.set2 hlQ _ _) (fun hHeld => ?_)
          clear hK K hHeld z1 z2 z3 z4
          try simp only [Act.put, List.setIfInBounds_toArray, List.set_cons_zero, List.set_cons_succ]
          obtain ⟨y24, hy⟩ : ∃ y, (y23.setCell ⟨y1.heap.size, 0, none⟩ (.int .i64 b0)).setCell ⟨y1.heap.size, 1, none⟩ (.int .i64 b1) = y := ⟨_, rfl⟩
          have hb24 : Hid (Below w.heap.size w y24) := by rw [← hy]; exact hid (below2 hb23.out (by omega) _ _)
          have hk24 : Hid (Dk w.heap.size F (.slice ad V cap) ⟨qk, qe, qa0, qa1, qb0, qb1⟩ y24) := by rw [← hy]; exact hid (hk23.out.set2 hlQ _ _)
          have hQ24 : Hid (y24.heap[y1.heap.size]? = some (.cells #[.int .i64 b0, .int .i64 b1] 23 (0, 0))) := by rw [← hy]; exact hid (set2_block hQ23.out _ _)
          have hP24 : Hid (y24.heap[y21.heap.size]? = some (.cells #[.int .i64 a0, .int .i64 a1] 23 (0, 0))) := by rw [← hy, Below.heap_setCell _ _ _ _ (by show y21.heap.size ≠ y1.heap.size; omega), Below.heap_setCell _ _ _ _ (by show y21.heap.size ≠ y1.heap.size; omega)]; exact hP23
          rw [hy]
          clear hy
          refine wpAnyH_done (by kernel_rfl) ?_ _
          refine NoPanic.normal ?_
          go_wp2_with fail
          go_meet
          case rel => exact ⟨_, _, a0, a1, b0, b1, rfl, rfl, hb24.out, hk24.out, hP24.out, hQ24.out⟩
        · skip
          go_simp
          refine hK.out _ _ (hk20.out.alloc _) (fun hHeld => ?_)
          clear hK K hHeld
          try simp only [Act.put, List.setIfInBounds_toArray, List.set_cons_zero, List.set_cons_succ]
          obtain ⟨y25, hy⟩ : ∃ y, y20.alloc (.cells #[.int .i64 0, .int .i64 0] 23) = y := ⟨_, rfl⟩
          have hb25 : Hid (Below w.heap.size w y25) := by rw [← hy]; exact hid (hb20.out.alloc hb20.out.size _)
          have hk25 : Hid (Dk w.heap.size F (.slice ad V cap) ⟨qk, qe, qa0, qa1, qb0, qb1⟩ y25) := by rw [← hy]; exact hid (hk20.out.alloc _)
          have hP25 : Hid (y25.heap[y20.heap.size]? = some zp) := by rw [← hy]; exact hid (heap_alloc_new _ _)
          have hlP : w.heap.size + 3 ≤ y20.heap.size := by have := (Array.getElem?_eq_some_iff.1 hk20.out.2.2).1; omega
          have hQ25 : Hid (y25.heap[y1.heap.size]? = some zp) := by rw [← hy]; exact hid (al_keep hQ20.out)
          have hPQ : y1.heap.size ≠ y20.heap.size := by have := (Array.getElem?_eq_some_iff.1 hQ20.out).1; omega
          rw [hy]
          clear hy
          refine wpAnyH_ready (rs := [11]) (by kernel_rfl) (by simp) ?_
          refine (AllReadyH.cons (o := { dst := some 49, op := Op.call { callee := Callee.value (Operand.func 65), args := #[Operand.tmp 44, Operand.tmp 46, Operand.tmp 48], argTypes := #[27, 23, 4] }, type := 23, pos := "law.go:67", after := #[{ on := 6, ground := Ground.data }, { on := 8, ground := Ground.data }, { on := 10, ground := Ground.data }, { on := 5, ground := Ground.chain }], guard := none }) rfl (fun K hK => ?_) AllReadyH.nil)
          go_simp
          refine (hcor.out _ _ _ _ hb25.out).mono ?_
          rintro x y26 ⟨b0, b1, rfl, b2⟩
          have hk26 := hid (hk25.out.below b2)
          have hb26 : Hid (Below w.heap.size w y26) := hb25.out.trans (b2.mono hb25.out.size)
          have hP26 := hid ((b2.block _ (Array.getElem?_eq_some_iff.1 hP25.out).1).trans hP25.out)
          have hQ26 := hid ((b2.block _ (Array.getElem?_eq_some_iff.1 hQ25.out).1).trans hQ25.out)
          clear b2
          try go_wp2_with fail
          refine hK.out _ _ hk26.out (fun hHeld => ?_)
          clear hK K hHeld
          try simp only [Act.put, List.setIfInBounds_toArray, List.set_cons_zero, List.set_cons_succ]
          refine wpAnyH_ready (rs := [14]) (by kernel_rfl) (by simp) ?_
          refine (AllReadyH.cons (o := { dst := none, op := Op.store 23 (Operand.tmp 11) (Operand.tmp 43), type := 0, pos := "law.go:67", after := #[{ on := 12, ground := Ground.data }, { on := 5, ground := Ground.data }, { on := 11, ground := Ground.chain }, { on := 0, ground := Ground.phase }, { on := 1, ground := Ground.phase }, { on := 2, ground := Ground.phase }, { on := 3, ground := Ground.phase }, { on := 4, ground := Ground.phase }, { on := 5, ground := Ground.phase }, { on := 6, ground := Ground.textOnly Departure.lateStores }, { on := 7, ground := Ground.textOnly Departure.lateStores }, { on := 8, ground := Ground.textOnly Departure.lateStores }, { on := 9, ground := Ground.textOnly Departure.lateStores }, { on := 10, ground := Ground.textOnly Departure.lateStores }, { on := 11, ground := Ground.textOnly Departure.lateStoresUnsure }, { on := 12, ground := Ground.phase }, { on := 13, ground := Ground.phase }], guard := none }) rfl (fun K hK => ?_) AllReadyH.nil)
          obtain ⟨z1, z2, z3, z4⟩ := blk2 hP26.out
          go_simp
          try go_wp2_with fail
          refine hK.out _ _ (hk26.out.set2 hlP _ _) (fun hHeld => ?_)
          clear hK K hHeld z1 z2 z3 z4
          try simp only [Act.put, List.setIfInBounds_toArray, List.set_cons_zero, List.set_cons_succ]
          obtain ⟨y27, hy⟩ : ∃ y, (y26.setCell ⟨y20.heap.size, 0, none⟩ (.int .i64 a0)).setCell ⟨y20.heap.size, 1, none⟩ (.int .i64 a1) = y := ⟨_, rfl⟩
          have hb27 : Hid (Below w.heap.size w y27) := by rw [← hy]; exact hid (below2 hb26.out (by omega) _ _)
          have hk27 : Hid (Dk w.heap.size F (.slice ad V cap) ⟨qk, qe, qa0, qa1, qb0, qb1⟩ y27) := by rw [← hy]; exact hid (hk26.out.set2 hlP _ _)
          have hP27 : Hid (y27.heap[y20.heap.size]? = some (.cells #[.int .i64 a0, .int .i64 a1] 23 (0, 0))) := by rw [← hy]; exact hid (set2_block hP26.out _ _)
          have hQ27 : Hid (y27.heap[y1.heap.size]? = some zp) := by rw [← hy, Below.heap_setCell _ _ _ _ (by show y1.heap.size ≠ y20.heap.size; omega), Below.heap_setCell _ _ _ _ (by show y1.heap.size ≠ y20.heap.size; omega)]; exact hQ26
          rw [hy]
          clear hy
          refine wpAnyH_ready (rs := [15]) (by kernel_rfl) (by simp) ?_
          refine (AllReadyH.cons (o := { dst := none, op := Op.store 23 (Operand.tmp 12) (Operand.tmp 49), type := 0, pos := "law.go:67", after := #[{ on := 13, ground := Ground.data }, { on := 11, ground := Ground.data }, { on := 14, ground := Ground.chain }, { on := 0, ground := Ground.phase }, { on := 1, ground := Ground.phase }, { on := 2, ground := Ground.phase }, { on := 3, ground := Ground.phase }, { on := 4, ground := Ground.phase }, { on := 5, ground := Ground.phase }, { on := 6, ground := Ground.phase }, { on := 7, ground := Ground.phase }, { on := 8, ground := Ground.phase }, { on := 9, ground := Ground.phase }, { on := 10, ground := Ground.phase }, { on := 11, ground := Ground.phase }, { on := 12, ground := Ground.phase }, { on := 13, ground := Ground.phase }, { on := 14, ground := Ground.phase }], guard := none }) rfl (fun K hK => ?_) AllReadyH.nil)
          obtain ⟨z1, z2, z3, z4⟩ := blk2 hQ27.out
          go_simp
          try go_wp2_with fail
          refine hK.out _ _ (hk27.out.set2 hlQ _ _) (fun hHeld => ?_)
          clear hK K hHeld z1 z2 z3 z4
          try simp only [Act.put, List.setIfInBounds_toArray, List.set_cons_zero, List.set_cons_succ]
          obtain ⟨y28, hy⟩ : ∃ y, (y27.setCell ⟨y1.heap.size, 0, none⟩ (.int .i64 b0)).setCell ⟨y1.heap.size, 1, none⟩ (.int .i64 b1) = y := ⟨_, rfl⟩
          have hb28 : Hid (Below w.heap.size w y28) := by rw [← hy]; exact hid (below2 hb27.out (by omega) _ _)
          have hk28 : Hid (Dk w.heap.size F (.slice ad V cap) ⟨qk, qe, qa0, qa1, qb0, qb1⟩ y28) := by rw [← hy]; exact hid (hk27.out.set2 hlQ _ _)
          have hQ28 : Hid (y28.heap[y1.heap.size]? = some (.cells #[.int .i64 b0, .int .i64 b1] 23 (0, 0))) := by rw [← hy]; exact hid (set2_block hQ27.out _ _)
          have hP28 : Hid (y28.heap[y20.heap.size]? = some (.cells #[.int .i64 a0, .int .i64 a1] 23 (0, 0))) := by rw [← hy, Below.heap_setCell _ _ _ _ (by show y20.heap.size ≠ y1.heap.size; omega), Below.heap_setCell _ _ _ _ (by show y20.heap.size ≠ y1.heap.size; omega)]; exact hP27
          rw [hy]
          clear hy
          refine wpAnyH_done (by kernel_rfl) ?_ _
          refine NoPanic.normal ?_
          go_wp2_with fail
          go_meet
          case rel => exact ⟨_, _, a0, a1, b0, b1, rfl, rfl, hb28.out, hk28.out, hP28.out, hQ28.out⟩
    · skip
      go_simp
      refine hK.out _ _ (hk0.out.alloc _) (fun hHeld => ?_)
      clear hK K hHeld
      try simp only [Act.put, List.setIfInBounds_toArray, List.set_cons_zero, List.set_cons_succ]
      obtain ⟨y29, hy⟩ : ∃ y, y0.alloc (.cells #[.int .i64 0, .int .i64 0] 23) = y := ⟨_, rfl⟩
      have hb29 : Hid (Below w.heap.size w y29) := by rw [← hy]; exact hid (hb0.out.alloc hb0.out.size _)
      have hk29 : Hid (Dk w.heap.size F (.slice ad V cap) ⟨qk, qe, qa0, qa1, qb0, qb1⟩ y29) := by rw [← hy]; exact hid (hk0.out.alloc _)
      have hP29 : Hid (y29.heap[y0.heap.size]? = some zp) := by rw [← hy]; exact hid (heap_alloc_new _ _)
      have hlP : w.heap.size + 3 ≤ y0.heap.size := by have := (Array.getElem?_eq_some_iff.1 hk0.out.2.2).1; omega
      rw [hy]
      clear hy
      refine wpAnyH_ready (rs := [5, 13]) (by kernel_rfl) (by simp) ?_
      refine (AllReadyH.cons (o := { dst := some 43, op := Op.call { callee := Callee.value (Operand.func 65), args := #[Operand.tmp 38, Operand.tmp 40, Operand.tmp 42], argTypes := #[27, 23, 4] }, type := 23, pos := "law.go:67", after := #[{ on := 0, ground := Ground.data }, { on := 2, ground := Ground.data }, { on := 4, ground := Ground.data }], guard := none }) rfl (fun K hK => ?_) (AllReadyH.cons (o := { dst := some 12, op := Op.alloc 23, type := 0, pos := "law.go:67", after := #[], guard := none }) rfl (fun K hK => ?_) AllReadyH.nil))
      · skip
        go_simp
        refine (hcor.out _ _ _ _ hb29.out).mono ?_
        rintro x y30 ⟨a0, a1, rfl, b2⟩
        have hk30 := hid (hk29.out.below b2)
        have hb30 : Hid (Below w.heap.size w y30) := hb29.out.trans (b2.mono hb29.out.size)
        have hP30 := hid ((b2.block _ (Array.getElem?_eq_some_iff.1 hP29.out).1).trans hP29.out)
        clear b2
        try go_wp2_with fail
        refine hK.out _ _ hk30.out (fun hHeld => ?_)
        clear hK K hHeld
        try simp only [Act.put, List.setIfInBounds_toArray, List.set_cons_zero, List.set_cons_succ]
        refine wpAnyH_ready (rs := [11, 13]) (by kernel_rfl) (by simp) ?_
        refine (AllReadyH.cons (o := { dst := some 49, op := Op.call { callee := Callee.value (Operand.func 65), args := #[Operand.tmp 44, Operand.tmp 46, Operand.tmp 48], argTypes := #[27, 23, 4] }, type := 23, pos := "law.go:67", after := #[{ on := 6, ground := Ground.data }, { on := 8, ground := Ground.data }, { on := 10, ground := Ground.data }, { on := 5, ground := Ground.chain }], guard := none }) rfl (fun K hK => ?_) (AllReadyH.cons (o := { dst := some 12, op := Op.alloc 23, type := 0, pos := "law.go:67", after := #[], guard := none }) rfl (fun K hK => ?_) AllReadyH.nil))
        · skip
          go_simp
          refine (hcor.out _ _ _ _ hb30.out).mono ?_
          rintro x y31 ⟨b0, b1, rfl, b2⟩
          have hk31 := hid (hk30.out.below b2)
          have hb31 : Hid (Below w.heap.size w y31) := hb30.out.trans (b2.mono hb30.out.size)
          have hP31 := hid ((b2.block _ (Array.getElem?_eq_some_iff.1 hP30.out).1).trans hP30.out)
          clear b2
          try go_wp2_with fail
          refine hK.out _ _ hk31.out (fun hHeld => ?_)
          clear hK K hHeld
          try simp only [Act.put, List.setIfInBounds_toArray, List.set_cons_zero, List.set_cons_succ]
          refine wpAnyH_ready (rs := [13]) (by kernel_rfl) (by simp) ?_
          refine (AllReadyH.cons (o := { dst := some 12, op := Op.alloc 23, type := 0, pos := "law.go:67", after := #[], guard := none }) rfl (fun K hK => ?_) AllReadyH.nil)
          go_simp
          refine hK.out _ _ (hk31.out.alloc _) (fun hHeld => ?_)
          clear hK K hHeld
          try simp only [Act.put, List.setIfInBounds_toArray, List.set_cons_zero, List.set_cons_succ]
          obtain ⟨y32, hy⟩ : ∃ y, y31.alloc (.cells #[.int .i64 0, .int .i64 0] 23) = y := ⟨_, rfl⟩
          have hb32 : Hid (Below w.heap.size w y32) := by rw [← hy]; exact hid (hb31.out.alloc hb31.out.size _)
          have hk32 : Hid (Dk w.heap.size F (.slice ad V cap) ⟨qk, qe, qa0, qa1, qb0, qb1⟩ y32) := by rw [← hy]; exact hid (hk31.out.alloc _)
          have hQ32 : Hid (y32.heap[y31.heap.size]? = some zp) := by rw [← hy]; exact hid (heap_alloc_new _ _)
          have hlQ : w.heap.size + 3 ≤ y31.heap.size := by have := (Array.getElem?_eq_some_iff.1 hk31.out.2.2).1; omega
          have hP32 : Hid (y32.heap[y0.heap.size]? = some zp) := by rw [← hy]; exact hid (al_keep hP31.out)
          have hPQ : y0.heap.size ≠ y31.heap.size := by have := (Array.getElem?_eq_some_iff.1 hP31.out).1; omega
          rw [hy]
          clear hy
          refine wpAnyH_ready (rs := [14]) (by kernel_rfl) (by simp) ?_
          refine (AllReadyH.cons (o := { dst := none, op := Op.store 23 (Operand.tmp 11) (Operand.tmp 43), type := 0, pos := "law.go:67", after := #[{ on := 12, ground := Ground.data }, { on := 5, ground := Ground.data }, { on := 11, ground := Ground.chain }, { on := 0, ground := Ground.phase }, { on := 1, ground := Ground.phase }, { on := 2, ground := Ground.phase }, { on := 3, ground := Ground.phase }, { on := 4, ground := Ground.phase }, { on := 5, ground := Ground.phase }, { on := 6, ground := Ground.textOnly Departure.lateStores }, { on := 7, ground := Ground.textOnly Departure.lateStores }, { on := 8, ground := Ground.textOnly Departure.lateStores }, { on := 9, ground := Ground.textOnly Departure.lateStores }, { on := 10, ground := Ground.textOnly Departure.lateStores }, { on := 11, ground := Ground.textOnly Departure.lateStoresUnsure }, { on := 12, ground := Ground.phase }, { on := 13, ground := Ground.phase }], guard := none }) rfl (fun K hK => ?_) AllReadyH.nil)
          obtain ⟨z1, z2, z3, z4⟩ := blk2 hP32.out
          go_simp
          try go_wp2_with fail
          refine hK.out _ _ (hk32.out.set2 hlP _ _) (fun hHeld => ?_)
          clear hK K hHeld z1 z2 z3 z4
          try simp only [Act.put, List.setIfInBounds_toArray, List.set_cons_zero, List.set_cons_succ]
          obtain ⟨y33, hy⟩ : ∃ y, (y32.setCell ⟨y0.heap.size, 0, none⟩ (.int .i64 a0)).setCell ⟨y0.heap.size, 1, none⟩ (.int .i64 a1) = y := ⟨_, rfl⟩
          have hb33 : Hid (Below w.heap.size w y33) := by rw [← hy]; exact hid (below2 hb32.out (by omega) _ _)
          have hk33 : Hid (Dk w.heap.size F (.slice ad V cap) ⟨qk, qe, qa0, qa1, qb0, qb1⟩ y33) := by rw [← hy]; exact hid (hk32.out.set2 hlP _ _)
          have hP33 : Hid (y33.heap[y0.heap.size]? = some (.cells #[.int .i64 a0, .int .i64 a1] 23 (0, 0))) := by rw [← hy]; exact hid (set2_block hP32.out _ _)
          have hQ33 : Hid (y33.heap[y31.heap.size]? = some zp) := by rw [← hy, Below.heap_setCell _ _ _ _ (by show y31.heap.size ≠ y0.heap.size; omega), Below.heap_setCell _ _ _ _ (by show y31.heap.size ≠ y0.heap.size; omega)]; exact hQ32
          rw [hy]
          clear hy
          refine wpAnyH_ready (rs := [15]) (by kernel_rfl) (by simp) ?_
          refine (AllReadyH.cons (o := { dst := none, op := Op.store 23 (Operand.tmp 12) (Operand.tmp 49), type := 0, pos := "law.go:67", after := #[{ on := 13, ground := Ground.data }, { on := 11, ground := Ground.data }, { on := 14, ground := Ground.chain }, { on := 0, ground := Ground.phase }, { on := 1, ground := Ground.phase }, { on := 2, ground := Ground.phase }, { on := 3, ground := Ground.phase }, { on := 4, ground := Ground.phase }, { on := 5, ground := Ground.phase }, { on := 6, ground := Ground.phase }, { on := 7, ground := Ground.phase }, { on := 8, ground := Ground.phase }, { on := 9, ground := Ground.phase }, { on := 10, ground := Ground.phase }, { on := 11, ground := Ground.phase }, { on := 12, ground := Ground.phase }, { on := 13, ground := Ground.phase }, { on := 14, ground := Ground.phase }], guard := none }) rfl (fun K hK => ?_) AllReadyH.nil)
          obtain ⟨z1, z2, z3, z4⟩ := blk2 hQ33.out
          go_simp
          try go_wp2_with fail
          refine hK.out _ _ (hk33.out.set2 hlQ _ _) (fun hHeld => ?_)
          clear hK K hHeld z1 z2 z3 z4
          try simp only [Act.put, List.setIfInBounds_toArray, List.set_cons_zero, List.set_cons_succ]
          obtain ⟨y34, hy⟩ : ∃ y, (y33.setCell ⟨y31.heap.size, 0, none⟩ (.int .i64 b0)).setCell ⟨y31.heap.size, 1, none⟩ (.int .i64 b1) = y := ⟨_, rfl⟩
          have hb34 : Hid (Below w.heap.size w y34) := by rw [← hy]; exact hid (below2 hb33.out (by omega) _ _)
          have hk34 : Hid (Dk w.heap.size F (.slice ad V cap) ⟨qk, qe, qa0, qa1, qb0, qb1⟩ y34) := by rw [← hy]; exact hid (hk33.out.set2 hlQ _ _)
          have hQ34 : Hid (y34.heap[y31.heap.size]? = some (.cells #[.int .i64 b0, .int .i64 b1] 23 (0, 0))) := by rw [← hy]; exact hid (set2_block hQ33.out _ _)
          have hP34 : Hid (y34.heap[y0.heap.size]? = some (.cells #[.int .i64 a0, .int .i64 a1] 23 (0, 0))) := by rw [← hy, Below.heap_setCell _ _ _ _ (by show y0.heap.size ≠ y31.heap.size; omega), Below.heap_setCell _ _ _ _ (by show y0.heap.size ≠ y31.heap.size; omega)]; exact hP33
          rw [hy]
          clear hy
          refine wpAnyH_done (by kernel_rfl) ?_ _
          refine NoPanic.normal ?_
          go_wp2_with fail
          go_meet
          case rel => exact ⟨_, _, a0, a1, b0, b1, rfl, rfl, hb34.out, hk34.out, hP34.out, hQ34.out⟩
        · skip
          go_simp
          refine hK.out _ _ (hk30.out.alloc _) (fun hHeld => ?_)
          clear hK K hHeld
          try simp only [Act.put, List.setIfInBounds_toArray, List.set_cons_zero, List.set_cons_succ]
          obtain ⟨y35, hy⟩ : ∃ y, y30.alloc (.cells #[.int .i64 0, .int .i64 0] 23) = y := ⟨_, rfl⟩
          have hb35 : Hid (Below w.heap.size w y35) := by rw [← hy]; exact hid (hb30.out.alloc hb30.out.size _)
          have hk35 : Hid (Dk w.heap.size F (.slice ad V cap) ⟨qk, qe, qa0, qa1, qb0, qb1⟩ y35) := by rw [← hy]; exact hid (hk30.out.alloc _)
          have hQ35 : Hid (y35.heap[y30.heap.size]? = some zp) := by rw [← hy]; exact hid (heap_alloc_new _ _)
          have hlQ : w.heap.size + 3 ≤ y30.heap.size := by have := (Array.getElem?_eq_some_iff.1 hk30.out.2.2).1; omega
          have hP35 : Hid (y35.heap[y0.heap.size]? = some zp) := by rw [← hy]; exact hid (al_keep hP30.out)
          have hPQ : y0.heap.size ≠ y30.heap.size := by have := (Array.getElem?_eq_some_iff.1 hP30.out).1; omega
          rw [hy]
          clear hy
          refine wpAnyH_ready (rs := [11]) (by kernel_rfl) (by simp) ?_
          refine (AllReadyH.cons (o := { dst := some 49, op := Op.call { callee := Callee.value (Operand.func 65), args := #[Operand.tmp 44, Operand.tmp 46, Operand.tmp 48], argTypes := #[27, 23, 4] }, type := 23, pos := "law.go:67", after := #[{ on := 6, ground := Ground.data }, { on := 8, ground := Ground.data }, { on := 10, ground := Ground.data }, { on := 5, ground := Ground.chain }], guard := none }) rfl (fun K hK => ?_) AllReadyH.nil)
          go_simp
          refine (hcor.out _ _ _ _ hb35.out).mono ?_
          rintro x y36 ⟨b0, b1, rfl, b2⟩
          have hk36 := hid (hk35.out.below b2)
          have hb36 : Hid (Below w.heap.size w y36) := hb35.out.trans (b2.mono hb35.out.size)
          have hP36 := hid ((b2.block _ (Array.getElem?_eq_some_iff.1 hP35.out).1).trans hP35.out)
          have hQ36 := hid ((b2.block _ (Array.getElem?_eq_some_iff.1 hQ35.out).1).trans hQ35.out)
          clear b2
          try go_wp2_with fail
          refine hK.out _ _ hk36.out (fun hHeld => ?_)
          clear hK K hHeld
          try simp only [Act.put, List.setIfInBounds_toArray, List.set_cons_zero, List.set_cons_succ]
          refine wpAnyH_ready (rs := [14]) (by kernel_rfl) (by simp) ?_
          refine (AllReadyH.cons (o := { dst := none, op := Op.store 23 (Operand.tmp 11) (Operand.tmp 43), type := 0, pos := "law.go:67", after := #[{ on := 12, ground := Ground.data }, { on := 5, ground := Ground.data }, { on := 11, ground := Ground.chain }, { on := 0, ground := Ground.phase }, { on := 1, ground := Ground.phase }, { on := 2, ground := Ground.phase }, { on := 3, ground := Ground.phase }, { on := 4, ground := Ground.phase }, { on := 5, ground := Ground.phase }, { on := 6, ground := Ground.textOnly Departure.lateStores }, { on := 7, ground := Ground.textOnly Departure.lateStores }, { on := 8, ground := Ground.textOnly Departure.lateStores }, { on := 9, ground := Ground.textOnly Departure.lateStores }, { on := 10, ground := Ground.textOnly Departure.lateStores }, { on := 11, ground := Ground.textOnly Departure.lateStoresUnsure }, { on := 12, ground := Ground.phase }, { on := 13, ground := Ground.phase }], guard := none }) rfl (fun K hK => ?_) AllReadyH.nil)
          obtain ⟨z1, z2, z3, z4⟩ := blk2 hP36.out
          go_simp
          try go_wp2_with fail
          refine hK.out _ _ (hk36.out.set2 hlP _ _) (fun hHeld => ?_)
          clear hK K hHeld z1 z2 z3 z4
          try simp only [Act.put, List.setIfInBounds_toArray, List.set_cons_zero, List.set_cons_succ]
          obtain ⟨y37, hy⟩ : ∃ y, (y36.setCell ⟨y0.heap.size, 0, none⟩ (.int .i64 a0)).setCell ⟨y0.heap.size, 1, none⟩ (.int .i64 a1) = y := ⟨_, rfl⟩
          have hb37 : Hid (Below w.heap.size w y37) := by rw [← hy]; exact hid (below2 hb36.out (by omega) _ _)
          have hk37 : Hid (Dk w.heap.size F (.slice ad V cap) ⟨qk, qe, qa0, qa1, qb0, qb1⟩ y37) := by rw [← hy]; exact hid (hk36.out.set2 hlP _ _)
          have hP37 : Hid (y37.heap[y0.heap.size]? = some (.cells #[.int .i64 a0, .int .i64 a1] 23 (0, 0))) := by rw [← hy]; exact hid (set2_block hP36.out _ _)
          have hQ37 : Hid (y37.heap[y30.heap.size]? = some zp) := by rw [← hy, Below.heap_setCell _ _ _ _ (by show y30.heap.size ≠ y0.heap.size; omega), Below.heap_setCell _ _ _ _ (by show y30.heap.size ≠ y0.heap.size; omega)]; exact hQ36
          rw [hy]
          clear hy
          refine wpAnyH_ready (rs := [15]) (by kernel_rfl) (by simp) ?_
          refine (AllReadyH.cons (o := { dst := none, op := Op.store 23 (Operand.tmp 12) (Operand.tmp 49), type := 0, pos := "law.go:67", after := #[{ on := 13, ground := Ground.data }, { on := 11, ground := Ground.data }, { on := 14, ground := Ground.chain }, { on := 0, ground := Ground.phase }, { on := 1, ground := Ground.phase }, { on := 2, ground := Ground.phase }, { on := 3, ground := Ground.phase }, { on := 4, ground := Ground.phase }, { on := 5, ground := Ground.phase }, { on := 6, ground := Ground.phase }, { on := 7, ground := Ground.phase }, { on := 8, ground := Ground.phase }, { on := 9, ground := Ground.phase }, { on := 10, ground := Ground.phase }, { on := 11, ground := Ground.phase }, { on := 12, ground := Ground.phase }, { on := 13, ground := Ground.phase }, { on := 14, ground := Ground.phase }], guard := none }) rfl (fun K hK => ?_) AllReadyH.nil)
          obtain ⟨z1, z2, z3, z4⟩ := blk2 hQ37.out
          go_simp
          try go_wp2_with fail
          refine hK.out _ _ (hk37.out.set2 hlQ _ _) (fun hHeld => ?_)
          clear hK K hHeld z1 z2 z3 z4
          try simp only [Act.put, List.setIfInBounds_toArray, List.set_cons_zero, List.set_cons_succ]
          obtain ⟨y38, hy⟩ : ∃ y, (y37.setCell ⟨y30.heap.size, 0, none⟩ (.int .i64 b0)).setCell ⟨y30.heap.size, 1, none⟩ (.int .i64 b1) = y := ⟨_, rfl⟩
          have hb38 : Hid (Below w.heap.size w y38) := by rw [← hy]; exact hid (below2 hb37.out (by omega) _ _)
          have hk38 : Hid (Dk w.heap.size F (.slice ad V cap) ⟨qk, qe, qa0, qa1, qb0, qb1⟩ y38) := by rw [← hy]; exact hid (hk37.out.set2 hlQ _ _)
          have hQ38 : Hid (y38.heap[y30.heap.size]? = some (.cells #[.int .i64 b0, .int .i64 b1] 23 (0, 0))) := by rw [← hy]; exact hid (set2_block hQ37.out _ _)
          have hP38 : Hid (y38.heap[y0.heap.size]? = some (.cells #[.int .i64 a0, .int .i64 a1] 23 (0, 0))) := by rw [← hy, Below.heap_setCell _ _ _ _ (by show y0.heap.size ≠ y30.heap.size; omega), Below.heap_setCell _ _ _ _ (by show y0.heap.size ≠ y30.heap.size; omega)]; exact hP37
          rw [hy]
          clear hy
          refine wpAnyH_done (by kernel_rfl) ?_ _
          refine NoPanic.normal ?_
          go_wp2_with fail
          go_meet
          case rel => exact ⟨_, _, a0, a1, b0, b1, rfl, rfl, hb38.out, hk38.out, hP38.out, hQ38.out⟩
      · skip
        go_simp
        refine hK.out _ _ (hk29.out.alloc _) (fun hHeld => ?_)
        clear hK K hHeld
        try simp only [Act.put, List.setIfInBounds_toArray, List.set_cons_zero, List.set_cons_succ]
        obtain ⟨y39, hy⟩ : ∃ y, y29.alloc (.cells #[.int .i64 0, .int .i64 0] 23) = y := ⟨_, rfl⟩
        have hb39 : Hid (Below w.heap.size w y39) := by rw [← hy]; exact hid (hb29.out.alloc hb29.out.size _)
        have hk39 : Hid (Dk w.heap.size F (.slice ad V cap) ⟨qk, qe, qa0, qa1, qb0, qb1⟩ y39) := by rw [← hy]; exact hid (hk29.out.alloc _)
        have hQ39 : Hid (y39.heap[y29.heap.size]? = some zp) := by rw [← hy]; exact hid (heap_alloc_new _ _)
        have hlQ : w.heap.size + 3 ≤ y29.heap.size := by have := (Array.getElem?_eq_some_iff.1 hk29.out.2.2).1; omega
        have hP39 : Hid (y39.heap[y0.heap.size]? = some zp) := by rw [← hy]; exact hid (al_keep hP29.out)
        have hPQ : y0.heap.size ≠ y29.heap.size := by have := (Array.getElem?_eq_some_iff.1 hP29.out).1; omega
        rw [hy]
        clear hy
        refine wpAnyH_ready (rs := [5]) (by kernel_rfl) (by simp) ?_
        refine (AllReadyH.cons (o := { dst := some 43, op := Op.call { callee := Callee.value (Operand.func 65), args := #[Operand.tmp 38, Operand.tmp 40, Operand.tmp 42], argTypes := #[27, 23, 4] }, type := 23, pos := "law.go:67", after := #[{ on := 0, ground := Ground.data }, { on := 2, ground := Ground.data }, { on := 4, ground := Ground.data }], guard := none }) rfl (fun K hK => ?_) AllReadyH.nil)
        go_simp
        refine (hcor.out _ _ _ _ hb39.out).mono ?_
        rintro x y40 ⟨a0, a1, rfl, b2⟩
        have hk40 := hid (hk39.out.below b2)
        have hb40 : Hid (Below w.heap.size w y40) := hb39.out.trans (b2.mono hb39.out.size)
        have hP40 := hid ((b2.block _ (Array.getElem?_eq_some_iff.1 hP39.out).1).trans hP39.out)
        have hQ40 := hid ((b2.block _ (Array.getElem?_eq_some_iff.1 hQ39.out).1).trans hQ39.out)
        clear b2
        try go_wp2_with fail
        refine hK.out _ _ hk40.out (fun hHeld => ?_)
        clear hK K hHeld
        try simp only [Act.put, List.setIfInBounds_toArray, List.set_cons_zero, List.set_cons_succ]
        refine wpAnyH_ready (rs := [11]) (by kernel_rfl) (by simp) ?_
        refine (AllReadyH.cons (o := { dst := some 49, op := Op.call { callee := Callee.value (Operand.func 65), args := #[Operand.tmp 44, Operand.tmp 46, Operand.tmp 48], argTypes := #[27, 23, 4] }, type := 23, pos := "law.go:67", after := #[{ on := 6, ground := Ground.data }, { on := 8, ground := Ground.data }, { on := 10, ground := Ground.data }, { on := 5, ground := Ground.chain }], guard := none }) rfl (fun K hK => ?_) AllReadyH.nil)
        go_simp
        refine (hcor.out _ _ _ _ hb40.out).mono ?_
        rintro x y41 ⟨b0, b1, rfl, b2⟩
        have hk41 := hid (hk40.out.below b2)
        have hb41 : Hid (Below w.heap.size w y41) := hb40.out.trans (b2.mono hb40.out.size)
        have hP41 := hid ((b2.block _ (Array.getElem?_eq_some_iff.1 hP40.out).1).trans hP40.out)
        have hQ41 := hid ((b2.block _ (Array.getElem?_eq_some_iff.1 hQ40.out).1).trans hQ40.out)
        clear b2
        try go_wp2_with fail
        refine hK.out _ _ hk41.out (fun hHeld => ?_)
        clear hK K hHeld
        try simp only [Act.put, List.setIfInBounds_toArray, List.set_cons_zero, List.set_cons_succ]
        refine wpAnyH_ready (rs := [14]) (by kernel_rfl) (by simp) ?_
        refine (AllReadyH.cons (o := { dst := none, op := Op.store 23 (Operand.tmp 11) (Operand.tmp 43), type := 0, pos := "law.go:67", after := #[{ on := 12, ground := Ground.data }, { on := 5, ground := Ground.data }, { on := 11, ground := Ground.chain }, { on := 0, ground := Ground.phase }, { on := 1, ground := Ground.phase }, { on := 2, ground := Ground.phase }, { on := 3, ground := Ground.phase }, { on := 4, ground := Ground.phase }, { on := 5, ground := Ground.phase }, { on := 6, ground := Ground.textOnly Departure.lateStores }, { on := 7, ground := Ground.textOnly Departure.lateStores }, { on := 8, ground := Ground.textOnly Departure.lateStores }, { on := 9, ground := Ground.textOnly Departure.lateStores }, { on := 10, ground := Ground.textOnly Departure.lateStores }, { on := 11, ground := Ground.textOnly Departure.lateStoresUnsure }, { on := 12, ground := Ground.phase }, { on := 13, ground := Ground.phase }], guard := none }) rfl (fun K hK => ?_) AllReadyH.nil)
        obtain ⟨z1, z2, z3, z4⟩ := blk2 hP41.out
        go_simp
        try go_wp2_with fail
        refine hK.out _ _ (hk41.out.set2 hlP _ _) (fun hHeld => ?_)
        clear hK K hHeld z1 z2 z3 z4
        try simp only [Act.put, List.setIfInBounds_toArray, List.set_cons_zero, List.set_cons_succ]
        obtain ⟨y42, hy⟩ : ∃ y, (y41.setCell ⟨y0.heap.size, 0, none⟩ (.int .i64 a0)).setCell ⟨y0.heap.size, 1, none⟩ (.int .i64 a1) = y := ⟨_, rfl⟩
        have hb42 : Hid (Below w.heap.size w y42) := by rw [← hy]; exact hid (below2 hb41.out (by omega) _ _)
        have hk42 : Hid (Dk w.heap.size F (.slice ad V cap) ⟨qk, qe, qa0, qa1, qb0, qb1⟩ y42) := by rw [← hy]; exact hid (hk41.out.set2 hlP _ _)
        have hP42 : Hid (y42.heap[y0.heap.size]? = some (.cells #[.int .i64 a0, .int .i64 a1] 23 (0, 0))) := by rw [← hy]; exact hid (set2_block hP41.out _ _)
        have hQ42 : Hid (y42.heap[y29.heap.size]? = some zp) := by rw [← hy, Below.heap_setCell _ _ _ _ (by show y29.heap.size ≠ y0.heap.size; omega), Below.heap_setCell _ _ _ _ (by show y29.heap.size ≠ y0.heap.size; omega)]; exact hQ41
        rw [hy]
        clear hy
        refine wpAnyH_ready (rs := [15]) (by kernel_rfl) (by simp) ?_
        refine (AllReadyH.cons (o := { dst := none, op := Op.store 23 (Operand.tmp 12) (Operand.tmp 49), type := 0, pos := "law.go:67", after := #[{ on := 13, ground := Ground.data }, { on := 11, ground := Ground.data }, { on := 14, ground := Ground.chain }, { on := 0, ground := Ground.phase }, { on := 1, ground := Ground.phase }, { on := 2, ground := Ground.phase }, { on := 3, ground := Ground.phase }, { on := 4, ground := Ground.phase }, { on := 5, ground := Ground.phase }, { on := 6, ground := Ground.phase }, { on := 7, ground := Ground.phase }, { on := 8, ground := Ground.phase }, { on := 9, ground := Ground.phase }, { on := 10, ground := Ground.phase }, { on := 11, ground := Ground.phase }, { on := 12, ground := Ground.phase }, { on := 13, ground := Ground.phase }, { on := 14, ground := Ground.phase }], guard := none }) rfl (fun K hK => ?_) AllReadyH.nil)
        obtain ⟨z1, z2, z3, z4⟩ := blk2 hQ42.out
        go_simp
        try go_wp2_with fail
        refine hK.out _ _ (hk42.out.set2 hlQ _ _) (fun hHeld => ?_)
        clear hK K hHeld z1 z2 z3 z4
        try simp only [Act.put, List.setIfInBounds_toArray, List.set_cons_zero, List.set_cons_succ]
        obtain ⟨y43, hy⟩ : ∃ y, (y42.setCell ⟨y29.heap.size, 0, none⟩ (.int .i64 b0)).setCell ⟨y29.heap.size, 1, none⟩ (.int .i64 b1) = y := ⟨_, rfl⟩
        have hb43 : Hid (Below w.heap.size w y43) := by rw [← hy]; exact hid (below2 hb42.out (by omega) _ _)
        have hk43 : Hid (Dk w.heap.size F (.slice ad V cap) ⟨qk, qe, qa0, qa1, qb0, qb1⟩ y43) := by rw [← hy]; exact hid (hk42.out.set2 hlQ _ _)
        have hQ43 : Hid (y43.heap[y29.heap.size]? = some (.cells #[.int .i64 b0, .int .i64 b1] 23 (0, 0))) := by rw [← hy]; exact hid (set2_block hQ42.out _ _)
        have hP43 : Hid (y43.heap[y0.heap.size]? = some (.cells #[.int .i64 a0, .int .i64 a1] 23 (0, 0))) := by rw [← hy, Below.heap_setCell _ _ _ _ (by show y0.heap.size ≠ y29.heap.size; omega), Below.heap_setCell _ _ _ _ (by show y0.heap.size ≠ y29.heap.size; omega)]; exact hP42
        rw [hy]
        clear hy
        refine wpAnyH_done (by kernel_rfl) ?_ _
        refine NoPanic.normal ?_
        go_wp2_with fail
        go_meet
        case rel => exact ⟨_, _, a0, a1, b0, b1, rfl, rfl, hb43.out, hk43.out, hP43.out, hQ43.out⟩
    · skip
      go_simp
      refine hK.out _ _ (hk0.out.alloc _) (fun hHeld => ?_)
      clear hK K hHeld
      try simp only [Act.put, List.setIfInBounds_toArray, List.set_cons_zero, List.set_cons_succ]
      obtain ⟨y44, hy⟩ : ∃ y, y0.alloc (.cells #[.int .i64 0, .int .i64 0] 23) = y := ⟨_, rfl⟩
      have hb44 : Hid (Below w.heap.size w y44) := by rw [← hy]; exact hid (hb0.out.alloc hb0.out.size _)
      have hk44 : Hid (Dk w.heap.size F (.slice ad V cap) ⟨qk, qe, qa0, qa1, qb0, qb1⟩ y44) := by rw [← hy]; exact hid (hk0.out.alloc _)
      have hQ44 : Hid (y44.heap[y0.heap.size]? = some zp) := by rw [← hy]; exact hid (heap_alloc_new _ _)
      have hlQ : w.heap.size + 3 ≤ y0.heap.size := by have := (Array.getElem?_eq_some_iff.1 hk0.out.2.2).1; omega
      rw [hy]
      clear hy
      refine wpAnyH_ready (rs := [5, 12]) (by kernel_rfl) (by simp) ?_
      refine (AllReadyH.cons (o := { dst := some 43, op := Op.call { callee := Callee.value (Operand.func 65), args := #[Operand.tmp 38, Operand.tmp 40, Operand.tmp 42], argTypes := #[27, 23, 4] }, type := 23, pos := "law.go:67", after := #[{ on := 0, ground := Ground.data }, { on := 2, ground := Ground.data }, { on := 4, ground := Ground.data }], guard := none }) rfl (fun K hK => ?_) (AllReadyH.cons (o := { dst := some 11, op := Op.alloc 23, type := 0, pos := "law.go:67", after := #[], guard := none }) rfl (fun K hK => ?_) AllReadyH.nil))
      · skip
        go_simp
        refine (hcor.out _ _ _ _ hb44.out).mono ?_
        rintro x y45 ⟨a0, a1, rfl, b2⟩
        have hk45 := hid (hk44.out.below b2)
        have hb45 : Hid (Below w.heap.size w y45) := hb44.out.trans (b2.mono hb44.out.size)
        have hQ45 := hid ((b2.block _ (Array.getElem?_eq_some_iff.1 hQ44.out).1).trans hQ44.out)
        clear b2
        try go_wp2_with fail
        refine hK.out _ _ hk45.out (fun hHeld => ?_)
        clear hK K hHeld
        try simp only [Act.put, List.setIfInBounds_toArray, List.set_cons_zero, List.set_cons_succ]
        refine wpAnyH_ready (rs := [11, 12]) (by kernel_rfl) (by simp) ?_
        refine (AllReadyH.cons (o := { dst := some 49, op := Op.call { callee := Callee.value (Operand.func 65), args := #[Operand.tmp 44, Operand.tmp 46, Operand.tmp 48], argTypes := #[27, 23, 4] }, type := 23, pos := "law.go:67", after := #[{ on := 6, ground := Ground.data }, { on := 8, ground := Ground.data }, { on := 10, ground := Ground.data }, { on := 5, ground := Ground.chain }], guard := none }) rfl (fun K hK => ?_) (AllReadyH.cons (o := { dst := some 11, op := Op.alloc 23, type := 0, pos := "law.go:67", after := #[], guard := none }) rfl (fun K hK => ?_) AllReadyH.nil))
        · skip
          go_simp
          refine (hcor.out _ _ _ _ hb45.out).mono ?_
          rintro x y46 ⟨b0, b1, rfl, b2⟩
          have hk46 := hid (hk45.out.below b2)
          have hb46 : Hid (Below w.heap.size w y46) := hb45.out.trans (b2.mono hb45.out.size)
          have hQ46 := hid ((b2.block _ (Array.getElem?_eq_some_iff.1 hQ45.out).1).trans hQ45.out)
          clear b2
          try go_wp2_with fail
          refine hK.out _ _ hk46.out (fun hHeld => ?_)
          clear hK K hHeld
          try simp only [Act.put, List.setIfInBounds_toArray, List.set_cons_zero, List.set_cons_succ]
          refine wpAnyH_ready (rs := [12]) (by kernel_rfl) (by simp) ?_
          refine (AllReadyH.cons (o := { dst := some 11, op := Op.alloc 23, type := 0, pos := "law.go:67", after := #[], guard := none }) rfl (fun K hK => ?_) AllReadyH.nil)
          go_simp
          refine hK.out _ _ (hk46.out.alloc _) (fun hHeld => ?_)
          clear hK K hHeld
          try simp only [Act.put, List.setIfInBounds_toArray, List.set_cons_zero, List.set_cons_succ]
          obtain ⟨y47, hy⟩ : ∃ y, y46.alloc (.cells #[.int .i64 0, .int .i64 0] 23) = y := ⟨_, rfl⟩
          have hb47 : Hid (Below w.heap.size w y47) := by rw [← hy]; exact hid (hb46.out.alloc hb46.out.size _)
          have hk47 : Hid (Dk w.heap.size F (.slice ad V cap) ⟨qk, qe, qa0, qa1, qb0, qb1⟩ y47) := by rw [← hy]; exact hid (hk46.out.alloc _)
          have hP47 : Hid (y47.heap[y46.heap.size]? = some zp) := by rw [← hy]; exact hid (heap_alloc_new _ _)
          have hlP : w.heap.size + 3 ≤ y46.heap.size := by have := (Array.getElem?_eq_some_iff.1 hk46.out.2.2).1; omega
          have hQ47 : Hid (y47.heap[y0.heap.size]? = some zp) := by rw [← hy]; exact hid (al_keep hQ46.out)
          have hPQ : y0.heap.size ≠ y46.heap.size := by have := (Array.getElem?_eq_some_iff.1 hQ46.out).1; omega
          rw [hy]
          clear hy
          refine wpAnyH_ready (rs := [14]) (by kernel_rfl) (by simp) ?_
          refine (AllReadyH.cons (o := { dst := none, op := Op.store 23 (Operand.tmp 11) (Operand.tmp 43), type := 0, pos := "law.go:67", after := #[{ on := 12, ground := Ground.data }, { on := 5, ground := Ground.data }, { on := 11, ground := Ground.chain }, { on := 0, ground := Ground.phase }, { on := 1, ground := Ground.phase }, { on := 2, ground := Ground.phase }, { on := 3, ground := Ground.phase }, { on := 4, ground := Ground.phase }, { on := 5, ground := Ground.phase }, { on := 6, ground := Ground.textOnly Departure.lateStores }, { on := 7, ground := Ground.textOnly Departure.lateStores }, { on := 8, ground := Ground.textOnly Departure.lateStores }, { on := 9, ground := Ground.textOnly Departure.lateStores }, { on := 10, ground := Ground.textOnly Departure.lateStores }, { on := 11, ground := Ground.textOnly Departure.lateStoresUnsure }, { on := 12, ground := Ground.phase }, { on := 13, ground := Ground.phase }], guard := none }) rfl (fun K hK => ?_) AllReadyH.nil)
          obtain ⟨z1, z2, z3, z4⟩ := blk2 hP47.out
          go_simp
          try go_wp2_with fail
          refine hK.out _ _ (hk47.out.set2 hlP _ _) (fun hHeld => ?_)
          clear hK K hHeld z1 z2 z3 z4
          try simp only [Act.put, List.setIfInBounds_toArray, List.set_cons_zero, List.set_cons_succ]
          obtain ⟨y48, hy⟩ : ∃ y, (y47.setCell ⟨y46.heap.size, 0, none⟩ (.int .i64 a0)).setCell ⟨y46.heap.size, 1, none⟩ (.int .i64 a1) = y := ⟨_, rfl⟩
          have hb48 : Hid (Below w.heap.size w y48) := by rw [← hy]; exact hid (below2 hb47.out (by omega) _ _)
          have hk48 : Hid (Dk w.heap.size F (.slice ad V cap) ⟨qk, qe, qa0, qa1, qb0, qb1⟩ y48) := by rw [← hy]; exact hid (hk47.out.set2 hlP _ _)
          have hP48 : Hid (y48.heap[y46.heap.size]? = some (.cells #[.int .i64 a0, .int .i64 a1] 23 (0, 0))) := by rw [← hy]; exact hid (set2_block hP47.out _ _)
          have hQ48 : Hid (y48.heap[y0.heap.size]? = some zp) := by rw [← hy, Below.heap_setCell _ _ _ _ (by show y0.heap.size ≠ y46.heap.size; omega), Below.heap_setCell _ _ _ _ (by show y0.heap.size ≠ y46.heap.size; omega)]; exact hQ47
          rw [hy]
          clear hy
          refine wpAnyH_ready (rs := [15]) (by kernel_rfl) (by simp) ?_
          refine (AllReadyH.cons (o := { dst := none, op := Op.store 23 (Operand.tmp 12) (Operand.tmp 49), type := 0, pos := "law.go:67", after := #[{ on := 13, ground := Ground.data }, { on := 11, ground := Ground.data }, { on := 14, ground := Ground.chain }, { on := 0, ground := Ground.phase }, { on := 1, ground := Ground.phase }, { on := 2, ground := Ground.phase }, { on := 3, ground := Ground.phase }, { on := 4, ground := Ground.phase }, { on := 5, ground := Ground.phase }, { on := 6, ground := Ground.phase }, { on := 7, ground := Ground.phase }, { on := 8, ground := Ground.phase }, { on := 9, ground := Ground.phase }, { on := 10, ground := Ground.phase }, { on := 11, ground := Ground.phase }, { on := 12, ground := Ground.phase }, { on := 13, ground := Ground.phase }, { on := 14, ground := Ground.phase }], guard := none }) rfl (fun K hK => ?_) AllReadyH.nil)
          obtain ⟨z1, z2, z3, z4⟩ := blk2 hQ48.out
          go_simp
          try go_wp2_with fail
          refine hK.out _ _ (hk48.out.set2 hlQ _ _) (fun hHeld => ?_)
          clear hK K hHeld z1 z2 z3 z4
          try simp only [Act.put, List.setIfInBounds_toArray, List.set_cons_zero, List.set_cons_succ]
          obtain ⟨y49, hy⟩ : ∃ y, (y48.setCell ⟨y0.heap.size, 0, none⟩ (.int .i64 b0)).setCell ⟨y0.heap.size, 1, none⟩ (.int .i64 b1) = y := ⟨_, rfl⟩
          have hb49 : Hid (Below w.heap.size w y49) := by rw [← hy]; exact hid (below2 hb48.out (by omega) _ _)
          have hk49 : Hid (Dk w.heap.size F (.slice ad V cap) ⟨qk, qe, qa0, qa1, qb0, qb1⟩ y49) := by rw [← hy]; exact hid (hk48.out.set2 hlQ _ _)
          have hQ49 : Hid (y49.heap[y0.heap.size]? = some (.cells #[.int .i64 b0, .int .i64 b1] 23 (0, 0))) := by rw [← hy]; exact hid (set2_block hQ48.out _ _)
          have hP49 : Hid (y49.heap[y46.heap.size]? = some (.cells #[.int .i64 a0, .int .i64 a1] 23 (0, 0))) := by rw [← hy, Below.heap_setCell _ _ _ _ (by show y46.heap.size ≠ y0.heap.size; omega), Below.heap_setCell _ _ _ _ (by show y46.heap.size ≠ y0.heap.size; omega)]; exact hP48
          rw [hy]
          clear hy
          refine wpAnyH_done (by kernel_rfl) ?_ _
          refine NoPanic.normal ?_
          go_wp2_with fail
          go_meet
          case rel => exact ⟨_, _, a0, a1, b0, b1, rfl, rfl, hb49.out, hk49.out, hP49.out, hQ49.out⟩
        · skip
          go_simp
          refine hK.out _ _ (hk45.out.alloc _) (fun hHeld => ?_)
          clear hK K hHeld
          try simp only [Act.put, List.setIfInBounds_toArray, List.set_cons_zero, List.set_cons_succ]
          obtain ⟨y50, hy⟩ : ∃ y, y45.alloc (.cells #[.int .i64 0, .int .i64 0] 23) = y := ⟨_, rfl⟩
          have hb50 : Hid (Below w.heap.size w y50) := by rw [← hy]; exact hid (hb45.out.alloc hb45.out.size _)
          have hk50 : Hid (Dk w.heap.size F (.slice ad V cap) ⟨qk, qe, qa0, qa1, qb0, qb1⟩ y50) := by rw [← hy]; exact hid (hk45.out.alloc _)
          have hP50 : Hid (y50.heap[y45.heap.size]? = some zp) := by rw [← hy]; exact hid (heap_alloc_new _ _)
          have hlP : w.heap.size + 3 ≤ y45.heap.size := by have := (Array.getElem?_eq_some_iff.1 hk45.out.2.2).1; omega
          have hQ50 : Hid (y50.heap[y0.heap.size]? = some zp) := by rw [← hy]; exact hid (al_keep hQ45.out)
          have hPQ : y0.heap.size ≠ y45.heap.size := by have := (Array.getElem?_eq_some_iff.1 hQ45.out).1; omega
          rw [hy]
          clear hy
          refine wpAnyH_ready (rs := [11]) (by kernel_rfl) (by simp) ?_
          refine (AllReadyH.cons (o := { dst := some 49, op := Op.call { callee := Callee.value (Operand.func 65), args := #[Operand.tmp 44, Operand.tmp 46, Operand.tmp 48], argTypes := #[27, 23, 4] }, type := 23, pos := "law.go:67", after := #[{ on := 6, ground := Ground.data }, { on := 8, ground := Ground.data }, { on := 10, ground := Ground.data }, { on := 5, ground := Ground.chain }], guard := none }) rfl (fun K hK => ?_) AllReadyH.nil)
          go_simp
          refine (hcor.out _ _ _ _ hb50.out).mono ?_
          rintro x y51 ⟨b0, b1, rfl, b2⟩
          have hk51 := hid (hk50.out.below b2)
          have hb51 : Hid (Below w.heap.size w y51) := hb50.out.trans (b2.mono hb50.out.size)
          have hP51 := hid ((b2.block _ (Array.getElem?_eq_some_iff.1 hP50.out).1).trans hP50.out)
          have hQ51 := hid ((b2.block _ (Array.getElem?_eq_some_iff.1 hQ50.out).1).trans hQ50.out)
          clear b2
          try go_wp2_with fail
          refine hK.out _ _ hk51.out (fun hHeld => ?_)
          clear hK K hHeld
          try simp only [Act.put, List.setIfInBounds_toArray, List.set_cons_zero, List.set_cons_succ]
          refine wpAnyH_ready (rs := [14]) (by kernel_rfl) (by simp) ?_
          refine (AllReadyH.cons (o := { dst := none, op := Op.store 23 (Operand.tmp 11) (Operand.tmp 43), type := 0, pos := "law.go:67", after := #[{ on := 12, ground := Ground.data }, { on := 5, ground := Ground.data }, { on := 11, ground := Ground.chain }, { on := 0, ground := Ground.phase }, { on := 1, ground := Ground.phase }, { on := 2, ground := Ground.phase }, { on := 3, ground := Ground.phase }, { on := 4, ground := Ground.phase }, { on := 5, ground := Ground.phase }, { on := 6, ground := Ground.textOnly Departure.lateStores }, { on := 7, ground := Ground.textOnly Departure.lateStores }, { on := 8, ground := Ground.textOnly Departure.lateStores }, { on := 9, ground := Ground.textOnly Departure.lateStores }, { on := 10, ground := Ground.textOnly Departure.lateStores }, { on := 11, ground := Ground.textOnly Departure.lateStoresUnsure }, { on := 12, ground := Ground.phase }, { on := 13, ground := Ground.phase }], guard := none }) rfl (fun K hK => ?_) AllReadyH.nil)
          obtain ⟨z1, z2, z3, z4⟩ := blk2 hP51.out
          go_simp
          try go_wp2_with fail
          refine hK.out _ _ (hk51.out.set2 hlP _ _) (fun hHeld => ?_)
          clear hK K hHeld z1 z2 z3 z4
          try simp only [Act.put, List.setIfInBounds_toArray, List.set_cons_zero, List.set_cons_succ]
          obtain ⟨y52, hy⟩ : ∃ y, (y51.setCell ⟨y45.heap.size, 0, none⟩ (.int .i64 a0)).setCell ⟨y45.heap.size, 1, none⟩ (.int .i64 a1) = y := ⟨_, rfl⟩
          have hb52 : Hid (Below w.heap.size w y52) := by rw [← hy]; exact hid (below2 hb51.out (by omega) _ _)
          have hk52 : Hid (Dk w.heap.size F (.slice ad V cap) ⟨qk, qe, qa0, qa1, qb0, qb1⟩ y52) := by rw [← hy]; exact hid (hk51.out.set2 hlP _ _)
          have hP52 : Hid (y52.heap[y45.heap.size]? = some (.cells #[.int .i64 a0, .int .i64 a1] 23 (0, 0))) := by rw [← hy]; exact hid (set2_block hP51.out _ _)
          have hQ52 : Hid (y52.heap[y0.heap.size]? = some zp) := by rw [← hy, Below.heap_setCell _ _ _ _ (by show y0.heap.size ≠ y45.heap.size; omega), Below.heap_setCell _ _ _ _ (by show y0.heap.size ≠ y45.heap.size; omega)]; exact hQ51
          rw [hy]
          clear hy
          refine wpAnyH_ready (rs := [15]) (by kernel_rfl) (by simp) ?_
          refine (AllReadyH.cons (o := { dst := none, op := Op.store 23 (Operand.tmp 12) (Operand.tmp 49), type := 0, pos := "law.go:67", after := #[{ on := 13, ground := Ground.data }, { on := 11, ground := Ground.data }, { on := 14, ground := Ground.chain }, { on := 0, ground := Ground.phase }, { on := 1, ground := Ground.phase }, { on := 2, ground := Ground.phase }, { on := 3, ground := Ground.phase }, { on := 4, ground := Ground.phase }, { on := 5, ground := Ground.phase }, { on := 6, ground := Ground.phase }, { on := 7, ground := Ground.phase }, { on := 8, ground := Ground.phase }, { on := 9, ground := Ground.phase }, { on := 10, ground := Ground.phase }, { on := 11, ground := Ground.phase }, { on := 12, ground := Ground.phase }, { on := 13, ground := Ground.phase }, { on := 14, ground := Ground.phase }], guard := none }) rfl (fun K hK => ?_) AllReadyH.nil)
          obtain ⟨z1, z2, z3, z4⟩ := blk2 hQ52.out
          go_simp
          try go_wp2_with fail
          refine hK.out _ _ (hk52.out.set2 hlQ _ _) (fun hHeld => ?_)
          clear hK K hHeld z1 z2 z3 z4
          try simp only [Act.put, List.setIfInBounds_toArray, List.set_cons_zero, List.set_cons_succ]
          obtain ⟨y53, hy⟩ : ∃ y, (y52.setCell ⟨y0.heap.size, 0, none⟩ (.int .i64 b0)).setCell ⟨y0.heap.size, 1, none⟩ (.int .i64 b1) = y := ⟨_, rfl⟩
          have hb53 : Hid (Below w.heap.size w y53) := by rw [← hy]; exact hid (below2 hb52.out (by omega) _ _)
          have hk53 : Hid (Dk w.heap.size F (.slice ad V cap) ⟨qk, qe, qa0, qa1, qb0, qb1⟩ y53) := by rw [← hy]; exact hid (hk52.out.set2 hlQ _ _)
          have hQ53 : Hid (y53.heap[y0.heap.size]? = some (.cells #[.int .i64 b0, .int .i64 b1] 23 (0, 0))) := by rw [← hy]; exact hid (set2_block hQ52.out _ _)
          have hP53 : Hid (y53.heap[y45.heap.size]? = some (.cells #[.int .i64 a0, .int .i64 a1] 23 (0, 0))) := by rw [← hy, Below.heap_setCell _ _ _ _ (by show y45.heap.size ≠ y0.heap.size; omega), Below.heap_setCell _ _ _ _ (by show y45.heap.size ≠ y0.heap.size; omega)]; exact hP52
          rw [hy]
          clear hy
          refine wpAnyH_done (by kernel_rfl) ?_ _
          refine NoPanic.normal ?_
          go_wp2_with fail
          go_meet
          case rel => exact ⟨_, _, a0, a1, b0, b1, rfl, rfl, hb53.out, hk53.out, hP53.out, hQ53.out⟩
      · skip
        go_simp
        refine hK.out _ _ (hk44.out.alloc _) (fun hHeld => ?_)
        clear hK K hHeld
        try simp only [Act.put, List.setIfInBounds_toArray, List.set_cons_zero, List.set_cons_succ]
        obtain ⟨y54, hy⟩ : ∃ y, y44.alloc (.cells #[.int .i64 0, .int .i64 0] 23) = y := ⟨_, rfl⟩
        have hb54 : Hid (Below w.heap.size w y54) := by rw [← hy]; exact hid (hb44.out.alloc hb44.out.size _)
        have hk54 : Hid (Dk w.heap.size F (.slice ad V cap) ⟨qk, qe, qa0, qa1, qb0, qb1⟩ y54) := by rw [← hy]; exact hid (hk44.out.alloc _)
        have hP54 : Hid (y54.heap[y44.heap.size]? = some zp) := by rw [← hy]; exact hid (heap_alloc_new _ _)
        have hlP : w.heap.size + 3 ≤ y44.heap.size := by have := (Array.getElem?_eq_some_iff.1 hk44.out.2.2).1; omega
        have hQ54 : Hid (y54.heap[y0.heap.size]? = some zp) := by rw [← hy]; exact hid (al_keep hQ44.out)
        have hPQ : y0.heap.size ≠ y44.heap.size := by have := (Array.getElem?_eq_some_iff.1 hQ44.out).1; omega
        rw [hy]
        clear hy
        refine wpAnyH_ready (rs := [5]) (by kernel_rfl) (by simp) ?_
        refine (AllReadyH.cons (o := { dst := some 43, op := Op.call { callee := Callee.value (Operand.func 65), args := #[Operand.tmp 38, Operand.tmp 40, Operand.tmp 42], argTypes := #[27, 23, 4] }, type := 23, pos := "law.go:67", after := #[{ on := 0, ground := Ground.data }, { on := 2, ground := Ground.data }, { on := 4, ground := Ground.data }], guard := none }) rfl (fun K hK => ?_) AllReadyH.nil)
        go_simp
        refine (hcor.out _ _ _ _ hb54.out).mono ?_
        rintro x y55 ⟨a0, a1, rfl, b2⟩
        have hk55 := hid (hk54.out.below b2)
        have hb55 : Hid (Below w.heap.size w y55) := hb54.out.trans (b2.mono hb54.out.size)
        have hP55 := hid ((b2.block _ (Array.getElem?_eq_some_iff.1 hP54.out).1).trans hP54.out)
        have hQ55 := hid ((b2.block _ (Array.getElem?_eq_some_iff.1 hQ54.out).1).trans hQ54.out)
        clear b2
        try go_wp2_with fail
        refine hK.out _ _ hk55.out (fun hHeld => ?_)
        clear hK K hHeld
        try simp only [Act.put, List.setIfInBounds_toArray, List.set_cons_zero, List.set_cons_succ]
        refine wpAnyH_ready (rs := [11]) (by kernel_rfl) (by simp) ?_
        refine (AllReadyH.cons (o := { dst := some 49, op := Op.call { callee := Callee.value (Operand.func 65), args := #[Operand.tmp 44, Operand.tmp 46, Operand.tmp 48], argTypes := #[27, 23, 4] }, type := 23, pos := "law.go:67", after := #[{ on := 6, ground := Ground.data }, { on := 8, ground := Ground.data }, { on := 10, ground := Ground.data }, { on := 5, ground := Ground.chain }], guard := none }) rfl (fun K hK => ?_) AllReadyH.nil)
        go_simp
        refine (hcor.out _ _ _ _ hb55.out).mono ?_
        rintro x y56 ⟨b0, b1, rfl, b2⟩
        have hk56 := hid (hk55.out.below b2)
        have hb56 : Hid (Below w.heap.size w y56) := hb55.out.trans (b2.mono hb55.out.size)
        have hP56 := hid ((b2.block _ (Array.getElem?_eq_some_iff.1 hP55.out).1).trans hP55.out)
        have hQ56 := hid ((b2.block _ (Array.getElem?_eq_some_iff.1 hQ55.out).1).trans hQ55.out)
        clear b2
        try go_wp2_with fail
        refine hK.out _ _ hk56.out (fun hHeld => ?_)
        clear hK K hHeld
        try simp only [Act.put, List.setIfInBounds_toArray, List.set_cons_zero, List.set_cons_succ]
        refine wpAnyH_ready (rs := [14]) (by kernel_rfl) (by simp) ?_
        refine (AllReadyH.cons (o := { dst := none, op := Op.store 23 (Operand.tmp 11) (Operand.tmp 43), type := 0, pos := "law.go:67", after := #[{ on := 12, ground := Ground.data }, { on := 5, ground := Ground.data }, { on := 11, ground := Ground.chain }, { on := 0, ground := Ground.phase }, { on := 1, ground := Ground.phase }, { on := 2, ground := Ground.phase }, { on := 3, ground := Ground.phase }, { on := 4, ground := Ground.phase }, { on := 5, ground := Ground.phase }, { on := 6, ground := Ground.textOnly Departure.lateStores }, { on := 7, ground := Ground.textOnly Departure.lateStores }, { on := 8, ground := Ground.textOnly Departure.lateStores }, { on := 9, ground := Ground.textOnly Departure.lateStores }, { on := 10, ground := Ground.textOnly Departure.lateStores }, { on := 11, ground := Ground.textOnly Departure.lateStoresUnsure }, { on := 12, ground := Ground.phase }, { on := 13, ground := Ground.phase }], guard := none }) rfl (fun K hK => ?_) AllReadyH.nil)
        obtain ⟨z1, z2, z3, z4⟩ := blk2 hP56.out
        go_simp
        try go_wp2_with fail
        refine hK.out _ _ (hk56.out.set2 hlP _ _) (fun hHeld => ?_)
        clear hK K hHeld z1 z2 z3 z4
        try simp only [Act.put, List.setIfInBounds_toArray, List.set_cons_zero, List.set_cons_succ]
        obtain ⟨y57, hy⟩ : ∃ y, (y56.setCell ⟨y44.heap.size, 0, none⟩ (.int .i64 a0)).setCell ⟨y44.heap.size, 1, none⟩ (.int .i64 a1) = y := ⟨_, rfl⟩
        have hb57 : Hid (Below w.heap.size w y57) := by rw [← hy]; exact hid (below2 hb56.out (by omega) _ _)
        have hk57 : Hid (Dk w.heap.size F (.slice ad V cap) ⟨qk, qe, qa0, qa1, qb0, qb1⟩ y57) := by rw [← hy]; exact hid (hk56.out.set2 hlP _ _)
        have hP57 : Hid (y57.heap[y44.heap.size]? = some (.cells #[.int .i64 a0, .int .i64 a1] 23 (0, 0))) := by rw [← hy]; exact hid (set2_block hP56.out _ _)
        have hQ57 : Hid (y57.heap[y0.heap.size]? = some zp) := by rw [← hy, Below.heap_setCell _ _ _ _ (by show y0.heap.size ≠ y44.heap.size; omega), Below.heap_setCell _ _ _ _ (by show y0.heap.size ≠ y44.heap.size; omega)]; exact hQ56
        rw [hy]
        clear hy
        refine wpAnyH_ready (rs := [15]) (by kernel_rfl) (by simp) ?_
        refine (AllReadyH.cons (o := { dst := none, op := Op.store 23 (Operand.tmp 12) (Operand.tmp 49), type := 0, pos := "law.go:67", after := #[{ on := 13, ground := Ground.data }, { on := 11, ground := Ground.data }, { on := 14, ground := Ground.chain }, { on := 0, ground := Ground.phase }, { on := 1, ground := Ground.phase }, { on := 2, ground := Ground.phase }, { on := 3, ground := Ground.phase }, { on := 4, ground := Ground.phase }, { on := 5, ground := Ground.phase }, { on := 6, ground := Ground.phase }, { on := 7, ground := Ground.phase }, { on := 8, ground := Ground.phase }, { on := 9, ground := Ground.phase }, { on := 10, ground := Ground.phase }, { on := 11, ground := Ground.phase }, { on := 12, ground := Ground.phase }, { on := 13, ground := Ground.phase }, { on := 14, ground := Ground.phase }], guard := none }) rfl (fun K hK => ?_) AllReadyH.nil)
        obtain ⟨z1, z2, z3, z4⟩ := blk2 hQ57.out
        go_simp
        try go_wp2_with fail
        refine hK.out _ _ (hk57.out.set2 hlQ _ _) (fun hHeld => ?_)
        clear hK K hHeld z1 z2 z3 z4
        try simp only [Act.put, List.setIfInBounds_toArray, List.set_cons_zero, List.set_cons_succ]
        obtain ⟨y58, hy⟩ : ∃ y, (y57.setCell ⟨y0.heap.size, 0, none⟩ (.int .i64 b0)).setCell ⟨y0.heap.size, 1, none⟩ (.int .i64 b1) = y := ⟨_, rfl⟩
        have hb58 : Hid (Below w.heap.size w y58) := by rw [← hy]; exact hid (below2 hb57.out (by omega) _ _)
        have hk58 : Hid (Dk w.heap.size F (.slice ad V cap) ⟨qk, qe, qa0, qa1, qb0, qb1⟩ y58) := by rw [← hy]; exact hid (hk57.out.set2 hlQ _ _)
        have hQ58 : Hid (y58.heap[y0.heap.size]? = some (.cells #[.int .i64 b0, .int .i64 b1] 23 (0, 0))) := by rw [← hy]; exact hid (set2_block hQ57.out _ _)
        have hP58 : Hid (y58.heap[y44.heap.size]? = some (.cells #[.int .i64 a0, .int .i64 a1] 23 (0, 0))) := by rw [← hy, Below.heap_setCell _ _ _ _ (by show y44.heap.size ≠ y0.heap.size; omega), Below.heap_setCell _ _ _ _ (by show y44.heap.size ≠ y0.heap.size; omega)]; exact hP57
        rw [hy]
        clear hy
        refine wpAnyH_done (by kernel_rfl) ?_ _
        refine NoPanic.normal ?_
        go_wp2_with fail
        go_meet
        case rel => exact ⟨_, _, a0, a1, b0, b1, rfl, rfl, hb58.out, hk58.out, hP58.out, hQ58.out⟩
  case rest =>
    obtain ⟨P, Q, a0, a1, b0, b1, rfl, rfl, hst⟩ := hcut
    clear hk hb1 hcor k1 k2 k3 k4 k5 p0 p1 hsz
    obtain ⟨R', c, r, htt, hr, hl1, hl2⟩ := hboth.out a0 a1 b0 b1
    have hnum := hid (fun y hy => num_any r c y hy hr)
    replace hl1 := hid hl1
    replace hl2 := hid hl2
    clear hboth hr
    obtain ⟨x0, x1, _, _⟩ := blk2 hst.out.2.1.1
    obtain ⟨_, k1, _, _, _, _⟩ := hst.out.2.1.act
    obtain ⟨u0, u1, _, _⟩ := blk2 hst.out.2.2.1
    obtain ⟨v0, v1, _, _⟩ := blk2 hst.out.2.2.2
    go_wp2_with fail
    refine (hl1.out _ hst.out.1).mono ?_
    rintro x w2 ⟨xv', rfl, hx2, b2⟩
    have hx2' := hx2
    obtain ⟨lv', rfl, ad', cap', rfl, _⟩ := hx2'
    have hk2 := hid (hst.out.2.1.below b2)
    have hP2 := hid ((b2.block _ (Array.getElem?_eq_some_iff.1 hst.out.2.2.1).1).trans hst.out.2.2.1)
    have hQ2 := hid ((b2.block _ (Array.getElem?_eq_some_iff.1 hst.out.2.2.2).1).trans hst.out.2.2.2)
    have hb2 : Hid (Below w.heap.size w w2) := hst.out.1.trans (b2.mono hst.out.1.size)
    have hnew := hid (heap_alloc_new w2 (.cells #[.int .i64 (F : Int), .slice ad' V cap'] 27))
    have hk3 := hid (hk2.out.below (balloc w2 (.cells #[.int .i64 (F : Int), .slice ad' V cap'] 27)))
    have hP3 := hid (al_keep (o' := .cells #[.int .i64 (F : Int), .slice ad' V cap'] 27) hP2.out)
    have hQ3 := hid (al_keep (o' := .cells #[.int .i64 (F : Int), .slice ad' V cap'] 27) hQ2.out)
    have hb3 := hid (hb2.out.alloc hb2.out.size (.cells #[.int .i64 (F : Int), .slice ad' V cap'] 27))
    have hx3 := hid (hx2.below (balloc w2 (.cells #[.int .i64 (F : Int), .slice ad' V cap'] 27)))
    have hs2 : w.heap.size + 3 ≤ w2.heap.size := by have := (Array.getElem?_eq_some_iff.1 hk2.out.2.2).1; omega
    obtain ⟨w3, hw3⟩ : ∃ w3, w2.alloc (.cells #[.int .i64 (F : Int), .slice ad' V cap'] 27) = w3 := ⟨_, rfl⟩
    rw [hw3] at hnew hk3 hb3 hx3 hP3 hQ3
    replace hw3 := hid hw3
    clear b2 hx2 x0 x1 k1 u0 u1 v0 v1 hst hk2 hP2 hQ2 hl1
    obtain ⟨_, e1, _, _, _, _⟩ := hk3.out.act
    obtain ⟨n0, n1, _, _⟩ := blk2 hnew.out
    obtain ⟨u0, u1, _, _⟩ := blk2 hP3.out
    obtain ⟨v0, v1, _, _⟩ := blk2 hQ3.out
    go_upto_region 7 with fail
    rw [hw3.out]
    clear hw3
    go_wp2_with fail
    refine (hl2.out _ (hta.out.more hb3.out)).mono ?_
    rintro x w4 ⟨rfl, a4, kp4⟩
    have hk4 := hid (Dk.kp hk3.out kp4)
    have hK4 : Hid (Kp lo w w4) := (Kp.ofBelow hb3.out lo).trans kp4
    have hnew4 := hid ((kp4.keep (k := w2.heap.size) ⟨_, _, hnew.out⟩ (by decide) (by decide) (by decide)).trans hnew.out)
    have hx4 := hid (hx3.out.al kp4.al)
    replace a4 := hid a4
    clear kp4 hl2 e1 n0 n1 u0 u1 v0 v1 hk3 hnew hP3 hQ3 hx3 hb3
    obtain ⟨m0, m1, _, _⟩ := blk2 hnew4.out
    go_upto_region 8 with fail
    go_region_held3 (fun y => y.cell? ⟨w2.heap.size, 0, none⟩ = some (.int .i64 (F : Int)) ∧ y.cell? ⟨w2.heap.size, 1, none⟩ = some (.slice ad' V cap')) (first | exact ⟨m0, m1⟩ | exact ⟨o0, o1⟩ | exact ⟨(cell_set2 (by show w2.heap.size ≠ w.heap.size + 1 + 1; omega) _ _).trans o0, (cell_set2 (by show w2.heap.size ≠ w.heap.size + 1 + 1; omega) _ _).trans o1⟩ | go_keep) ((first
      | (go_at_call 12; refine (hnum.out _ (hg.out.kp hK4.out.drew hlo)).mono ?_; rintro x w5 ⟨rfl, b5⟩; have hk5 := hid (Dk.below (y := w4.drew) hk4.out b5); have hK5 : Hid (Kp lo w w5) := hK4.out.drew.trans (Kp.ofBelow b5 lo); have hnew5 := hid ((b5.block _ (Array.getElem?_eq_some_iff.1 hnew4.out).1).trans hnew4.out); have hx5 := hid ((hx4.out.below (Below.refl _ _).drew).below b5); have a5 := hid ((a4.out.more (Below.refl _ _).drew).more b5); obtain ⟨o0, o1, _, _⟩ := blk2 hnew5.out; obtain ⟨y1, y2, y3, y4⟩ := blk2 hk5.out.2.2; clear b5 hnum)))
    have hfin := hid (set2_block hk5.out.2.2 (.int .i64 (F : Int)) (.slice ad' V cap'))
    have hF : Hid (Bo ((w5.setCell ⟨w.heap.size + 2, 0, none⟩ (.int .i64 (F : Int))).setCell ⟨w.heap.size + 2, 1, none⟩ (.slice ad' V cap')) lo tb (.agg #[.int .i64 (F : Int), .slice ad' V cap']) V E F R') := ⟨a5.out.set2 ⟨_, _, hk5.out.2.2⟩ _ _, hx5.out.al (set2_al hk5.out.2.2 _ _), htt.1, htt.2, hle⟩
    have hKF := hid (hK5.out.set2 (g := w.heap.size + 2) (by omega) (.int .i64 (F : Int)) (.slice ad' V cap'))
    go_wp2_with fail
    refine bodyPost_ret (results_cell2 rfl _ _ (w.heap.size + 2) 27 _ (0, 0) _ rfl hfin.out Tryz.underlying27 rfl (by kernel_rfl)) rfl ?_
    exact ⟨_, R', by simp, hF.out, hKF.out⟩

theorem do_ok {w : World} {lo tb V E F : Nat} {xv : Value} {R : Nat → List Nat} (h : Bo w lo tb xv V E F R) (q : Ac) (hg : Handle w) (hlo : 0 < lo) (hV1 : 1 ≤ V) (hV : V ≤ 1000) (hE : F ≤ 100) (hef : (q.e < 0 ∨ (E : Int) ≤ q.e) ∨ q.e < (F : Int)) :
    Calls Tryz.prog 32 #[.pointer (some ⟨tb, 0, none⟩), xv, acv q] w fun x w' => ∃ xv' R', x = .returned (.tuple #[xv', .bool true]) ∧ Bo w' lo tb xv' V E F R' ∧ Kp lo w w' := by
  obtain ⟨κ, hκ, hlt, _⟩ := mod_inN q.k 12 (by decide) (by decide)
  rcases Nat.lt_or_ge 9 κ with h9 | h9
  · exact do_lift h q κ hκ h9 hlt hg hlo hV hE hef
  · exact do_lay h q κ hκ h9 hg hlo hV1 hV hE hef

end Go.Proofs.YtghpjljnbdjmaaaGreatDoor
