/- The document's Encode, walked. The law ModelEncodes, walked. -/
import Derived.Test.YtboafgimjadboaaGreatDoorBlaw
import Derived.Test.YtboafgimjadboaaGreatDoorBrr
import Derived.Test.YtboafgimjadboaaGreatDoorEncode17
import Derived.Test.YtboafgimjadboaaGreatDoorRegion
import Derived.Test.YtboafgimjadboaaGreatDoorWiRPut
import Derived.BigQuiet
namespace Go.Proofs.YtboafgimjadboaaGreatDoor
open Go.RowKit
set_option linter.unusedVariables false
open Wi (be be_length bc)

/-- A slice of bytes, to be read. -/
def Bs (w : World) (v : Value) (l : List UInt8) : Prop := ∃ ad cap, v = .slice ad l.length cap ∧ Wi.Bytes w ad cap l
theorem Bs.below {w w' : World} {v : Value} {l : List UInt8} (h : Bs w v l) (hb : Below w.heap.size w w') : Bs w' v l := by
  obtain ⟨ad, cap, e, hy⟩ := h
  exact ⟨ad, cap, e, hy.below hb⟩
theorem Bs.nil (w : World) : Bs w (.slice none 0 0) [] := ⟨none, 0, rfl, Wi.Bytes.none w⟩
theorem rput_at {w : World} {v : Value} {l : List UInt8} (h : Bs w v l) (hl : l.length ≤ 900000) {x n : Int} (V N : Nat) (hx : x = (V : Int)) (hn : n = (N : Int)) (h1 : 1 ≤ N) (h8 : N ≤ 8) (hV : V < 18446744073709551616) :
    Calls Tryz.prog 39 #[v, .int .u64 x, .int .i64 n] w fun e w' => ∃ v', e = .returned v' ∧ Bs w' v' (l ++ be N V) ∧ Below w.heap.size w w' := by
  obtain ⟨ad, cap, rfl, hb⟩ := h
  subst hx hn
  refine (Wi.rput_ok ad cap l V N w hb (by omega) h1 h8 hV).mono ?_
  rintro e w' ⟨ad', cap', rfl, hb', b⟩
  exact ⟨_, rfl, ⟨ad', cap', by rw [List.length_append, be_length], hb'⟩, b⟩

theorem encP_nat {q : Int × Int} {Q P : Nat} (h1 : q.1 = (Q : Int)) (h2 : q.2 = (P : Int)) : encP q = be 4 Q ++ be 1 P := by
  unfold encP
  rw [h1, h2]; rfl
theorem Pn.nat {q : Int × Int} (h : Pn q) : ∃ Q P : Nat, q.1 = (Q : Int) ∧ q.2 = (P : Int) ∧ Q < 4294967296 ∧ P < 256 := by
  obtain ⟨p1, p2, p3, p4⟩ := h
  exact ⟨q.1.toNat, q.2.toNat, by omega, by omega, by omega, by omega⟩

set_option maxRecDepth 100000 in
set_option maxHeartbeats 4000000 in
theorem rencode_ok {w : World} {vv ev lv : Value} {m : Mo} (hm : Mp w vv ev lv m) (hr : Rn m) (hvl : m.vs.length ≤ 40) (hel : m.es.length ≤ 40) :
    Calls Tryz.prog 18 #[.agg #[.int .i64 m.n, vv, ev, lv]] w fun e w' => Below w.heap.size w w' ∧ ∃ v', e = .returned v' ∧ Bs w' v' (enc m) := by
  obtain ⟨va, vn, vc, rfl, hV, _, _, _⟩ := hm.vs
  obtain ⟨ea, en, ec, rfl, hE, _, _, _⟩ := hm.es
  obtain ⟨la, ln, lc, rfl, hL, _, _⟩ := hm.l
  obtain ⟨N, hN⟩ : ∃ N : Nat, m.n = (N : Int) := ⟨m.n.toNat, by have := hr.n0; omega⟩
  have hN4 : N < 4294967296 := by have := hr.n1; omega
  have hvn := hid hV.len
  have hen := hid hE.len
  have hln := hid hL.len
  rw [hV.len] at hvl
  rw [hE.len] at hel
  rw [hN]
  replace hN := hid hN
  replace hr := hid hr
  obtain ⟨w1, hw1⟩ : ∃ w1, w.alloc (.cells #[.int .i64 (N : Int), .slice va vn vc, .slice ea en ec, .slice la ln lc] 25) = w1 := ⟨_, rfl⟩
  have hb1 := balloc w (.cells #[.int .i64 (N : Int), .slice va vn vc, .slice ea en ec, .slice la ln lc] 25)
  have hcs := boxd w (N : Int) (.slice va vn vc) (.slice ea en ec) (.slice la ln lc) 25
  obtain ⟨A, hA⟩ : ∃ A, w.heap.size = A := ⟨_, rfl⟩
  rw [hw1] at hb1 hcs
  rw [hA] at hcs
  replace hw1 := hid hw1
  replace hb1 := hid hb1
  replace hA := hid hA
  have hwN := wu64 N (by omega)
  have hwv := wu64 vn (by omega)
  have hwe := wu64 en (by omega)
  replace hV := hid (fun (y : World) (hy : Below w1.heap.size w1 y) => hV.below (hb1.out.trans (hy.mono hb1.out.size)))
  replace hE := hid (fun (y : World) (hy : Below w1.heap.size w1 y) => hE.below (hb1.out.trans (hy.mono hb1.out.size)))
  replace hL := hid (fun (y : World) (hy : Below w1.heap.size w1 y) => hL.below (hb1.out.trans (hy.mono hb1.out.size)))
  clear hm
  go_enter Tryz.func18, Tryz.ntmps18
  go_upto_region 1 with fail
  rw [hw1.out, hA.out]
  generalize hwz : w1 = wz
  have hzz := hid (show Below w1.heap.size w1 wz by rw [← hwz]; exact Below.refl _ _)
  clear hwz
  have hll : Hid (([] : List UInt8).length ≤ 6000) := by show _ ≤ _; simp
  have hS := hid (fun (y : World) (hy : Below wz.heap.size wz y) => (show y.cell? ⟨A, 0, none⟩ = some (.int .i64 (N : Int)) ∧ y.cell? ⟨A, 1, none⟩ = some (.slice va vn vc) by
    obtain ⟨a0, a1, a2, a3⟩ := hcs.out y (hzz.out.trans (hy.mono hzz.out.size))
    exact ⟨a0, a1⟩))
  refine wp_region_noPanic ?_
  refine wp_region_held_drew (S := fun w' => w'.cell? ⟨A, 0, none⟩ = some (.int .i64 (N : Int)) ∧ w'.cell? ⟨A, 1, none⟩ = some (.slice va vn vc)) (by kernel_rfl) (hS.out _ (Below.refl wz.heap.size wz).drew) (fun hHeld => ?_)
  generalize hx0 : wz.drew = x0 at hHeld ⊢
  have bx0 : Below wz.heap.size wz x0 := by rw [← hx0]; exact (Below.refl _ _).drew
  have hy0 := hid (Bs.below (Bs.nil _) bx0)
  clear hx0
  refine takeH (i := 0) (v := ?_) (a' := ?_) ({ dst := some 7, op := Op.fieldAddr 25 (Operand.tmp 1) 0, type := 0, pos := "ref.go:113", after := #[], guard := none }) rfl (by kernel_rfl) (by kernel_rfl) (by kernel_rfl) (fun _ _ _ h => h) (by rfl) ?_ hHeld ?_ ?_
  rotate_left 2
  · (intro w' hSw; obtain ⟨q0, q1⟩ := hSw; go_simp; try with_reducible rfl)
  · (simp only [Act.put, List.setIfInBounds_toArray, List.set_cons_zero, List.set_cons_succ]; try rfl)
  refine takeH (i := 1) (v := ?_) (a' := ?_) ({ dst := some 8, op := Op.load 3 (Operand.tmp 7), type := 3, pos := "ref.go:113", after := #[{ on := 0, ground := Ground.data }], guard := none }) rfl (by kernel_rfl) (by kernel_rfl) (by kernel_rfl) (fun _ _ _ h => h) (by rfl) ?_ hHeld ?_ ?_
  rotate_left 2
  · (intro w' hSw; obtain ⟨q0, q1⟩ := hSw; go_simp; try with_reducible rfl)
  · (simp only [Act.put, List.setIfInBounds_toArray, List.set_cons_zero, List.set_cons_succ]; try rfl)
  refine takeH (i := 2) (v := ?_) (a' := ?_) ({ dst := some 9, op := Op.convert 3 90 (Operand.tmp 8), type := 90, pos := "ref.go:113", after := #[{ on := 1, ground := Ground.data }], guard := none }) rfl (by kernel_rfl) (by kernel_rfl) (by kernel_rfl) (fun _ _ _ h => h) (by rfl) ?_ hHeld ?_ ?_
  rotate_left 2
  · (intro w' hSw; obtain ⟨q0, q1⟩ := hSw; go_simp; try with_reducible rfl)
  · (simp only [Act.put, List.setIfInBounds_toArray, List.set_cons_zero, List.set_cons_succ]; try rfl)
  refine takeH (i := 4) (v := ?_) (a' := ?_) ({ dst := some 11, op := Op.fieldAddr 25 (Operand.tmp 1) 1, type := 0, pos := "ref.go:113", after := #[], guard := none }) rfl (by kernel_rfl) (by kernel_rfl) (by kernel_rfl) (fun _ _ _ h => h) (by rfl) ?_ hHeld ?_ ?_
  rotate_left 2
  · (intro w' hSw; obtain ⟨q0, q1⟩ := hSw; go_simp; try with_reducible rfl)
  · (simp only [Act.put, List.setIfInBounds_toArray, List.set_cons_zero, List.set_cons_succ]; try rfl)
  refine takeH (i := 5) (v := ?_) (a' := ?_) ({ dst := some 12, op := Op.load 22 (Operand.tmp 11), type := 22, pos := "ref.go:113", after := #[{ on := 4, ground := Ground.data }], guard := none }) rfl (by kernel_rfl) (by kernel_rfl) (by kernel_rfl) (fun _ _ _ h => h) (by rfl) ?_ hHeld ?_ ?_
  rotate_left 2
  · (intro w' hSw; obtain ⟨q0, q1⟩ := hSw; go_simp; try with_reducible rfl)
  · (simp only [Act.put, List.setIfInBounds_toArray, List.set_cons_zero, List.set_cons_succ]; try rfl)
  refine takeH (i := 6) (v := ?_) (a' := ?_) ({ dst := some 13, op := Op.call { callee := Callee.builtin Builtin.len, args := #[Operand.tmp 12], argTypes := #[22] }, type := 3, pos := "ref.go:113", after := #[{ on := 5, ground := Ground.data }], guard := none }) rfl (by kernel_rfl) (by kernel_rfl) (by kernel_rfl) (fun _ _ _ h => h) (by rfl) ?_ hHeld ?_ ?_
  rotate_left 2
  · (intro w' hSw; obtain ⟨q0, q1⟩ := hSw; go_simp; try with_reducible rfl)
  · (simp only [Act.put, List.setIfInBounds_toArray, List.set_cons_zero, List.set_cons_succ]; try rfl)
  refine takeH (i := 7) (v := ?_) (a' := ?_) ({ dst := some 14, op := Op.convert 3 90 (Operand.tmp 13), type := 90, pos := "ref.go:113", after := #[{ on := 6, ground := Ground.data }], guard := none }) rfl (by kernel_rfl) (by kernel_rfl) (by kernel_rfl) (fun _ _ _ h => h) (by rfl) ?_ hHeld ?_ ?_
  rotate_left 2
  · (intro w' hSw; obtain ⟨q0, q1⟩ := hSw; go_simp; try with_reducible rfl)
  · (simp only [Act.put, List.setIfInBounds_toArray, List.set_cons_zero, List.set_cons_succ]; try rfl)
  refine wpAnyH_ready (rs := [3]) (by kernel_rfl) (by simp) ?_
  refine AllReadyH.cons (o := { dst := some 10, op := Op.call { callee := Callee.value (Operand.func 39), args := #[Operand.const (Value.slice none 0 0), Operand.tmp 9, Operand.const (Value.int IntKind.i64 4)], argTypes := #[43, 90, 3] }, type := 43, pos := "ref.go:113", after := #[{ on := 2, ground := Ground.data }], guard := none }) rfl (fun K hK => ?_) AllReadyH.nil
  go_simp
  refine (rput_at hy0.out (by have := hll.out; omega) N 4 rfl rfl (by omega) (by omega) (by omega)).mono ?_
  rintro e x1 ⟨u1, rfl, hu1, b01⟩
  have bx1 := bx0.trans (b01.mono bx0.size)
  replace hu1 := hid hu1
  go_wp2_with fail
  refine hK.out _ _ (hS.out _ bx1) (fun hHeld => ?_)
  clear hK K
  try simp only [Act.put, List.setIfInBounds_toArray, List.set_cons_zero, List.set_cons_succ]
  refine wpAnyH_ready (rs := [8]) (by kernel_rfl) (by simp) ?_
  refine AllReadyH.cons (o := { dst := some 15, op := Op.call { callee := Callee.value (Operand.func 39), args := #[Operand.tmp 10, Operand.tmp 14, Operand.const (Value.int IntKind.i64 4)], argTypes := #[43, 90, 3] }, type := 43, pos := "ref.go:113", after := #[{ on := 3, ground := Ground.data }, { on := 7, ground := Ground.data }, { on := 3, ground := Ground.chain }], guard := none }) rfl (fun K hK => ?_) AllReadyH.nil
  go_simp
  refine (rput_at hu1.out (by have := hll.out; simp only [List.length_append, be_length]; omega) vn 4 rfl rfl (by omega) (by omega) (by omega)).mono ?_
  rintro e x2 ⟨u2, rfl, hu2, b12⟩
  have bx2 := bx1.trans (b12.mono bx1.size)
  replace hu2 := hid hu2
  go_wp2_with fail
  refine hK.out _ _ (hS.out _ bx2) (fun hHeld => ?_)
  clear hK K
  try simp only [Act.put, List.setIfInBounds_toArray, List.set_cons_zero, List.set_cons_succ]
  refine takeH (i := 9) (v := ?_) (a' := ?_) ({ dst := some 3, op := Op.assign (Operand.tmp 15), type := 43, pos := "ref.go:113", after := #[{ on := 8, ground := Ground.data }, { on := 8, ground := Ground.chain }, { on := 0, ground := Ground.phase }, { on := 1, ground := Ground.phase }, { on := 2, ground := Ground.phase }, { on := 3, ground := Ground.phase }, { on := 4, ground := Ground.phase }, { on := 5, ground := Ground.phase }, { on := 6, ground := Ground.phase }, { on := 7, ground := Ground.phase }, { on := 8, ground := Ground.phase }], guard := none }) rfl (by kernel_rfl) (by kernel_rfl) (by kernel_rfl) (fun _ _ _ h => h) (by rfl) ?_ hHeld ?_ ?_
  rotate_left 2
  · (intro w' hSw; obtain ⟨q0, q1⟩ := hSw; go_simp; try with_reducible rfl)
  · (simp only [Act.put, List.setIfInBounds_toArray, List.set_cons_zero, List.set_cons_succ]; try rfl)
  refine wpAnyH_done (by kernel_rfl) ?_ _
  refine NoPanic.normal ?_
  replace bx2 := hid bx2
  clear bx0 bx1 b01 b12 hHeld hy0 hu1 hS 
  obtain ⟨hd, hhd⟩ : ∃ hd, be 4 N ++ be 4 vn = hd := ⟨_, rfl⟩
  have hhl : Hid (hd.length = 8) := by show _ = _; rw [← hhd]; simp [be_length]
  have hb3 : Hid (Bs x2 u2 (hd ++ (m.vs.take 0).flatMap encP)) := by
    have := hu2.out
    rw [List.nil_append, hhd] at this
    exact hid (by simpa using this)
  have hb3' := hid (hzz.out.trans (bx2.out.mono hzz.out.size))
  have hup := hid (fun (y : World) (hy : Below w1.heap.size w1 y) => hb1.out.trans (hy.mono hb1.out.size))
  replace hhd := hid hhd
  clear hu2 bx2 hll hzz hwN
  go_wp2_with fail
  go_loopw [3, 4] (fun u s4 wr => ∃ i : Nat, i ≤ vn ∧ s4 = .int .i64 (i : Int) ∧ Hid (Bs wr u (hd ++ (m.vs.take i).flatMap encP) ∧ Below w1.heap.size w1 wr)) (fun _ s4 _ => vn - (intOf s4).toNat)
  case atStart => exact ⟨0, by omega, by go_num, hb3.out, hb3'.out⟩
  case round =>
    obtain ⟨i, hi, rfl, hst⟩ := hrel
    clear hb3 hb3'
    obtain ⟨c0, c1, c2, c3⟩ := hcs.out wr hst.out.2
    rcases Nat.lt_or_ge i vn with hlt | hge
    · obtain ⟨q, hqi⟩ : ∃ q, m.vs[i]? = some q := ⟨_, List.getElem?_eq_getElem (by rw [hvn.out]; exact hlt)⟩
      obtain ⟨vb, vo, rfl, _, _⟩ := (hV.out w1 (Below.refl _ _)).cell i q hqi
      obtain ⟨Q, P, hQ, hP, hQ4, hP2⟩ := (hr.out.v q (List.mem_of_getElem? hqi)).nat
      have hS' := hid (fun (y : World) (hy : Below w1.heap.size w1 y) => (show y.cell? ⟨A, 1, none⟩ = some (.slice (some ⟨vb, vo, none⟩) vn vc) ∧ y.cell? ⟨vb, vo + i * 2, none⟩ = some (.int .u32 (Q : Int)) ∧ y.cell? ⟨vb, vo + i * 2 + 1, none⟩ = some (.int .i64 (P : Int)) by
        obtain ⟨vb', vo', e, a0, a1⟩ := (hV.out y hy).cell i q hqi
        simp only [Option.some.injEq, Addr.mk.injEq, and_true] at e
        obtain ⟨rfl, rfl⟩ := e
        rw [hQ] at a0
        rw [hP] at a1
        exact ⟨(hcs.out y hy).2.1, a0, a1⟩))
      have hep := encP_nat hQ hP
      have hnx : Hid (hd ++ (m.vs.take (i + 1)).flatMap encP = ((hd ++ (m.vs.take i).flatMap encP) ++ be 4 Q) ++ be 1 P) := by
        show _ = _
        rw [List.take_add_one, hqi]
        simp [hep]
      have hll : Hid ((hd ++ (m.vs.take i).flatMap encP).length ≤ 6000) := by
        have := fm_len (g := encP) (N := 5) (fun a => by rw [encP_len]; omega) (m.vs.take i)
        rw [List.length_take] at this
        show _ ≤ _
        rw [List.length_append, hhl.out]
        omega
      obtain ⟨lg, hlg⟩ : ∃ lg, hd ++ (m.vs.take i).flatMap encP = lg := ⟨_, rfl⟩
      rw [hlg] at hnx hll hst
      have hwQ := wu64 Q (by omega)
      have hwP := wu64 P (by omega)
      have j1 : (0 : Int) ≤ (i : Int) := by omega
      have j2 : (i : Int) < (vn : Int) := by omega
      clear hlg hep hQ hP hqi
      go_upto_region 5 with fail
      have hzz := hid hst.out.2
      have hbz := hid hst.out.1
      clear c0 c1 c2 c3
      have hS := hid (fun (y : World) (hy : Below wr.heap.size wr y) => hS'.out y (hzz.out.trans (hy.mono hzz.out.size)))
      clear hS' hst
      refine wp_region_noPanic ?_
      refine wp_region_held_drew (S := fun w' => w'.cell? ⟨A, 1, none⟩ = some (.slice (some ⟨vb, vo, none⟩) vn vc) ∧ w'.cell? ⟨vb, vo + i * 2, none⟩ = some (.int .u32 (Q : Int)) ∧ w'.cell? ⟨vb, vo + i * 2 + 1, none⟩ = some (.int .i64 (P : Int))) (by kernel_rfl) (hS.out _ (Below.refl wr.heap.size wr).drew) (fun hHeld => ?_)
      generalize hx0 : wr.drew = x0 at hHeld ⊢
      have bx0 : Below wr.heap.size wr x0 := by rw [← hx0]; exact (Below.refl _ _).drew
      have hy0 := hid (Bs.below hbz.out bx0)
      clear hx0
      refine takeH (i := 0) (v := ?_) (a' := ?_) ({ dst := some 23, op := Op.move (Operand.tmp 3), type := 43, pos := "ref.go:115", after := #[], guard := none }) rfl (by kernel_rfl) (by kernel_rfl) (by kernel_rfl) (fun _ _ _ h => h) (by rfl) ?_ hHeld ?_ ?_
      rotate_left 2
      · (intro w' hSw; obtain ⟨q0, q1, q2⟩ := hSw; go_simp; try with_reducible rfl)
      · (simp only [Act.put, List.setIfInBounds_toArray, List.set_cons_zero, List.set_cons_succ]; try rfl)
      refine takeH (i := 1) (v := ?_) (a' := ?_) ({ dst := some 24, op := Op.fieldAddr 25 (Operand.tmp 1) 1, type := 0, pos := "ref.go:115", after := #[], guard := none }) rfl (by kernel_rfl) (by kernel_rfl) (by kernel_rfl) (fun _ _ _ h => h) (by rfl) ?_ hHeld ?_ ?_
      rotate_left 2
      · (intro w' hSw; obtain ⟨q0, q1, q2⟩ := hSw; go_simp; try with_reducible rfl)
      · (simp only [Act.put, List.setIfInBounds_toArray, List.set_cons_zero, List.set_cons_succ]; try rfl)
      refine takeH (i := 2) (v := ?_) (a' := ?_) ({ dst := some 25, op := Op.load 22 (Operand.tmp 24), type := 22, pos := "ref.go:115", after := #[{ on := 1, ground := Ground.data }], guard := none }) rfl (by kernel_rfl) (by kernel_rfl) (by kernel_rfl) (fun _ _ _ h => h) (by rfl) ?_ hHeld ?_ ?_
      rotate_left 2
      · (intro w' hSw; obtain ⟨q0, q1, q2⟩ := hSw; go_simp; try with_reducible rfl)
      · (simp only [Act.put, List.setIfInBounds_toArray, List.set_cons_zero, List.set_cons_succ]; try rfl)
      refine takeH (i := 3) (v := ?_) (a' := ?_) ({ dst := some 26, op := Op.move (Operand.tmp 4), type := 3, pos := "ref.go:115", after := #[], guard := none }) rfl (by kernel_rfl) (by kernel_rfl) (by kernel_rfl) (fun _ _ _ h => h) (by rfl) ?_ hHeld ?_ ?_
      rotate_left 2
      · (intro w' hSw; obtain ⟨q0, q1, q2⟩ := hSw; go_simp; try with_reducible rfl)
      · (simp only [Act.put, List.setIfInBounds_toArray, List.set_cons_zero, List.set_cons_succ]; try rfl)
      refine takeH (i := 4) (v := ?_) (a' := ?_) ({ dst := some 27, op := Op.indexAddr 22 (Operand.tmp 25) (Operand.tmp 26), type := 0, pos := "ref.go:115", after := #[{ on := 2, ground := Ground.data }, { on := 3, ground := Ground.data }], guard := none }) rfl (by kernel_rfl) (by kernel_rfl) (by kernel_rfl) (fun _ _ _ h => h) (by rfl) ?_ hHeld ?_ ?_
      rotate_left 2
      · (intro w' hSw; obtain ⟨q0, q1, q2⟩ := hSw; go_simp; try with_reducible rfl)
      · (simp only [Act.put, List.setIfInBounds_toArray, List.set_cons_zero, List.set_cons_succ]; try rfl)
      refine takeH (i := 5) (v := ?_) (a' := ?_) ({ dst := some 28, op := Op.fieldAddr 58 (Operand.tmp 27) 0, type := 0, pos := "ref.go:115", after := #[{ on := 4, ground := Ground.data }], guard := none }) rfl (by kernel_rfl) (by kernel_rfl) (by kernel_rfl) (fun _ _ _ h => h) (by rfl) ?_ hHeld ?_ ?_
      rotate_left 2
      · (intro w' hSw; obtain ⟨q0, q1, q2⟩ := hSw; go_simp; try with_reducible rfl)
      · (simp only [Act.put, List.setIfInBounds_toArray, List.set_cons_zero, List.set_cons_succ]; try rfl)
      refine takeH (i := 6) (v := ?_) (a' := ?_) ({ dst := some 29, op := Op.load 56 (Operand.tmp 28), type := 56, pos := "ref.go:115", after := #[{ on := 5, ground := Ground.data }], guard := none }) rfl (by kernel_rfl) (by kernel_rfl) (by kernel_rfl) (fun _ _ _ h => h) (by rfl) ?_ hHeld ?_ ?_
      rotate_left 2
      · (intro w' hSw; obtain ⟨q0, q1, q2⟩ := hSw; go_simp; try with_reducible rfl)
      · (simp only [Act.put, List.setIfInBounds_toArray, List.set_cons_zero, List.set_cons_succ]; try rfl)
      refine takeH (i := 7) (v := ?_) (a' := ?_) ({ dst := some 30, op := Op.convert 56 90 (Operand.tmp 29), type := 90, pos := "ref.go:115", after := #[{ on := 6, ground := Ground.data }], guard := none }) rfl (by kernel_rfl) (by kernel_rfl) (by kernel_rfl) (fun _ _ _ h => h) (by rfl) ?_ hHeld ?_ ?_
      rotate_left 2
      · (intro w' hSw; obtain ⟨q0, q1, q2⟩ := hSw; go_simp; try with_reducible rfl)
      · (simp only [Act.put, List.setIfInBounds_toArray, List.set_cons_zero, List.set_cons_succ]; try rfl)
      refine takeH (i := 9) (v := ?_) (a' := ?_) ({ dst := some 32, op := Op.fieldAddr 25 (Operand.tmp 1) 1, type := 0, pos := "ref.go:115", after := #[], guard := none }) rfl (by kernel_rfl) (by kernel_rfl) (by kernel_rfl) (fun _ _ _ h => h) (by rfl) ?_ hHeld ?_ ?_
      rotate_left 2
      · (intro w' hSw; obtain ⟨q0, q1, q2⟩ := hSw; go_simp; try with_reducible rfl)
      · (simp only [Act.put, List.setIfInBounds_toArray, List.set_cons_zero, List.set_cons_succ]; try rfl)
      refine takeH (i := 10) (v := ?_) (a' := ?_) ({ dst := some 33, op := Op.load 22 (Operand.tmp 32), type := 22, pos := "ref.go:115", after := #[{ on := 9, ground := Ground.data }], guard := none }) rfl (by kernel_rfl) (by kernel_rfl) (by kernel_rfl) (fun _ _ _ h => h) (by rfl) ?_ hHeld ?_ ?_
      rotate_left 2
      · (intro w' hSw; obtain ⟨q0, q1, q2⟩ := hSw; go_simp; try with_reducible rfl)
      · (simp only [Act.put, List.setIfInBounds_toArray, List.set_cons_zero, List.set_cons_succ]; try rfl)
      refine takeH (i := 11) (v := ?_) (a' := ?_) ({ dst := some 34, op := Op.move (Operand.tmp 4), type := 3, pos := "ref.go:115", after := #[], guard := none }) rfl (by kernel_rfl) (by kernel_rfl) (by kernel_rfl) (fun _ _ _ h => h) (by rfl) ?_ hHeld ?_ ?_
      rotate_left 2
      · (intro w' hSw; obtain ⟨q0, q1, q2⟩ := hSw; go_simp; try with_reducible rfl)
      · (simp only [Act.put, List.setIfInBounds_toArray, List.set_cons_zero, List.set_cons_succ]; try rfl)
      refine takeH (i := 12) (v := ?_) (a' := ?_) ({ dst := some 35, op := Op.indexAddr 22 (Operand.tmp 33) (Operand.tmp 34), type := 0, pos := "ref.go:115", after := #[{ on := 10, ground := Ground.data }, { on := 11, ground := Ground.data }], guard := none }) rfl (by kernel_rfl) (by kernel_rfl) (by kernel_rfl) (fun _ _ _ h => h) (by rfl) ?_ hHeld ?_ ?_
      rotate_left 2
      · (intro w' hSw; obtain ⟨q0, q1, q2⟩ := hSw; go_simp; try with_reducible rfl)
      · (simp only [Act.put, List.setIfInBounds_toArray, List.set_cons_zero, List.set_cons_succ]; try rfl)
      refine takeH (i := 13) (v := ?_) (a' := ?_) ({ dst := some 36, op := Op.fieldAddr 58 (Operand.tmp 35) 1, type := 0, pos := "ref.go:115", after := #[{ on := 12, ground := Ground.data }], guard := none }) rfl (by kernel_rfl) (by kernel_rfl) (by kernel_rfl) (fun _ _ _ h => h) (by rfl) ?_ hHeld ?_ ?_
      rotate_left 2
      · (intro w' hSw; obtain ⟨q0, q1, q2⟩ := hSw; go_simp; try with_reducible rfl)
      · (simp only [Act.put, List.setIfInBounds_toArray, List.set_cons_zero, List.set_cons_succ]; try rfl)
      refine takeH (i := 14) (v := ?_) (a' := ?_) ({ dst := some 37, op := Op.load 3 (Operand.tmp 36), type := 3, pos := "ref.go:115", after := #[{ on := 13, ground := Ground.data }], guard := none }) rfl (by kernel_rfl) (by kernel_rfl) (by kernel_rfl) (fun _ _ _ h => h) (by rfl) ?_ hHeld ?_ ?_
      rotate_left 2
      · (intro w' hSw; obtain ⟨q0, q1, q2⟩ := hSw; go_simp; try with_reducible rfl)
      · (simp only [Act.put, List.setIfInBounds_toArray, List.set_cons_zero, List.set_cons_succ]; try rfl)
      refine takeH (i := 15) (v := ?_) (a' := ?_) ({ dst := some 38, op := Op.convert 3 90 (Operand.tmp 37), type := 90, pos := "ref.go:115", after := #[{ on := 14, ground := Ground.data }], guard := none }) rfl (by kernel_rfl) (by kernel_rfl) (by kernel_rfl) (fun _ _ _ h => h) (by rfl) ?_ hHeld ?_ ?_
      rotate_left 2
      · (intro w' hSw; obtain ⟨q0, q1, q2⟩ := hSw; go_simp; try with_reducible rfl)
      · (simp only [Act.put, List.setIfInBounds_toArray, List.set_cons_zero, List.set_cons_succ]; try rfl)
      refine wpAnyH_ready (rs := [8]) (by kernel_rfl) (by simp) ?_
      refine AllReadyH.cons (o := { dst := some 31, op := Op.call { callee := Callee.value (Operand.func 39), args := #[Operand.tmp 23, Operand.tmp 30, Operand.const (Value.int IntKind.i64 4)], argTypes := #[43, 90, 3] }, type := 43, pos := "ref.go:115", after := #[{ on := 0, ground := Ground.data }, { on := 7, ground := Ground.data }], guard := none }) rfl (fun K hK => ?_) AllReadyH.nil
      go_simp
      refine (rput_at hy0.out (by have := hll.out; omega) Q 4 rfl rfl (by omega) (by omega) (by omega)).mono ?_
      rintro e x1 ⟨u1, rfl, hu1, b01⟩
      have bx1 := bx0.trans (b01.mono bx0.size)
      replace hu1 := hid hu1
      go_wp2_with fail
      refine hK.out _ _ (hS.out _ bx1) (fun hHeld => ?_)
      clear hK K
      try simp only [Act.put, List.setIfInBounds_toArray, List.set_cons_zero, List.set_cons_succ]
      refine wpAnyH_ready (rs := [16]) (by kernel_rfl) (by simp) ?_
      refine AllReadyH.cons (o := { dst := some 39, op := Op.call { callee := Callee.value (Operand.func 39), args := #[Operand.tmp 31, Operand.tmp 38, Operand.const (Value.int IntKind.i64 1)], argTypes := #[43, 90, 3] }, type := 43, pos := "ref.go:115", after := #[{ on := 8, ground := Ground.data }, { on := 15, ground := Ground.data }, { on := 8, ground := Ground.chain }], guard := none }) rfl (fun K hK => ?_) AllReadyH.nil
      go_simp
      refine (rput_at hu1.out (by have := hll.out; simp only [List.length_append, be_length]; omega) P 1 rfl rfl (by omega) (by omega) (by omega)).mono ?_
      rintro e x2 ⟨u2, rfl, hu2, b12⟩
      have bx2 := bx1.trans (b12.mono bx1.size)
      replace hu2 := hid hu2
      go_wp2_with fail
      refine hK.out _ _ (hS.out _ bx2) (fun hHeld => ?_)
      clear hK K
      try simp only [Act.put, List.setIfInBounds_toArray, List.set_cons_zero, List.set_cons_succ]
      refine takeH (i := 17) (v := ?_) (a' := ?_) ({ dst := some 3, op := Op.assign (Operand.tmp 39), type := 43, pos := "ref.go:115", after := #[{ on := 16, ground := Ground.data }, { on := 16, ground := Ground.chain }, { on := 0, ground := Ground.phase }, { on := 1, ground := Ground.phase }, { on := 2, ground := Ground.phase }, { on := 3, ground := Ground.phase }, { on := 4, ground := Ground.phase }, { on := 5, ground := Ground.phase }, { on := 6, ground := Ground.phase }, { on := 7, ground := Ground.phase }, { on := 8, ground := Ground.phase }, { on := 9, ground := Ground.phase }, { on := 10, ground := Ground.phase }, { on := 11, ground := Ground.phase }, { on := 12, ground := Ground.phase }, { on := 13, ground := Ground.phase }, { on := 14, ground := Ground.phase }, { on := 15, ground := Ground.phase }, { on := 16, ground := Ground.phase }], guard := none }) rfl (by kernel_rfl) (by kernel_rfl) (by kernel_rfl) (fun _ _ _ h => h) (by rfl) ?_ hHeld ?_ ?_
      rotate_left 2
      · (intro w' hSw; obtain ⟨q0, q1, q2⟩ := hSw; go_simp; try with_reducible rfl)
      · (simp only [Act.put, List.setIfInBounds_toArray, List.set_cons_zero, List.set_cons_succ]; try rfl)
      refine wpAnyH_done (by kernel_rfl) ?_ _
      refine NoPanic.normal ?_
      replace bx2 := hid bx2
      clear bx0 bx1 b01 b12 hHeld hy0 hu1 hS hbz
      rw [← hnx.out] at hu2
      have hb6 := hid (hzz.out.trans (bx2.out.mono hzz.out.size))
      clear bx2 hzz hll j1 j2
      go_wp2_with fail
      go_roundw
      case rel => exact ⟨i + 1, by omega, by go_num, hu2.out, hb6.out⟩
      case measure => simp [intOf]; omega
    · obtain rfl : i = vn := by omega
      have hb6 := hst.out.1
      rw [← hvn.out, List.take_length] at hb6
      have hln6 : (hd ++ m.vs.flatMap encP).length ≤ 1000 := by
        have := fm_len (g := encP) (N := 5) (fun a => by rw [encP_len]; omega) m.vs
        rw [hvn.out] at this
        rw [List.length_append, hhl.out]
        omega
      have hput := hid (rput_at (n := 4) hb6 (by omega) en 4 rfl rfl (by omega) (by omega) (by omega))
      have hbr := hid hst.out.2
      clear hst hb6 c0 c3
      go_wp2_with fail
      refine hput.out.mono ?_
      rintro e w8 ⟨v8, rfl, hb8, b8⟩
      obtain ⟨hh, hhh⟩ : ∃ hh, hd ++ m.vs.flatMap encP ++ be 4 en = hh := ⟨_, rfl⟩
      have hhl2 : Hid (hh.length ≤ 1004) := by show _ ≤ _; rw [← hhh, List.length_append, be_length]; omega
      have hen2 : Hid (enc m = hh ++ (m.es.zip m.l).flatMap encE) := by
        show _ = _
        unfold enc
        rw [← hhh, ← hhd.out, hN.out, hvn.out, hen.out]
        simp
      have hb8' : Hid (Bs w8 v8 (hh ++ ((m.es.zip m.l).take 0).flatMap encE)) := by
        rw [hhh] at hb8
        exact hid (by simpa using hb8)
      have hbr8 := hid (hbr.out.trans (b8.mono hbr.out.size))
      have hzl : Hid ((m.es.zip m.l).length = en) := by
        show _ = _
        rw [List.length_zip, hr.out.len, hen.out]
        omega
      clear hbr b8 hput c2 hb8 hhh hln6
      go_wp2_with fail
      go_loopw [3, 5, 6] (fun u s5 _ wr => ∃ j : Nat, j ≤ en ∧ s5 = .int .i64 (j : Int) ∧ Hid (Bs wr u (hh ++ ((m.es.zip m.l).take j).flatMap encE) ∧ Below w1.heap.size w1 wr)) (fun _ s5 _ _ => en - (intOf s5).toNat)
      case atStart => exact ⟨0, by omega, by go_num, hb8'.out, hbr8.out⟩
      case round =>
        obtain ⟨j, hj, rfl, hst⟩ := hrel
        clear hb8' hbr8
        obtain ⟨c0, c1, c2, c3⟩ := hcs.out wr hst.out.2
        rcases Nat.lt_or_ge j en with hlt | hge
        · obtain ⟨q, hqi⟩ : ∃ q, m.es[j]? = some q := ⟨_, List.getElem?_eq_getElem (by rw [hen.out]; exact hlt)⟩
          obtain ⟨x, hxi⟩ : ∃ x, m.l[j]? = some x := ⟨_, List.getElem?_eq_getElem (by rw [hr.out.len, hen.out]; exact hlt)⟩
          obtain ⟨eb, eo, rfl, _, _⟩ := (hE.out w1 (Below.refl _ _)).cell j q hqi
          obtain ⟨Q, P, hQ, hP, hQ4, hP2⟩ := (hr.out.e q (List.mem_of_getElem? hqi)).nat
          have hxn := hid (hr.out.l x (List.mem_of_getElem? hxi))
          have hS' := hid (fun (y : World) (hy : Below w1.heap.size w1 y) => (show y.cell? ⟨A, 2, none⟩ = some (.slice (some ⟨eb, eo, none⟩) en ec) ∧ y.cell? ⟨eb, eo + j * 2, none⟩ = some (.int .u32 (Q : Int)) ∧ y.cell? ⟨eb, eo + j * 2 + 1, none⟩ = some (.int .i64 (P : Int)) by
            obtain ⟨eb', eo', e, a0, a1⟩ := (hE.out y hy).cell j q hqi
            simp only [Option.some.injEq, Addr.mk.injEq, and_true] at e
            obtain ⟨rfl, rfl⟩ := e
            rw [hQ] at a0
            rw [hP] at a1
            exact ⟨(hcs.out y hy).2.2.1, a0, a1⟩))
          have hep := encP_nat hQ hP
          have hnx : Hid (hh ++ ((m.es.zip m.l).take (j + 1)).flatMap encE = ((hh ++ ((m.es.zip m.l).take j).flatMap encE) ++ be 4 Q ++ be 1 P) ++ (if P = 1 then encG x else [])) := by
            have hz : (m.es.zip m.l)[j]? = some (q, x) := by rw [List.getElem?_zip_eq_some]; exact ⟨hqi, hxi⟩
            have hpq : (q.2 = 1) = (P = 1) := by rw [hP]; exact propext (by omega)
            show _ = _
            rw [List.take_add_one, hz]
            simp [encE, hep, hpq]
          have hll : Hid ((hh ++ ((m.es.zip m.l).take j).flatMap encE).length ≤ 6000) := by
            have := fm_len (g := encE) (N := 25) encE_le ((m.es.zip m.l).take j)
            rw [List.length_take, hzl.out] at this
            have := hhl2.out
            show _ ≤ _
            rw [List.length_append]
            omega
          obtain ⟨lg, hlg⟩ : ∃ lg, hh ++ ((m.es.zip m.l).take j).flatMap encE = lg := ⟨_, rfl⟩
          rw [hlg] at hnx hll hst
          have hwQ := wu64 Q (by omega)
          have hwP := wu64 P (by omega)
          have j1 : (0 : Int) ≤ (j : Int) := by omega
          have j2 : (j : Int) < (en : Int) := by omega
          replace hxi := hid hxi
          clear hlg hep hQ hP hqi
          go_upto_region 10 with fail
          have hzz := hid hst.out.2
          have hbz := hid hst.out.1
          clear c0 c1 c2 c3
          have hSw := hid hS'.out
          have hS := hid (fun (y : World) (hy : Below wr.heap.size wr y) => hS'.out y (hzz.out.trans (hy.mono hzz.out.size)))
          clear hS' hst
          refine wp_region_noPanic ?_
          refine wp_region_held_drew (S := fun w' => w'.cell? ⟨A, 2, none⟩ = some (.slice (some ⟨eb, eo, none⟩) en ec) ∧ w'.cell? ⟨eb, eo + j * 2, none⟩ = some (.int .u32 (Q : Int)) ∧ w'.cell? ⟨eb, eo + j * 2 + 1, none⟩ = some (.int .i64 (P : Int))) (by kernel_rfl) (hS.out _ (Below.refl wr.heap.size wr).drew) (fun hHeld => ?_)
          generalize hx0 : wr.drew = x0 at hHeld ⊢
          have bx0 : Below wr.heap.size wr x0 := by rw [← hx0]; exact (Below.refl _ _).drew
          have hy0 := hid (Bs.below hbz.out bx0)
          clear hx0
          refine takeH (i := 0) (v := ?_) (a' := ?_) ({ dst := some 53, op := Op.move (Operand.tmp 3), type := 43, pos := "ref.go:119", after := #[], guard := none }) rfl (by kernel_rfl) (by kernel_rfl) (by kernel_rfl) (fun _ _ _ h => h) (by rfl) ?_ hHeld ?_ ?_
          rotate_left 2
          · (intro w' hSw; obtain ⟨q0, q1, q2⟩ := hSw; go_simp; try with_reducible rfl)
          · (simp only [Act.put, List.setIfInBounds_toArray, List.set_cons_zero, List.set_cons_succ]; try rfl)
          refine takeH (i := 1) (v := ?_) (a' := ?_) ({ dst := some 54, op := Op.fieldAddr 25 (Operand.tmp 1) 2, type := 0, pos := "ref.go:119", after := #[], guard := none }) rfl (by kernel_rfl) (by kernel_rfl) (by kernel_rfl) (fun _ _ _ h => h) (by rfl) ?_ hHeld ?_ ?_
          rotate_left 2
          · (intro w' hSw; obtain ⟨q0, q1, q2⟩ := hSw; go_simp; try with_reducible rfl)
          · (simp only [Act.put, List.setIfInBounds_toArray, List.set_cons_zero, List.set_cons_succ]; try rfl)
          refine takeH (i := 2) (v := ?_) (a' := ?_) ({ dst := some 55, op := Op.load 22 (Operand.tmp 54), type := 22, pos := "ref.go:119", after := #[{ on := 1, ground := Ground.data }], guard := none }) rfl (by kernel_rfl) (by kernel_rfl) (by kernel_rfl) (fun _ _ _ h => h) (by rfl) ?_ hHeld ?_ ?_
          rotate_left 2
          · (intro w' hSw; obtain ⟨q0, q1, q2⟩ := hSw; go_simp; try with_reducible rfl)
          · (simp only [Act.put, List.setIfInBounds_toArray, List.set_cons_zero, List.set_cons_succ]; try rfl)
          refine takeH (i := 3) (v := ?_) (a' := ?_) ({ dst := some 56, op := Op.move (Operand.tmp 5), type := 3, pos := "ref.go:119", after := #[], guard := none }) rfl (by kernel_rfl) (by kernel_rfl) (by kernel_rfl) (fun _ _ _ h => h) (by rfl) ?_ hHeld ?_ ?_
          rotate_left 2
          · (intro w' hSw; obtain ⟨q0, q1, q2⟩ := hSw; go_simp; try with_reducible rfl)
          · (simp only [Act.put, List.setIfInBounds_toArray, List.set_cons_zero, List.set_cons_succ]; try rfl)
          refine takeH (i := 4) (v := ?_) (a' := ?_) ({ dst := some 57, op := Op.indexAddr 22 (Operand.tmp 55) (Operand.tmp 56), type := 0, pos := "ref.go:119", after := #[{ on := 2, ground := Ground.data }, { on := 3, ground := Ground.data }], guard := none }) rfl (by kernel_rfl) (by kernel_rfl) (by kernel_rfl) (fun _ _ _ h => h) (by rfl) ?_ hHeld ?_ ?_
          rotate_left 2
          · (intro w' hSw; obtain ⟨q0, q1, q2⟩ := hSw; go_simp; try with_reducible rfl)
          · (simp only [Act.put, List.setIfInBounds_toArray, List.set_cons_zero, List.set_cons_succ]; try rfl)
          refine takeH (i := 5) (v := ?_) (a' := ?_) ({ dst := some 58, op := Op.fieldAddr 58 (Operand.tmp 57) 0, type := 0, pos := "ref.go:119", after := #[{ on := 4, ground := Ground.data }], guard := none }) rfl (by kernel_rfl) (by kernel_rfl) (by kernel_rfl) (fun _ _ _ h => h) (by rfl) ?_ hHeld ?_ ?_
          rotate_left 2
          · (intro w' hSw; obtain ⟨q0, q1, q2⟩ := hSw; go_simp; try with_reducible rfl)
          · (simp only [Act.put, List.setIfInBounds_toArray, List.set_cons_zero, List.set_cons_succ]; try rfl)
          refine takeH (i := 6) (v := ?_) (a' := ?_) ({ dst := some 59, op := Op.load 56 (Operand.tmp 58), type := 56, pos := "ref.go:119", after := #[{ on := 5, ground := Ground.data }], guard := none }) rfl (by kernel_rfl) (by kernel_rfl) (by kernel_rfl) (fun _ _ _ h => h) (by rfl) ?_ hHeld ?_ ?_
          rotate_left 2
          · (intro w' hSw; obtain ⟨q0, q1, q2⟩ := hSw; go_simp; try with_reducible rfl)
          · (simp only [Act.put, List.setIfInBounds_toArray, List.set_cons_zero, List.set_cons_succ]; try rfl)
          refine takeH (i := 7) (v := ?_) (a' := ?_) ({ dst := some 60, op := Op.convert 56 90 (Operand.tmp 59), type := 90, pos := "ref.go:119", after := #[{ on := 6, ground := Ground.data }], guard := none }) rfl (by kernel_rfl) (by kernel_rfl) (by kernel_rfl) (fun _ _ _ h => h) (by rfl) ?_ hHeld ?_ ?_
          rotate_left 2
          · (intro w' hSw; obtain ⟨q0, q1, q2⟩ := hSw; go_simp; try with_reducible rfl)
          · (simp only [Act.put, List.setIfInBounds_toArray, List.set_cons_zero, List.set_cons_succ]; try rfl)
          refine takeH (i := 9) (v := ?_) (a' := ?_) ({ dst := some 62, op := Op.fieldAddr 25 (Operand.tmp 1) 2, type := 0, pos := "ref.go:119", after := #[], guard := none }) rfl (by kernel_rfl) (by kernel_rfl) (by kernel_rfl) (fun _ _ _ h => h) (by rfl) ?_ hHeld ?_ ?_
          rotate_left 2
          · (intro w' hSw; obtain ⟨q0, q1, q2⟩ := hSw; go_simp; try with_reducible rfl)
          · (simp only [Act.put, List.setIfInBounds_toArray, List.set_cons_zero, List.set_cons_succ]; try rfl)
          refine takeH (i := 10) (v := ?_) (a' := ?_) ({ dst := some 63, op := Op.load 22 (Operand.tmp 62), type := 22, pos := "ref.go:119", after := #[{ on := 9, ground := Ground.data }], guard := none }) rfl (by kernel_rfl) (by kernel_rfl) (by kernel_rfl) (fun _ _ _ h => h) (by rfl) ?_ hHeld ?_ ?_
          rotate_left 2
          · (intro w' hSw; obtain ⟨q0, q1, q2⟩ := hSw; go_simp; try with_reducible rfl)
          · (simp only [Act.put, List.setIfInBounds_toArray, List.set_cons_zero, List.set_cons_succ]; try rfl)
          refine takeH (i := 11) (v := ?_) (a' := ?_) ({ dst := some 64, op := Op.move (Operand.tmp 5), type := 3, pos := "ref.go:119", after := #[], guard := none }) rfl (by kernel_rfl) (by kernel_rfl) (by kernel_rfl) (fun _ _ _ h => h) (by rfl) ?_ hHeld ?_ ?_
          rotate_left 2
          · (intro w' hSw; obtain ⟨q0, q1, q2⟩ := hSw; go_simp; try with_reducible rfl)
          · (simp only [Act.put, List.setIfInBounds_toArray, List.set_cons_zero, List.set_cons_succ]; try rfl)
          refine takeH (i := 12) (v := ?_) (a' := ?_) ({ dst := some 65, op := Op.indexAddr 22 (Operand.tmp 63) (Operand.tmp 64), type := 0, pos := "ref.go:119", after := #[{ on := 10, ground := Ground.data }, { on := 11, ground := Ground.data }], guard := none }) rfl (by kernel_rfl) (by kernel_rfl) (by kernel_rfl) (fun _ _ _ h => h) (by rfl) ?_ hHeld ?_ ?_
          rotate_left 2
          · (intro w' hSw; obtain ⟨q0, q1, q2⟩ := hSw; go_simp; try with_reducible rfl)
          · (simp only [Act.put, List.setIfInBounds_toArray, List.set_cons_zero, List.set_cons_succ]; try rfl)
          refine takeH (i := 13) (v := ?_) (a' := ?_) ({ dst := some 66, op := Op.fieldAddr 58 (Operand.tmp 65) 1, type := 0, pos := "ref.go:119", after := #[{ on := 12, ground := Ground.data }], guard := none }) rfl (by kernel_rfl) (by kernel_rfl) (by kernel_rfl) (fun _ _ _ h => h) (by rfl) ?_ hHeld ?_ ?_
          rotate_left 2
          · (intro w' hSw; obtain ⟨q0, q1, q2⟩ := hSw; go_simp; try with_reducible rfl)
          · (simp only [Act.put, List.setIfInBounds_toArray, List.set_cons_zero, List.set_cons_succ]; try rfl)
          refine takeH (i := 14) (v := ?_) (a' := ?_) ({ dst := some 67, op := Op.load 3 (Operand.tmp 66), type := 3, pos := "ref.go:119", after := #[{ on := 13, ground := Ground.data }], guard := none }) rfl (by kernel_rfl) (by kernel_rfl) (by kernel_rfl) (fun _ _ _ h => h) (by rfl) ?_ hHeld ?_ ?_
          rotate_left 2
          · (intro w' hSw; obtain ⟨q0, q1, q2⟩ := hSw; go_simp; try with_reducible rfl)
          · (simp only [Act.put, List.setIfInBounds_toArray, List.set_cons_zero, List.set_cons_succ]; try rfl)
          refine takeH (i := 15) (v := ?_) (a' := ?_) ({ dst := some 68, op := Op.convert 3 90 (Operand.tmp 67), type := 90, pos := "ref.go:119", after := #[{ on := 14, ground := Ground.data }], guard := none }) rfl (by kernel_rfl) (by kernel_rfl) (by kernel_rfl) (fun _ _ _ h => h) (by rfl) ?_ hHeld ?_ ?_
          rotate_left 2
          · (intro w' hSw; obtain ⟨q0, q1, q2⟩ := hSw; go_simp; try with_reducible rfl)
          · (simp only [Act.put, List.setIfInBounds_toArray, List.set_cons_zero, List.set_cons_succ]; try rfl)
          refine wpAnyH_ready (rs := [8]) (by kernel_rfl) (by simp) ?_
          refine AllReadyH.cons (o := { dst := some 61, op := Op.call { callee := Callee.value (Operand.func 39), args := #[Operand.tmp 53, Operand.tmp 60, Operand.const (Value.int IntKind.i64 4)], argTypes := #[43, 90, 3] }, type := 43, pos := "ref.go:119", after := #[{ on := 0, ground := Ground.data }, { on := 7, ground := Ground.data }], guard := none }) rfl (fun K hK => ?_) AllReadyH.nil
          go_simp
          refine (rput_at hy0.out (by have := hll.out; omega) Q 4 rfl rfl (by omega) (by omega) (by omega)).mono ?_
          rintro e x1 ⟨u1, rfl, hu1, b01⟩
          have bx1 := bx0.trans (b01.mono bx0.size)
          replace hu1 := hid hu1
          go_wp2_with fail
          refine hK.out _ _ (hS.out _ bx1) (fun hHeld => ?_)
          clear hK K
          try simp only [Act.put, List.setIfInBounds_toArray, List.set_cons_zero, List.set_cons_succ]
          refine wpAnyH_ready (rs := [16]) (by kernel_rfl) (by simp) ?_
          refine AllReadyH.cons (o := { dst := some 69, op := Op.call { callee := Callee.value (Operand.func 39), args := #[Operand.tmp 61, Operand.tmp 68, Operand.const (Value.int IntKind.i64 1)], argTypes := #[43, 90, 3] }, type := 43, pos := "ref.go:119", after := #[{ on := 8, ground := Ground.data }, { on := 15, ground := Ground.data }, { on := 8, ground := Ground.chain }], guard := none }) rfl (fun K hK => ?_) AllReadyH.nil
          go_simp
          refine (rput_at hu1.out (by have := hll.out; simp only [List.length_append, be_length]; omega) P 1 rfl rfl (by omega) (by omega) (by omega)).mono ?_
          rintro e x2 ⟨u2, rfl, hu2, b12⟩
          have bx2 := bx1.trans (b12.mono bx1.size)
          replace hu2 := hid hu2
          go_wp2_with fail
          refine hK.out _ _ (hS.out _ bx2) (fun hHeld => ?_)
          clear hK K
          try simp only [Act.put, List.setIfInBounds_toArray, List.set_cons_zero, List.set_cons_succ]
          refine takeH (i := 17) (v := ?_) (a' := ?_) ({ dst := some 3, op := Op.assign (Operand.tmp 69), type := 43, pos := "ref.go:119", after := #[{ on := 16, ground := Ground.data }, { on := 16, ground := Ground.chain }, { on := 0, ground := Ground.phase }, { on := 1, ground := Ground.phase }, { on := 2, ground := Ground.phase }, { on := 3, ground := Ground.phase }, { on := 4, ground := Ground.phase }, { on := 5, ground := Ground.phase }, { on := 6, ground := Ground.phase }, { on := 7, ground := Ground.phase }, { on := 8, ground := Ground.phase }, { on := 9, ground := Ground.phase }, { on := 10, ground := Ground.phase }, { on := 11, ground := Ground.phase }, { on := 12, ground := Ground.phase }, { on := 13, ground := Ground.phase }, { on := 14, ground := Ground.phase }, { on := 15, ground := Ground.phase }, { on := 16, ground := Ground.phase }], guard := none }) rfl (by kernel_rfl) (by kernel_rfl) (by kernel_rfl) (fun _ _ _ h => h) (by rfl) ?_ hHeld ?_ ?_
          rotate_left 2
          · (intro w' hSw; obtain ⟨q0, q1, q2⟩ := hSw; go_simp; try with_reducible rfl)
          · (simp only [Act.put, List.setIfInBounds_toArray, List.set_cons_zero, List.set_cons_succ]; try rfl)
          refine wpAnyH_done (by kernel_rfl) ?_ _
          refine NoPanic.normal ?_
          replace bx2 := hid bx2
          clear bx0 bx1 b01 b12 hHeld hy0 hu1 hS hbz
          have hb6 := hid (hzz.out.trans (bx2.out.mono hzz.out.size))
          obtain ⟨c0, c1, c2⟩ := hSw.out x2 hb6.out
          clear bx2 hzz hwQ hwP
          by_cases hq1 : P = 1
          · subst hq1
            rw [if_pos rfl] at hnx
            obtain ⟨_, _, _, c3⟩ := hcs.out x2 hb6.out
            obtain ⟨lb, lo, rfl, y0, y1, y2, y3, y4⟩ := (hL.out x2 hb6.out).cell j x hxi.out
            have j3 : (j : Int) < (ln : Int) := by have := (List.getElem?_eq_some_iff.1 hxi.out).1; have := hln.out; omega
            have henc : Hid (encG x = be 4 x.f0 ++ (be 4 x.n0 ++ (be 4 x.f1 ++ (be 4 x.n1 ++ be 4 (x.w % 4294967296).toNat)))) := by exact hid rfl
            obtain ⟨Wn, hWn⟩ : ∃ Wn : Nat, (x.w % 4294967296).toNat = Wn := ⟨_, rfl⟩
            have hww : IntKind.u32.wrap x.w = (Wn : Int) := by rw [Wi.wrapU32]; omega
            have hW4 : Wn < 4294967296 := by omega
            rw [hWn] at henc
            obtain ⟨z0, z1, z2, z3, _, _⟩ := hxn.out
            obtain ⟨a0, ha0⟩ : ∃ a0, x.f0 = a0 := ⟨_, rfl⟩
            obtain ⟨a1, ha1⟩ : ∃ a1, x.f1 = a1 := ⟨_, rfl⟩
            obtain ⟨b0, hb0⟩ : ∃ b0, x.n0 = b0 := ⟨_, rfl⟩
            obtain ⟨b1, hb1'⟩ : ∃ b1, x.n1 = b1 := ⟨_, rfl⟩
            obtain ⟨ww, hwv'⟩ : ∃ ww, x.w = ww := ⟨_, rfl⟩
            rw [ha0, ha1, hb0, hb1'] at henc
            rw [ha0] at y0 z0
            rw [ha1] at y1 z1
            rw [hb0] at y2 z2
            rw [hb1'] at y3 z3
            rw [hwv'] at y4 hww
            have n7 := balloc x2 (.cells #[.int .u32 (a0 : Int), .int .u32 (a1 : Int), .int .u32 (b0 : Int), .int .u32 (b1 : Int), .int .i32 ww] 61)
            have n8 := new_of x2 #[.int .u32 (a0 : Int), .int .u32 (a1 : Int), .int .u32 (b0 : Int), .int .u32 (b1 : Int), .int .i32 ww] 61
            clear hWn ha0 ha1 hb0 hb1' hwv'
            go_upto_region 13 with fail
            obtain ⟨w7, hw7⟩ : ∃ w7, x2.alloc (.cells #[.int .u32 (a0 : Int), .int .u32 (a1 : Int), .int .u32 (b0 : Int), .int .u32 (b1 : Int), .int .i32 ww] 61) = w7 := ⟨_, rfl⟩
            obtain ⟨B, hB⟩ : ∃ B, x2.heap.size = B := ⟨_, rfl⟩
            rw [hw7] at n7 n8 ⊢
            rw [hB] at n8 ⊢
            have hB7 : B < w7.heap.size := (Array.getElem?_eq_some_iff.1 n8).1
            have hcl := hid (fun (y : World) (hy : Below w7.heap.size w7 y) => (hy.block B hB7).trans n8)
            have hS := hid (fun (y : World) (hy : Below w7.heap.size w7 y) => (show y.cell? ⟨B, 0, none⟩ = some (.int .u32 (a0 : Int)) ∧ y.cell? ⟨B, 1, none⟩ = some (.int .u32 (a1 : Int)) ∧ y.cell? ⟨B, 2, none⟩ = some (.int .u32 (b0 : Int)) ∧ y.cell? ⟨B, 3, none⟩ = some (.int .u32 (b1 : Int)) from
              ⟨cell_of (hcl.out y hy) (j := 0) rfl, cell_of (hcl.out y hy) (j := 1) rfl, cell_of (hcl.out y hy) (j := 2) rfl, cell_of (hcl.out y hy) (j := 3) rfl⟩))
            have hS2 := hid hS.out
            obtain ⟨l2, hl2⟩ : ∃ l2, lg ++ be 4 Q ++ be 1 1 = l2 := ⟨_, rfl⟩
            rw [hl2] at hu2 hnx
            have hll2 : Hid (l2.length ≤ 6005) := by
              have := hll.out
              show _ ≤ _
              rw [← hl2]
              simp only [List.length_append, be_length]
              omega
            have hbz := hid (hu2.out.below n7)
            have hb7 := hid (hb6.out.trans (n7.mono hb6.out.size))
            have hq0 := wu64 a0 (by omega)
            have hq1 := wu64 a1 (by omega)
            have hq2 := wu64 b0 (by omega)
            have hq3 := wu64 b1 (by omega)
            have hq4 := wu64 Wn (by omega)
            clear hw7 hB hl2 n7 n8 hll hu2 hb6 y0 y1 y2 y3 y4 c0 c1 c2 c3
            replace hll := hid hll2.out
            refine wp_region_noPanic ?_
            refine wp_region_held_drew (S := fun w' => w'.cell? ⟨B, 0, none⟩ = some (.int .u32 (a0 : Int)) ∧ w'.cell? ⟨B, 1, none⟩ = some (.int .u32 (a1 : Int)) ∧ w'.cell? ⟨B, 2, none⟩ = some (.int .u32 (b0 : Int)) ∧ w'.cell? ⟨B, 3, none⟩ = some (.int .u32 (b1 : Int))) (by kernel_rfl) (hS.out _ (Below.refl w7.heap.size w7).drew) (fun hHeld => ?_)
            generalize hx0 : w7.drew = x0 at hHeld ⊢
            have bx0 : Below w7.heap.size w7 x0 := by rw [← hx0]; exact (Below.refl _ _).drew
            have hy0 := hid (Bs.below hbz.out bx0)
            clear hx0
            refine takeH (i := 0) (v := ?_) (a' := ?_) ({ dst := some 82, op := Op.move (Operand.tmp 3), type := 43, pos := "ref.go:122", after := #[], guard := none }) rfl (by kernel_rfl) (by kernel_rfl) (by kernel_rfl) (fun _ _ _ h => h) (by rfl) ?_ hHeld ?_ ?_
            rotate_left 2
            · (intro w' hSw; obtain ⟨q0, q1, q2, q3⟩ := hSw; go_simp; try with_reducible rfl)
            · (simp only [Act.put, List.setIfInBounds_toArray, List.set_cons_zero, List.set_cons_succ]; try rfl)
            refine takeH (i := 1) (v := ?_) (a' := ?_) ({ dst := some 83, op := Op.fieldAddr 61 (Operand.tmp 6) 0, type := 0, pos := "ref.go:122", after := #[], guard := none }) rfl (by kernel_rfl) (by kernel_rfl) (by kernel_rfl) (fun _ _ _ h => h) (by rfl) ?_ hHeld ?_ ?_
            rotate_left 2
            · (intro w' hSw; obtain ⟨q0, q1, q2, q3⟩ := hSw; go_simp; try with_reducible rfl)
            · (simp only [Act.put, List.setIfInBounds_toArray, List.set_cons_zero, List.set_cons_succ]; try rfl)
            refine takeH (i := 2) (v := ?_) (a' := ?_) ({ dst := some 84, op := Op.indexAddr 59 (Operand.tmp 83) (Operand.const (Value.int IntKind.i64 0)), type := 0, pos := "ref.go:122", after := #[{ on := 1, ground := Ground.data }], guard := none }) rfl (by kernel_rfl) (by kernel_rfl) (by kernel_rfl) (fun _ _ _ h => h) (by rfl) ?_ hHeld ?_ ?_
            rotate_left 2
            · (intro w' hSw; obtain ⟨q0, q1, q2, q3⟩ := hSw; go_simp; try with_reducible rfl)
            · (simp only [Act.put, List.setIfInBounds_toArray, List.set_cons_zero, List.set_cons_succ]; try rfl)
            refine takeH (i := 3) (v := ?_) (a' := ?_) ({ dst := some 85, op := Op.load 56 (Operand.tmp 84), type := 56, pos := "ref.go:122", after := #[{ on := 2, ground := Ground.data }], guard := none }) rfl (by kernel_rfl) (by kernel_rfl) (by kernel_rfl) (fun _ _ _ h => h) (by rfl) ?_ hHeld ?_ ?_
            rotate_left 2
            · (intro w' hSw; obtain ⟨q0, q1, q2, q3⟩ := hSw; go_simp; try with_reducible rfl)
            · (simp only [Act.put, List.setIfInBounds_toArray, List.set_cons_zero, List.set_cons_succ]; try rfl)
            refine takeH (i := 4) (v := ?_) (a' := ?_) ({ dst := some 86, op := Op.convert 56 90 (Operand.tmp 85), type := 90, pos := "ref.go:122", after := #[{ on := 3, ground := Ground.data }], guard := none }) rfl (by kernel_rfl) (by kernel_rfl) (by kernel_rfl) (fun _ _ _ h => h) (by rfl) ?_ hHeld ?_ ?_
            rotate_left 2
            · (intro w' hSw; obtain ⟨q0, q1, q2, q3⟩ := hSw; go_simp; try with_reducible rfl)
            · (simp only [Act.put, List.setIfInBounds_toArray, List.set_cons_zero, List.set_cons_succ]; try rfl)
            refine takeH (i := 6) (v := ?_) (a' := ?_) ({ dst := some 88, op := Op.fieldAddr 61 (Operand.tmp 6) 1, type := 0, pos := "ref.go:122", after := #[], guard := none }) rfl (by kernel_rfl) (by kernel_rfl) (by kernel_rfl) (fun _ _ _ h => h) (by rfl) ?_ hHeld ?_ ?_
            rotate_left 2
            · (intro w' hSw; obtain ⟨q0, q1, q2, q3⟩ := hSw; go_simp; try with_reducible rfl)
            · (simp only [Act.put, List.setIfInBounds_toArray, List.set_cons_zero, List.set_cons_succ]; try rfl)
            refine takeH (i := 7) (v := ?_) (a' := ?_) ({ dst := some 89, op := Op.indexAddr 59 (Operand.tmp 88) (Operand.const (Value.int IntKind.i64 0)), type := 0, pos := "ref.go:122", after := #[{ on := 6, ground := Ground.data }], guard := none }) rfl (by kernel_rfl) (by kernel_rfl) (by kernel_rfl) (fun _ _ _ h => h) (by rfl) ?_ hHeld ?_ ?_
            rotate_left 2
            · (intro w' hSw; obtain ⟨q0, q1, q2, q3⟩ := hSw; go_simp; try with_reducible rfl)
            · (simp only [Act.put, List.setIfInBounds_toArray, List.set_cons_zero, List.set_cons_succ]; try rfl)
            refine takeH (i := 8) (v := ?_) (a' := ?_) ({ dst := some 90, op := Op.load 56 (Operand.tmp 89), type := 56, pos := "ref.go:122", after := #[{ on := 7, ground := Ground.data }], guard := none }) rfl (by kernel_rfl) (by kernel_rfl) (by kernel_rfl) (fun _ _ _ h => h) (by rfl) ?_ hHeld ?_ ?_
            rotate_left 2
            · (intro w' hSw; obtain ⟨q0, q1, q2, q3⟩ := hSw; go_simp; try with_reducible rfl)
            · (simp only [Act.put, List.setIfInBounds_toArray, List.set_cons_zero, List.set_cons_succ]; try rfl)
            refine takeH (i := 9) (v := ?_) (a' := ?_) ({ dst := some 91, op := Op.convert 56 90 (Operand.tmp 90), type := 90, pos := "ref.go:122", after := #[{ on := 8, ground := Ground.data }], guard := none }) rfl (by kernel_rfl) (by kernel_rfl) (by kernel_rfl) (fun _ _ _ h => h) (by rfl) ?_ hHeld ?_ ?_
            rotate_left 2
            · (intro w' hSw; obtain ⟨q0, q1, q2, q3⟩ := hSw; go_simp; try with_reducible rfl)
            · (simp only [Act.put, List.setIfInBounds_toArray, List.set_cons_zero, List.set_cons_succ]; try rfl)
            refine wpAnyH_ready (rs := [5]) (by kernel_rfl) (by simp) ?_
            refine AllReadyH.cons (o := { dst := some 87, op := Op.call { callee := Callee.value (Operand.func 39), args := #[Operand.tmp 82, Operand.tmp 86, Operand.const (Value.int IntKind.i64 4)], argTypes := #[43, 90, 3] }, type := 43, pos := "ref.go:122", after := #[{ on := 0, ground := Ground.data }, { on := 4, ground := Ground.data }], guard := none }) rfl (fun K hK => ?_) AllReadyH.nil
            go_simp
            refine (rput_at hy0.out (by have := hll.out; omega) a0 4 rfl rfl (by omega) (by omega) (by omega)).mono ?_
            rintro e x1 ⟨u1, rfl, hu1, b01⟩
            have bx1 := bx0.trans (b01.mono bx0.size)
            replace hu1 := hid hu1
            go_wp2_with fail
            refine hK.out _ _ (hS.out _ bx1) (fun hHeld => ?_)
            clear hK K
            try simp only [Act.put, List.setIfInBounds_toArray, List.set_cons_zero, List.set_cons_succ]
            refine wpAnyH_ready (rs := [10]) (by kernel_rfl) (by simp) ?_
            refine AllReadyH.cons (o := { dst := some 92, op := Op.call { callee := Callee.value (Operand.func 39), args := #[Operand.tmp 87, Operand.tmp 91, Operand.const (Value.int IntKind.i64 4)], argTypes := #[43, 90, 3] }, type := 43, pos := "ref.go:122", after := #[{ on := 5, ground := Ground.data }, { on := 9, ground := Ground.data }, { on := 5, ground := Ground.chain }], guard := none }) rfl (fun K hK => ?_) AllReadyH.nil
            go_simp
            refine (rput_at hu1.out (by have := hll.out; simp only [List.length_append, be_length]; omega) b0 4 rfl rfl (by omega) (by omega) (by omega)).mono ?_
            rintro e x2 ⟨u2, rfl, hu2, b12⟩
            have bx2 := bx1.trans (b12.mono bx1.size)
            replace hu2 := hid hu2
            go_wp2_with fail
            refine hK.out _ _ (hS.out _ bx2) (fun hHeld => ?_)
            clear hK K
            try simp only [Act.put, List.setIfInBounds_toArray, List.set_cons_zero, List.set_cons_succ]
            refine takeH (i := 11) (v := ?_) (a' := ?_) ({ dst := some 3, op := Op.assign (Operand.tmp 92), type := 43, pos := "ref.go:122", after := #[{ on := 10, ground := Ground.data }, { on := 10, ground := Ground.chain }, { on := 0, ground := Ground.phase }, { on := 1, ground := Ground.phase }, { on := 2, ground := Ground.phase }, { on := 3, ground := Ground.phase }, { on := 4, ground := Ground.phase }, { on := 5, ground := Ground.phase }, { on := 6, ground := Ground.phase }, { on := 7, ground := Ground.phase }, { on := 8, ground := Ground.phase }, { on := 9, ground := Ground.phase }, { on := 10, ground := Ground.phase }], guard := none }) rfl (by kernel_rfl) (by kernel_rfl) (by kernel_rfl) (fun _ _ _ h => h) (by rfl) ?_ hHeld ?_ ?_
            rotate_left 2
            · (intro w' hSw; obtain ⟨q0, q1, q2, q3⟩ := hSw; go_simp; try with_reducible rfl)
            · (simp only [Act.put, List.setIfInBounds_toArray, List.set_cons_zero, List.set_cons_succ]; try rfl)
            refine wpAnyH_done (by kernel_rfl) ?_ _
            refine NoPanic.normal ?_
            replace bx2 := hid bx2
            clear bx0 bx1 b01 b12 hHeld hy0 hu1 hS hbz
            obtain ⟨w9, rfl⟩ : ∃ w9, w9 = x2 := ⟨_, rfl⟩
            have hb79 := hid bx2.out
            have hbz := hid hu2.out
            obtain ⟨l3, hl3⟩ : ∃ l3, l2 ++ be 4 a0 ++ be 4 b0 = l3 := ⟨_, rfl⟩
            rw [hl3] at hbz
            have hll : Hid (l3.length ≤ 6013) := by
              have := hll2.out
              show _ ≤ _
              rw [← hl3]
              simp only [List.length_append, be_length]
              omega
            have hS := hid (fun (y : World) (hy : Below w9.heap.size w9 y) => hS2.out y (hb79.out.trans (hy.mono hb79.out.size)))
            clear hu2 bx2
            go_upto_region 14 with fail
            refine wp_region_noPanic ?_
            refine wp_region_held_drew (S := fun w' => w'.cell? ⟨B, 0, none⟩ = some (.int .u32 (a0 : Int)) ∧ w'.cell? ⟨B, 1, none⟩ = some (.int .u32 (a1 : Int)) ∧ w'.cell? ⟨B, 2, none⟩ = some (.int .u32 (b0 : Int)) ∧ w'.cell? ⟨B, 3, none⟩ = some (.int .u32 (b1 : Int))) (by kernel_rfl) (hS.out _ (Below.refl w9.heap.size w9).drew) (fun hHeld => ?_)
            generalize hx0 : w9.drew = x0 at hHeld ⊢
            have bx0 : Below w9.heap.size w9 x0 := by rw [← hx0]; exact (Below.refl _ _).drew
            have hy0 := hid (Bs.below hbz.out bx0)
            clear hx0
            refine takeH (i := 0) (v := ?_) (a' := ?_) ({ dst := some 93, op := Op.move (Operand.tmp 3), type := 43, pos := "ref.go:123", after := #[], guard := none }) rfl (by kernel_rfl) (by kernel_rfl) (by kernel_rfl) (fun _ _ _ h => h) (by rfl) ?_ hHeld ?_ ?_
            rotate_left 2
            · (intro w' hSw; obtain ⟨q0, q1, q2, q3⟩ := hSw; go_simp; try with_reducible rfl)
            · (simp only [Act.put, List.setIfInBounds_toArray, List.set_cons_zero, List.set_cons_succ]; try rfl)
            refine takeH (i := 1) (v := ?_) (a' := ?_) ({ dst := some 94, op := Op.fieldAddr 61 (Operand.tmp 6) 0, type := 0, pos := "ref.go:123", after := #[], guard := none }) rfl (by kernel_rfl) (by kernel_rfl) (by kernel_rfl) (fun _ _ _ h => h) (by rfl) ?_ hHeld ?_ ?_
            rotate_left 2
            · (intro w' hSw; obtain ⟨q0, q1, q2, q3⟩ := hSw; go_simp; try with_reducible rfl)
            · (simp only [Act.put, List.setIfInBounds_toArray, List.set_cons_zero, List.set_cons_succ]; try rfl)
            refine takeH (i := 2) (v := ?_) (a' := ?_) ({ dst := some 95, op := Op.indexAddr 59 (Operand.tmp 94) (Operand.const (Value.int IntKind.i64 1)), type := 0, pos := "ref.go:123", after := #[{ on := 1, ground := Ground.data }], guard := none }) rfl (by kernel_rfl) (by kernel_rfl) (by kernel_rfl) (fun _ _ _ h => h) (by rfl) ?_ hHeld ?_ ?_
            rotate_left 2
            · (intro w' hSw; obtain ⟨q0, q1, q2, q3⟩ := hSw; go_simp; try with_reducible rfl)
            · (simp only [Act.put, List.setIfInBounds_toArray, List.set_cons_zero, List.set_cons_succ]; try rfl)
            refine takeH (i := 3) (v := ?_) (a' := ?_) ({ dst := some 96, op := Op.load 56 (Operand.tmp 95), type := 56, pos := "ref.go:123", after := #[{ on := 2, ground := Ground.data }], guard := none }) rfl (by kernel_rfl) (by kernel_rfl) (by kernel_rfl) (fun _ _ _ h => h) (by rfl) ?_ hHeld ?_ ?_
            rotate_left 2
            · (intro w' hSw; obtain ⟨q0, q1, q2, q3⟩ := hSw; go_simp; try with_reducible rfl)
            · (simp only [Act.put, List.setIfInBounds_toArray, List.set_cons_zero, List.set_cons_succ]; try rfl)
            refine takeH (i := 4) (v := ?_) (a' := ?_) ({ dst := some 97, op := Op.convert 56 90 (Operand.tmp 96), type := 90, pos := "ref.go:123", after := #[{ on := 3, ground := Ground.data }], guard := none }) rfl (by kernel_rfl) (by kernel_rfl) (by kernel_rfl) (fun _ _ _ h => h) (by rfl) ?_ hHeld ?_ ?_
            rotate_left 2
            · (intro w' hSw; obtain ⟨q0, q1, q2, q3⟩ := hSw; go_simp; try with_reducible rfl)
            · (simp only [Act.put, List.setIfInBounds_toArray, List.set_cons_zero, List.set_cons_succ]; try rfl)
            refine takeH (i := 6) (v := ?_) (a' := ?_) ({ dst := some 99, op := Op.fieldAddr 61 (Operand.tmp 6) 1, type := 0, pos := "ref.go:123", after := #[], guard := none }) rfl (by kernel_rfl) (by kernel_rfl) (by kernel_rfl) (fun _ _ _ h => h) (by rfl) ?_ hHeld ?_ ?_
            rotate_left 2
            · (intro w' hSw; obtain ⟨q0, q1, q2, q3⟩ := hSw; go_simp; try with_reducible rfl)
            · (simp only [Act.put, List.setIfInBounds_toArray, List.set_cons_zero, List.set_cons_succ]; try rfl)
            refine takeH (i := 7) (v := ?_) (a' := ?_) ({ dst := some 100, op := Op.indexAddr 59 (Operand.tmp 99) (Operand.const (Value.int IntKind.i64 1)), type := 0, pos := "ref.go:123", after := #[{ on := 6, ground := Ground.data }], guard := none }) rfl (by kernel_rfl) (by kernel_rfl) (by kernel_rfl) (fun _ _ _ h => h) (by rfl) ?_ hHeld ?_ ?_
            rotate_left 2
            · (intro w' hSw; obtain ⟨q0, q1, q2, q3⟩ := hSw; go_simp; try with_reducible rfl)
            · (simp only [Act.put, List.setIfInBounds_toArray, List.set_cons_zero, List.set_cons_succ]; try rfl)
            refine takeH (i := 8) (v := ?_) (a' := ?_) ({ dst := some 101, op := Op.load 56 (Operand.tmp 100), type := 56, pos := "ref.go:123", after := #[{ on := 7, ground := Ground.data }], guard := none }) rfl (by kernel_rfl) (by kernel_rfl) (by kernel_rfl) (fun _ _ _ h => h) (by rfl) ?_ hHeld ?_ ?_
            rotate_left 2
            · (intro w' hSw; obtain ⟨q0, q1, q2, q3⟩ := hSw; go_simp; try with_reducible rfl)
            · (simp only [Act.put, List.setIfInBounds_toArray, List.set_cons_zero, List.set_cons_succ]; try rfl)
            refine takeH (i := 9) (v := ?_) (a' := ?_) ({ dst := some 102, op := Op.convert 56 90 (Operand.tmp 101), type := 90, pos := "ref.go:123", after := #[{ on := 8, ground := Ground.data }], guard := none }) rfl (by kernel_rfl) (by kernel_rfl) (by kernel_rfl) (fun _ _ _ h => h) (by rfl) ?_ hHeld ?_ ?_
            rotate_left 2
            · (intro w' hSw; obtain ⟨q0, q1, q2, q3⟩ := hSw; go_simp; try with_reducible rfl)
            · (simp only [Act.put, List.setIfInBounds_toArray, List.set_cons_zero, List.set_cons_succ]; try rfl)
            refine wpAnyH_ready (rs := [5]) (by kernel_rfl) (by simp) ?_
            refine AllReadyH.cons (o := { dst := some 98, op := Op.call { callee := Callee.value (Operand.func 39), args := #[Operand.tmp 93, Operand.tmp 97, Operand.const (Value.int IntKind.i64 4)], argTypes := #[43, 90, 3] }, type := 43, pos := "ref.go:123", after := #[{ on := 0, ground := Ground.data }, { on := 4, ground := Ground.data }], guard := none }) rfl (fun K hK => ?_) AllReadyH.nil
            go_simp
            refine (rput_at hy0.out (by have := hll.out; omega) a1 4 rfl rfl (by omega) (by omega) (by omega)).mono ?_
            rintro e x1 ⟨u1, rfl, hu1, b01⟩
            have bx1 := bx0.trans (b01.mono bx0.size)
            replace hu1 := hid hu1
            go_wp2_with fail
            refine hK.out _ _ (hS.out _ bx1) (fun hHeld => ?_)
            clear hK K
            try simp only [Act.put, List.setIfInBounds_toArray, List.set_cons_zero, List.set_cons_succ]
            refine wpAnyH_ready (rs := [10]) (by kernel_rfl) (by simp) ?_
            refine AllReadyH.cons (o := { dst := some 103, op := Op.call { callee := Callee.value (Operand.func 39), args := #[Operand.tmp 98, Operand.tmp 102, Operand.const (Value.int IntKind.i64 4)], argTypes := #[43, 90, 3] }, type := 43, pos := "ref.go:123", after := #[{ on := 5, ground := Ground.data }, { on := 9, ground := Ground.data }, { on := 5, ground := Ground.chain }], guard := none }) rfl (fun K hK => ?_) AllReadyH.nil
            go_simp
            refine (rput_at hu1.out (by have := hll.out; simp only [List.length_append, be_length]; omega) b1 4 rfl rfl (by omega) (by omega) (by omega)).mono ?_
            rintro e x2 ⟨u2, rfl, hu2, b12⟩
            have bx2 := bx1.trans (b12.mono bx1.size)
            replace hu2 := hid hu2
            go_wp2_with fail
            refine hK.out _ _ (hS.out _ bx2) (fun hHeld => ?_)
            clear hK K
            try simp only [Act.put, List.setIfInBounds_toArray, List.set_cons_zero, List.set_cons_succ]
            refine takeH (i := 11) (v := ?_) (a' := ?_) ({ dst := some 3, op := Op.assign (Operand.tmp 103), type := 43, pos := "ref.go:123", after := #[{ on := 10, ground := Ground.data }, { on := 10, ground := Ground.chain }, { on := 0, ground := Ground.phase }, { on := 1, ground := Ground.phase }, { on := 2, ground := Ground.phase }, { on := 3, ground := Ground.phase }, { on := 4, ground := Ground.phase }, { on := 5, ground := Ground.phase }, { on := 6, ground := Ground.phase }, { on := 7, ground := Ground.phase }, { on := 8, ground := Ground.phase }, { on := 9, ground := Ground.phase }, { on := 10, ground := Ground.phase }], guard := none }) rfl (by kernel_rfl) (by kernel_rfl) (by kernel_rfl) (fun _ _ _ h => h) (by rfl) ?_ hHeld ?_ ?_
            rotate_left 2
            · (intro w' hSw; obtain ⟨q0, q1, q2, q3⟩ := hSw; go_simp; try with_reducible rfl)
            · (simp only [Act.put, List.setIfInBounds_toArray, List.set_cons_zero, List.set_cons_succ]; try rfl)
            refine wpAnyH_done (by kernel_rfl) ?_ _
            refine NoPanic.normal ?_
            replace bx2 := hid bx2
            clear bx0 bx1 b01 b12 hHeld hy0 hu1 hS hbz
            have hb80 := hid (hb79.out.trans (bx2.out.mono hb79.out.size))
            have y4 := cell_of (hcl.out _ hb80.out) (j := 4) (u := .int .i32 ww) rfl
            have hput := hid (rput_at (n := 4) hu2.out (by have := hll.out; simp only [List.length_append, be_length]; omega) Wn 4 rfl rfl (by omega) (by omega) (by omega))
            clear hu2 bx2 hq0 hq1 hq2 hq3
            go_wp2_with fail
            refine hput.out.mono ?_
            rintro e wa ⟨va', rfl, hba, bwa⟩
            have hfb := hid (hb7.out.trans ((hb80.out.trans (bwa.mono hb80.out.size)).mono hb7.out.size))
            have hfl : Hid (Bs wa va' (hh ++ ((m.es.zip m.l).take (j + 1)).flatMap encE)) := by
              have e1 : l3 ++ be 4 a1 ++ be 4 b1 ++ be 4 Wn = hh ++ ((m.es.zip m.l).take (j + 1)).flatMap encE := by
                rw [hnx.out, henc.out, ← hl3]
                simp only [List.append_assoc]
              rw [e1] at hba
              exact hid hba
            clear hba bwa hput y4
            go_wp2_with fail
            go_roundw
            case rel => exact ⟨j + 1, by omega, by go_num, hfl.out, hfb.out⟩
            case measure => simp [intOf]; omega
          · have t1 : ((P : Int) == 1) = false := by simp; omega
            rw [if_neg hq1, List.append_nil] at hnx
            rw [← hnx.out] at hu2
            clear hq1
            go_wp2_with fail
            go_roundw
            case rel => exact ⟨j + 1, by omega, by go_num, hu2.out, hb6.out⟩
            case measure => simp [intOf]; omega
        · obtain rfl : j = en := by omega
          have hfin : Hid (Bs wr u3 (enc m)) := by
            have := hst.out.1
            rw [← hzl.out, List.take_length, ← hen2.out] at this
            exact this
          have hbf := hid (hup.out wr hst.out.2)
          go_wp2_with fail
          go_ret
          exact ⟨hbf.out, _, rfl, hfin.out⟩

end Go.Proofs.YtboafgimjadboaaGreatDoor

namespace Go.Proofs.YtboafgimjadboaaGreatDoor
open Go.RowKit
set_option linter.unusedVariables false

/-- The condition may be made stronger on the way. -/
theorem stronger17 {P : Program} {md : Region.Mode} {ops : Array Oper} {Q : Exit → Act → World → Prop} {S : World → Prop} (S' : World → Prop) (h : ∀ w, S' w → S w) :
    ∀ {fuel : Nat} {listed : Array Bool} {a : Act} {w : World}, wpAnyH P md ops Q S' fuel listed a w → wpAnyH P md ops Q S fuel listed a w
  | 0, _, _, _, hh => hh
  | _ + 1, _, _, _, hh => ⟨hh.1, fun i hi => wpOp_mono (fun _ _ hk => ⟨h _ hk.1, stronger17 S' h hk.2⟩) (hh.2 i hi)⟩

set_option maxRecDepth 100000 in
set_option maxHeartbeats 4000000 in
theorem encodes_law {W : World} {vv ev lv : Value} {m : Mo} (hm : Mp W vv ev lv m) (hg : Handle W) (hT : Ar.Tab W) (h2 : 2 ≤ W.heap.size) :
    Calls Tryz.prog 4 #[.agg #[.int .i64 m.n, vv, ev, lv]] W fun e W' => e = .returned (.bool true) ∧ Below W.heap.size W W' := by
  obtain ⟨va, vn, vc, ea, en, ec, la, ln, lc, rfl, rfl, rfl⟩ := mp_slices hm
  have hl := Lw.new hm hg hT h2
  obtain ⟨w1, hw1⟩ : ∃ w1, W.alloc (.cells #[.int .i64 m.n, .slice va vn vc, .slice ea en ec, .slice la ln lc] 25) = w1 := ⟨_, rfl⟩
  rw [hw1] at hl
  replace hl := hid hl
  clear hm hg hT h2
  go_enter Tryz.func4, Tryz.ntmps4
  go_upto_region 1 with fail
  try rw [hw1]
  clear hw1
  obtain ⟨c0, c1, c2, c3⟩ := hl.out.box w1 (Below.refl _ _)
  by_cases hh : Hg m
  · have hq := hid (hl.out.huge hh w1 (Below.refl _ _))
    clear hh
    go_wp2_with fail
    refine hq.out.mono ?_
    rintro e w2 ⟨rfl, b2⟩
    replace b2 := hid b2
    clear hq
    go_wp2_with fail
    refine (hl.out.sure w2 b2.out).mono ?_
    rintro e w3 ⟨rfl, b3⟩
    have hb := hid (hl.out.bel.trans ((b2.out.trans (b3.mono b2.out.size)).mono hl.out.bel.size))
    clear b3
    go_wp2_with fail
    go_ret
    exact ⟨rfl, hb.out⟩
  · have hq := hid (hl.out.small hh w1 (Below.refl _ _))
    replace hh := hid hh
    go_wp2_with fail
    refine hq.out.mono ?_
    rintro e w2 ⟨rfl, b2⟩
    obtain ⟨d0, d1, d2, d3⟩ := hl.out.box w2 b2
    replace b2 := hid b2
    clear hq c0 c1 c2 c3
    go_wp2_with fail
    refine (hl.out.give hh.out w2 b2.out).mono ?_
    rintro e w3 ⟨uv, ue, ul, rfl, hm3, b3⟩
    obtain ⟨ua, un, uc, ya, yn, yc, za, zn, zc, rfl, rfl, rfl⟩ := mp_slices hm3
    have b3' := hid (b2.out.trans (b3.mono b2.out.size))
    have hsz : Hid (m.vs.length ≤ 40 ∧ m.es.length ≤ 40 ∧ m.l.length ≤ 40) := by
      have := hh.out
      unfold Hg at this
      exact ⟨by omega, by omega, by omega⟩
    have hbO := balloc w3 (.cells #[.int .i64 m.n, .slice ua un uc, .slice ya yn yc, .slice za zn zc] 36)
    have hown := boxd w3 m.n (.slice ua un uc) (.slice ya yn yc) (.slice za zn zc) 36
    have hmO := hid (fun (y : World) (hy : Below (w3.alloc (.cells #[.int .i64 m.n, .slice ua un uc, .slice ya yn yc, .slice za zn zc] 36)).heap.size (w3.alloc (.cells #[.int .i64 m.n, .slice ua un uc, .slice ya yn yc, .slice za zn zc] 36)) y) => hm3.below (hbO.trans (hy.mono hbO.size)))
    have bO := hid (b3'.out.trans (hbO.mono b3'.out.size))
    clear b3 d0 d1 d2 d3 b2 hm3
    go_upto_region 4 with fail
    obtain ⟨wo, hwo⟩ : ∃ wo, w3.alloc (.cells #[.int .i64 m.n, .slice ua un uc, .slice ya yn yc, .slice za zn zc] 36) = wo := ⟨_, rfl⟩
    obtain ⟨B, hB⟩ : ∃ B, w3.heap.size = B := ⟨_, rfl⟩
    rw [hwo] at hown hmO bO ⊢
    rw [hB] at hown ⊢
    clear hwo hB hbO
    obtain ⟨f0, f1, f2, f3⟩ := hown.out wo (Below.refl _ _)
    have henc := hid (hl.out.enc hh.out wo bO.out (hmO.out wo (Below.refl _ _)))
    go_wp2_with fail
    refine henc.out.mono ?_
    rintro e w4 ⟨b4, ⟨hmay, u, rfl, hu⟩ | ⟨hno, rfl⟩⟩
    · have b4' := hid (bO.out.trans (b4.mono bO.out.size))
      have b4o := hid b4
      obtain ⟨ad, cap, rfl, hby⟩ := hu.bytes (by have := (Lw.len hh.out).2; omega)
      obtain ⟨L, hL'⟩ : ∃ L, (enc m).length = L := ⟨_, rfl⟩
      have hL := hid hL'
      have hLn : Hid (L = (enc m).length) := hL'.symm
      rw [hL']
      clear hL'
      have hrn : Hid (Rn m) := hmay.rn ((hl.out.mp w4 b4'.out).en)
      obtain ⟨d0, d1, d2, d3⟩ := hl.out.box w4 b4'.out
      have hdoc := hid (rround17_ok (hl.out.mp w4 b4'.out) rfl hsz.out.1 hsz.out.2.1 hsz.out.2.2)
      replace hby := hid hby
      clear b4 hu henc f0 f1 f2 f3
      go_wp2_with fail
      refine hdoc.out.mono ?_
      rintro e w5 ⟨b5, ⟨_, ka, kn, kc, rfl, _⟩ | ⟨hno, _⟩⟩
      · have b5' := hid (b4'.out.trans (b5.mono b4'.out.size))
        have b5o := hid (b4o.out.trans (b5.mono b4o.out.size))
        have hS := hid (fun (y : World) (hy : Below w5.heap.size w5 y) => And.intro (hby.out.below (b5.trans (hy.mono b5.size))) (And.intro (hl.out.box y (b5'.out.trans (hy.mono b5'.out.size))) (hown.out y (b5o.out.trans (hy.mono b5o.out.size)))))
        clear b5 hdoc d0 d1 d2 d3
        go_upto_region 8 with fail
        refine wp_region_noPanic ?_
        refine wp_region_held_drew (S := fun w' => Wi.Bytes w' ad cap (enc m) ∧ Bxd w' W.heap.size m.n (.slice va vn vc) (.slice ea en ec) (.slice la ln lc) ∧ Bxd w' B m.n (.slice ua un uc) (.slice ya yn yc) (.slice za zn zc)) (by kernel_rfl) (hS.out _ (Below.refl w5.heap.size w5).drew) (fun hHeld => ?_)
        generalize hx0 : w5.drew = x0 at hHeld ⊢
        have bx0 : Below w5.heap.size w5 x0 := by rw [← hx0]; exact (Below.refl _ _).drew
        have hb50 := hid (b5'.out.trans (bx0.mono b5'.out.size))
        have henc2 := hid (rencode_ok (hl.out.mp x0 hb50.out) hrn.out hsz.out.1 hsz.out.2.1)
        clear hx0
        refine takeH (i := 0) (v := ?_) (a' := ?_) ({ dst := some 36, op := Op.move (Operand.tmp 5), type := 30, pos := "law.go:135", after := #[], guard := none }) rfl (by kernel_rfl) (by kernel_rfl) (by kernel_rfl) (fun _ _ _ h => h) (by rfl) ?_ hHeld ?_ ?_
        rotate_left 2
        · (intro w' hSw; obtain ⟨q0, ⟨q1, q2, q3, q4⟩, ⟨q5, q6, q7, q8⟩⟩ := hSw; go_simp; try with_reducible rfl)
        · (simp only [Act.put, List.setIfInBounds_toArray, List.set_cons_zero, List.set_cons_succ]; try rfl)
        refine takeH (i := 1) (v := ?_) (a' := ?_) ({ dst := some 37, op := Op.binOp BinOp.eql 30 (Operand.tmp 36) (Operand.const Value.nilIface) 30, type := 4, pos := "law.go:135", after := #[{ on := 0, ground := Ground.data }], guard := none }) rfl (by kernel_rfl) (by kernel_rfl) (by kernel_rfl) (fun _ _ _ h => h) (by rfl) ?_ hHeld ?_ ?_
        rotate_left 2
        · (intro w' hSw; obtain ⟨q0, ⟨q1, q2, q3, q4⟩, ⟨q5, q6, q7, q8⟩⟩ := hSw; go_simp; try with_reducible rfl)
        · (simp only [Act.put, List.setIfInBounds_toArray, List.set_cons_zero, List.set_cons_succ]; try rfl)
        refine takeH (i := 2) (v := ?_) (a' := ?_) ({ dst := some 38, op := Op.move (Operand.tmp 37), type := 4, pos := "law.go:135", after := #[{ on := 1, ground := Ground.data }], guard := none }) rfl (by kernel_rfl) (by kernel_rfl) (by kernel_rfl) (fun _ _ _ h => h) (by rfl) ?_ hHeld ?_ ?_
        rotate_left 2
        · (intro w' hSw; obtain ⟨q0, ⟨q1, q2, q3, q4⟩, ⟨q5, q6, q7, q8⟩⟩ := hSw; go_simp; try with_reducible rfl)
        · (simp only [Act.put, List.setIfInBounds_toArray, List.set_cons_zero, List.set_cons_succ]; try rfl)
        refine takeH (i := 3) (v := ?_) (a' := ?_) ({ dst := some 39, op := Op.move (Operand.tmp 4), type := 43, pos := "law.go:135", after := #[{ on := 2, ground := Ground.guard }], guard := some (2, true) }) rfl (by kernel_rfl) (by kernel_rfl) (by kernel_rfl) (fun _ _ _ h => h) (by rfl) ?_ hHeld ?_ ?_
        rotate_left 2
        · (intro w' hSw; obtain ⟨q0, ⟨q1, q2, q3, q4⟩, ⟨q5, q6, q7, q8⟩⟩ := hSw; go_simp; try with_reducible rfl)
        · (simp only [Act.put, List.setIfInBounds_toArray, List.set_cons_zero, List.set_cons_succ]; try rfl)
        refine takeH (i := 5) (v := ?_) (a' := ?_) ({ dst := some 41, op := Op.load 25 (Operand.tmp 1), type := 25, pos := "law.go:135", after := #[{ on := 2, ground := Ground.guard }], guard := some (2, true) }) rfl (by kernel_rfl) (by kernel_rfl) (by kernel_rfl) (fun _ _ _ h => h) (by rfl) ?_ hHeld ?_ ?_
        rotate_left 2
        · (intro w' hSw; obtain ⟨q0, ⟨q1, q2, q3, q4⟩, ⟨q5, q6, q7, q8⟩⟩ := hSw; go_simp; try with_reducible rfl)
        · (simp only [Act.put, List.setIfInBounds_toArray, List.set_cons_zero, List.set_cons_succ]; try rfl)
        refine takeH (i := 4) (v := ?_) (a' := ?_) ({ dst := some 40, op := Op.convert 43 9 (Operand.tmp 39), type := 9, pos := "law.go:135", after := #[{ on := 3, ground := Ground.data }, { on := 2, ground := Ground.guard }], guard := some (2, true) }) rfl (by kernel_rfl) (by kernel_rfl) (by kernel_rfl) (fun _ _ _ h => h) (by rfl) ?_ hHeld ?_ ?_
        rotate_left 2
        · (intro w' hSw; obtain ⟨q0, ⟨q1, q2, q3, q4⟩, ⟨q5, q6, q7, q8⟩⟩ := hSw; have k1 := string_at q0 hLn.out; go_simp; try with_reducible rfl)
        · (simp only [Act.put, List.setIfInBounds_toArray, List.set_cons_zero, List.set_cons_succ]; try rfl)
        refine wpAnyH_ready (rs := [6]) (by kernel_rfl) (by simp) ?_
        refine AllReadyH.cons (o := { dst := some 42, op := Op.call { callee := Callee.value (Operand.func 18), args := #[Operand.tmp 41], argTypes := #[25] }, type := 43, pos := "law.go:135", after := #[{ on := 5, ground := Ground.data }, { on := 2, ground := Ground.chain }, { on := 2, ground := Ground.guard }], guard := some (2, true) }) rfl (fun K hK => ?_) AllReadyH.nil
        go_simp
        refine henc2.out.mono ?_
        rintro e x1 ⟨b01, u2, rfl, ad2, cap2, rfl, hby2⟩
        rw [hL.out]
        have bx1 := bx0.trans (b01.mono bx0.size)
        have hb51 := hid (hb50.out.trans (b01.mono hb50.out.size))
        have hS2 := hid (fun (y : World) (hy : Below x1.heap.size x1 y) => And.intro (hS.out y (bx1.trans (hy.mono bx1.size))) (hby2.below hy))
        have hS1 := hid (hS.out _ bx1)
        clear hby2 b01
        go_wp2_with fail
        refine hK.out _ _ (hS1.out) (fun hHeld => ?_)
        clear hK K
        try simp only [Act.put, List.setIfInBounds_toArray, List.set_cons_zero, List.set_cons_succ]
        refine stronger17 (fun w' => (Wi.Bytes w' ad cap (enc m) ∧ Bxd w' W.heap.size m.n (.slice va vn vc) (.slice ea en ec) (.slice la ln lc) ∧ Bxd w' B m.n (.slice ua un uc) (.slice ya yn yc) (.slice za zn zc)) ∧ Wi.Bytes w' ad2 cap2 (enc m)) (fun w' h => h.1) ?_
        clear hHeld
        have hHeld := hS2.out _ (Below.refl _ _)
        refine takeH (i := 7) (v := ?_) (a' := ?_) ({ dst := some 43, op := Op.convert 43 9 (Operand.tmp 42), type := 9, pos := "law.go:135", after := #[{ on := 6, ground := Ground.data }, { on := 2, ground := Ground.guard }], guard := some (2, true) }) rfl (by kernel_rfl) (by kernel_rfl) (by kernel_rfl) (fun _ _ _ h => h) (by rfl) ?_ hHeld ?_ ?_
        rotate_left 2
        · (intro w' hSw; obtain ⟨⟨q0, ⟨q1, q2, q3, q4⟩, ⟨q5, q6, q7, q8⟩⟩, r0⟩ := hSw; have k2 := string_at r0 hLn.out; go_simp; try with_reducible rfl)
        · (simp only [Act.put, List.setIfInBounds_toArray, List.set_cons_zero, List.set_cons_succ]; try rfl)
        refine takeH (i := 8) (v := ?_) (a' := ?_) ({ dst := some 44, op := Op.binOp BinOp.eql 9 (Operand.tmp 40) (Operand.tmp 43) 9, type := 4, pos := "law.go:135", after := #[{ on := 4, ground := Ground.data }, { on := 7, ground := Ground.data }, { on := 2, ground := Ground.guard }], guard := some (2, true) }) rfl (by kernel_rfl) (by kernel_rfl) (by kernel_rfl) (fun _ _ _ h => h) (by rfl) ?_ hHeld ?_ ?_
        rotate_left 2
        · (intro w' hSw; obtain ⟨⟨q0, ⟨q1, q2, q3, q4⟩, ⟨q5, q6, q7, q8⟩⟩, r0⟩ := hSw; go_simp; try with_reducible rfl)
        · (simp only [Act.put, List.setIfInBounds_toArray, List.set_cons_zero, List.set_cons_succ]; try rfl)
        refine takeH (i := 9) (v := ?_) (a' := ?_) ({ dst := some 45, op := Op.pick (Operand.tmp 38) (Operand.tmp 44) (Operand.const (Value.bool false)), type := 4, pos := "law.go:135", after := #[{ on := 2, ground := Ground.data }, { on := 8, ground := Ground.data }], guard := none }) rfl (by kernel_rfl) (by kernel_rfl) (by kernel_rfl) (fun _ _ _ h => h) (by rfl) ?_ hHeld ?_ ?_
        rotate_left 2
        · (intro w' hSw; obtain ⟨⟨q0, ⟨q1, q2, q3, q4⟩, ⟨q5, q6, q7, q8⟩⟩, r0⟩ := hSw; go_simp; try with_reducible rfl)
        · (simp only [Act.put, List.setIfInBounds_toArray, List.set_cons_zero, List.set_cons_succ]; try rfl)
        refine takeH (i := 10) (v := ?_) (a' := ?_) ({ dst := some 46, op := Op.move (Operand.tmp 45), type := 4, pos := "law.go:135", after := #[{ on := 9, ground := Ground.data }, { on := 6, ground := Ground.chain }], guard := none }) rfl (by kernel_rfl) (by kernel_rfl) (by kernel_rfl) (fun _ _ _ h => h) (by rfl) ?_ hHeld ?_ ?_
        rotate_left 2
        · (intro w' hSw; obtain ⟨⟨q0, ⟨q1, q2, q3, q4⟩, ⟨q5, q6, q7, q8⟩⟩, r0⟩ := hSw; go_simp; try with_reducible rfl)
        · (simp only [Act.put, List.setIfInBounds_toArray, List.set_cons_zero, List.set_cons_succ]; try rfl)
        refine takeH (i := 11) (v := ?_) (a' := ?_) ({ dst := some 47, op := Op.load 36 (Operand.tmp 3), type := 36, pos := "law.go:135", after := #[{ on := 10, ground := Ground.guard }], guard := some (10, true) }) rfl (by kernel_rfl) (by kernel_rfl) (by kernel_rfl) (fun _ _ _ h => h) (by rfl) ?_ hHeld ?_ ?_
        rotate_left 2
        · (intro w' hSw; obtain ⟨⟨q0, ⟨q1, q2, q3, q4⟩, ⟨q5, q6, q7, q8⟩⟩, r0⟩ := hSw; go_simp; try with_reducible rfl)
        · (simp only [Act.put, List.setIfInBounds_toArray, List.set_cons_zero, List.set_cons_succ]; try rfl)
        refine takeH (i := 12) (v := ?_) (a' := ?_) ({ dst := some 48, op := Op.load 25 (Operand.tmp 1), type := 25, pos := "law.go:135", after := #[{ on := 10, ground := Ground.guard }], guard := some (10, true) }) rfl (by kernel_rfl) (by kernel_rfl) (by kernel_rfl) (fun _ _ _ h => h) (by rfl) ?_ hHeld ?_ ?_
        rotate_left 2
        · (intro w' hSw; obtain ⟨⟨q0, ⟨q1, q2, q3, q4⟩, ⟨q5, q6, q7, q8⟩⟩, r0⟩ := hSw; go_simp; try with_reducible rfl)
        · (simp only [Act.put, List.setIfInBounds_toArray, List.set_cons_zero, List.set_cons_succ]; try rfl)
        refine wpAnyH_ready (rs := [13]) (by kernel_rfl) (by simp) ?_
        refine AllReadyH.cons (o := { dst := some 49, op := Op.call { callee := Callee.value (Operand.func 19), args := #[Operand.tmp 47, Operand.tmp 48], argTypes := #[36, 25] }, type := 4, pos := "law.go:135", after := #[{ on := 11, ground := Ground.data }, { on := 12, ground := Ground.data }, { on := 10, ground := Ground.chain }, { on := 10, ground := Ground.guard }], guard := some (10, true) }) rfl (fun K hK => ?_) AllReadyH.nil
        go_simp
        refine (sameM_ok (n := m.n) (n' := m.n) (hmO.out x1 (b5o.out.trans (bx1.mono b5o.out.size))) rfl (hl.out.mp x1 hb51.out) rfl true ⟨fun _ => rfl, fun _ => rfl⟩).mono ?_
        rintro e x2 ⟨rfl, b12⟩
        have hb52 := hid (hb51.out.trans (b12.mono hb51.out.size))
        have hS3 := hid (hS2.out _ b12)
        go_wp2_with fail
        refine hK.out _ _ (hS3.out) (fun hHeld => ?_)
        clear hK K
        try simp only [Act.put, List.setIfInBounds_toArray, List.set_cons_zero, List.set_cons_succ]
        refine takeH (i := 14) (v := ?_) (a' := ?_) ({ dst := some 50, op := Op.pick (Operand.tmp 46) (Operand.tmp 49) (Operand.const (Value.bool false)), type := 4, pos := "law.go:135", after := #[{ on := 10, ground := Ground.data }, { on := 13, ground := Ground.data }], guard := none }) rfl (by kernel_rfl) (by kernel_rfl) (by kernel_rfl) (fun _ _ _ h => h) (by rfl) ?_ hHeld ?_ ?_
        rotate_left 2
        · (intro w' hSw; obtain ⟨⟨q0, ⟨q1, q2, q3, q4⟩, ⟨q5, q6, q7, q8⟩⟩, r0⟩ := hSw; go_simp; try with_reducible rfl)
        · (simp only [Act.put, List.setIfInBounds_toArray, List.set_cons_zero, List.set_cons_succ]; try rfl)
        refine takeH (i := 15) (v := ?_) (a' := ?_) ({ dst := some 51, op := Op.move (Operand.tmp 50), type := 4, pos := "law.go:135", after := #[{ on := 14, ground := Ground.data }, { on := 13, ground := Ground.chain }], guard := none }) rfl (by kernel_rfl) (by kernel_rfl) (by kernel_rfl) (fun _ _ _ h => h) (by rfl) ?_ hHeld ?_ ?_
        rotate_left 2
        · (intro w' hSw; obtain ⟨⟨q0, ⟨q1, q2, q3, q4⟩, ⟨q5, q6, q7, q8⟩⟩, r0⟩ := hSw; go_simp; try with_reducible rfl)
        · (simp only [Act.put, List.setIfInBounds_toArray, List.set_cons_zero, List.set_cons_succ]; try rfl)
        refine wpAnyH_ready (rs := [16]) (by kernel_rfl) (by simp) ?_
        refine AllReadyH.cons (o := { dst := some 52, op := Op.call { callee := Callee.value (Operand.func 10), args := #[], argTypes := #[] }, type := 4, pos := "law.go:135", after := #[{ on := 15, ground := Ground.chain }, { on := 15, ground := Ground.guard }], guard := some (15, true) }) rfl (fun K hK => ?_) AllReadyH.nil
        go_simp
        refine (hl.out.sure x2 hb52.out).mono ?_
        rintro e x3 ⟨rfl, b23⟩
        have hb53 := hid (hb52.out.trans (b23.mono hb52.out.size))
        have hS4 := hid (hS2.out _ (b12.trans (b23.mono b12.size)))
        go_wp2_with fail
        refine hK.out _ _ (hS4.out) (fun hHeld => ?_)
        clear hK K
        try simp only [Act.put, List.setIfInBounds_toArray, List.set_cons_zero, List.set_cons_succ]
        refine takeH (i := 17) (v := ?_) (a' := ?_) ({ dst := some 53, op := Op.pick (Operand.tmp 51) (Operand.tmp 52) (Operand.const (Value.bool false)), type := 4, pos := "law.go:135", after := #[{ on := 15, ground := Ground.data }, { on := 16, ground := Ground.data }], guard := none }) rfl (by kernel_rfl) (by kernel_rfl) (by kernel_rfl) (fun _ _ _ h => h) (by rfl) ?_ hHeld ?_ ?_
        rotate_left 2
        · (intro w' hSw; obtain ⟨⟨q0, ⟨q1, q2, q3, q4⟩, ⟨q5, q6, q7, q8⟩⟩, r0⟩ := hSw; go_simp; try with_reducible rfl)
        · (simp only [Act.put, List.setIfInBounds_toArray, List.set_cons_zero, List.set_cons_succ]; try rfl)
        refine takeH (i := 18) (v := ?_) (a' := ?_) ({ dst := some 2, op := Op.assign (Operand.tmp 53), type := 4, pos := "law.go:135", after := #[{ on := 17, ground := Ground.data }, { on := 16, ground := Ground.chain }, { on := 0, ground := Ground.phase }, { on := 1, ground := Ground.phase }, { on := 2, ground := Ground.phase }, { on := 3, ground := Ground.phase }, { on := 4, ground := Ground.phase }, { on := 5, ground := Ground.phase }, { on := 6, ground := Ground.phase }, { on := 7, ground := Ground.phase }, { on := 8, ground := Ground.phase }, { on := 9, ground := Ground.phase }, { on := 10, ground := Ground.phase }, { on := 11, ground := Ground.phase }, { on := 12, ground := Ground.phase }, { on := 13, ground := Ground.phase }, { on := 14, ground := Ground.phase }, { on := 15, ground := Ground.phase }, { on := 16, ground := Ground.phase }, { on := 17, ground := Ground.phase }], guard := none }) rfl (by kernel_rfl) (by kernel_rfl) (by kernel_rfl) (fun _ _ _ h => h) (by rfl) ?_ hHeld ?_ ?_
        rotate_left 2
        · (intro w' hSw; obtain ⟨⟨q0, ⟨q1, q2, q3, q4⟩, ⟨q5, q6, q7, q8⟩⟩, r0⟩ := hSw; go_simp; try with_reducible rfl)
        · (simp only [Act.put, List.setIfInBounds_toArray, List.set_cons_zero, List.set_cons_succ]; try rfl)
        refine wpAnyH_done (by kernel_rfl) ?_ _
        refine NoPanic.normal ?_
        have hb := hid (hl.out.bel.trans (hb53.out.mono hl.out.bel.size))
        clear bx0 bx1 b12 b23 hHeld
        go_wp2_with fail
        go_ret
        exact ⟨rfl, hb.out⟩
      · exact absurd hmay hno
    · have b4' := hid (bO.out.trans (b4.mono bO.out.size))
      obtain ⟨d0, d1, d2, d3⟩ := hl.out.box w4 b4'.out
      have hdoc := hid (rround17_ok (hl.out.mp w4 b4'.out) rfl hsz.out.1 hsz.out.2.1 hsz.out.2.2)
      clear b4 henc f0 f1 f2 f3
      go_wp2_with fail
      refine hdoc.out.mono ?_
      rintro e w5 ⟨b5, ⟨hmay, _⟩ | ⟨_, rfl⟩⟩
      · exact absurd hmay hno
      · have b5' := hid (b4'.out.trans (b5.mono b4'.out.size))
        clear b5 hdoc d0 d1 d2 d3
        go_wp2_with fail
        refine (hl.out.num17 w5 b5'.out).mono ?_
        rintro e w6 ⟨rfl, b6⟩
        have b6' := hid (b5'.out.trans (b6.mono b5'.out.size))
        clear b6
        go_wp2_with fail
        refine (hl.out.sure _ b6'.out).mono ?_
        rintro e w7 ⟨rfl, b7⟩
        have hb := hid (hl.out.bel.trans ((b6'.out.trans (b7.mono b6'.out.size)).mono hl.out.bel.size))
        clear b7
        go_wp2_with fail
        go_ret
        exact ⟨rfl, hb.out⟩

end Go.Proofs.YtboafgimjadboaaGreatDoor
