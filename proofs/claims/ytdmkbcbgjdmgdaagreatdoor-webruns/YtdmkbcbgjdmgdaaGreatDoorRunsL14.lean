/- The law WebRuns, walked: whatever is merged, split, tied and untied: faces, what is linked, the weakest ties, and the errors. -/
import Derived.Test.YtdmkbcbgjdmgdaaGreatDoorBwn
import Derived.Test.YtdmkbcbgjdmgdaaGreatDoorLaws14
import Derived.Test.YtdmkbcbgjdmgdaaGreatDoorRoad14
namespace Go.Proofs.YtdmkbcbgjdmgdaaGreatDoor
open Go.RowKit
set_option linter.unusedVariables false

theorem al_keepW {y : World} {b : Nat} {o o' : Obj} (h : y.heap[b]? = some o) : (y.alloc o').heap[b]? = some o := (Below.heap_alloc _ _ _ (Array.getElem?_eq_some_iff.1 h).1).trans h

/-- What 'do' answered in a block of its own, the variable still as it was. -/
def YD (w : World) (wb n bx P : Nat) (v2 v3 : Value) (wx : World) : Prop :=
  ∃ sq tt ky fad F fcap tad T tcap, WQ w.heap.size w wb n 8 sq tt ky wx ∧ Dc n 8 sq tt ky wx (.agg #[.int .i64 (n : Int), .int .i64 8, .slice fad F fcap, .slice tad T tcap]) ∧ wx.heap[P]? = some (.cells #[.int .i64 (n : Int), .int .i64 8, .slice fad F fcap, .slice tad T tcap] 32 (0, 0)) ∧ wx.heap[bx]? = some (.cells #[.int .i64 (n : Int), .int .i64 8, v2, v3] 32 (0, 0))

section
variable {w w4 : World} {wb n bx : Nat} {sq : Nat → List Nat} {tt : Nat → Option (Nat × Nat)} {ky : Nat → Int} {fad tad : Option Addr} {F fcap T tcap : Nat} {v2 v3 u0 u1 u2 u3 : Value}

theorem YD.alloc (h : WQ w.heap.size w wb n 8 sq tt ky w4) (d : Dc n 8 sq tt ky w4 (.agg #[.int .i64 (n : Int), .int .i64 8, .slice fad F fcap, .slice tad T tcap])) (hb : w4.heap[bx]? = some (.cells #[.int .i64 (n : Int), .int .i64 8, v2, v3] 32 (0, 0))) : YD w wb n bx w4.heap.size v2 v3 (w4.alloc (.cells #[.int .i64 (n : Int), .int .i64 8, .slice fad F fcap, .slice tad T tcap] 32)) :=
  ⟨sq, tt, ky, fad, F, fcap, tad, T, tcap, h.alloc _, d.below ((Below.refl _ _).alloc (Nat.le_refl _) _), heap_alloc_new w4 _, al_keepW hb⟩

theorem YD.set {P : Nat} (h : WQ w.heap.size w wb n 8 sq tt ky w4) (d : Dc n 8 sq tt ky w4 (.agg #[.int .i64 (n : Int), .int .i64 8, .slice fad F fcap, .slice tad T tcap])) (hb : w4.heap[bx]? = some (.cells #[.int .i64 (n : Int), .int .i64 8, v2, v3] 32 (0, 0))) (hP : w4.heap[P]? = some (.cells #[u0, u1, u2, u3] 32 (0, 0))) (hl : w.heap.size ≤ P) (hne : bx ≠ P) : YD w wb n bx P v2 v3 (put4 w4 P (.int .i64 (n : Int)) (.int .i64 8) (.slice fad F fcap) (.slice tad T tcap)) := by
  obtain ⟨o, kv⟩ := put4_keep hP (.int .i64 (n : Int)) (.int .i64 8) (.slice fad F fcap) (.slice tad T tcap)
  exact ⟨sq, tt, ky, fad, F, fcap, tad, T, tcap, h.ofV kv (Wd.below4 (Below.refl _ _) hl _ _ _ _), d.keepD (.ofV kv), Wd.set4_block hP _ _ _ _, (o bx hne).trans hb⟩

theorem LS.told {wr w' : World} (h : LS w wb n bx wr) {sq' : Nat → List Nat} {tt' : Nat → Option (Nat × Nat)} {ky' : Nat → Int} {ws : World} (hq : WQ w.heap.size w wb n 8 sq' tt' ky' w') (k : KeepW ws w') (hd : Dc n 8 sq' tt' ky' ws (.agg #[.int .i64 (n : Int), .int .i64 8, .slice fad F fcap, .slice tad T tcap])) (hb : ws.heap[bx]? = some (.cells #[.int .i64 (n : Int), .int .i64 8, .slice fad F fcap, .slice tad T tcap] 32 (0, 0))) : LS w wb n bx w' := by
  obtain ⟨_, _, _, _, _, _, _, _, _, h1, h2, h3, h4⟩ := h
  exact ⟨sq', tt', ky', fad, F, fcap, tad, T, tcap, hq, hd.keepD (.ofW k), k.web hb, h4⟩

theorem Dc.ties {m : Nat} {w0 : World} {a b c tv : Value} (h : Dc n m sq tt ky w0 (.agg #[a, b, c, tv])) : ∃ ts, Wd.TV w0 tv ts ∧ Ts tt ky ts := by
  obtain ⟨fv, tv', ls, ts, hxv, _, _, hT, hTs⟩ := h
  injection hxv with hxv
  injection hxv with hxv
  injection hxv with _ hxv
  injection hxv with _ hxv
  injection hxv with _ hxv
  injection hxv with hxv _
  subst hxv
  exact ⟨ts, hT, hTs⟩

theorem tied_any {lo m : Nat} {w0 : World} (h : WQ lo w wb n m sq tt ky w0) (e : Int) (B : Bool) (hB : B = true ↔ 0 ≤ e ∧ (tt e.toNat).isSome = true) :
    Calls Tryz.prog 12 #[.pointer (some ⟨wb, 0, none⟩), .int .i64 e] w0 fun x w' => x = .returned (.bool B) ∧ Below w0.heap.size w0 w' := by
  by_cases he : 0 ≤ e
  · obtain ⟨k, rfl⟩ : ∃ k : Nat, e = (k : Int) := ⟨e.toNat, by omega⟩
    have : (tt k).isSome = B := by
      have hB' : B = true ↔ (tt k).isSome = true := by simpa using hB
      cases hc : (tt k).isSome <;> cases B <;> simp_all
    rw [← this]
    exact h.tied k
  · have : B = false := by
      cases B with
      | false => rfl
      | true => exact absurd (hB.1 rfl).1 he
    rw [this]
    exact h.tied_bad e (by omega)

/-- The variable's cells and an act's. -/
theorem nine {wz y : World} {b0 o0 j : Nat} {q : A5} (hc : ∀ w', Below wz.heap.size wz w' → w'.cell? ⟨b0, o0 + j * 5, none⟩ = some (.int .i64 q.k) ∧ w'.cell? ⟨b0, o0 + j * 5 + 1, none⟩ = some (.int .i64 q.a) ∧ w'.cell? ⟨b0, o0 + j * 5 + 2, none⟩ = some (.int .i64 q.b) ∧ w'.cell? ⟨b0, o0 + j * 5 + 3, none⟩ = some (.int .i64 q.e) ∧ w'.cell? ⟨b0, o0 + j * 5 + 4, none⟩ = some (.int .i64 q.v)) (hb : Below wz.heap.size wz y) (hx : y.heap[bx]? = some (.cells #[u0, u1, u2, u3] 32 (0, 0))) :
    y.cell? ⟨bx, 0, none⟩ = some u0 ∧ y.cell? ⟨bx, 1, none⟩ = some u1 ∧ y.cell? ⟨bx, 2, none⟩ = some u2 ∧ y.cell? ⟨bx, 3, none⟩ = some u3 ∧ y.cell? ⟨b0, o0 + j * 5, none⟩ = some (.int .i64 q.k) ∧ y.cell? ⟨b0, o0 + j * 5 + 1, none⟩ = some (.int .i64 q.a) ∧ y.cell? ⟨b0, o0 + j * 5 + 2, none⟩ = some (.int .i64 q.b) ∧ y.cell? ⟨b0, o0 + j * 5 + 3, none⟩ = some (.int .i64 q.e) ∧ y.cell? ⟨b0, o0 + j * 5 + 4, none⟩ = some (.int .i64 q.v) := by
  obtain ⟨x0, x1, x2, x3⟩ := blk4 hx
  exact ⟨x0, x1, x2, x3, hc y hb⟩

theorem seven {wz y : World} {b0 o0 j : Nat} {qk qa qb qe qv : Int} (hc : ∀ w', Below wz.heap.size wz w' → w'.cell? ⟨b0, o0 + j * 5, none⟩ = some (.int .i64 qk) ∧ w'.cell? ⟨b0, o0 + j * 5 + 1, none⟩ = some (.int .i64 qa) ∧ w'.cell? ⟨b0, o0 + j * 5 + 2, none⟩ = some (.int .i64 qb) ∧ w'.cell? ⟨b0, o0 + j * 5 + 3, none⟩ = some (.int .i64 qe) ∧ w'.cell? ⟨b0, o0 + j * 5 + 4, none⟩ = some (.int .i64 qv)) (hb : Below wz.heap.size wz y) (hx : y.heap[bx]? = some (.cells #[u0, u1, u2, u3] 32 (0, 0))) :
    y.cell? ⟨bx, 0, none⟩ = some u0 ∧ y.cell? ⟨bx, 1, none⟩ = some u1 ∧ y.cell? ⟨bx, 2, none⟩ = some u2 ∧ y.cell? ⟨bx, 3, none⟩ = some u3 ∧ y.cell? ⟨b0, o0 + j * 5 + 1, none⟩ = some (.int .i64 qa) ∧ y.cell? ⟨b0, o0 + j * 5 + 2, none⟩ = some (.int .i64 qb) ∧ y.cell? ⟨b0, o0 + j * 5 + 3, none⟩ = some (.int .i64 qe) := by
  obtain ⟨x0, x1, x2, x3⟩ := blk4 hx
  obtain ⟨_, h1, h2, h3, _⟩ := hc y hb
  exact ⟨x0, x1, x2, x3, h1, h2, h3⟩
end

set_option maxRecDepth 100000 in
set_option maxHeartbeats 8000000 in
theorem runs_law (n : Int) (ad : Option Addr) (m cap : Nat) (l : List A5) (wz : World) (hg : Handle wz) (hv : AV5 wz (.slice ad m cap) l) :
    Calls Tryz.prog 3 #[.int .i64 n, .slice ad m cap] wz fun e w' => e = .returned (.bool true) ∧ Below wz.heap.size wz w' := by
  obtain ⟨K, hK, hK1, hK2⟩ := mod_up n 14 (by decide) (by decide)
  have hK15 : K ≤ 14 := by omega
  have hnew := hid (WQ.new K 8 wz (by omega) (by omega) (by omega) (by omega) (fun _ => 0))
  have hrn := hid (fun y => doc_new K (fun _ => 0) y (by omega) (by omega))
  replace hg := hid hg
  have hav := hid hv
  obtain ⟨ad', m', cap', hve, hlen, hmc, hcm, _⟩ := hv
  simp only [Value.slice.injEq] at hve
  obtain ⟨rfl, rfl, rfl⟩ := hve
  unfold maxLen at hcm
  replace hlen := hid hlen
  go_enter Tryz.func3, Tryz.ntmps3
  go_upto_region 2 with fail
  try rw [hK]
  clear hK
  go_wp2_with fail
  refine hnew.out.mono ?_
  rintro x w1 ⟨wb, rfl, q1⟩
  replace q1 := hid q1
  clear hnew
  go_wp2_with fail
  refine (hrn.out w1).mono ?_
  rintro x w2 ⟨fad0, F0, fcap0, rfl, d2, b2⟩
  have q2 := q1.out.more b2
  have hls : LS wz wb K w2.heap.size (w2.alloc (.cells #[.int .i64 (K : Int), .int .i64 8, .slice fad0 F0 fcap0, .slice none 0 0] 32)) := ⟨_, _, _, _, _, _, _, _, _, q2.alloc _, d2.below ((Below.refl _ _).alloc (Nat.le_refl _) _), heap_alloc_new w2 _, q2.below.size⟩
  replace hls := hid hls
  clear b2 d2 q1 q2 hrn
  go_wp2_with fail
  obtain ⟨w3, hw3⟩ : ∃ w3, w2.alloc (.cells #[.int .i64 (K : Int), .int .i64 8, .slice fad0 F0 fcap0, .slice none 0 0] 32) = w3 := ⟨_, rfl⟩
  rw [hw3] at hls
  try rw [hw3]
  clear hw3
  obtain ⟨bx, hbx⟩ : ∃ bx, w2.heap.size = bx := ⟨_, rfl⟩
  rw [hbx] at hls
  try rw [hbx]
  clear hbx
  go_loopw [9, 10, 11] (fun s9 _ _ wr => ∃ j : Nat, j ≤ m ∧ j ≤ 70 ∧ s9 = .int .i64 (j : Int) ∧ Hid (LS wz wb K bx wr)) (fun s9 _ _ _ => 70 - (intOf s9).toNat)
  case atStart => exact ⟨0, by omega, by omega, by go_num, hls⟩
  case round =>
    obtain ⟨j, hj, hj70, rfl, hst⟩ := hrel
    clear hls
    by_cases hlt : j < m ∧ j < 70
    · obtain ⟨q, hq⟩ : ∃ q, l[j]? = some q := ⟨_, List.getElem?_eq_getElem (by rw [hlen.out]; exact hlt.1)⟩
      obtain ⟨ok, b0, o0, rfl, hbl, hcells⟩ := hav.out.five (w' := wz) hq
      obtain ⟨sq0, tt0, ky0, fad, F, fcap, tad, T, tcap, g1, g2, g3, g4⟩ := hst.out
      obtain ⟨qk, qa, qb, qe, qv⟩ := q
      obtain ⟨ok1, ok2⟩ := ok
      simp only [] at ok1 ok2
      have hdo := hid (fun y (hy : Below wr.heap.size wr y) => do_ok (g1.more hy) (g2.below hy) hg.out (by omega) (by omega) qk qa qb qe qv ok1 ok2)
      have E0 : Hid (∀ y, Below wz.heap.size wz y → y.heap[bx]? = some (.cells #[.int .i64 (K : Int), .int .i64 8, .slice fad F fcap, .slice tad T tcap] 32 (0, 0)) → y.cell? ⟨bx, 0, none⟩ = some (.int .i64 (K : Int)) ∧ y.cell? ⟨bx, 1, none⟩ = some (.int .i64 8) ∧ y.cell? ⟨bx, 2, none⟩ = some (.slice fad F fcap) ∧ y.cell? ⟨bx, 3, none⟩ = some (.slice tad T tcap) ∧ y.cell? ⟨b0, o0 + j * 5, none⟩ = some (.int .i64 qk) ∧ y.cell? ⟨b0, o0 + j * 5 + 1, none⟩ = some (.int .i64 qa) ∧ y.cell? ⟨b0, o0 + j * 5 + 2, none⟩ = some (.int .i64 qb) ∧ y.cell? ⟨b0, o0 + j * 5 + 3, none⟩ = some (.int .i64 qe) ∧ y.cell? ⟨b0, o0 + j * 5 + 4, none⟩ = some (.int .i64 qv)) := hid fun y hb hx => nine hcells hb hx
      have hcells := hid hcells
      have hbw := hid g1.below
      have hwl := g1.below.size
      have hbxl : bx < wr.heap.size := (Array.getElem?_eq_some_iff.1 g3).1
      have i1 : (0 : Int) ≤ (j : Int) := by omega
      have i2 : (j : Int) < (m : Int) := by omega
      have t1 : decide ((j : Int) < (m : Int)) = true := decide_eq_true (by omega)
      have t2 : decide ((j : Int) < 70) = true := decide_eq_true (by omega)
      have hx0 := hid g3
      have hst0 := hst
      clear hst g1 g2 g3 hq ok1 ok2
      go_upto_region 9 with fail
      go_cut [10, 11] from 42 to 50 (fun s10 s11 wx => ∃ P, s10 = .pointer (some ⟨P, 0, none⟩) ∧ s11 = .bool true ∧ Hid (wz.heap.size ≤ P ∧ bx ≠ P ∧ YD wz wb K bx P (.slice fad F fcap) (.slice tad T tcap) wx))
      case first =>
        have S0 := E0.out wr.drew hbw.out.drew hx0.out
        have S1 := E0.out (wr.alloc (.cells #[.int .i64 0, .int .i64 0, .slice none 0 0, .slice none 0 0] 32)).drew (hbw.out.alloc hwl _).drew (al_keepW hx0.out)
        go_region_held3 (fun y => y.cell? ⟨bx, 0, none⟩ = some (.int .i64 (K : Int)) ∧ y.cell? ⟨bx, 1, none⟩ = some (.int .i64 8) ∧ y.cell? ⟨bx, 2, none⟩ = some (.slice fad F fcap) ∧ y.cell? ⟨bx, 3, none⟩ = some (.slice tad T tcap) ∧ y.cell? ⟨b0, o0 + j * 5, none⟩ = some (.int .i64 qk) ∧ y.cell? ⟨b0, o0 + j * 5 + 1, none⟩ = some (.int .i64 qa) ∧ y.cell? ⟨b0, o0 + j * 5 + 2, none⟩ = some (.int .i64 qb) ∧ y.cell? ⟨b0, o0 + j * 5 + 3, none⟩ = some (.int .i64 qe) ∧ y.cell? ⟨b0, o0 + j * 5 + 4, none⟩ = some (.int .i64 qv))
          (first | with_reducible exact S0 | with_reducible exact S1 | with_reducible exact S4 | with_reducible exact S4a | with_reducible exact S4z | with_reducible exact S4s | with_reducible exact S4t | go_keep)
          ((go_at_call 10; refine (hdo.out _ (by first | exact (Below.refl _ _).drew | exact ((Below.refl _ _).alloc (Nat.le_refl _) _).drew)).mono ?_; rintro x w4 ⟨xv', sq', tt', ky', rfl, h4, d4, k4⟩; obtain ⟨fad', F', fcap', tad', T', tcap', hxe⟩ := d4.form; subst hxe; have hx4 := k4.web (by first | exact hx0.out | exact al_keepW (y := wr) hx0.out); have hb4 := h4.below; have S4 := E0.out w4 hb4 hx4; have S4a := E0.out (w4.alloc (.cells #[.int .i64 (K : Int), .int .i64 8, .slice fad' F' fcap', .slice tad' T' tcap'] 32)) (hb4.alloc hb4.size _) (al_keepW hx4); have S4z := E0.out (w4.alloc (.cells #[.int .i64 0, .int .i64 0, .slice none 0 0, .slice none 0 0] 32)) (hb4.alloc hb4.size _) (al_keepW hx4); (first | (have hP4 := k4.web (heap_alloc_new wr (.cells #[.int .i64 0, .int .i64 0, .slice none 0 0, .slice none 0 0] 32)); obtain ⟨⟨z0, z1, z2, z3⟩, z4, z5, z6, z7⟩ := Wd.blk4 hP4; have S4s := E0.out (put4 w4 wr.heap.size (.int .i64 (K : Int)) (.int .i64 8) (.slice fad' F' fcap') (.slice tad' T' tcap')) (Wd.below4 hb4 hwl _ _ _ _) (((put4_keep hP4 _ _ _ _).1 bx (by show bx ≠ wr.heap.size; omega)).trans hx4); have fin := hid (YD.set (P := wr.heap.size) h4 d4 hx4 hP4 hwl (by omega)); clear hP4) | (have fin := hid (YD.alloc h4 d4 hx4))); have hs4 := hb4.size; have hx4l := (Array.getElem?_eq_some_iff.1 hx4).1; clear h4 d4 k4 hx4 hb4))
        all_goals
          go_wp2_with fail
          go_meet
          case rel => first
            | exact ⟨w4.heap.size, rfl, rfl, hid ⟨hs4, by omega, fin.out⟩⟩
            | exact ⟨wr.heap.size, rfl, rfl, hid ⟨hwl, by omega, fin.out⟩⟩
      case rest =>
        obtain ⟨P, rfl, rfl, hst'⟩ := hcut
        obtain ⟨hP1, hP2, sq, tt, ky, fa, Fn, fc, ta, Tn, tc, y1, y2, y3, y4⟩ := hst'.out
        obtain ⟨z0, z1, z2, z3⟩ := blk4 y3
        obtain ⟨⟨x0, x1, x2, x3⟩, x4, x5, x6, x7⟩ := Wd.blk4 y4
        obtain ⟨ov, kv⟩ := put4_keep y4 (.int .i64 (K : Int)) (.int .i64 8) (.slice fa Fn fc) (.slice ta Tn tc)
        have hls := hid (LS.put y1 y2 y4 g4)
        have hq := hid (y1.ofV kv (Wd.below4 (Below.refl _ _) g4 _ _ _ _))
        have hd := hid (y2.keepD (.ofV kv))
        have hx := hid (Wd.set4_block y4 (.int .i64 (K : Int)) (.int .i64 8) (.slice fa Fn fc) (.slice ta Tn tc))
        unfold put4 at hls hq hd hx
        clear hst' y1 y2 y3 y4 ov kv hdo E0 hx0 hst0 hbw
        go_upto_region 11 with fail
        generalize (((wc.setCell ⟨bx, 0, none⟩ (.int .i64 (K : Int))).setCell ⟨bx, 1, none⟩ (.int .i64 8)).setCell ⟨bx, 2, none⟩ (.slice fa Fn fc)).setCell ⟨bx, 3, none⟩ (.slice ta Tn tc) = wd at hls hq hd hx ⊢
        clear z0 z1 z2 z3 x0 x1 x2 x3 x4 x5 x6 x7
        have hto := hid (told_ok (hq.out.drew) (hd.out.below (Below.refl _ _).drew) hg.out (by omega) (by omega) qb qa)
        have E1 := hid (fun (y : World) (hb : Below wz.heap.size wz y) (hx : y.heap[bx]? = some (.cells #[.int .i64 (K : Int), .int .i64 8, .slice fa Fn fc, .slice ta Tn tc] 32 (0, 0))) => seven hcells.out hb hx)
        have S0 := E1.out wd.drew hq.out.below.drew hx.out
        have hls' := hid (fun (w' : World) (h5 : WQ wz.heap.size wz wb K 8 sq tt ky w') (k5 : KeepW wd.drew w') => LS.told hls.out h5 k5 (hd.out.below (Below.refl _ _).drew) hx.out)
        obtain ⟨ts, hT, hTs⟩ := hd.out.ties
        have hT := hid (hT.below (Below.refl _ _).drew)
        have hTl := hid (hq.out.few hTs)
        replace hTs := hid hTs

        by_cases hB : 0 ≤ qe ∧ (tt qe.toNat).isSome = true
        · skip
          have t9 : Hid (∀ i : Int, Wd.AtIs ts qe i → decide (i ≥ 0) = true) := hid fun i hi => by
            have := at_is hTs.out hi
            exact decide_eq_true (this.2 hB)
          have htd := hid (fun y (hy : WQ wz.heap.size wz wb K 8 sq tt ky y) => tied_any hy qe true (by simp [hB]))
          clear hB
          go_region_held3 (fun y => y.cell? ⟨bx, 0, none⟩ = some (.int .i64 (K : Int)) ∧ y.cell? ⟨bx, 1, none⟩ = some (.int .i64 8) ∧ y.cell? ⟨bx, 2, none⟩ = some (.slice fa Fn fc) ∧ y.cell? ⟨bx, 3, none⟩ = some (.slice ta Tn tc) ∧ y.cell? ⟨b0, o0 + j * 5 + 1, none⟩ = some (.int .i64 qa) ∧ y.cell? ⟨b0, o0 + j * 5 + 2, none⟩ = some (.int .i64 qb) ∧ y.cell? ⟨b0, o0 + j * 5 + 3, none⟩ = some (.int .i64 qe))
            (first | with_reducible exact S0 | with_reducible exact S5 | with_reducible exact S6 | with_reducible exact S7 | go_keep)
            ((first
              | (go_at_call 11; refine hto.out.mono ?_; rintro x w5 ⟨rfl, h5, k5⟩; have x5 := hid (k5.web hx.out); have S5 := E1.out w5 h5.below x5.out; have d5 := hid (tv_keepD hT.out (.ofW k5)); have l5 := hid (hls'.out w5 h5 k5); replace h5 := hid h5; clear k5)
              | (go_at_call 12; refine (htd.out _ h5.out).mono ?_; rintro x w6 ⟨rfl, b6⟩; have S6 := E1.out w6 (h5.out.more b6).below (Below.web b6 x5.out); have d6 := hid (d5.out.below b6); have l6 := hid (l5.out.more b6); have x6 := hid (Below.web b6 x5.out); have h6 := hid (h5.out.more b6); clear b6)
              | (go_at_call 13; refine (Wd.rat14_ok _ _ _ _ _ _ ts qe w6 d6.out (by have := hTl.out; omega)).mono ?_; rintro x w7 ⟨i, rfl, hi, b7⟩; have t10 := t9.out i hi; have S7 := E1.out w7 (h6.out.more b7).below (Below.web b7 x6.out); have l7 := hid (l6.out.more b7); clear b7 hi)))
          all_goals
            go_wp2_with fail
            go_roundw
            case rel => exact ⟨j + 1, by omega, by omega, by go_num, l7⟩
            case measure => simp [intOf]; omega
        · skip
          have t9 : Hid (∀ i : Int, Wd.AtIs ts qe i → decide (i ≥ 0) = false) := hid fun i hi => by
            have := at_is hTs.out hi
            exact decide_eq_false (fun q => hB (this.1 q))
          have htd := hid (fun y (hy : WQ wz.heap.size wz wb K 8 sq tt ky y) => tied_any hy qe false (by simp [hB]))
          clear hB
          go_region_held3 (fun y => y.cell? ⟨bx, 0, none⟩ = some (.int .i64 (K : Int)) ∧ y.cell? ⟨bx, 1, none⟩ = some (.int .i64 8) ∧ y.cell? ⟨bx, 2, none⟩ = some (.slice fa Fn fc) ∧ y.cell? ⟨bx, 3, none⟩ = some (.slice ta Tn tc) ∧ y.cell? ⟨b0, o0 + j * 5 + 1, none⟩ = some (.int .i64 qa) ∧ y.cell? ⟨b0, o0 + j * 5 + 2, none⟩ = some (.int .i64 qb) ∧ y.cell? ⟨b0, o0 + j * 5 + 3, none⟩ = some (.int .i64 qe))
            (first | with_reducible exact S0 | with_reducible exact S5 | with_reducible exact S6 | with_reducible exact S7 | go_keep)
            ((first
              | (go_at_call 11; refine hto.out.mono ?_; rintro x w5 ⟨rfl, h5, k5⟩; have x5 := hid (k5.web hx.out); have S5 := E1.out w5 h5.below x5.out; have d5 := hid (tv_keepD hT.out (.ofW k5)); have l5 := hid (hls'.out w5 h5 k5); replace h5 := hid h5; clear k5)
              | (go_at_call 12; refine (htd.out _ h5.out).mono ?_; rintro x w6 ⟨rfl, b6⟩; have S6 := E1.out w6 (h5.out.more b6).below (Below.web b6 x5.out); have d6 := hid (d5.out.below b6); have l6 := hid (l5.out.more b6); have x6 := hid (Below.web b6 x5.out); have h6 := hid (h5.out.more b6); clear b6)
              | (go_at_call 13; refine (Wd.rat14_ok _ _ _ _ _ _ ts qe w6 d6.out (by have := hTl.out; omega)).mono ?_; rintro x w7 ⟨i, rfl, hi, b7⟩; have t10 := t9.out i hi; have S7 := E1.out w7 (h6.out.more b7).below (Below.web b7 x6.out); have l7 := hid (l6.out.more b7); clear b7 hi)))
          all_goals
            go_wp2_with fail
            go_roundw
            case rel => exact ⟨j + 1, by omega, by omega, by go_num, l7⟩
            case measure => simp [intOf]; omega
    · have hex := loop_end 70 rfl hlt
      clear hlt hj hj70 hav hlen hmc hcm
      rcases hex with ⟨t1, t3⟩ | ⟨⟨t1, t3⟩, t2, t4⟩
      all_goals
        go_wp2_with fail
        go_loopw [12] (fun s12 wr => ∃ a : Nat, a ≤ K ∧ s12 = .int .i64 (a : Int) ∧ Hid (LS wz wb K bx wr)) (fun s12 _ => K - (intOf s12).toNat)
        case atStart => exact ⟨0, by omega, by go_num, hst⟩
        case round =>
          obtain ⟨a, ha, rfl, hst2⟩ := hrel
          clear hst
          rcases Nat.lt_or_ge a K with hal | hag
          · obtain ⟨sq, tt, ky, fad, F, fcap, tad, T, tcap, g1, g2, g3, g4⟩ := hst2.out
            obtain ⟨x0, x1, x2, x3⟩ := blk4 g3
            have v1 : decide ((a : Int) < (K : Int)) = true := decide_eq_true (by omega)
            have v2 : decide (a < K) = true := decide_eq_true hal
            have hto := hid (told_ok g1 g2 hg.out (by omega) (by omega) 0 (a : Int))
            have hls' := hid (fun (w' : World) (h5 : WQ wz.heap.size wz wb K 8 sq tt ky w') (k5 : KeepW _ w') => LS.told hst2.out h5 k5 g2 g3)
            clear g1 g2 g3
            go_wp2_with fail
            refine hto.out.mono ?_
            rintro x w5 ⟨rfl, h5, k5⟩
            have l5 := hid (hls'.out w5 h5 k5)
            clear hls' h5 k5 hst2 hto x0 x1 x2 x3
            go_wp2_with fail
            go_roundw
            case rel => exact ⟨a + 1, by omega, by go_num, l5⟩
            case measure => simp [intOf]; omega
          · have v1 : decide ((a : Int) < (K : Int)) = false := decide_eq_false (by omega)
            have v2 : decide (a < K) = false := decide_eq_false (by omega)
            go_wp2_with fail
            refine (sure_ok _ (hg.out.below hst2.out.below)).mono ?_
            rintro x ws ⟨rfl, bs⟩
            have hs := hid (hst2.out.more bs)
            clear bs
            go_wp2_with fail
            go_ret
            exact ⟨rfl, hs.out.below⟩
end Go.Proofs.YtdmkbcbgjdmgdaaGreatDoor
