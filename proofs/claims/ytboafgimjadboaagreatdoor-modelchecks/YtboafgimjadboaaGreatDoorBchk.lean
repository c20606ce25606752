/- The law's 'lists', walked. The law ModelChecks, walked. -/
import Derived.Test.YtboafgimjadboaaGreatDoorBface
import Derived.Test.YtboafgimjadboaaGreatDoorBlaw
import Derived.Test.YtboafgimjadboaaGreatDoorBrr
namespace Go.Proofs.YtboafgimjadboaaGreatDoor
open Go.RowKit
set_option linter.unusedVariables false

set_option maxRecDepth 100000 in
set_option maxHeartbeats 1000000 in
theorem ints_ok (u v : Value) (zs : List Nat) (w : World) (hu : NL w u zs) (hv : NL w v zs) :
    Calls Tryz.prog 35 #[u, v] w fun e w' => e = .returned (.bool true) ∧ ∃ m, w' = w.drewN m := by
  obtain ⟨a, n, ca, rfl, hl, ⟨hn1, _, _⟩, hca, ha⟩ := hu
  obtain ⟨b, n', cb, rfl, hl2, ⟨hn2, _, _⟩, hcb, hb⟩ := hv
  obtain rfl : n' = n := by rw [← hl, ← hl2]
  replace ha := hid ha
  replace hb := hid hb
  replace hl := hid hl
  clear hl2
  unfold maxLen at hca
  go_enter Tryz.func35, Tryz.ntmps35
  go_wp2_with fail
  go_loopw [5] (fun u wr => ∃ j : Nat, j ≤ n' ∧ u = .int .i64 (j : Int) ∧ Hid (∃ m, wr = w.drewN m))
    (fun u _ => n' - (intOf u).toNat)
  case atStart => exact ⟨0, by omega, by go_num, ⟨0, rfl⟩⟩
  case round =>
    obtain ⟨j, hj, rfl, hw⟩ := hrel
    rcases Nat.lt_or_ge j n' with hlt | hge
    · obtain ⟨z, hz⟩ : ∃ z, zs[j]? = some z := ⟨_, List.getElem?_eq_getElem (by rw [hl.out]; exact hlt)⟩
      obtain ⟨b1, o1, rfl, c1⟩ := ha.out j z hz
      obtain ⟨b2, o2, rfl, c2⟩ := hb.out j z hz
      have c1' : wr.cell? ⟨b1, o1 + j, none⟩ = some (.int .i64 (z : Int)) := by
        obtain ⟨m, hm⟩ := hw.out
        rw [hm]; exact c1
      have c2' : wr.cell? ⟨b2, o2 + j, none⟩ = some (.int .i64 (z : Int)) := by
        obtain ⟨m, hm⟩ := hw.out
        rw [hm]; exact c2
      have hw2 : Hid (∃ m, wr.drew = w.drewN m) := by
        obtain ⟨m, hm⟩ := hw.out
        exact ⟨m + 1, by rw [hm]; rfl⟩
      clear hz c1 c2
      have i1 : (0 : Int) ≤ (j : Int) := by omega
      have i2 : (j : Int) < (n' : Int) := by omega
      go_wp2_with fail
      go_region_held3 (fun y => y.cell? ⟨b1, o1 + j, none⟩ = some (.int .i64 (z : Int)) ∧ y.cell? ⟨b2, o2 + j, none⟩ = some (.int .i64 (z : Int))) (go_keep) (fail)
      go_wp2_with fail
      go_roundw
      case rel => exact ⟨j + 1, by omega, by go_num, hw2⟩
      case measure => simp [intOf]; omega
    · obtain rfl : j = n' := by omega
      go_wp2_with fail
      go_ret
      exact ⟨rfl, hw.out⟩

set_option maxRecDepth 100000 in
set_option maxHeartbeats 2000000 in
theorem lists_ok (u v : Value) (ms : List (List Nat)) (w : World) (hu : RL w u ms) (hv : RL w v ms) :
    Calls Tryz.prog 16 #[u, v] w fun e w' => e = .returned (.bool true) ∧ ∃ m, w' = w.drewN m := by
  obtain ⟨a, ca, rfl, hca, ⟨hcb, _⟩, ha⟩ := hu
  obtain ⟨b, cb, rfl, hcc, ⟨hcd, _⟩, hb⟩ := hv
  generalize ms.length = n' at *
  generalize (fun i : Nat => (ms[i]?).getD []) = R at *
  unfold maxLen at hcb hcd
  replace ha := hid ha
  replace hb := hid hb
  go_enter Tryz.func16, Tryz.ntmps16
  go_wp2_with fail
  go_loopw [5] (fun u wr => ∃ j : Nat, j ≤ n' ∧ u = .int .i64 (j : Int) ∧ Hid (∃ m, wr = w.drewN m))
    (fun u _ => n' - (intOf u).toNat)
  case atStart => exact ⟨0, by omega, by go_num, ⟨0, rfl⟩⟩
  case round =>
    obtain ⟨j, hj, rfl, hw⟩ := hrel
    rcases Nat.lt_or_ge j n' with hlt | hge
    · obtain ⟨b1, o1, u1, rfl, c1, I1⟩ := ha.out j hlt
      obtain ⟨b2, o2, u2, rfl, c2, I2⟩ := hb.out j hlt
      have c1' : wr.cell? ⟨b1, o1 + j, none⟩ = some u1 := by
        obtain ⟨m, hm⟩ := hw.out
        rw [hm]; exact c1
      have c2' : wr.cell? ⟨b2, o2 + j, none⟩ = some u2 := by
        obtain ⟨m, hm⟩ := hw.out
        rw [hm]; exact c2
      have hbel : Below w.heap.size w wr := by
        obtain ⟨m, hm⟩ := hw.out
        rw [hm]; exact belowN (Below.refl _ _) m
      have hq : Hid (∀ m, Calls Tryz.prog 35 #[u1, u2] (wr.drewN m) fun e w' => e = .returned (.bool true) ∧ ∃ k, w' = (wr.drewN m).drewN k) := hid (fun m => ints_ok u1 u2 (R j) _ (I1.below (belowN hbel m)) (I2.below (belowN hbel m)))
      have hw2 : Hid (∀ k, ∃ m, wr.drewN k = w.drewN m) := by
        obtain ⟨m, hm⟩ := hw.out
        exact fun k => ⟨m + k, by rw [hm]; simp [World.drewN, Nat.add_assoc]⟩
      clear c1 c2 I1 I2 hbel
      have i1 : (0 : Int) ≤ (j : Int) := by omega
      have i2 : (j : Int) < (n' : Int) := by omega
      go_wp2_with fail
      go_quiet ((go_at_call 35; exact Calls.quiet_of (hq.out _)))
      go_wp2_with fail
      go_roundw
      case rel => exact ⟨j + 1, by omega, by go_num, hw2.out _⟩
      case measure => simp [intOf]; omega
    · obtain rfl : j = n' := by omega
      go_wp2_with fail
      go_ret
      exact ⟨rfl, hw.out⟩

end Go.Proofs.YtboafgimjadboaaGreatDoor

namespace Go.Proofs.YtboafgimjadboaaGreatDoor
open Go.RowKit
set_option linter.unusedVariables false

theorem Lw.rnd {W w1 : World} {A : Nat} {vv ev lv uv ue ul : Value} {m m' : Mo} (h : Lw W w1 A vv ev lv m) (hh : m'.vs.length ≤ 1000 ∧ m'.es.length ≤ 1000 ∧ m'.l.length ≤ 1000) (y : World) (hy : Below w1.heap.size w1 y) (hm : Mp y uv ue ul m') :
    Calls Tryz.prog 11 #[.agg #[.int .i64 m'.n, uv, ue, ul]] y fun e w' => Below y.heap.size y w' ∧ ((May m' ∧ ∃ a n c, e = .returned (.tuple #[.slice a n c, .nilIface]) ∧ Rg y.heap.size w' (.slice a n c) (rws m')) ∨ (¬ May m' ∧ e = .returned (.tuple #[.slice none 0 0, .iface 67 (.int .i64 17)]))) := by
  refine (round_ok hm rfl (h.tab y hy) (h.two y hy) hh.1 hh.2.1 hh.2.2).mono ?_
  rintro e w' ⟨b, ⟨h1, u, rfl, hr⟩ | h1⟩
  · obtain ⟨us, h2, h3, h4⟩ := id hr
    obtain ⟨a, c, rfl, _⟩ := own_any h3
    exact ⟨b, .inl ⟨h1, a, _, c, rfl, hr⟩⟩
  · exact ⟨b, .inr h1⟩

theorem Lw.ck {W w1 : World} {A : Nat} {vv ev lv uv ue ul : Value} {m : Mo} (h : Lw W w1 A vv ev lv m) (hh : ¬ Hg m) (y : World) (hy : Below w1.heap.size w1 y) (hm : Mp y uv ue ul m) :
    Calls Tryz.prog 15 #[.agg #[.int .i64 m.n, uv, ue, ul]] y fun e w' => Below y.heap.size y w' ∧ ((May m ∧ e = .returned .nilIface) ∨ (¬ May m ∧ e = .returned (.iface 67 (.int .i64 17)))) := by
  unfold Hg at hh
  exact check17_ok hm rfl (h.tab y hy) (h.two y hy) (by omega) (by omega) (by omega)

set_option maxRecDepth 100000 in
set_option maxHeartbeats 4000000 in
theorem checks_law {W : World} {vv ev lv : Value} {m : Mo} (hm : Mp W vv ev lv m) (hg : Handle W) (hT : Ar.Tab W) (h2 : 2 ≤ W.heap.size) :
    Calls Tryz.prog 3 #[.agg #[.int .i64 m.n, vv, ev, lv]] W fun e W' => e = .returned (.bool true) ∧ Below W.heap.size W W' := by
  obtain ⟨va, vn, vc, ea, en, ec, la, ln, lc, rfl, rfl, rfl⟩ := mp_slices hm
  have hl := Lw.new hm hg hT h2
  obtain ⟨w1, hw1⟩ : ∃ w1, W.alloc (.cells #[.int .i64 m.n, .slice va vn vc, .slice ea en ec, .slice la ln lc] 25) = w1 := ⟨_, rfl⟩
  rw [hw1] at hl
  replace hl := hid hl
  clear hm hg hT h2
  go_enter Tryz.func3, Tryz.ntmps3
  go_upto_region 1 with fail
  try rw [hw1]
  clear hw1
  obtain ⟨c0, c1, c2, c3⟩ := hl.out.box w1 (Below.refl _ _)
  by_cases hh : Hg m
  · have hq := hid (hl.out.huge hh w1 (Below.refl _ _))
    clear hh
    go_wp2_with fail
    refine hq.out.mono ?_
    rintro e w2 ⟨rfl, b2⟩
    replace b2 := hid b2
    clear hq
    go_wp2_with fail
    refine (hl.out.sure w2 b2.out).mono ?_
    rintro e w3 ⟨rfl, b3⟩
    have hb := hid (hl.out.bel.trans ((b2.out.trans (b3.mono b2.out.size)).mono hl.out.bel.size))
    clear b3
    go_wp2_with fail
    go_ret
    exact ⟨rfl, hb.out⟩
  · have hq := hid (hl.out.small hh w1 (Below.refl _ _))
    replace hh := hid hh
    go_wp2_with fail
    refine hq.out.mono ?_
    rintro e w2 ⟨rfl, b2⟩
    obtain ⟨d0, d1, d2, d3⟩ := hl.out.box w2 b2
    replace b2 := hid b2
    clear hq c0 c1 c2 c3
    go_wp2_with fail
    refine (hl.out.give hh.out w2 b2.out).mono ?_
    rintro e w3 ⟨uv, ue, ul, rfl, hm3, b3⟩
    have b3' := hid (b2.out.trans (b3.mono b2.out.size))
    have hsz : Hid (m.vs.length ≤ 40 ∧ m.es.length ≤ 40 ∧ m.l.length ≤ 40) := by
      have := hh.out
      unfold Hg at this
      exact ⟨by omega, by omega, by omega⟩
    have hrd := hid (hl.out.rnd ⟨by have := hsz.out; omega, by have := hsz.out; omega, by have := hsz.out; omega⟩ w3 b3'.out hm3)
    clear b3 d0 d1 d2 d3 b2 hm3
    go_wp2_with fail
    refine hrd.out.mono ?_
    rintro e w4 ⟨b4, ⟨hmay, ra, rn, rc, rfl, hr⟩ | ⟨hno, rfl⟩⟩
    · have b4' := hid (b3'.out.trans (b4.mono b3'.out.size))
      have hr' := hid hr.rl
      obtain ⟨d0, d1, d2, d3⟩ := hl.out.box w4 b4'.out
      have hdoc := hid (rround17_ok (hl.out.mp w4 b4'.out) rfl hsz.out.1 hsz.out.2.1 hsz.out.2.2)
      clear b4 hr hrd
      go_wp2_with fail
      refine hdoc.out.mono ?_
      rintro e w5 ⟨b5, ⟨_, ka, kn, kc, rfl, hk⟩ | ⟨hno, _⟩⟩
      · have b5' := hid (b4'.out.trans (b5.mono b4'.out.size))
        have hr5 := hid (hr'.out.below (b5.mono (Nat.le_refl _)))
        have hk' := hid hk
        obtain ⟨f0, f1, f2, f3⟩ := hl.out.box w5 b5'.out
        clear b5 hk hdoc d0 d1 d2 d3
        go_wp2_with fail
        refine (hl.out.give hh.out w5 b5'.out).mono ?_
        rintro e w6 ⟨uv', ue', ul', rfl, hm6, b6⟩
        have b6' := hid (b5'.out.trans (b6.mono b5'.out.size))
        have hck := hid (hl.out.ck hh.out w6 b6'.out hm6)
        have h56 := hid b6
        clear b6 hm6 f0 f1 f2 f3
        go_wp2_with fail
        refine hck.out.mono ?_
        rintro e w7 ⟨b7, ⟨_, rfl⟩ | ⟨hno, _⟩⟩
        · have b7' := hid (b6'.out.trans (b7.mono b6'.out.size))
          have h57 := hid (h56.out.trans (b7.mono h56.out.size))
          clear b7 hck
          go_wp2_with fail
          refine (num_nil _).mono ?_
          rintro e w8 ⟨rfl, b8⟩
          have b8' := hid (b7'.out.trans (b8.mono b7'.out.size))
          have h58 := hid (h57.out.trans (b8.mono h57.out.size))
          clear b8
          go_wp2_with fail
          refine (num_nil _).mono ?_
          rintro e w9 ⟨rfl, b9⟩
          have b9' := hid (b8'.out.trans (b9.mono b8'.out.size))
          have h59 := h58.out.trans (b9.mono h58.out.size)
          have hls := hid (lists_ok _ _ (rws m) w9 (hr5.out.below h59) (hk'.out.below h59))
          clear b9 h59 hr5 hk'
          go_wp2_with fail
          refine hls.out.mono ?_
          rintro e w10 ⟨rfl, q, rfl⟩
          have b10 := hid (belowN b9'.out q)
          go_wp2_with fail
          refine (hl.out.sure _ b10.out).mono ?_
          rintro e w11 ⟨rfl, b11⟩
          have hb := hid (hl.out.bel.trans ((b10.out.trans (b11.mono b10.out.size)).mono hl.out.bel.size))
          clear b11
          go_wp2_with fail
          go_ret
          exact ⟨rfl, hb.out⟩
        · exact absurd hmay hno
      · exact absurd hmay hno
    · have b4' := hid (b3'.out.trans (b4.mono b3'.out.size))
      obtain ⟨d0, d1, d2, d3⟩ := hl.out.box w4 b4'.out
      have hdoc := hid (rround17_ok (hl.out.mp w4 b4'.out) rfl hsz.out.1 hsz.out.2.1 hsz.out.2.2)
      clear b4 hrd
      go_wp2_with fail
      refine hdoc.out.mono ?_
      rintro e w5 ⟨b5, ⟨hmay, _⟩ | ⟨_, rfl⟩⟩
      · exact absurd hmay hno
      · have b5' := hid (b4'.out.trans (b5.mono b4'.out.size))
        obtain ⟨f0, f1, f2, f3⟩ := hl.out.box w5 b5'.out
        clear b5 hdoc d0 d1 d2 d3
        go_wp2_with fail
        refine (hl.out.give hh.out w5 b5'.out).mono ?_
        rintro e w6 ⟨uv', ue', ul', rfl, hm6, b6⟩
        have b6' := hid (b5'.out.trans (b6.mono b5'.out.size))
        have hck := hid (hl.out.ck hh.out w6 b6'.out hm6)
        clear b6 hm6 f0 f1 f2 f3
        go_wp2_with fail
        refine hck.out.mono ?_
        rintro e w7 ⟨b7, ⟨hmay, _⟩ | ⟨_, rfl⟩⟩
        · exact absurd hmay hno
        · have b7' := hid (b6'.out.trans (b7.mono b6'.out.size))
          clear b7 hck
          go_wp2_with fail
          refine (hl.out.num17 w7 b7'.out).mono ?_
          rintro e w8 ⟨rfl, b8⟩
          have b8' := hid (b7'.out.trans (b8.mono b7'.out.size))
          clear b8
          go_wp2_with fail
          refine (hl.out.num17 w8 b8'.out).mono ?_
          rintro e w9 ⟨rfl, b9⟩
          have b9' := hid (b8'.out.trans (b9.mono b8'.out.size))
          clear b9
          go_wp2_with fail
          refine (hl.out.num17 w9 b9'.out).mono ?_
          rintro e w10 ⟨rfl, b10⟩
          have b10' := hid (b9'.out.trans (b10.mono b9'.out.size))
          clear b10
          go_wp2_with fail
          refine (hl.out.sure _ b10'.out).mono ?_
          rintro e w11 ⟨rfl, b11⟩
          have hb := hid (hl.out.bel.trans ((b10'.out.trans (b11.mono b10'.out.size)).mono hl.out.bel.size))
          clear b11
          go_wp2_with fail
          go_ret
          exact ⟨rfl, hb.out⟩

end Go.Proofs.YtboafgimjadboaaGreatDoor
