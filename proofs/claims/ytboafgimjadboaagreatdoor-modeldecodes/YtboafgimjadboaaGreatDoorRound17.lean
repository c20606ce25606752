/- model's Round and Check, walked. -/
import Derived.Test.YtboafgimjadboaaGreatDoorArBall
import Derived.Test.YtboafgimjadboaaGreatDoorBcyc
import Derived.Test.YtboafgimjadboaaGreatDoorFlat17
namespace Go.Proofs.YtboafgimjadboaaGreatDoor
open Go.RowKit
set_option linter.unusedVariables false

theorem tab_below {w w' : World} (h : Ar.Tab w) (hb : Below w.heap.size w w') : Ar.Tab w' := fun j hj => (hb.cell (World.block_lt_of_cell? w _ (h j hj))).trans (h j hj)

/-- arena.Load, whatever it is handed. -/
theorem aload_any {w : World} {n : Int} {v : Value} {ps : List (Int × Int)} (hp : PV w v ps) :
    Calls Tryz.prog 23 #[.int .i64 n, v] w fun e w' => Below w.heap.size w w' ∧ ((FairI n ps ∧ ∃ ab ob k, e = .returned (.tuple #[.pointer (some ⟨ab, 0, none⟩), .nilIface]) ∧ Ar.Arena w' w.heap.size w'.heap.size ab ob k ps) ∨ (¬ FairI n ps ∧ e = .returned (.tuple #[.pointer none, .iface 67 (.int .i64 1)]))) := by
  obtain ⟨ad, k, cap, rfl, hr, h0, h1, h2⟩ := hp
  have hpr := PV.prow (cap := cap) hr (Nat.le_trans h1 h2)
  obtain rfl := hr.len
  by_cases hn : n < 1 ∨ 1048576 < n
  · refine (Ar.load3_size n ad ps.length cap w hn).mono ?_
    rintro e w' ⟨rfl, b⟩
    exact ⟨b, .inr ⟨fun ⟨k, e1, k1, k2, _⟩ => by omega, rfl⟩⟩
  · obtain ⟨N, rfl⟩ : ∃ N : Nat, n = (N : Int) := ⟨n.toNat, by omega⟩
    by_cases hf : Ar.Fair N ps
    · refine (Ar.load_ok N ad ps cap w hpr h0 (by omega) (by omega) hf).mono ?_
      rintro e w' ⟨ab, ob, rfl, ha, b⟩
      exact ⟨b, .inl ⟨⟨N, rfl, by omega, by omega, hf⟩, ab, ob, N, rfl, ha⟩⟩
    · refine (Ar.load3_bad N ad ps cap w hpr (by omega) (by omega) hf).mono ?_
      rintro e w' ⟨rfl, b⟩
      refine ⟨b, .inr ⟨fun ⟨k, e1, _, _, hk⟩ => hf ?_, rfl⟩⟩
      obtain rfl : N = k := by omega
      exact hk

/-- Which are Live, as a slice to be read. -/
theorem aall_ok {w : World} {lo hi ab k : Nat} {ob : Option Nat} {ps : List (Int × Int)} (h : Ar.Arena w lo hi ab ob k ps) (hT : Ar.Tab w) (h2 : 2 ≤ w.heap.size) :
    Calls Tryz.prog 27 #[.pointer (some ⟨ab, 0, none⟩)] w fun e w' => ∃ u, e = .returned u ∧ RN w' u (Ar.lives ps) ∧ Below w.heap.size w w' := by
  refine (Ar.all3_ok lo hi ab k ob ps w h hT h2).mono ?_
  rintro e w' ⟨ad, cap, rfl, hi, b, hpl⟩
  refine ⟨_, rfl, ⟨ad, _, cap, rfl, by simp [Ar.livesI], hi.bound, fun j x hx => ?_⟩, b⟩
  have hx' : (Ar.livesI ps)[j]? = some (x : Int) := by unfold Ar.livesI; rw [List.getElem?_map, hx]; rfl
  cases ad with
  | none => rw [hi.nil rfl] at hx'; simp at hx'
  | some a =>
    obtain ⟨g, rfl⟩ := hpl a rfl
    have := hi.cell _ rfl j _ hx'
    rw [add_plain] at this
    exact ⟨g, 0, rfl, this⟩

theorem Rg.rv {base : Nat} {w : World} {v : Value} {m : Mo} (h : Rg base w v (rws m)) : RV w v (rwsI m) := by
  obtain ⟨ad, cap, h1, h2, ⟨h3, _⟩, h4⟩ := h.rl
  refine ⟨ad, _, cap, h1, ⟨by rw [rwsI_len, rws_len], by unfold maxLen at h3; omega, fun i l hl => ?_⟩⟩
  have hi := (List.getElem?_eq_some_iff.1 hl).1
  rw [rwsI_len] at hi
  obtain ⟨b, o, u, e1, e2, e3⟩ := h4 i (by rw [rws_len]; exact hi)
  refine ⟨b, o, u, e1, e2, ?_⟩
  unfold rwsI at hl
  rw [List.getElem?_map, Option.map_eq_some_iff] at hl
  obtain ⟨q, hq, rfl⟩ := hl
  have e4 : NL w u (((rws m)[i]?).getD []) := e3
  rw [hq] at e4
  exact NL.iv e4

set_option maxRecDepth 100000 in
set_option maxHeartbeats 4000000 in
theorem round_ok {w : World} {n : Int} {vv ev lv : Value} {m : Mo} (hm : Mp w vv ev lv m) (hn : m.n = n) (hT : Ar.Tab w) (h2 : 2 ≤ w.heap.size) (hvl : m.vs.length ≤ 1000) (hel : m.es.length ≤ 1000) (hll : m.l.length ≤ 1000) :
    Calls Tryz.prog 11 #[.agg #[.int .i64 n, vv, ev, lv]] w fun e w' => Below w.heap.size w w' ∧ ((May m ∧ ∃ u, e = .returned (.tuple #[u, .nilIface]) ∧ Rg w.heap.size w' u (rws m)) ∨ (¬ May m ∧ e = .returned (.tuple #[.slice none 0 0, .iface 67 (.int .i64 17)]))) := by
  have hmh := hid hm
  have hnh := hid hn
  have hTh := hid hT
  have hb0 := hid (balloc w (.cells #[.int .i64 n, vv, ev, lv] 36))
  have hcs := boxd w n vv ev lv 36
  have hkk : Hid (m.k ≤ 2000) := by show 2 * m.l.length ≤ 2000; omega
  have hvh := hid hvl
  have heh := hid hel
  clear hm hn hT hvl hel hll
  go_enter Tryz.func11, Tryz.ntmps11
  go_upto_region 1 with fail
  obtain ⟨w1, hw1⟩ : ∃ w1, w.alloc (.cells #[.int .i64 n, vv, ev, lv] 36) = w1 := ⟨_, rfl⟩
  rw [hw1] at hcs hb0 ⊢
  clear hw1
  obtain ⟨c0, c1, c2, c3⟩ := hcs.out w1 (Below.refl _ _)
  have hl1 := hid (aload_any (n := n) (hmh.out.below hb0.out).vs)
  have hs1 := hb0.out.size
  go_wp2_with fail
  refine hl1.out.mono ?_
  rintro e w2 ⟨b2, ⟨hf1, ab, ob, k, rfl, ha⟩ | ⟨hf1, rfl⟩⟩
  · replace hf1 := hid hf1
    have hB2 := hid b2
    have hBw2 := hid (hb0.out.trans (b2.mono hs1))
    replace ha := hid ha
    clear b2 hl1 c0 c1 c2 c3
    obtain ⟨c0, c1, c2, c3⟩ := hcs.out w2 hB2.out
    have hl2 := hid (aload_any (n := n) (hmh.out.below hBw2.out).es)
    go_wp2_with fail
    refine hl2.out.mono ?_
    rintro e w3 ⟨b3, ⟨hf2, ab2, ob2, k2, rfl, _⟩ | ⟨hf2, rfl⟩⟩
    · replace hf2 := hid hf2
      have hB3 := hid (hB2.out.trans (b3.mono hB2.out.size))
      have hBw3 := hid (hBw2.out.trans (b3.mono hBw2.out.size))
      have ha3 := hid (ha.out.below b3)
      clear b3 hl2 c0 c1 c2 c3 ha
      obtain ⟨c0, c1, c2, c3⟩ := hcs.out w3 hB3.out
      have htd := hid (told_ok (n := n) (hmh.out.below hBw3.out))
      go_wp2_with fail
      refine htd.out.mono ?_
      rintro e w4 ⟨z, rfl, hz, b4⟩
      replace hz := hid hz
      have hB4 := hid (hB3.out.trans (b4.mono hB3.out.size))
      have hBw4 := hid (hBw3.out.trans (b4.mono hBw3.out.size))
      have ha4 := hid (ha3.out.below b4)
      clear b4 htd c0 c1 c2 c3 ha3
      obtain ⟨c0, c1, c2, c3⟩ := hcs.out w4 hB4.out
      cases z with
      | false =>
        go_wp2_with fail
        go_ret2
        exact ⟨hBw4.out, .inr ⟨(fun q => by have := hz.out.2 q.2.2.1; cases this), rfl⟩⟩
      | true =>
        have htold : Hid (Told m) := hz.out.1 rfl
        have hcy := hid (cycles_ok (n := n) (hmh.out.below hBw4.out) htold.out hkk.out hvh.out)
        go_wp2_with fail
        refine hcy.out.mono ?_
        rintro e w5 ⟨b5, ⟨hc, u, rfl, hg⟩ | ⟨hc, rfl⟩⟩
        · replace hc := hid hc
          have hB5 := hid (hB4.out.trans (b5.mono hB4.out.size))
          have hBw5 := hid (hBw4.out.trans (b5.mono hBw4.out.size))
          have ha5 := hid (ha4.out.below b5)
          replace hg := hid hg
          have hs45 := hBw4.out.size
          clear b5 hcy c0 c1 c2 c3 ha4
          obtain ⟨c0, c1, c2, c3⟩ := hcs.out w5 hB5.out
          have hs5 := hBw5.out.size
          obtain ⟨z, hz⟩ : ∃ z : Bool, z = true ↔ Xi (mV m) (mE m) (Rm m) = 0 := ⟨decide (Xi (mV m) (mE m) (Rm m) = 0), by simp⟩
          have hS : Hid (∀ y, Below w5.heap.size w5 y → y.cell? ⟨w.heap.size, 0, none⟩ = some (.int .i64 n) ∧ y.cell? ⟨w.heap.size, 1, none⟩ = some vv ∧ y.cell? ⟨w.heap.size, 2, none⟩ = some ev ∧ y.cell? ⟨w.heap.size, 3, none⟩ = some lv) := fun y hy => hcs.out y (hB5.out.trans (hy.mono hB5.out.size))
          have hal := hid (fun (y : World) (hy : Below w5.heap.size w5 y) => aall_ok (ha5.out.below hy) (tab_below hTh.out (hBw5.out.trans (hy.mono hBw5.out.size))) (by have := hy.size; omega))
          have hfl := hid (fun (y : World) (lvv : Value) (hy : Below w5.heap.size w5 y) (hq : RN y lvv (Ar.lives m.vs)) => flat_ok (n := n) (hmh.out.below (hBw5.out.trans (hy.mono hBw5.out.size))) htold.out hc.out hvh.out heh.out (hg.out.rv.below hy) hq z hz)
          replace hz := hid hz
          go_upto_region 10 with fail
          go_region_held3 (fun w' => w'.cell? ⟨w.heap.size, 0, none⟩ = some (.int .i64 n) ∧ w'.cell? ⟨w.heap.size, 1, none⟩ = some vv ∧ w'.cell? ⟨w.heap.size, 2, none⟩ = some ev ∧ w'.cell? ⟨w.heap.size, 3, none⟩ = some lv) (first | with_reducible exact hS.out _ (Below.refl _ _).drew | with_reducible exact hS.out _ bA | with_reducible exact hS.out _ bF | go_keep) ((first | (go_at_call 27; refine (hal.out _ (Below.refl _ _).drew).mono ?_; rintro e1 y1 ⟨lvv, rfl, hln, bs⟩; have bA : Below w5.heap.size w5 y1 := (Below.refl w5.heap.size w5).drew.trans bs; replace hln := hid hln; clear bs) | (go_at_call 26; refine (hfl.out _ _ bA hln.out).mono ?_; rintro e2 y2 ⟨rfl, bf⟩; have bF : Below w5.heap.size w5 y2 := bA.trans (bf.mono bA.size); clear bf)))
          all_goals
            have hBy := hid (hBw5.out.trans (bF.mono hBw5.out.size))
            have hgy := hid ((hg.out.low hs45).more bF)
            clear bF bA hal hfl hS c0 c1 c2 c3
            cases z with
            | false =>
              go_wp2_with fail
              go_ret2
              exact ⟨hBy.out, .inr ⟨(fun q => by have := hz.out.2 q.2.2.2.2; cases this), rfl⟩⟩
            | true =>
              go_wp2_with fail
              go_ret2
              exact ⟨hBy.out, .inl ⟨⟨by rw [hnh.out]; exact hf1.out, by rw [hnh.out]; exact hf2.out, htold.out, hc.out, hz.out.1 (by trivial)⟩, _, rfl, hgy.out⟩⟩
        · have hBw5 := hid (hBw4.out.trans (b5.mono hBw4.out.size))
          replace hc := hid hc
          clear b5 hcy
          go_upto_region 10 with fail
          go_quiet (fail)
          go_wp2_with fail
          go_ret2
          exact ⟨belowN hBw5.out _, .inr ⟨fun q => hc.out q.2.2.2.1, rfl⟩⟩
    · have hBw3 := hid (hBw2.out.trans (b3.mono hBw2.out.size))
      replace hf2 := hid hf2
      clear b3 hl2
      go_wp2_with fail
      go_ret2
      exact ⟨hBw3.out, .inr ⟨fun q => hf2.out (by have := q.2.1; rw [hnh.out] at this; exact this), rfl⟩⟩
  · have hBw2 := hid (hb0.out.trans (b2.mono hs1))
    replace hf1 := hid hf1
    clear b2 hl1
    go_wp2_with fail
    go_ret2
    exact ⟨hBw2.out, .inr ⟨fun q => hf1.out (by have := q.1; rw [hnh.out] at this; exact this), rfl⟩⟩

set_option maxRecDepth 100000 in
set_option maxHeartbeats 1000000 in
theorem check17_ok {w : World} {n : Int} {vv ev lv : Value} {m : Mo} (hm : Mp w vv ev lv m) (hn : m.n = n) (hT : Ar.Tab w) (h2 : 2 ≤ w.heap.size) (hvl : m.vs.length ≤ 1000) (hel : m.es.length ≤ 1000) (hll : m.l.length ≤ 1000) :
    Calls Tryz.prog 15 #[.agg #[.int .i64 n, vv, ev, lv]] w fun e w' => Below w.heap.size w w' ∧ ((May m ∧ e = .returned .nilIface) ∨ (¬ May m ∧ e = .returned (.iface 67 (.int .i64 17)))) := by
  have hb0 := hid (balloc w (.cells #[.int .i64 n, vv, ev, lv] 36))
  have hr := hid (round_ok (hm.below hb0.out) hn (tab_below hT hb0.out) (by have := hb0.out.size; omega) hvl hel hll)
  clear hm hn hT h2 hvl hel hll
  go_enter Tryz.func15, Tryz.ntmps15
  go_wp2_with fail
  refine hr.out.mono ?_
  rintro e w2 ⟨b2, ⟨hq, u, rfl, _⟩ | ⟨hq, rfl⟩⟩
  · have hB := hid (hb0.out.trans (b2.mono hb0.out.size))
    replace hq := hid hq
    clear b2 hr
    go_wp2_with fail
    go_ret
    exact ⟨hB.out, .inl ⟨hq.out, rfl⟩⟩
  · have hB := hid (hb0.out.trans (b2.mono hb0.out.size))
    replace hq := hid hq
    clear b2 hr
    go_wp2_with fail
    go_ret
    exact ⟨hB.out, .inr ⟨hq.out, rfl⟩⟩

end Go.Proofs.YtboafgimjadboaaGreatDoor
