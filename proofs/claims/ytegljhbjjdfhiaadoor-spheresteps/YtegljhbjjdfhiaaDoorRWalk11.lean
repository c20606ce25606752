/- The document's Next and Walk round a face, walked. -/
import Derived.Test.YtegljhbjjdfhiaaDoorBwith
import Derived.Test.YtegljhbjjdfhiaaDoorBface
namespace Go.Proofs.YtegljhbjjdfhiaaDoor
open Go.RowKit
set_option linter.unusedVariables false

open Pq (fl fl_length fl_succ)

set_option maxRecDepth 100000 in
set_option maxHeartbeats 2000000 in
theorem rfnext_ok (tv : Value) (E V d : Nat) (R : Nat → List Nat) (w : World) (hv : RT w tv E V R) (ht : Tn V E R) (hw : Tw V E R) (hd : In V R d) (hE : E ≤ 1000) (hV : V ≤ 1000) (hl : ∀ u, u < V → (R u).length ≤ 1000) :
    Calls Tryd.prog 75 #[tv, .int .i64 (d : Int)] w fun e w' => e = .returned (.int .i64 (fx V R d : Int)) ∧ Below w.heap.size w w' := by
  have hdl := hd.low ht
  have hti := hd.tw ht hw
  have htl := tw_lt hdl
  obtain ⟨u, hu, hm⟩ := id hti
  have hn := hid (fun y (hy : Below w.heap.size w y) => rnext_ok tv E V u (tw d) (fx V R d) R 1 y (hv.below hy) ht hu hm (.inl rfl) (fun _ => by rw [fx_yes hd, vx_at ht hu hm]) (fun q => by omega) hV hl)
  have htw : Hid (tw d = if d % 2 = 0 then d + 1 else d - 1) := hid rfl
  obtain ⟨lv, rfl, hr⟩ := hv
  obtain ⟨c0, c1⟩ := two_new w (.int .i64 (E : Int)) lv 27
  have hbb := hid (balloc w (.cells #[.int .i64 (E : Int), lv] 27))
  obtain ⟨w1, hw1⟩ : ∃ w1, w.alloc (.cells #[.int .i64 (E : Int), lv] 27) = w1 := ⟨_, rfl⟩
  rw [hw1] at c0 c1 hbb
  replace hw1 := hid hw1
  generalize tw d = t at hn htw htl
  generalize fx V R d = z at hn ⊢
  clear hr ht hw hd hti hm hl
  by_cases he : d % 2 = 0
  · obtain rfl : t = d + 1 := by rw [htw.out, if_pos he]
    have t1 : ((d : Int) % 2 == 1) = false := by simp; omega
    have t2 : ¬ ((d : Int) % 2 = 1) := by omega
    replace he := hid he
    rw [show ((d + 1 : Nat) : Int) = (d : Int) + 1 from by omega] at hn
    clear htw
    go_enter Tryd.func75, Tryd.ntmps75
    go_upto_region 1 with fail
    rw [hw1.out]
    go_wp2_with fail
    refine (hn.out _ hbb.out).mono ?_
    rintro e w2 ⟨rfl, b2⟩
    have hb2 := hid (hbb.out.trans (b2.mono hbb.out.size))
    clear b2
    go_wp2_with fail
    go_ret
    exact ⟨rfl, hb2.out⟩
  · obtain rfl : t = d - 1 := by rw [htw.out, if_neg he]
    have t1 : ((d : Int) % 2 == 1) = true := by simp; omega
    have hd0 : 1 ≤ d := by omega
    replace he := hid he
    rw [show ((d - 1 : Nat) : Int) = (d : Int) - 1 from by omega] at hn
    clear htw
    go_enter Tryd.func75, Tryd.ntmps75
    go_upto_region 1 with fail
    rw [hw1.out]
    go_wp2_with fail
    refine (hn.out _ hbb.out).mono ?_
    rintro e w2 ⟨rfl, b2⟩
    have hb2 := hid (hbb.out.trans (b2.mono hbb.out.size))
    clear b2
    go_wp2_with fail
    go_ret
    exact ⟨rfl, hb2.out⟩

set_option maxRecDepth 100000 in
set_option maxHeartbeats 4000000 in
theorem rwalk_ok (tv : Value) (E V x : Nat) (R : Nat → List Nat) (w : World) (hv : RT w tv E V R) (ht : Tn V E R) (hw : Tw V E R) (hx : In V R x) (hE : E ≤ 1000) (hV : V ≤ 1000) (hl : ∀ u, u < V → (R u).length ≤ 1000) :
    Calls Tryd.prog 51 #[tv, .int .i64 (x : Int)] w fun e w' => ∃ u, e = .returned u ∧ Rw w.heap.size w' u (Pq.orb (fx V R) x) ∧ Below w.heap.size w w' := by
  obtain ⟨i0, hif, hz0, hz1, hz2⟩ := info_parts infoInt
  have pm := fx_pm ht hw
  have hxl := hx.low ht
  obtain ⟨hp, hpn⟩ := pm.per_is hxl
  obtain ⟨d, hd⟩ : ∃ d, Pq.per (fx V R) x = d := ⟨_, rfl⟩
  have horb : Hid (Pq.orb (fx V R) x = fl d (fun i => Pq.it (fx V R) i x)) := by unfold Pq.orb; rw [hd]; exact hid rfl
  rw [hd] at hp hpn
  have hd1 := hp.pos
  replace hp := hid hp
  have hin := hid (fun k => (it_in ht hw (d := x) k).2 hx)
  have hnx := hid (fun (y : World) (k : Nat) (hy : Below w.heap.size w y) => rfnext_ok tv E V _ R y (hv.below hy) ht hw (hin.out k) hE hV hl)
  obtain ⟨lv, rfl, hr⟩ := hv
  obtain ⟨c0, c1⟩ := two_new w (.int .i64 (E : Int)) lv 27
  have hbb := hid (balloc w (.cells #[.int .i64 (E : Int), lv] 27))
  obtain ⟨w1, hw1⟩ : ∃ w1, w.alloc (.cells #[.int .i64 (E : Int), lv] 27) = w1 := ⟨_, rfl⟩
  have hs1 : w1.heap.size = w.heap.size + 1 := by rw [← hw1]; simp
  rw [hw1] at c0 c1 hbb
  replace hw1 := hid hw1
  replace hs1 := hid hs1
  replace c0 := hid c0
  replace c1 := hid c1
  have hst0 : Hid (Rw w1.heap.size (w1.alloc (.cells #[.int .i64 (x : Int)] 3)) (.slice (some ⟨w1.heap.size, 0, none⟩) 1 1) (fl (0 + 1) (fun i => Pq.it (fx V R) i x)) ∧ Below w1.heap.size w1 (w1.alloc (.cells #[.int .i64 (x : Int)] 3))) :=
    ⟨World.ownsRow_lit w1 #[.int .i64 (x : Int)] 1 (Nat.le_refl _) (by unfold maxLen; omega) rfl, balloc w1 _⟩
  clear hr ht hw hx pm hd hl
  go_enter Tryd.func51, Tryd.ntmps51
  go_upto_region 1 with fail
  rw [hw1.out]
  go_wp2_with fail
  go_loopw [5, 6, 7] (fun s5 s6 _ wr => ∃ k : Nat, k < d ∧ s6 = .int .i64 (k : Int) ∧ Hid (Rw w1.heap.size wr s5 (fl (k + 1) (fun i => Pq.it (fx V R) i x)) ∧ Below w1.heap.size w1 wr))
    (fun _ s6 _ _ => d - (intOf s6).toNat)
  case atStart => exact ⟨0, by omega, by go_num, hst0⟩
  case round =>
    obtain ⟨k, hkd, rfl, hst⟩ := hrel
    clear hst0
    have hown : wr.ownsRow w1.heap.size 3 1 u5 (fl (k + 1) (fun i => Pq.it (fx V R) i x)).length (ncs (fl (k + 1) (fun i => Pq.it (fx V R) i x))) := hst.out.1
    rw [fl_length] at hown
    obtain ⟨N, hN⟩ : ∃ N, N = k + 1 := ⟨_, rfl⟩
    have hownN : wr.ownsRow w1.heap.size 3 1 u5 N (ncs (fl (k + 1) (fun i => Pq.it (fx V R) i x))) := by rw [hN]; exact hown
    clear hown
    have hown := hownN
    clear hownN
    obtain ⟨g, cap, rfl, hcap, hcm⟩ := own_form hown (by omega)
    have s1 : IntKind.i64.wrap ((N : Int) - 1) = (k : Int) := by rw [IntKind.wrap_i64]; omega
    have hbw := hst.out.2
    have e0 := (hbw.cell (World.block_lt_of_cell? _ _ c0.out)).trans c0.out
    have e1 := (hbw.cell (World.block_lt_of_cell? _ _ c1.out)).trans c1.out
    have ek : wr.cell? ⟨g, k, none⟩ = some (.int .i64 (Pq.it (fx V R) k x : Int)) := by
      rw [hown.cellAt k (by omega)]
      simp [ncs, fl]
    have hbz := hid (hbb.out.trans (hbw.mono hbb.out.size))
    have hnk := hid (hnx.out wr.drew k hbz.out.drew)
    obtain ⟨y, hy⟩ : ∃ y, Pq.it (fx V R) k x = y := ⟨_, rfl⟩
    have hfy : Hid (fx V R y = Pq.it (fx V R) (k + 1) x) := by rw [← hy]; exact hid rfl
    rw [hy] at ek hnk
    rw [hfy.out] at hnk
    obtain ⟨z, hz⟩ : ∃ z, Pq.it (fx V R) (k + 1) x = z := ⟨_, rfl⟩
    rw [hz] at hnk
    have hzh := hid hz
    have v1 : decide ((k : Int) < 2 * (E : Int)) = true := decide_eq_true (by omega)
    have i1 : (0 : Int) ≤ (k : Int) := by omega
    have i2 : (k : Int) < (N : Int) := by omega
    have hNh := hid hN
    have hNb : N ≤ 2000 := by omega
    clear hN
    replace hown := hid hown
    replace hbw := hid hbw
    clear hst hy hz hfy
    go_upto_region 5 with fail
    go_region_held3 (fun y' => y'.cell? ⟨w.heap.size, 0, none⟩ = some (.int .i64 (E : Int)) ∧ y'.cell? ⟨w.heap.size, 1, none⟩ = some lv ∧ y'.cell? ⟨g, k, none⟩ = some (.int .i64 (y : Int))) (first | exact ⟨e0, e1, ek⟩ | exact ⟨f0, f1, fk⟩ | go_keep) ((go_at_call 75; refine hnk.out.mono ?_; rintro q w2 ⟨rfl, b2⟩; have hb2 := hid b2; have f0 := (b2.cell (World.block_lt_of_cell? _ _ e0)).trans e0; have f1 := (b2.cell (World.block_lt_of_cell? _ _ e1)).trans e1; have fk := (b2.cell (World.block_lt_of_cell? _ _ ek)).trans ek; clear b2))
    have hown2 := ownsRow_below hown.out (w' := w2) ((Below.refl wr.heap.size wr).drew.trans hb2.out)
    have hbw2 : Below w1.heap.size w1 w2 := hbw.out.drew.trans (hb2.out.mono hbw.out.size)
    have hbz2 : Hid (Below w.heap.size w w2) := hid (hbz.out.drew.trans (hb2.out.mono hbz.out.size))
    clear hown hbw hb2 e0 e1 ek f0 f1 fk
    by_cases ez : z = x
    · have hkd' : k + 1 = d := by
        rcases Nat.lt_or_ge (k + 1) d with hl | hl
        · exact absurd (hzh.out.trans ez) (hp.out.least (k + 1) (by omega) hl)
        · omega
      have t1 : ((z : Int) == (x : Int)) = true := by simp [ez]
      have fin : Hid (Rw w.heap.size w2 (.slice (some ⟨g, 0, none⟩) N cap) (Pq.orb (fx V R) x)) := by
        rw [horb.out, ← hkd']
        have : w2.ownsRow w1.heap.size 3 1 (.slice (some ⟨g, 0, none⟩) N cap) (fl (k + 1) (fun i => Pq.it (fx V R) i x)).length (ncs (fl (k + 1) (fun i => Pq.it (fx V R) i x))) := by
          rw [fl_length, ← hNh.out]
          have q := hown2
          rw [← hNh.out] at q
          exact q
        exact hid (own_low this (by rw [hs1.out]; omega))
      clear hown2 hbw2
      subst ez
      go_wp2_with fail
      go_ret
      exact ⟨_, rfl, fin.out, hbz2.out⟩
    · have hkd' : k + 1 < d := by
        rcases Nat.lt_or_ge (k + 1) d with hl | hl
        · exact hl
        · have e : k + 1 = d := by omega
          exact absurd (by rw [← hzh.out, e]; exact hp.out.at_) ez
      have t1 : ((z : Int) == (x : Int)) = false := by simp; omega
      have t3 : ¬ ((z : Int) = (x : Int)) := by omega
      have hsz := hbw2.size
      go_wp2_with (at_builtin; refine wpList_append_own _ rfl (.tmp 29) (.tmp 31) 23 rfl w1.heap.size 3 i0 _ 1 8 Tryd.underlying23 hif hz0 hz1 hz2 rfl (by decide) _ _ _ rfl (hown2.alloc _) ⟨w2.heap.size, 0, none⟩ 1 1 [.int .i64 (z : Int)] rfl rfl (one_new w2 _ _) (by simp [Value.oneCell']) (by unfold maxLen; omega) (by omega) (by simp; omega) ?_; intro v' w' ho' hg' _; refine Hid.out ?_)
      have hnew : Hid (Rw w1.heap.size w' v' (fl (k + 1 + 1) (fun i => Pq.it (fx V R) i x)) ∧ Below w1.heap.size w1 w') := by
        refine ⟨?_, below_row (hbw2.alloc hsz _) (Nat.le_refl _) (hown2.alloc _) (Nat.le_refl _) hg'⟩
        unfold Rw
        rw [fl_length, fl_succ, ncs_append, hzh.out, ← hNh.out]
        have q := ho'
        rw [← hNh.out] at q
        exact q
      clear ho' hg' hown2 hbw2
      refine hid ?_
      go_wp2_with fail
      go_roundw
      case rel => exact ⟨k + 1, hkd', by go_num, hnew⟩
      case measure => simp [intOf]; omega

end Go.Proofs.YtegljhbjjdfhiaaDoor
