/- model's cycle, walked. model's cycles, walked. -/
import Derived.Test.YtboafgimjadboaaGreatDoorBface
import Derived.Test.YtboafgimjadboaaGreatDoorBmm
import Derived.Test.YtboafgimjadboaaGreatDoorBmo
namespace Go.Proofs.YtboafgimjadboaaGreatDoor
open Go.RowKit
set_option linter.unusedVariables false
open Pq (fl fl_length fl_succ)

/-- What was seen, and the first q of a walk. -/
def sq (p : Nat → Bool) (f : Nat → Nat) (d q : Nat) : Nat → Bool := fun x => p x || decide (x ∈ fl q (fun i => Pq.it f i d))
theorem sq_zero (p : Nat → Bool) (f : Nat → Nat) (d : Nat) : sq p f d 0 = p := by
  funext x
  simp [sq, fl]
theorem sq_succ (p : Nat → Bool) (f : Nat → Nat) (d q : Nat) : on (sq p f d q) (Pq.it f q d) = sq p f d (q + 1) := by
  funext x
  unfold on sq
  rw [fl_succ]
  by_cases e : x = Pq.it f q d
  · rw [if_pos e]; simp [e]
  · rw [if_neg e]; simp [e]
theorem sq_iff {p : Nat → Bool} {f : Nat → Nat} {d q x : Nat} : sq p f d q x = true ↔ p x = true ∨ ∃ j, j < q ∧ Pq.it f j d = x := by
  unfold sq
  rw [Bool.or_eq_true, decide_eq_true_iff, Pq.mem_fl]

theorem row_kept {w w' : World} {sb base n size : Nat} {e : TypeId} {v : Value} {xs : List Value} (h : w.ownsRow base e size v n xs) (hw : Ar.Turned (fun k => k = sb) w w') (hs : v.ownBlock ≠ some sb) : w'.ownsRow base e size v n xs := by
  refine Ar.ownsRow_same h (fun k hk => ?_)
  rcases h.2 with ⟨rfl, _⟩ | ⟨g, cap, cur, rfl, _, hg, _⟩
  · simp [Value.ownBlock] at hk
  · simp [Value.ownBlock] at hk hs
    subst hk
    exact hw.block g (Array.getElem?_eq_some_iff.1 hg).1 (by omega)

/-- What the walk from a dart on has come to. -/
structure Cw (m : Mo) (p : Nat → Bool) (d q : Nat) : Prop where
  new : ∀ i, i < q → p (Pq.it m.f i d) = false
  apart : ∀ i j, i < q → j < q → Pq.it m.f i d = Pq.it m.f j d → i = j

theorem Cw.step {m : Mo} {p : Nat → Bool} {d q : Nat} (h : Cw m p d q) (hn : sq p m.f d q (Pq.it m.f q d) = false) : Cw m p d (q + 1) := by
  have h1 : p (Pq.it m.f q d) = false ∧ ∀ j, j < q → Pq.it m.f j d ≠ Pq.it m.f q d := by
    constructor
    · cases e : p (Pq.it m.f q d) with
      | false => rfl
      | true => rw [sq_iff.2 (.inl e)] at hn; cases hn
    · intro j hj e
      rw [sq_iff.2 (.inr ⟨j, hj, e⟩)] at hn; cases hn
  refine ⟨fun i hi => ?_, fun i j hi hj e => ?_⟩
  · rcases Nat.lt_or_ge i q with c | c
    · exact h.new i c
    · obtain rfl : i = q := by omega
      exact h1.1
  · rcases Nat.lt_or_ge i q with c | c
    · rcases Nat.lt_or_ge j q with c' | c'
      · exact h.apart i j c c' e
      · obtain rfl : j = q := by omega
        exact absurd e (h1.2 i c)
    · obtain rfl : i = q := by omega
      rcases Nat.lt_or_ge j i with c' | c'
      · exact absurd e.symm (h1.2 j c')
      · omega

theorem Cw.le {m : Mo} {p : Nat → Bool} {d q : Nat} (h : Cw m p d q) (ht : Told m) (hl : Lv m.es (d / 2)) : q ≤ m.k := by
  have := Pq.pig (l := fl q (fun i => Pq.it m.f i d)) (m := List.range m.k) (Pq.fl_nodup h.apart) (fun x hx => by
    obtain ⟨i, _, rfl⟩ := Pq.mem_fl.1 hx
    exact List.mem_range.2 (ht.it_lt hl i))
  simpa using this

set_option maxRecDepth 100000 in
set_option maxHeartbeats 4000000 in
theorem cycle_ok {w : World} {n : Int} {vv ev lv : Value} {m : Mo} {w0 : World} (hm : Mp w0 vv ev lv m) (hB : Below w0.heap.size w0 w) (ht : Told m) (K : Nat) (hK : m.k = K) (hk : K ≤ 2000) (base sb : Nat) (hs0 : w0.heap.size ≤ sb) (p : Nat → Bool) (hr : w.ownsRow base 4 1 (.slice (some ⟨sb, 0, none⟩) K K) K (bl K p)) (d : Nat) (hd : Lv m.es (d / 2)) (hs : p d = false) :
    Calls Tryz.prog 53 #[.agg #[.int .i64 n, vv, ev, lv], .int .u32 (d : Int), .slice (some ⟨sb, 0, none⟩) K K] w fun e w' => ∃ (u : Value) (z : Bool) (q : Nat), e = .returned (.tuple #[u, .bool z]) ∧ Rw w.heap.size w' u (fl q (fun i => Pq.it m.f i d)) ∧ w'.ownsRow base 4 1 (.slice (some ⟨sb, 0, none⟩) K K) K (bl K (sq p m.f d q)) ∧ Ar.Turned (fun k => k = sb) w w' ∧ Hid (0 < q ∧ (z = true ↔ Pq.it m.f q d = d) ∧ Cw m p d q ∧ sq p m.f d q (Pq.it m.f q d) = true) := by
  obtain ⟨i0, hif, hz0, hz1, hz2⟩ := info_parts infoInt
  have hsb : sb < w.heap.size := by
    rcases hr.2 with ⟨h, _⟩ | ⟨g, cap, cur, h, _, hg, _⟩
    · cases h
    · cases h; exact (Array.getElem?_eq_some_iff.1 hg).1
  have hkd : d < K := by rw [← hK]; exact (ht.dart hd).1
  have hlt : Hid (∀ q, Pq.it m.f q d < K) := fun q => by rw [← hK]; exact ht.it_lt hd q
  have hliv : Hid (∀ q, Lv m.es (Pq.it m.f q d / 2)) := fun q => (ht.it_live q).2 hd
  have hKh := hid hK
  have hcs := boxd w n vv ev lv 36
  have hb0 := hid (balloc w (.cells #[.int .i64 n, vv, ev, lv] 36))
  have hmh := hid hm
  have hth := hid ht
  have hdh := hid hd
  replace hr := hid hr
  replace hB := hid hB
  clear hm ht hK hd
  go_enter Tryz.func53, Tryz.ntmps53
  go_wp2_with fail
  obtain ⟨w1, hw1⟩ : ∃ w1, w.alloc (.cells #[.int .i64 n, vv, ev, lv] 36) = w1 := ⟨_, rfl⟩
  rw [hw1] at hcs hb0 ⊢
  clear hw1
  have hsz1 := hb0.out.size
  have hst0 : Hid (Rw w1.heap.size w1 (.slice none 0 0) (fl 0 (fun i => Pq.it m.f i d)) ∧ w1.ownsRow base 4 1 (.slice (some ⟨sb, 0, none⟩) K K) K (bl K (sq p m.f d 0)) ∧ Ar.Turned (fun k => k = sb) w1 w1 ∧ Cw m p d 0) :=
    ⟨World.ownsRow_nil _ _ _ _, by rw [sq_zero]; exact ownsRow_below hr.out hb0.out, Ar.Turned.refl _ _, ⟨fun i hi => by omega, fun i j hi => by omega⟩⟩
  go_loopw [8, 9] (fun u s9 wr => ∃ q : Nat, q ≤ K ∧ s9 = .int .u32 (Pq.it m.f q d : Int) ∧ Hid (Rw w1.heap.size wr u (fl q (fun i => Pq.it m.f i d)) ∧ wr.ownsRow base 4 1 (.slice (some ⟨sb, 0, none⟩) K K) K (bl K (sq p m.f d q)) ∧ Ar.Turned (fun k => k = sb) w1 wr ∧ Cw m p d q)) (fun u _ _ => K - sln u)
  case atStart => exact ⟨0, by omega, by go_num, hst0⟩
  case round =>
    obtain ⟨q, hq, rfl, hst⟩ := hrel
    clear hst0
    have hyk := hlt.out q
    have hyl := hid (hliv.out q)
    obtain ⟨y, hy⟩ : ∃ y, Pq.it m.f q d = y := ⟨_, rfl⟩
    rw [hy] at hyk hyl ⊢
    have hold : wr.cell? ⟨sb, y, none⟩ = some (.bool (sq p m.f d q y)) := by
      have := hst.out.2.1.cellAt y (by omega)
      rw [this, bl_get hyk]
    replace hy := hid hy
    have j1 : (0 : Int) ≤ (y : Int) := by omega
    have j2 : (y : Int) < (K : Int) := by omega
    cases hold' : sq p m.f d q y with
    | true =>
      rw [hold'] at hold
      have hq0 : Hid (0 < q) := by
        rcases Nat.eq_zero_or_pos q with e | e
        · subst e
          have hyd : d = y := hy.out
          rw [sq_zero, ← hyd, hs] at hold'
          cases hold'
        · exact e
      replace hold' := hid hold'
      have hz : Hid ((((y : Int) == (d : Int)) = true) ↔ Pq.it m.f q d = d) := by rw [hy.out, beq_iff_eq]; exact ⟨fun e => by omega, fun e => by omega⟩
      go_wp2_with fail
      go_ret2
      refine ⟨_, _, q, rfl, hst.out.1.low hsz1, hst.out.2.1, (Ar.Turned.ofBelow hb0.out _).trans hst.out.2.2.1, hq0.out, hz.out, hst.out.2.2.2, ?_⟩
      rw [hy.out]
      exact hold'.out
    | false =>
      rw [hold'] at hold
      have hcw : Hid (Cw m p d (q + 1)) := hst.out.2.2.2.step (by rw [hy.out]; exact hold')
      have hq1 : q + 1 ≤ K := by rw [← hKh.out]; exact hcw.out.le hth.out hdh.out
      replace hold' := hid hold'
      obtain ⟨hR, hM, hT, _⟩ := hst.out
      have hfz := hM.frozenAt y
      obtain ⟨s1, s2⟩ := hM.stored y (.bool true)
      rw [bl_set, ← hy.out, sq_succ, hy.out] at s1
      have hT2 := (Ar.Turned.refl (fun k => k = sb) wr).setCell (p := ⟨sb, y, none⟩) rfl (.bool true)
      have hap : u8.ownBlock ≠ some sb := by
        rcases hR.apart (s := sb) (by omega) with e | e
        · rw [e]; simp
        · exact e
      have hR2 : Rw w1.heap.size (wr.setCell ⟨sb, y, none⟩ (.bool true)) u8 (fl q (fun i => Pq.it m.f i d)) := row_kept hR hT2 hap
      have hM2 := hid s1
      have hT2' := hid (hT.trans hT2)
      clear s1 s2 hM hT hT2 hst hR hap
      go_upto_region 5 with fail
      obtain ⟨w2, hw2⟩ : ∃ w2, wr.setCell ⟨sb, y, none⟩ (.bool true) = w2 := ⟨_, rfl⟩
      rw [hw2] at hR2 hM2 hT2' ⊢
      clear hw2 hold hfz
      have hown : w2.ownsRow w1.heap.size 3 1 u8 (fl q (fun i => Pq.it m.f i d)).length (ncs (fl q (fun i => Pq.it m.f i d))) := hR2
      rw [fl_length] at hown
      have hln := hid (own_sln hown)
      have hsz2 := hT2'.out.size
      clear hR2
      go_wp2_with (at_builtin; refine wpList_append_own _ rfl (.tmp 19) (.tmp 22) 55 rfl w1.heap.size 3 i0 _ 1 8 Tryz.underlying55 hif hz0 hz1 hz2 rfl (by decide) _ _ _ rfl (hown.alloc _) ⟨w2.heap.size, 0, none⟩ 1 1 [.int .i64 (y : Int)] rfl rfl (one_new w2 _ _) (by simp [Value.oneCell']) (by unfold maxLen; omega) (by omega) (by simp; omega) ?_; intro v' w' ho' hg' _; refine Hid.out ?_)
      have hba := balloc w2 (.cells #[.int .i64 (y : Int)] 3)
      have hT3 : Hid (Ar.Turned (fun k => k = sb) w1 w') := (hT2'.out.trans (Ar.Turned.ofBelow hba _)).then (Ar.Turned.ofGrown hg' (S := fun k => u8.ownBlock = some k) (fun k hk => hk)) (fun i hi e => by
        rcases hown.2 with ⟨h, _⟩ | ⟨g, cap, cur, h, hg, _⟩
        · rw [h] at e; simp [Value.ownBlock] at e
        · rw [h] at e; simp [Value.ownBlock] at e; omega)
      have hM3 : Hid (w'.ownsRow base 4 1 (.slice (some ⟨sb, 0, none⟩) K K) K (bl K (sq p m.f d (q + 1)))) := (ownsRow_below hM2.out hba).kept hg' (own_apart (ownsRow_below hM2.out hba) (hown.alloc _) (by decide))
      have hR3 : Hid (Rw w1.heap.size w' v' (fl (q + 1) (fun i => Pq.it m.f i d))) := by
        show Rw _ _ _ _
        unfold Rw
        rw [fl_length, fl_succ, ncs_append, hy.out]
        exact ho'
      have hln' := hid (own_sln ho')
      have hbx : Hid (Bxd w' w.heap.size n vv ev lv) := by
        obtain ⟨a0, a1, a2, a3⟩ := hcs.out w1 (Below.refl _ _)
        exact ⟨hT3.out.cell a0 (by show ¬ w.heap.size = sb; omega), hT3.out.cell a1 (by show ¬ w.heap.size = sb; omega), hT3.out.cell a2 (by show ¬ w.heap.size = sb; omega), hT3.out.cell a3 (by show ¬ w.heap.size = sb; omega)⟩
      have hB3 : Hid (Below w0.heap.size w0 w') := hB.out.trans (((Ar.Turned.ofBelow hb0.out (fun k => k = sb)).trans hT3.out).below (fun k hk => by subst hk; exact hs0) hB.out.size)
      have hyl' := hyl.out
      obtain ⟨b, o, cap, hlv, g1, g2, _, c1, _, g4⟩ := (hmh.out.l.below hB3.out).dart (d := y) (by rw [hKh.out]; exact hyk)
      have hdd : Hid (Pq.it m.f (q + 1) d = m.nd y) := by
        show m.f (Pq.it m.f q d) = _
        rw [hy.out, Mo.f_live hyl']
      obtain ⟨D, hD⟩ : ∃ D, m.nd y = D := ⟨_, rfl⟩
      rw [hD] at c1 hdd g4
      obtain ⟨c5, c6, c7, c8⟩ := hbx.out
      subst hlv
      have hlk : (y : Int) / 2 < (m.l.length : Int) := by have := hKh.out; unfold Mo.k at this; omega
      have hl0 : (0 : Int) ≤ (y : Int) / 2 := by omega
      clear hown ho' hg' hM2 hT2' hba hD hyl'
      refine hid ?_
      go_wp2_with fail
      go_roundw
      case rel => exact ⟨q + 1, hq1, by rw [hdd.out], hR3.out, hM3.out, hT3.out, hcw.out⟩
      case measure => rw [hln.out, hln'.out]; omega

end Go.Proofs.YtboafgimjadboaaGreatDoor

namespace Go.Proofs.YtboafgimjadboaaGreatDoor
open Go.RowKit
set_option linter.unusedVariables false
open Pq (fl fl_length fl_succ)

theorem Rg.keptT {w w' : World} {sb b base n : Nat} {u : Value} {xs : List Value} {ms : List (List Nat)} (h : Rg b w u ms) (ho : w.ownsRow base 4 1 (.slice (some ⟨sb, 0, none⟩) n n) n xs) (hw : Ar.Turned (fun k => k = sb) w w') : Rg b w' u ms := by
  obtain ⟨us, hu, h1, hr⟩ := h
  have key : ∀ {e : TypeId} {v : Value} {k : Nat} {ys : List Value}, e ≠ 4 → w.ownsRow b e 1 v k ys → v.ownBlock ≠ some sb := fun he hv => by
    rcases own_apart hv ho he with q | q
    · rw [q]; simp
    · simpa [Value.ownBlock] using q
  exact ⟨us, hu, row_kept h1 hw (key (by decide) h1), fun i l v hi hj => row_kept (hr i l v hi hj) hw (key (by decide) (hr i l v hi hj))⟩

/-- One row is put in another's place. -/
theorem Rg.put {w : World} {b rb V i : Nat} {u : Value} {l : List Nat} {ms : List (List Nat)} (h : Rg b w (.slice (some ⟨rb, 0, none⟩) V V) ms) (hV : ms.length = V) (hi : i < ms.length) (hu : Rw b w u l) : Rg b (w.setCell ⟨rb, i, none⟩ u) (.slice (some ⟨rb, 0, none⟩) V V) (ms.set i l) ∧ w.grownBy (w.setCell ⟨rb, i, none⟩ u) (some rb) := by
  subst hV
  obtain ⟨us, hl, h1, hr⟩ := h
  obtain ⟨s1, s2⟩ := h1.stored i u
  refine ⟨⟨us.set i u, by simp [hl], by simpa using s1, fun j l' u' hj hk => ?_⟩, s2⟩
  rw [List.getElem?_set] at hj hk
  by_cases e : i = j
  · subst e
    rw [if_pos rfl, if_pos hi] at hj
    rw [if_pos rfl, if_pos (by omega)] at hk
    cases hj; cases hk
    exact hu.grown h1 s2
  · rw [if_neg e] at hj hk
    exact (hr j l' u' hj hk).grown h1 s2

/-- Where cycles stands. -/
def Cst (m : Mo) (w1 : World) (rb sb V K d : Nat) (wr : World) : Prop := Rg w1.heap.size wr (.slice (some ⟨rb, 0, none⟩) V V) (rwB m V d) ∧ Below w1.heap.size w1 wr ∧ ∃ p, wr.ownsRow w1.heap.size 4 1 (.slice (some ⟨sb, 0, none⟩) K K) K (bl K p) ∧ Ci m d (fun x => p x = true)

theorem made_nil (V : Nat) : (madeCells (Value.cells (.slice none 0 0)) (V * 1)).toList = List.replicate V (.slice none 0 0) := by
  rw [Nat.mul_one]
  show (madeCells #[Value.slice none 0 0] V).toList = _
  rw [toList_madeCells_one]

set_option maxRecDepth 100000 in
set_option maxHeartbeats 4000000 in
theorem cycles_ok {w : World} {n : Int} {vv ev lv : Value} {m : Mo} (hm : Mp w vv ev lv m) (ht : Told m) (hk : m.k ≤ 2000) (hv : m.vs.length ≤ 1000) :
    Calls Tryz.prog 25 #[.agg #[.int .i64 n, vv, ev, lv]] w fun e w' => Below w.heap.size w w' ∧ ((Cy m ∧ ∃ u, e = .returned (.tuple #[u, .bool true]) ∧ Rg w.heap.size w' u (rws m)) ∨ (¬ Cy m ∧ e = .returned (.tuple #[.slice none 0 0, .bool false]))) := by
  obtain ⟨i0, hif, hz0, hz1, hz2⟩ := info_parts infoBool
  obtain ⟨i1, hjf, hy0, hy1, hy2⟩ := info_parts infoInts
  obtain ⟨va, V, vc, hvv, hV, _, hv1, hv2⟩ := hm.vs
  obtain ⟨la, ln, lc, hlv, hL, hl1, hl2⟩ := hm.l
  have hmh := hid hm
  have hth := hid ht
  subst hvv hlv
  have hVl := hV.len
  rw [hVl] at hv
  obtain ⟨K, hK⟩ : ∃ K, m.k = K := ⟨_, rfl⟩
  have hKl : 2 * ln = K := by rw [← hK, ← hL.len]; rfl
  rw [hK] at hk
  have hw2 : Hid (wrap64 (2 * (ln : Int)) = (K : Int)) := by rw [IntWalk.wrap64_in _ ⟨by omega, by omega⟩]; show 2 * (ln : Int) = (K : Int); omega
  have hwu : IntKind.u32.wrap (K : Int) = (K : Int) := wu32 K (by omega)
  have hcs := boxd w n (.slice va V vc) ev (.slice la ln lc) 36
  have hb0 := hid (balloc w (.cells #[.int .i64 n, .slice va V vc, ev, .slice la ln lc] 36))
  replace hVl := hid hVl
  replace hK := hid hK
  clear hm ht hV hL hKl
  go_enter Tryz.func25, Tryz.ntmps25
  go_upto_region 1 with fail
  obtain ⟨w1, hw1⟩ : ∃ w1, w.alloc (.cells #[.int .i64 n, .slice va V vc, ev, .slice la ln lc] 36) = w1 := ⟨_, rfl⟩
  rw [hw1] at hcs hb0 ⊢
  clear hw1
  obtain ⟨c0, c1, c2, c3⟩ := hcs.out w1 (Below.refl _ _)
  go_upto_region 2 with (at_make; refine wpList_make_full _ rfl (.tmp 12) (.tmp 12) 28 rfl w1.heap.size 55 i1 (.slice none 0 0) 1 Tryz.underlying28 hjf hy0 hy1 .i64 .i64 _ _ V rfl rfl rfl rfl (by rw [hy2]; omega) (by unfold maxLen; omega) (Nat.le_refl _) ?_; intro w2 hown2 hgrow2)
  have hb2 := hid ((Below.refl w1.heap.size w1).grown hgrow2 (Nat.le_refl _) (by simp))
  clear c0 c1 c2 c3
  obtain ⟨c0, c1, c2, c3⟩ := hcs.out w2 hb2.out
  have hsz2 := hb2.out.size
  replace hown2 := hid hown2
  clear hgrow2
  go_upto_region 3 with (at_make; rw [hw2.out]; refine wpList_make_full _ rfl (.tmp 17) (.tmp 17) 112 rfl w1.heap.size 4 i0 (.bool false) 1 Tryz.underlying112 hif hz0 hz1 .i64 .i64 _ _ K rfl rfl rfl rfl (by rw [hz2]; omega) (by unfold maxLen; omega) hsz2 ?_; intro w3 hown3 hgrow3)
  have hb3 := hid (hb2.out.grown hgrow3 hsz2 (by simp))
  have hst0 : Hid (Cst m w1 w1.heap.size w2.heap.size V K 0 w3) := by
    rw [made_nil] at hown2
    rw [bl_made] at hown3
    refine ⟨⟨List.replicate V (.slice none 0 0), by simp [rwB_len], ?_, fun i l u hi hj => ?_⟩, hb3.out, _, hown3, ?_⟩
    · rw [rwB_len]
      exact (World.ownsRow.kept hown2.out hgrow3 (.inr (by simp [Value.ownBlock])))
    · rw [rwB_zero] at hi
      have h1 := List.eq_of_mem_replicate (List.mem_of_getElem? hi)
      have h2 := List.eq_of_mem_replicate (List.mem_of_getElem? hj)
      subst h1 h2
      exact World.ownsRow_nil _ _ _ _
    · exact ⟨fun x => ⟨fun q => (by cases q), fun ⟨y, _, h, _⟩ => by omega⟩, fun y h => by omega, fun y _ h => by omega⟩
  have hsz3 := hb3.out.size
  have hsb : w1.heap.size ≤ w2.heap.size := hsz2
  obtain ⟨rb, hrb⟩ : ∃ rb, w1.heap.size = rb := ⟨_, rfl⟩
  obtain ⟨sb, hsbe⟩ : ∃ sb, w2.heap.size = sb := ⟨_, rfl⟩
  rw [hsbe] at hsb hst0 ⊢
  have hst1 : Hid (Cst m w1 rb sb V K 0 w3) := by rw [← hrb]; exact hst0
  rw [show (Value.slice (some { block := w1.heap.size, off := 0 }) V V) = (Value.slice (some { block := rb, off := 0 }) V V) from by rw [hrb]]
  have hw1s : Hid (w.heap.size ≤ w1.heap.size) := hb0.out.size
  clear hown2 hown3 hgrow3 hst0 hsbe hb3 hsz3 c0 c1 c2 c3 hb2 hsz2 hrb
  go_wp2_with fail
  go_loopw [6, 7, 8, 9, 22] (fun _ _ _ _ s22 wr => ∃ d : Nat, d ≤ K ∧ s22 = .int .u32 (d : Int) ∧ Hid (Cst m w1 rb sb V K d wr)) (fun _ _ _ _ s22 _ => K - (intOf s22).toNat)
  case atStart => exact ⟨0, by omega, by go_num, hst1⟩
  case round =>
    obtain ⟨d, hd, rfl, hst⟩ := hrel
    clear hst1
    obtain ⟨hG, hB, p, hM, hC⟩ := hst.out
    have hBw := hid (hb0.out.trans (hB.mono hw1s.out))
    rcases Nat.lt_or_ge d K with hlt | hge
    · have hold : wr.cell? ⟨sb, d, none⟩ = some (.bool (p d)) := by rw [hM.cellAt d (by omega), bl_get hlt]
      have j1 : (0 : Int) ≤ (d : Int) := by omega
      have j2 : (d : Int) < (K : Int) := by omega
      have t1 : decide ((d : Int) < (K : Int)) = true := decide_eq_true j2
      have hwd : IntKind.u32.wrap ((d : Int) + 1) = ((d + 1 : Nat) : Int) := wu32 (d + 1) (by omega)
      obtain ⟨c0, c1, c2, c3⟩ := hcs.out wr hB
      cases hpd : p d with
      | true =>
        have hnew : Hid (Cst m w1 rb sb V K (d + 1) wr) := ⟨by rw [rwB_same (hC.lea_seen hth.out hpd)]; exact hG, hB, p, hM, hC.seen hth.out hpd⟩
        rw [hpd] at hold
        clear hst hG hB hM hC hpd
        go_wp2_with fail
        go_roundw
        case rel => exact ⟨d + 1, by omega, rfl, hnew⟩
        case measure => clear hwd hwu; simp only [intOf]; omega
      | false =>
        rw [hpd] at hold
        have hlv := hid (fun z hz => live_ok ((hmh.out.below hBw.out).es) (d / 2) (by omega) z hz)
        by_cases hl : Lv m.es (d / 2)
        · have hq := hid (hlv.out true (by simp [hl]))
          have hdt := hth.out.dart hl
          obtain ⟨b, o, cap, he, g1, g2, cf, _, g3, _⟩ := ((hmh.out.below hBw.out).l).dart (d := d) (by rw [hK.out]; exact hlt)
          obtain ⟨F, hF⟩ : ∃ F, m.fr d = F := ⟨_, rfl⟩
          have hFV : F < V := by rw [← hF, ← hVl.out]; exact hdt.2.1.lt
          rw [hF] at cf
          injection he with he1 he2 he3
          subst he1 he3
          have hlk : (d : Int) / 2 < (ln : Int) := by
            have := hK.out
            unfold Mo.k at this
            omega
          have hG' := hG
          obtain ⟨us, hul, ho, hrs⟩ := hG'
          rw [rwB_len] at ho
          replace he2 := hid he2
          obtain ⟨u0, hu0⟩ : ∃ u0, us[F]? = some u0 := ⟨_, List.getElem?_eq_getElem (by rw [hul, rwB_len]; exact hFV)⟩
          have hcr : wr.cell? ⟨rb, F, none⟩ = some u0 := by
            rw [ho.cellAt F (by omega), hu0]
          have hru := hrs F _ u0 (rwB_get hFV) hu0
          obtain ⟨ua, uc, hue, _, _⟩ := own_any hru
          obtain ⟨un, hun⟩ : ∃ un, (rowB m F d).length = un := ⟨_, rfl⟩
          rw [hun] at hue
          subst hue
          have jF0 : (0 : Int) ≤ (F : Int) := by omega
          have jF1 : (F : Int) < (V : Int) := by omega
          have hFh := hid hF
          have hlh := hid hl
          cases hle : lea m F d with
          | some y =>
            have hpos : 0 < un := by rw [← hun]; exact hC.row_pos hle
            have t2 : decide ((0 : Int) < (un : Int)) = true := decide_eq_true (by omega)
            have t2' : decide (0 < un) = true := decide_eq_true hpos
            have hno : Hid (¬ Cy m) := hC.two hl (by rw [hpd]; simp) (by rw [hF]; exact hle)
            clear hst hG hB hM hC hpd hl hlv hrs ho hru hF hun hle
            go_wp2_with fail
            refine hq.out.mono ?_
            rintro e1 y1 ⟨rfl, rfl⟩
            go_wp2_with fail
            go_ret2
            exact ⟨hBw.out, .inr ⟨hno.out, rfl⟩⟩
          | none =>
            have hun0 : un = 0 := by rw [← hun]; unfold rowB; rw [hle]; rfl
            subst hun0
            have hcy := hid (cycle_ok (n := n) (hmh.out.below hb0.out) hB hth.out K hK.out hk w1.heap.size sb hsb p hM d hl hpd)
            replace hG := hid hG
            replace hB := hid hB
            replace hM := hid hM
            replace hC := hid hC
            replace hpd := hid hpd
            replace hle := hid hle
            clear hst hl hlv hrs ho hru hF hun
            go_wp2_with fail
            refine hq.out.mono ?_
            rintro e1 y1 ⟨rfl, rfl⟩
            go_wp2_with fail
            refine hcy.out.mono ?_
            rintro e1 w4 ⟨u, z, q, rfl, hR4, hM4, hT4, hcw⟩
            have hB4 := hid (hB.out.trans (hT4.below (fun k hk => by subst hk; exact hsb) hB.out.size))
            have hG4 := hid (hG.out.keptT hM.out hT4)
            have hBw4 := hid (hb0.out.trans (hB4.out.mono hw1s.out))
            replace hR4 := hid (hR4.low hB.out.size)
            replace hM4 := hid hM4
            replace hcw := hid hcw
            clear hcy hT4 hG hM hold hcr cf c0 c1 c2 c3
            cases z with
            | false =>
              have hno : Hid (¬ Cy m) := by
                obtain ⟨q0, qz, qc, qs⟩ := hcw.out.out
                exact hC.out.bad hth.out hlh.out (by rw [hpd.out]; simp) (fun e => by have := qz.2 e; cases this) qc.apart (sq_iff.1 qs)
              go_wp2_with fail
              go_ret2
              exact ⟨hBw4.out, .inr ⟨hno.out, rfl⟩⟩
            | true =>
              have horb : Hid (Pq.orb m.f d = fl q (fun i => Pq.it m.f i d)) := by
                obtain ⟨q0, qz, qc, qs⟩ := hcw.out.out
                exact orb_of q0 (qz.1 rfl) qc.apart
              have hR5 : Rw w1.heap.size w4 u (Pq.orb m.f d) := by rw [horb.out]; exact hR4.out
              obtain ⟨ua4, uc4, hue, _, _⟩ := own_any hR5
              obtain ⟨qn, hqn⟩ : ∃ qn, (Pq.orb m.f d).length = qn := ⟨_, rfl⟩
              rw [hqn] at hue
              clear hqn
              subst hue
              obtain ⟨us4, hul4, ho4, hrs4⟩ := hG4.out
              rw [rwB_len] at ho4
              obtain ⟨u4, hu4⟩ : ∃ u4, us4[F]? = some u4 := ⟨_, List.getElem?_eq_getElem (by rw [hul4, rwB_len]; exact hFV)⟩
              have hcr : w4.cell? ⟨rb, F, none⟩ = some u4 := by rw [ho4.cellAt F (by omega), hu4]
              have hfz := ho4.frozenAt F
              obtain ⟨g5, s5⟩ := Rg.put hG4.out (rwB_len m V d) (i := F) (by rw [rwB_len]; exact hFV) hR5
              have hnew : Hid (Cst m w1 rb sb V K (d + 1) (w4.setCell ⟨rb, F, none⟩ (.slice ua4 qn uc4))) := by
                refine ⟨?_, ?_, _, World.ownsRow.kept hM4.out s5 (own_apart hM4.out ho4 (by decide)), ?_⟩
                · rw [rwB_set hlh.out (by rw [hFh.out]; exact hle.out), hFh.out]; exact g5
                · exact below_row hB4.out (Nat.le_refl _) ho4 (Nat.le_refl _) s5
                · obtain ⟨q0, qz, qc, qs⟩ := hcw.out.out
                  exact hC.out.add hlh.out (by rw [hFh.out]; exact hle.out) q0 (qz.1 rfl) (fun x => sq_iff)
              have huv := hid hR5
              clear hul4 ho4 hrs4 hu4 g5 s5 hR5
              go_wp2_with fail
              go_roundw
              case rel => exact ⟨d + 1, by omega, rfl, hnew⟩
              case measure => clear hwd hwu; simp only [intOf]; omega
        · have hq := hid (hlv.out false (by simp [hl]))
          have hnew : Hid (Cst m w1 rb sb V K (d + 1) wr) := ⟨by rw [rwB_same (fun v => lea_no (fun q => hl q.1))]; exact hG, hB, p, hM, hC.dead hl⟩
          clear hst hG hB hM hC hpd hl hlv
          go_wp2_with fail
          refine hq.out.mono ?_
          rintro e1 y1 ⟨rfl, rfl⟩
          go_wp2_with fail
          go_roundw
          case rel => exact ⟨d + 1, by omega, rfl, hnew⟩
          case measure => clear hwd hwu; simp only [intOf]; omega
    · obtain rfl : d = K := by omega
      have t1 : decide ((d : Int) < (d : Int)) = false := decide_eq_false (by omega)
      have hfin : Hid (Cy m ∧ Rg w.heap.size wr (.slice (some ⟨rb, 0, none⟩) V V) (rws m)) := ⟨by have := hC; rw [← hK.out] at this; exact this.done hth.out, by unfold rws; rw [hVl.out, hK.out]; exact hG.low hw1s.out⟩
      clear hst hG hB hM hC
      go_wp2_with fail
      go_ret2
      exact ⟨hBw.out, .inl ⟨hfin.out.1, _, rfl, hfin.out.2⟩⟩

end Go.Proofs.YtboafgimjadboaaGreatDoor
