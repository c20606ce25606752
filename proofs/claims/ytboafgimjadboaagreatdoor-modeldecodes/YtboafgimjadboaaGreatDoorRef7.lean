/- The document's lists, walked: New, Join, Size, Count. -/
import Derived.Test.YtboafgimjadboaaGreatDoorBdoc
import Derived.Test.YtboafgimjadboaaGreatDoorBunite
import Derived.Deep.AppendLies
import Derived.Deep.CutBlock
namespace Go.Proofs.YtboafgimjadboaaGreatDoor.Un
open Go.RowKit
set_option linter.unusedVariables false

/-- The value is a slice of these numbers. -/
def Ls (w : World) (v : Value) (n : Nat) (f : Nat → Nat) : Prop := ∃ b cap, v = .slice (some ⟨b, 0, none⟩) n cap ∧ n ≤ cap ∧ cap ≤ maxLen ∧ ∃ cs fr, w.heap[b]? = some (.cells cs 3 fr) ∧ ∀ j, j < n → w.cell? ⟨b, j, none⟩ = some (.int .i64 (f j : Int))

/-- What is no block of Groups is as it was. -/
def Keep (w w' : World) : Prop := ∀ (k : Nat) (cs : Array Value) (t : TypeId) (fr : Nat × Nat), w.heap[k]? = some (.cells cs t fr) → t ≠ 255 → t ≠ 242 → t ≠ 264 → w'.heap[k]? = some (.cells cs t fr)

theorem Keep.ofBelow {w w' : World} (h : Below w.heap.size w w') : Keep w w' := fun k cs t fr hk _ _ _ => (h.block k (Array.getElem?_eq_some_iff.1 hk).1).trans hk
theorem Keep.trans {a b c : World} (h : Keep a b) (k : Keep b c) : Keep a c := fun i cs t fr hi h1 h2 h3 => k i cs t fr (h i cs t fr hi h1 h2 h3) h1 h2 h3

theorem Ls.block {w w' : World} {v : Value} {n : Nat} {f : Nat → Nat} (h : Ls w v n f) (hb : ∀ (b : Nat) (cs : Array Value) (fr : Nat × Nat), w.heap[b]? = some (Obj.cells cs 3 fr) → w'.heap[b]? = some (Obj.cells cs 3 fr)) : Ls w' v n f := by
  obtain ⟨b, cap, e, h1, h2, cs, fr, h3, h4⟩ := h
  have := hb b cs fr h3
  exact ⟨b, cap, e, h1, h2, cs, fr, this, fun j hj => (World.cell?_of_block (a := ⟨b, j, none⟩) (this.trans h3.symm)).trans (h4 j hj)⟩

theorem Ls.keep {w w' : World} {v : Value} {n : Nat} {f : Nat → Nat} (h : Ls w v n f) (k : Keep w w') : Ls w' v n f := h.block (fun b cs fr hb => k b cs 3 fr hb (by decide) (by decide) (by decide))
theorem Ls.below {w w' : World} {v : Value} {n : Nat} {f : Nat → Nat} (h : Ls w v n f) (k : Below w.heap.size w w') : Ls w' v n f := h.keep (Keep.ofBelow k)

theorem infoInt : (Tryz.prog.info? 3).map (fun i => (i.zero, i.size, i.bytes)) = some (some (.int .i64 0), 1, 8) := by kernel_rfl

/-- Numbers as cells. -/
def ics (f : Nat → Nat) (n : Nat) : List Value := (List.range n).map (fun j => .int .i64 (f j : Int))
theorem ics_succ (f : Nat → Nat) (n : Nat) : ics f (n + 1) = ics f n ++ [.int .i64 (f n : Int)] := by unfold ics; rw [List.range_succ, List.map_append]; rfl

/-- A row of one's own that holds the first numbers. -/
def Lo (lo : Nat) (w : World) (v : Value) (n : Nat) (f : Nat → Nat) : Prop := w.ownsRow lo 3 1 v n (ics f n)

theorem Lo.ls {lo : Nat} {w : World} {v : Value} {n : Nat} {f : Nat → Nat} (h : Lo lo w v n f) (hn : 0 < n) : Ls w v n f := by
  have h' : w.ownsRow lo 3 1 v n (ics f n) := h
  obtain ⟨g, cap, rfl, h1, h2⟩ := own_form h' hn
  refine ⟨g, cap, rfl, h1, h2, ?_⟩
  rcases h'.2 with ⟨e, _⟩ | ⟨g', cap', cur, e, _, hg, _⟩
  · cases e
  · simp only [Value.slice.injEq, Option.some.injEq, Addr.mk.injEq, and_true, true_and] at e
    obtain ⟨rfl, rfl⟩ := e
    refine ⟨cur, (0, 0), hg, fun j hj => ?_⟩
    rw [h'.cellAt j (by omega)]
    unfold ics
    simp [hj]

theorem one_new (w : World) (u : Value) (t : TypeId) : ∀ j x, ([u] : List Value)[j]? = some x → (w.alloc (.cells #[u] t)).cell? ((⟨w.heap.size, 0, none⟩ : Addr).add j) = some x := by
  intro j x hx
  rw [show (⟨w.heap.size, 0, none⟩ : Addr).add j = ⟨w.heap.size, j, none⟩ from by unfold Addr.add; split <;> simp_all]
  have hn := heap_alloc_new w (.cells #[u] t)
  unfold World.cell?
  rw [hn]
  simpa using hx

theorem below_row {w0 w w' : World} {B base n size : Nat} {e : TypeId} {v : Value} {xs : List Value} (hb : Below B w0 w) (hlo : B ≤ w0.heap.size) (ho : w.ownsRow base e size v n xs) (hB : B ≤ base) (hg : w.grownBy w' v.ownBlock) : Below B w0 w' := by
  have ht : Turned (fun j => v.ownBlock = some j) w w' := ⟨hg.os, hg.tape, hg.output, hg.size, fun k hk ho => hg.block k hk (fun e => ho e.symm)⟩
  exact hb.trans (ht.below (fun j hj => Nat.le_trans hB (ho.lt j hj).1) (Nat.le_trans hlo hb.size))

set_option maxRecDepth 100000 in
set_option maxHeartbeats 1000000 in
theorem rnew_ok (n : Nat) (w : World) (h1 : 1 ≤ n) (hn : n ≤ 1000) : Calls Tryz.prog 87 #[.int .i64 (n : Int)] w fun e w' => ∃ u, e = .returned u ∧ Ls w' u n (fun x => x) ∧ Below w.heap.size w w' := by
  obtain ⟨i0, hif, hz0, hz1, hz2⟩ := info_parts infoInt
  go_enter Tryz.func87, Tryz.ntmps87
  go_wp2_with fail
  go_loopw [3, 4] (fun v u wr => ∃ j : Nat, j ≤ n ∧ u = .int .i64 (j : Int) ∧ Hid (Lo w.heap.size wr v j (fun x => x) ∧ Below w.heap.size w wr)) (fun _ u _ => n - (intOf u).toNat)
  case atStart => exact ⟨0, by omega, by go_num, World.ownsRow_made w #[] 0 (Nat.le_refl _) (by unfold maxLen; omega) rfl, balloc w _⟩
  case round =>
    obtain ⟨j, hj, rfl, hst⟩ := hrel
    rcases Nat.lt_or_ge j n with hlt | hge
    · have hown : wr.ownsRow w.heap.size 3 1 u3 j (ics (fun x => x) j) := hst.out.1
      have hb := hst.out.2
      have hsz := hb.size
      go_wp2_with (at_builtin; refine wpList_append_own _ rfl (.tmp 11) (.tmp 13) 55 rfl w.heap.size 3 i0 _ 1 8 Tryz.underlying55 hif hz0 hz1 hz2 rfl (by decide) _ _ _ rfl (hown.alloc _) ⟨wr.heap.size, 0, none⟩ 1 1 [.int .i64 (j : Int)] rfl rfl (one_new wr _ _) (by simp [Value.oneCell']) (by unfold maxLen; omega) (by omega) (by simp; omega) ?_; intro v' w' ho' hg' _)
      have hnew := hid (And.intro (show Lo w.heap.size w' v' (j + 1) (fun x => x) from by unfold Lo; rw [ics_succ]; exact ho') (below_row (hb.alloc hsz _) (Nat.le_refl _) (hown.alloc _) (Nat.le_refl _) hg'))
      clear ho' hg'
      go_wp2_with fail
      go_roundw
      case rel => exact ⟨j + 1, by omega, by go_num, hnew⟩
      case measure => simp [intOf]; omega
    · obtain rfl : j = n := by omega
      go_wp2_with fail
      go_ret
      exact ⟨_, rfl, hst.out.1.ls h1, hst.out.2⟩

theorem jn_at (f : Nat → Nat) (a b x : Nat) {lo hi : Nat} (h1 : min (f a) (f b) = lo) (h2 : max (f a) (f b) = hi) : jn f a b x = if f x = hi then lo else f x := by unfold jn; rw [h1, h2]

set_option maxRecDepth 100000 in
set_option maxHeartbeats 2000000 in
theorem rjoin_same (u : Value) (n a b : Nat) (f : Nat → Nat) (w : World) (h : Ls w u n f) (ha : a < n) (hb : b < n) (hn : n ≤ 1000) (he : f a = f b) :
    Calls Tryz.prog 88 #[u, .int .i64 (a : Int), .int .i64 (b : Int)] w fun e w' => e = .returned (.tuple #[u, .bool false]) ∧ Below w.heap.size w w' := by
  obtain ⟨g, cap, rfl, h1, h2, _, _, _, hc⟩ := h
  have ca := hc a ha
  have cb := hc b hb
  rw [he] at ca
  have i1 : (0 : Int) ≤ (a : Int) := by omega
  have i2 : (a : Int) < (n : Int) := by omega
  have i3 : (0 : Int) ≤ (b : Int) := by omega
  have i4 : (b : Int) < (n : Int) := by omega
  clear hc he
  generalize f b = z at ca cb
  go_enter Tryz.func88, Tryz.ntmps88
  go_wp2_with fail
  go_region_held3 (fun y => y.cell? ⟨g, a, none⟩ = some (.int .i64 (z : Int)) ∧ y.cell? ⟨g, b, none⟩ = some (.int .i64 (z : Int))) (go_keep) (fail)
  go_wp2_with fail
  go_ret2
  exact ⟨rfl, (Below.refl _ _).drew⟩

set_option maxRecDepth 100000 in
set_option maxHeartbeats 4000000 in
theorem rjoin_new (u : Value) (n a b : Nat) (f : Nat → Nat) (w : World) (h : Ls w u n f) (ha : a < n) (hb : b < n) (hn : n ≤ 1000) (he : f a ≠ f b) (hf : ∀ x, x < n → f x ≤ x) :
    Calls Tryz.prog 88 #[u, .int .i64 (a : Int), .int .i64 (b : Int)] w fun e w' => ∃ u', e = .returned (.tuple #[u', .bool true]) ∧ Ls w' u' n (jn f a b) ∧ Below w.heap.size w w' := by
  obtain ⟨i0, hif, hz0, hz1, hz2⟩ := info_parts infoInt
  have hh := hid h
  obtain ⟨g, cap, rfl, h1, h2, _, _, _, hc⟩ := h
  have ca := hc a ha
  have cb := hc b hb
  have i1 : (0 : Int) ≤ (a : Int) := by omega
  have i2 : (a : Int) < (n : Int) := by omega
  have i3 : (0 : Int) ≤ (b : Int) := by omega
  have i4 : (b : Int) < (n : Int) := by omega
  have la := hf a ha
  have lb := hf b hb
  have hff := hid hf
  obtain ⟨lo, hlo⟩ : ∃ lo, min (f a) (f b) = lo := ⟨_, rfl⟩
  obtain ⟨hi, hhi⟩ : ∃ hi, max (f a) (f b) = hi := ⟨_, rfl⟩
  have hjn := hid (fun x => jn_at f a b x hlo hhi)
  obtain ⟨za, hza⟩ : ∃ z, f a = z := ⟨_, rfl⟩
  obtain ⟨zb, hzb⟩ : ∃ z, f b = z := ⟨_, rfl⟩
  rw [hza] at ca la hlo hhi he
  rw [hzb] at cb lb hlo hhi he
  have hcx : Hid (∀ y, Below w.heap.size w y → ∀ j, j < n → y.cell? ⟨g, j, none⟩ = some (.int .i64 (f j : Int))) := fun y hy j hj => by
    have hl : g < w.heap.size := by have := World.block_lt_of_cell? w _ (hc j hj); simpa using this
    exact (hy.cell (p := ⟨g, j, none⟩) hl).trans (hc j hj)
  have e1 : ((za : Int) == (zb : Int)) = false := by simp; omega
  have e2 : ¬ ((za : Int) = (zb : Int)) := by omega
  have hlh : lo < hi := by omega
  clear hc hza hzb hf
  have ways : (za < zb ∧ za = lo ∧ zb = hi) ∨ (zb < za ∧ zb = lo ∧ za = hi) := by omega
  clear hlo hhi
  rcases ways with ⟨k, rfl, rfl⟩ | ⟨k, rfl, rfl⟩
  · go_enter Tryz.func88, Tryz.ntmps88
    go_wp2_with fail
    go_region_held3 (fun y => y.cell? ⟨g, a, none⟩ = some (.int .i64 (za : Int)) ∧ y.cell? ⟨g, b, none⟩ = some (.int .i64 (zb : Int))) (go_keep) (fail)
    go_upto_region 3 with fail
    go_cut [8, 9] from 22 to 39 (fun x y wx => x = .int .i64 (za : Int) ∧ y = .int .i64 (zb : Int) ∧ Hid (Below w.heap.size w wx))
    case first =>
      have hbd : Hid (Below w.heap.size w w.drew.drew) := (Below.refl _ _).drew.drew
      go_region_held3 (fun y => y.cell? ⟨g, a, none⟩ = some (.int .i64 (za : Int)) ∧ y.cell? ⟨g, b, none⟩ = some (.int .i64 (zb : Int))) (go_keep) (fail)
      all_goals
        go_wp2_with fail
        go_meet
        case rel => exact ⟨rfl, rfl, hbd⟩
    case rest =>
    obtain ⟨rfl, rfl, hbd⟩ := hcut
    go_wp2_with fail
    go_loopw [10, 11] (fun v u wr => ∃ j : Nat, j ≤ n ∧ u = .int .i64 (j : Int) ∧ Hid (Lo w.heap.size wr v j (jn f a b) ∧ Below w.heap.size w wr)) (fun _ u _ => n - (intOf u).toNat)
    case atStart => exact ⟨0, by omega, by go_num, World.ownsRow_nil _ _ _ _, hbd.out⟩
    case round =>
      obtain ⟨j, hj, rfl, hst⟩ := hrel
      rcases Nat.lt_or_ge j n with hlt | hge
      · have hown : wr.ownsRow w.heap.size 3 1 u10 j (ics (jn f a b) j) := hst.out.1
        have hbw := hst.out.2
        have hsz := hbw.size
        have cj := hcx.out wr hbw j hlt
        have hjj := hjn.out j
        obtain ⟨z, hz⟩ : ∃ z, f j = z := ⟨_, rfl⟩
        rw [hz] at cj hjj
        clear hz
        have j1 : (0 : Int) ≤ (j : Int) := by omega
        have j2 : (j : Int) < (n : Int) := by omega
        by_cases e : z = zb
        · rw [if_pos e] at hjj
          replace hjj := hid hjj
          subst e
          go_wp2_with (at_builtin; refine wpList_append_own _ rfl (.tmp 52) (.tmp 54) 55 rfl w.heap.size 3 i0 _ 1 8 Tryz.underlying55 hif hz0 hz1 hz2 rfl (by decide) _ _ _ rfl (hown.alloc _) ⟨wr.heap.size, 0, none⟩ 1 1 [.int .i64 (za : Int)] rfl rfl (one_new wr _ _) (by simp [Value.oneCell']) (by unfold maxLen; omega) (by omega) (by simp; omega) ?_; intro v' w' ho' hg' _)
          have hnew := hid (And.intro (show Lo w.heap.size w' v' (j + 1) (jn f a b) from by unfold Lo; rw [ics_succ, hjj.out]; exact ho') (below_row (hbw.alloc hsz _) (Nat.le_refl _) (hown.alloc _) (Nat.le_refl _) hg'))
          clear ho' hg'
          go_wp2_with fail
          go_roundw
          case rel => exact ⟨j + 1, by omega, by go_num, hnew⟩
          case measure => simp [intOf]; omega
        · rw [if_neg e] at hjj
          replace hjj := hid hjj
          have t1 : ((z : Int) == (zb : Int)) = false := by simp; omega
          have t2 : ¬ ((z : Int) = (zb : Int)) := by omega
          go_wp2_with (at_builtin; refine wpList_append_own _ rfl (.tmp 56) (.tmp 61) 55 rfl w.heap.size 3 i0 _ 1 8 Tryz.underlying55 hif hz0 hz1 hz2 rfl (by decide) _ _ _ rfl (hown.alloc _) ⟨wr.heap.size, 0, none⟩ 1 1 [.int .i64 (z : Int)] rfl rfl (one_new wr _ _) (by simp [Value.oneCell']) (by unfold maxLen; omega) (by omega) (by simp; omega) ?_; intro v' w' ho' hg' _)
          have hnew := hid (And.intro (show Lo w.heap.size w' v' (j + 1) (jn f a b) from by unfold Lo; rw [ics_succ, hjj.out]; exact ho') (below_row (hbw.alloc hsz _) (Nat.le_refl _) (hown.alloc _) (Nat.le_refl _) hg'))
          clear ho' hg'
          go_wp2_with fail
          go_roundw
          case rel => exact ⟨j + 1, by omega, by go_num, hnew⟩
          case measure => simp [intOf]; omega
      · obtain rfl : j = n := by omega
        go_wp2_with fail
        go_ret2
        exact ⟨_, rfl, hst.out.1.ls (by omega), hst.out.2⟩
  · go_enter Tryz.func88, Tryz.ntmps88
    go_wp2_with fail
    go_region_held3 (fun y => y.cell? ⟨g, a, none⟩ = some (.int .i64 (za : Int)) ∧ y.cell? ⟨g, b, none⟩ = some (.int .i64 (zb : Int))) (go_keep) (fail)
    go_upto_region 3 with fail
    go_cut [8, 9] from 22 to 39 (fun x y wx => x = .int .i64 (zb : Int) ∧ y = .int .i64 (za : Int) ∧ Hid (Below w.heap.size w wx))
    case first =>
      have hbd : Hid (Below w.heap.size w w.drew.drew) := (Below.refl _ _).drew.drew
      go_region_held3 (fun y => y.cell? ⟨g, a, none⟩ = some (.int .i64 (za : Int)) ∧ y.cell? ⟨g, b, none⟩ = some (.int .i64 (zb : Int))) (go_keep) (fail)
      all_goals
        go_wp2_with fail
        go_meet
        case rel => exact ⟨rfl, rfl, hbd⟩
    case rest =>
    obtain ⟨rfl, rfl, hbd⟩ := hcut
    go_wp2_with fail
    go_loopw [10, 11] (fun v u wr => ∃ j : Nat, j ≤ n ∧ u = .int .i64 (j : Int) ∧ Hid (Lo w.heap.size wr v j (jn f a b) ∧ Below w.heap.size w wr)) (fun _ u _ => n - (intOf u).toNat)
    case atStart => exact ⟨0, by omega, by go_num, World.ownsRow_nil _ _ _ _, hbd.out⟩
    case round =>
      obtain ⟨j, hj, rfl, hst⟩ := hrel
      rcases Nat.lt_or_ge j n with hlt | hge
      · have hown : wr.ownsRow w.heap.size 3 1 u10 j (ics (jn f a b) j) := hst.out.1
        have hbw := hst.out.2
        have hsz := hbw.size
        have cj := hcx.out wr hbw j hlt
        have hjj := hjn.out j
        obtain ⟨z, hz⟩ : ∃ z, f j = z := ⟨_, rfl⟩
        rw [hz] at cj hjj
        clear hz
        have j1 : (0 : Int) ≤ (j : Int) := by omega
        have j2 : (j : Int) < (n : Int) := by omega
        by_cases e : z = za
        · rw [if_pos e] at hjj
          replace hjj := hid hjj
          subst e
          go_wp2_with (at_builtin; refine wpList_append_own _ rfl (.tmp 52) (.tmp 54) 55 rfl w.heap.size 3 i0 _ 1 8 Tryz.underlying55 hif hz0 hz1 hz2 rfl (by decide) _ _ _ rfl (hown.alloc _) ⟨wr.heap.size, 0, none⟩ 1 1 [.int .i64 (zb : Int)] rfl rfl (one_new wr _ _) (by simp [Value.oneCell']) (by unfold maxLen; omega) (by omega) (by simp; omega) ?_; intro v' w' ho' hg' _)
          have hnew := hid (And.intro (show Lo w.heap.size w' v' (j + 1) (jn f a b) from by unfold Lo; rw [ics_succ, hjj.out]; exact ho') (below_row (hbw.alloc hsz _) (Nat.le_refl _) (hown.alloc _) (Nat.le_refl _) hg'))
          clear ho' hg'
          go_wp2_with fail
          go_roundw
          case rel => exact ⟨j + 1, by omega, by go_num, hnew⟩
          case measure => simp [intOf]; omega
        · rw [if_neg e] at hjj
          replace hjj := hid hjj
          have t1 : ((z : Int) == (za : Int)) = false := by simp; omega
          have t2 : ¬ ((z : Int) = (za : Int)) := by omega
          go_wp2_with (at_builtin; refine wpList_append_own _ rfl (.tmp 56) (.tmp 61) 55 rfl w.heap.size 3 i0 _ 1 8 Tryz.underlying55 hif hz0 hz1 hz2 rfl (by decide) _ _ _ rfl (hown.alloc _) ⟨wr.heap.size, 0, none⟩ 1 1 [.int .i64 (z : Int)] rfl rfl (one_new wr _ _) (by simp [Value.oneCell']) (by unfold maxLen; omega) (by omega) (by simp; omega) ?_; intro v' w' ho' hg' _)
          have hnew := hid (And.intro (show Lo w.heap.size w' v' (j + 1) (jn f a b) from by unfold Lo; rw [ics_succ, hjj.out]; exact ho') (below_row (hbw.alloc hsz _) (Nat.le_refl _) (hown.alloc _) (Nat.le_refl _) hg'))
          clear ho' hg'
          go_wp2_with fail
          go_roundw
          case rel => exact ⟨j + 1, by omega, by go_num, hnew⟩
          case measure => simp [intOf]; omega
      · obtain rfl : j = n := by omega
        go_wp2_with fail
        go_ret2
        exact ⟨_, rfl, hst.out.1.ls (by omega), hst.out.2⟩

end Go.Proofs.YtboafgimjadboaaGreatDoor.Un
