/- The document's Live, from, next, Darts, walked. The document's Load of places, whatever it is handed; two of the document's edges compared as a whole. -/
import Derived.Test.YtboafgimjadboaaGreatDoorArRload3
import Derived.Test.YtboafgimjadboaaGreatDoorBmm
import Derived.Test.YtboafgimjadboaaGreatDoorBrd
import Derived.Test.YtboafgimjadboaaGreatDoorBrow
import Derived.Test.YtboafgimjadboaaGreatDoorGood17
namespace Go.Proofs.YtboafgimjadboaaGreatDoor
open Go.RowKit
set_option linter.unusedVariables false

set_option maxRecDepth 100000 in
set_option maxHeartbeats 1000000 in
theorem rlive_ok {w : World} {v : Value} {ps : List (Int × Int)} (hv : PV w v ps) (i : Nat) (hi : i < 4294967296) (z : Bool) (hz : z = true ↔ Lv ps i) :
    Calls Tryz.prog 59 #[v, .int .u32 (i : Int)] w fun e w' => e = .returned (.bool z) ∧ w = w' := by
  obtain ⟨ad, n, cap, rfl, hr, h0, h1, h2⟩ := hv
  have w1 : IntKind.i64.wrap (i : Int) = (i : Int) := by rw [IntKind.wrap_i64]; omega
  by_cases h : i < n
  · have t1 : decide ((i : Int) < (n : Int)) = true := decide_eq_true (by omega)
    have t2 : decide (i < n) = true := decide_eq_true h
    obtain ⟨p, hp⟩ : ∃ p, ps[i]? = some p := ⟨_, List.getElem?_eq_getElem (by rw [hr.len]; exact h)⟩
    obtain ⟨b, o, rfl, c0, c1⟩ := hr.cell i p hp
    have hz' : z = (p.2 == 1) := by
      rw [Bool.eq_iff_iff, hz]
      unfold Lv
      rw [hp]
      simp
    subst hz'
    clear hz hr h0 hp c0
    go_enter Tryz.func59, Tryz.ntmps59
    go_wp2_with fail
    go_ret
    exact ⟨rfl, rfl⟩
  · have t1 : decide ((i : Int) < (n : Int)) = false := decide_eq_false (by omega)
    have t2 : decide (i < n) = false := decide_eq_false h
    have hz' : z = false := by
      cases z with
      | false => rfl
      | true => have := (hz.1 rfl).lt; rw [hr.len] at this; omega
    subst hz'
    clear hz hr h0
    go_enter Tryz.func59, Tryz.ntmps59
    go_wp2_with fail
    go_ret
    exact ⟨rfl, rfl⟩

theorem half_int (d : Nat) : (d : Int).tdiv 2 = ((d / 2 : Nat) : Int) ∧ (d : Int).tmod 2 = ((d % 2 : Nat) : Int) := by
  rw [Int.tdiv_eq_ediv_of_nonneg (by omega), Int.tmod_eq_emod_of_nonneg (by omega)]
  omega

set_option maxRecDepth 100000 in
set_option maxHeartbeats 1000000 in
theorem rfrom_ok {w : World} {n : Int} {vv ev lv : Value} {m : Mo} (hv : EgV w lv m.l) (d : Nat) (hd : d < m.k) :
    Calls Tryz.prog 30 #[.agg #[.int .i64 n, vv, ev, lv], .int .i64 (d : Int)] w fun e w' => e = .returned (.int .i64 (m.fr d : Int)) ∧ Below w.heap.size w w' := by
  have hb := hid (balloc w (.cells #[.int .i64 n, vv, ev, lv] 25))
  obtain ⟨b, o, cap, rfl, g1, g2, c0, c1, g3, g4⟩ := (hv.below hb.out).dart hd
  obtain ⟨F, hF⟩ : ∃ F, m.fr d = F := ⟨_, rfl⟩
  rw [hF] at c0 g3 ⊢
  obtain ⟨e1, e2⟩ := half_int d
  have hk : d / 2 < m.l.length := by unfold Mo.k at hd; omega
  have hs : d % 2 < 2 := by omega
  obtain ⟨E, hE⟩ : ∃ E, d / 2 = E := ⟨_, rfl⟩
  obtain ⟨S, hS⟩ : ∃ S, d % 2 = S := ⟨_, rfl⟩
  rw [hE] at e1 hk c0
  rw [hS] at e2 hs c0
  have j1 : (0 : Int) ≤ (E : Int) := by omega
  have j2 : (E : Int) < (m.l.length : Int) := by omega
  have j3 : (0 : Int) ≤ (S : Int) := by omega
  have j4 : (S : Int) < 2 := by omega
  have e3 : wrap64 (E : Int) = (E : Int) := IntWalk.wrap64_in _ ⟨by omega, by unfold maxLen at g2; omega⟩
  have w1 : IntKind.i64.wrap (F : Int) = (F : Int) := by rw [IntKind.wrap_i64]; omega
  clear hE hS hF hv hd c1 g4
  go_enter Tryz.func30, Tryz.ntmps30
  go_wp2_with fail
  go_ret
  exact ⟨rfl, hb.out⟩

set_option maxRecDepth 100000 in
set_option maxHeartbeats 1000000 in
theorem rnext17_ok {w : World} {n : Int} {vv ev lv : Value} {m : Mo} (hv : EgV w lv m.l) (d : Nat) (hd : d < m.k) :
    Calls Tryz.prog 31 #[.agg #[.int .i64 n, vv, ev, lv], .int .i64 (d : Int)] w fun e w' => e = .returned (.int .i64 (m.nd d : Int)) ∧ Below w.heap.size w w' := by
  have hb := hid (balloc w (.cells #[.int .i64 n, vv, ev, lv] 25))
  obtain ⟨b, o, cap, rfl, g1, g2, c1, c0, g4, g3⟩ := (hv.below hb.out).dart hd
  obtain ⟨F, hF⟩ : ∃ F, m.nd d = F := ⟨_, rfl⟩
  rw [hF] at c0 g3 ⊢
  obtain ⟨e1, e2⟩ := half_int d
  have hk : d / 2 < m.l.length := by unfold Mo.k at hd; omega
  have hs : d % 2 < 2 := by omega
  obtain ⟨E, hE⟩ : ∃ E, d / 2 = E := ⟨_, rfl⟩
  obtain ⟨S, hS⟩ : ∃ S, d % 2 = S := ⟨_, rfl⟩
  rw [hE] at e1 hk c0
  rw [hS] at e2 hs c0
  have j1 : (0 : Int) ≤ (E : Int) := by omega
  have j2 : (E : Int) < (m.l.length : Int) := by omega
  have j3 : (0 : Int) ≤ (S : Int) := by omega
  have j4 : (S : Int) < 2 := by omega
  have e3 : wrap64 (E : Int) = (E : Int) := IntWalk.wrap64_in _ ⟨by omega, by unfold maxLen at g2; omega⟩
  have w1 : IntKind.i64.wrap (F : Int) = (F : Int) := by rw [IntKind.wrap_i64]; omega
  clear hE hS hF hv hd c1 g4
  go_enter Tryz.func31, Tryz.ntmps31
  go_wp2_with fail
  go_ret
  exact ⟨rfl, hb.out⟩

theorem two_ints (w : World) (a b : Int) (t : TypeId) : ∀ j u, ([.int .i64 a, .int .i64 b] : List Value)[j]? = some u → (w.alloc (.cells #[.int .i64 a, .int .i64 b] t)).cell? ((⟨w.heap.size, 0, none⟩ : Addr).add j) = some u := by
  intro j u hu
  rw [add_plain, Nat.zero_add]
  exact cell_of (new_of w _ _) (by simpa using hu)

set_option maxRecDepth 100000 in
set_option maxHeartbeats 2000000 in
theorem rdarts17_ok {w : World} {n : Int} {vv ev lv : Value} {m : Mo} (hm : Mp w vv ev lv m) (hel : m.es.length ≤ 1000) :
    Calls Tryz.prog 22 #[.agg #[.int .i64 n, vv, ev, lv]] w fun e w' => ∃ u, e = .returned u ∧ Rw w.heap.size w' u (dtl m) ∧ Below w.heap.size w w' := by
  obtain ⟨j0, hjf, hy0, hy1, hy2⟩ := info_parts infoInt
  obtain ⟨ea, en, ec, rfl, hE, _, e1, e2⟩ := hm.es
  have hen := hE.len
  rw [hen] at hel
  have hb := balloc w (.cells #[.int .i64 n, vv, .slice ea en ec, lv] 25)
  have n1 := new_of w #[.int .i64 n, vv, .slice ea en ec, lv] 25
  obtain ⟨w1, hw1⟩ : ∃ w1, w.alloc (.cells #[.int .i64 n, vv, .slice ea en ec, lv] 25) = w1 := ⟨_, rfl⟩
  obtain ⟨A, hA⟩ : ∃ A, w.heap.size = A := ⟨_, rfl⟩
  rw [hw1] at hb n1
  rw [hA] at n1
  replace hw1 := hid hw1
  replace hA := hid hA
  replace hb := hid hb
  replace hen := hid hen
  replace hE := hid (hE.below hb.out)
  have hcA := hid (fun (z : World) (hz : Below w1.heap.size w1 z) => (hz.block A (Array.getElem?_eq_some_iff.1 n1).1).trans n1)
  clear n1 hm
  go_enter Tryz.func22, Tryz.ntmps22
  go_upto_region 1 with fail
  rw [hw1.out, hA.out]
  have c2 := cell_of (hcA.out w1 (Below.refl _ _)) (j := 2) rfl
  go_wp2_with fail
  go_loopw [3, 4] (fun s3 s4 wr => ∃ k : Nat, k ≤ en ∧ s4 = .int .i64 (k : Int) ∧ Hid (Rw w1.heap.size wr s3 (dts m k) ∧ Below w1.heap.size w1 wr)) (fun _ s4 _ => en - (intOf s4).toNat)
  case atStart => exact ⟨0, by omega, by go_num, World.ownsRow_nil _ _ _ _, Below.refl _ _⟩
  case round =>
    obtain ⟨k, hk, rfl, hst⟩ := hrel
    clear c2
    have c2 := cell_of (hcA.out wr hst.out.2) (j := 2) rfl
    rcases Nat.lt_or_ge k en with hlt | hge
    · obtain ⟨p, hp⟩ : ∃ p, m.es[k]? = some p := ⟨_, List.getElem?_eq_getElem (by rw [hen.out]; exact hlt)⟩
      obtain ⟨b, o, rfl, x0, x1⟩ := (hE.out.below hst.out.2).cell k p hp
      have j1 : (0 : Int) ≤ (k : Int) := by omega
      have j2 : (k : Int) < (en : Int) := by omega
      have hlv : Hid (p.2 = 1 ↔ Lv m.es k) := by
        show _ ↔ _
        unfold Lv
        rw [hp]; exact Iff.rfl
      clear hp x0
      by_cases hp1 : p.2 = 1
      · have t1 : (p.2 == 1) = true := by simp [hp1]
        have hl := dts_le m k
        obtain ⟨M, hM⟩ : ∃ M, (dts m k).length = M := ⟨_, rfl⟩
        obtain ⟨hown, hbr⟩ := hst.out
        unfold Rw at hown
        rw [hM] at hown hl
        have hyes := hid (dts_yes (hlv.out.1 hp1))
        have hsz := hbr.size
        replace hbr := hid hbr
        replace hM := hid hM
        clear hst hp1
        go_wp2_with (at_builtin; refine wpList_append_own _ rfl (.tmp 19) (.tmp 25) 55 rfl w1.heap.size 3 j0 _ 1 8 Tryz.underlying55 hjf hy0 hy1 hy2 rfl (by decide) _ _ _ rfl (hown.alloc _) ⟨wr.heap.size, 0, none⟩ 2 2 [.int .i64 (2 * (k : Int)), .int .i64 (2 * (k : Int) + 1)] rfl rfl (two_ints wr _ _ _) (by simp [Value.oneCell']) (by unfold maxLen; omega) (by omega) (by simp; omega) ?_; intro v' w' ho' hg' _; refine Hid.out ?_)
        have hnew : Hid (Rw w1.heap.size w' v' (dts m (k + 1)) ∧ Below w1.heap.size w1 w') := by
          refine ⟨?_, below_row (hbr.out.alloc hsz _) (Nat.le_refl _) (hown.alloc _) (Nat.le_refl _) hg'⟩
          unfold Rw
          rw [hyes.out, List.length_append, hM.out, ncs_append]
          exact ho'
        clear ho' hg' hown hbr x1 c2
        refine hid ?_
        go_wp2_with fail
        go_roundw
        case rel => exact ⟨k + 1, by omega, by go_num, hnew⟩
        case measure => simp [intOf]; omega
      · have t1 : (p.2 == 1) = false := by simp [hp1]
        have hnew : Hid (Rw w1.heap.size wr u3 (dts m (k + 1)) ∧ Below w1.heap.size w1 wr) := by
          rw [dts_no (fun q => hp1 (hlv.out.2 q))]
          exact hst
        clear hst hp1
        go_wp2_with fail
        go_roundw
        case rel => exact ⟨k + 1, by omega, by go_num, hnew⟩
        case measure => simp [intOf]; omega
    · obtain rfl : k = en := by omega
      have hfin : Hid (Rw w.heap.size wr u3 (dtl m) ∧ Below w.heap.size w wr) := by
        refine ⟨?_, hb.out.trans (hst.out.2.mono hb.out.size)⟩
        unfold dtl
        rw [hen.out]
        exact hst.out.1.low hb.out.size
      clear hst
      go_wp2_with fail
      go_ret
      exact ⟨_, rfl, hfin.out⟩

end Go.Proofs.YtboafgimjadboaaGreatDoor

namespace Go.Proofs.YtboafgimjadboaaGreatDoor
open Go.RowKit
set_option linter.unusedVariables false

theorem arload_any {w : World} {n : Int} {v : Value} {ps : List (Int × Int)} (hp : PV w v ps) :
    Calls Tryz.prog 58 #[.int .i64 n, v] w fun e w' => Below w.heap.size w w' ∧ ∃ k ad len cap z, e = .returned (.tuple #[.agg #[.int .i64 k, .slice ad len cap], .int .i64 z]) ∧ ((FairI n ps ∧ z = 0) ∨ (¬ FairI n ps ∧ z = 1)) := by
  obtain ⟨ad, k, cap, rfl, hr, h0, h1, h2⟩ := hp
  have hpr := PV.prow (cap := cap) hr (Nat.le_trans h1 h2)
  have hlen := hr.len
  by_cases h : n < 1 ∨ 1048576 < n ∨ n < (k : Int)
  · refine (Ar.rload_size n ad k cap w h).mono ?_
    rintro e w' ⟨rfl, hb⟩
    refine ⟨hb, 0, none, 0, 0, 1, rfl, .inr ⟨?_, rfl⟩⟩
    rintro ⟨K, rfl, k1, k2, hf⟩
    have := hf.le
    omega
  · obtain ⟨K, rfl⟩ : ∃ K : Nat, n = (K : Int) := ⟨n.toNat, by omega⟩
    subst hlen
    by_cases hf : Ar.Fair K ps
    · refine (Ar.rload_in K ad ps cap w hpr (by omega) (by omega) (by omega) _ 0 (fun _ => ⟨rfl, rfl⟩) (fun q => absurd hf q)).mono ?_
      rintro e w' ⟨rfl, hb⟩
      exact ⟨hb, _, _, _, _, 0, rfl, .inl ⟨⟨K, rfl, by omega, by omega, hf⟩, rfl⟩⟩
    · refine (Ar.rload_in K ad ps cap w hpr (by omega) (by omega) (by omega) _ 1 (fun q => absurd q hf) (fun _ => ⟨rfl, rfl⟩)).mono ?_
      rintro e w' ⟨rfl, hb⟩
      refine ⟨hb, _, _, _, _, 1, rfl, .inr ⟨?_, rfl⟩⟩
      rintro ⟨K', e1, _, _, hf'⟩
      obtain rfl : K = K' := by omega
      exact hf hf'

theorem re_eq (a0 a1 b0 b1 u c0 c1 d0 d1 v : Int) (w : World) : (Op.equalIn 10000 61 (.agg #[.int .u32 a0, .int .u32 a1, .int .u32 b0, .int .u32 b1, .int .i32 u]) (.agg #[.int .u32 c0, .int .u32 c1, .int .u32 d0, .int .u32 d1, .int .i32 v])).run Tryz.prog w = .ok ((a0 == c0 && a1 == c1) && ((b0 == d0 && b1 == d1) && u == v)) w := by
  have q1 := fun y => p2_eq a0 a1 c0 c1 y
  have q2 := fun y => p2_eq b0 b1 d0 d1 y
  rw [show (10000 : Nat) = 9999 + 1 from rfl, Op.equalIn]
  go_simp
  cases h1 : (a0 == c0 && a1 == c1) <;> cases h2 : (b0 == d0 && b1 == d1) <;> simp_all
  by_cases h : u = v <;> simp [h]

theorem reg_eq (x y : Eg) (z : Bool) (hz : z = true ↔ x = y) (w : World) : (Op.equalIn 10000 61 (egv x) (egv y)).run Tryz.prog w = .ok z w := by
  rw [re_eq]
  congr 1
  rw [Bool.eq_iff_iff, eg_is, hz]

end Go.Proofs.YtboafgimjadboaaGreatDoor
