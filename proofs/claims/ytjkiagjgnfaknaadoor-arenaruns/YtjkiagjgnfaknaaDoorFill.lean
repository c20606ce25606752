/- 'fill': all places are marked. -/
import Derived.Test.YtjkiagjgnfaknaaDoorSet
namespace Go.Proofs.YtjkiagjgnfaknaaDoor
open Go.RowKit

/-- The words while the first j of them are set. -/
def part (N j : Nat) : List Nat := List.replicate j 18446744073709551615 ++ List.replicate (N - j) 0

theorem part_zero (N : Nat) : part N 0 = List.replicate N 0 := by simp [part]
theorem part_length (N j : Nat) (h : j ≤ N) : (part N j).length = N := by simp [part]; omega
theorem part_get (N j : Nat) (h : j < N) : (part N j)[j]? = some 0 := by
  unfold part
  rw [List.getElem?_append_right (by simp), List.length_replicate, Nat.sub_self, List.getElem?_replicate, if_pos (by omega)]
theorem part_set (N j : Nat) (h : j < N) : (part N j).set j 18446744073709551615 = part N (j + 1) := by
  unfold part
  rw [List.set_append_right _ _ (by simp), show N - j = (N - (j + 1)) + 1 from by omega, List.replicate_succ (n := N - (j + 1)), List.replicate_succ']
  simp
theorem part_full (m : Nat) (h : m % 64 = 0) : part ((m + 63) / 64) (m / 64) = ones m := by
  unfold part ones
  rw [if_pos h, show (m + 63) / 64 - m / 64 = 0 from by omega]
  simp
theorem part_last (m : Nat) (h : m % 64 ≠ 0) : (part ((m + 63) / 64) (m / 64)).set (m / 64) (2 ^ (m % 64) - 1) = ones m := by
  unfold part ones
  rw [if_neg h, show (m + 63) / 64 - m / 64 = 0 + 1 from by omega, List.set_append_right _ _ (by simp)]
  simp

theorem set_self {α : Type} (l : List α) (k : Nat) (x : α) (h : l[k]? = some x) : l.set k x = l := by
  apply List.ext_getElem?
  intro j
  rw [List.getElem?_set]
  split
  · rename_i hk
    subst hk
    split
    · exact h.symm
    · rename_i hl
      rw [List.getElem?_eq_none (by omega)]
  · rfl

theorem pow_sub (m : Nat) (hm : m < 64) : IntKind.u64.wrap (IntKind.u64.wrap (2 ^ m) - 1) = ((2 ^ m - 1 : Nat) : Int) := by
  have h : 2 ^ m < 2 ^ 64 := Nat.pow_lt_pow_right (by decide) hm
  have h1 : 1 ≤ 2 ^ m := Nat.pow_pos (by decide)
  rw [wrap_pow m hm, IntKind.wrap_u64]
  generalize 2 ^ m = q at h h1
  omega

theorem Level.zero {ws : List Nat} {k : Nat} (h : Level ws k (fun _ => False)) : ws = List.replicate ws.length 0 := by
  rw [List.eq_replicate_iff]
  refine ⟨rfl, fun v hv => ?_⟩
  obtain ⟨i, hi⟩ := List.getElem?_of_mem hv
  apply Nat.eq_of_testBit_eq
  intro b
  have := h i v hi b
  rw [Nat.zero_testBit]
  cases e : v.testBit b with
  | false => rfl
  | true => have := this.1 e; simp at this

set_option maxRecDepth 100000 in
set_option maxHeartbeats 4000000 in
theorem fill (lo hi sb so n lb cap : Nat) (lv : List (Nat × List Nat)) (w : World) (hm : Marks w lo hi sb so n (fun _ => False) lb cap lv) :
    Calls Tryd.prog 35 #[.pointer (some ⟨sb, so, none⟩)] w fun e w' => e = .returned (.tuple #[]) ∧ (∃ lv', Marks w' lo hi sb so n (fun y => y < n) lb cap lv') ∧ Within lo hi w w' := by
  have hz : Hid (∀ (j b : Nat) (ws : List Nat), lv[j]? = some (b, ws) → ws = List.replicate (cd n (j + 1)) 0) := fun j b ws e => by
    obtain ⟨h1, h2⟩ := hm.good.each j b ws e
    rw [← h1]; exact h2.zero
  have hn := hm.good.le
  have hlv := hm.levels
  have hs := hm.size
  have hfew : lv.length ≤ 1048576 := by simpa using hm.good.few
  go_enter Tryd.func35, Tryd.ntmps35
  go_wp2
  go_loopw [2, 16] (fun u v wr => ∃ k c : Nat, k ≤ lv.length ∧ c ≤ 1048576 ∧ u = .int .i64 (c : Int) ∧ v = .int .i64 (k : Int) ∧ Hid (c = cd n k) ∧ Within lo hi w wr ∧ ∃ lv', lv'.length = lv.length ∧ Rep wr lo hi lb lv' ∧
      (∀ (j b : Nat) (ws : List Nat), lv'[j]? = some (b, ws) → (j < k → ws = ones (cd n j)) ∧ (k ≤ j → ws = List.replicate (cd n (j + 1)) 0)))
    (fun _ v _ => lv.length - (intOf v).toNat)
  case atStart => exact ⟨0, n, Nat.zero_le _, by omega, by go_num, by go_num, hid rfl, Within.refl _ _ _, lv, rfl, hm.rep, fun j b ws e => ⟨fun h => by omega, fun _ => hz.out j b ws e⟩⟩
  case round =>
    obtain ⟨k, c, hk, hc, rfl, rfl, hcc, hwi, lv', hll, hrep, hlev⟩ := hrel
    rcases Nat.lt_or_ge k lv.length with hlt | hge
    · obtain ⟨⟨b, ws⟩, e1⟩ : ∃ y, lv'[k]? = some y := ⟨_, List.getElem?_eq_getElem (by omega)⟩
      have hrow := hrep.row _ _ _ e1
      have hbi := hid (hrep.inner _ _ _ e1)
      obtain ⟨N, hN⟩ : ∃ N, (c + 63) / 64 = N := ⟨_, rfl⟩
      have hws0 : ws = part N 0 := by rw [part_zero, ← hN, hcc.out]; exact (hlev _ _ _ e1).2 (Nat.le_refl _)
      subst hws0
      have hNl : (part N 0).length = N := part_length N 0 (by omega)
      rw [hNl] at hrow
      have hl2 := hid hlev
      have hN2 : N ≤ 1048576 := by omega
      have hN3 : c / 64 ≤ N := by omega
      have hNh := hid hN
      have hst := hid ((set_self lv' k _ e1).symm ▸ hrep)
      have he1 := hid e1
      clear hlev hrep hN e1
      go_wp2_with fail
      go_loopw [22] (fun u wr => ∃ j : Nat, j ≤ c / 64 ∧ u = .int .i64 (j : Int) ∧ Within lo hi w wr ∧ Rep wr lo hi lb (lv'.set k (b, part N j)))
        (fun u _ => c / 64 - (intOf u).toNat)
      case atStart => exact ⟨0, by omega, by go_num, hwi, hst.out⟩
      case round =>
        obtain ⟨j, hj, rfl, hwi2, hrep2⟩ := hrel
        have hkl : k < lv'.length := by omega
        have hget : (lv'.set k (b, part N j))[k]? = some (b, part N j) := by simp [hkl]
        have hws := hrep2.words _ _ _ hget
        clear hrow hst
        rcases Nat.lt_or_ge j (c / 64) with hjl | hjg
        · have hcell := hws.cell (part_get N j (by omega))
          have hfro := hws.frozen (i := j)
          have hnx := hid (hrep2.set (i := j) (v := 18446744073709551615) hget)
          have hwn := hid (hwi2.setCell (p := ⟨b, j, none⟩) hbi.out.1 hbi.out.2.1 (.int .u64 ((18446744073709551615 : Nat) : Int)))
          clear hrep2 hws hwi2
          go_wp2_with fail
          go_roundw
          case rel => exact ⟨j + 1, by omega, by go_num, hwn.out, by have := hnx.out; rw [List.set_set, part_set N j (by omega)] at this; exact this⟩
          case measure => simp [intOf]; omega
        · obtain rfl : j = c / 64 := by omega
          have hand := and63 c (by omega)
          have hfin : Hid (∀ (W2 : World) (l2 : List (Nat × List Nat)), Within lo hi w W2 → Rep W2 lo hi lb l2 → l2 = lv'.set k (b, ones c) → ∃ lv'', lv''.length = lv.length ∧ Rep W2 lo hi lb lv'' ∧
              (∀ (j b : Nat) (ws : List Nat), lv''[j]? = some (b, ws) → (j < k + 1 → ws = ones (cd n j)) ∧ (k + 1 ≤ j → ws = List.replicate (cd n (j + 1)) 0))) := by
            rintro W2 l2 _ hr rfl
            refine ⟨_, by simpa using hll, hr, fun j b' ws' e => ?_⟩
            rw [List.getElem?_set] at e
            split at e
            · rename_i hjk
              subst hjk
              have e' : (b, ones c) = (b', ws') := by simpa [hkl] using e
              cases e'
              exact ⟨fun _ => by rw [hcc.out], fun h => by omega⟩
            · rename_i hjk
              obtain ⟨h1, h2⟩ := hl2.out j b' ws' e
              exact ⟨fun h => h1 (by omega), fun h => h2 (by omega)⟩
          by_cases hrest : c % 64 = 0
          · have hd : decide (((c % 64 : Nat) : Int) = 0) = true := decide_eq_true (by omega)
            have hx := hid (hfin.out _ _ hwi2 hrep2 (by rw [← hNh.out, part_full c hrest]))
            clear hrep2 hws
            go_wp2_with fail
            go_roundw
            case rel => exact ⟨k + 1, N, by omega, by omega, by go_num, by go_num, hid (by rw [← hNh.out, hcc.out]; rfl), hwi2, hx.out⟩
            case measure => simp [intOf]; omega
          · have hd : decide (((c % 64 : Nat) : Int) = 0) = false := decide_eq_false (by omega)
            have hlt2 : c / 64 < N := by have := hNh.out; omega
            have hcell := hws.cell (part_get N (c / 64) hlt2)
            have hfro := hws.frozen (i := c / 64)
            have hps := pow_sub (c % 64) (by omega)
            have hnx := hrep2.set (i := c / 64) (v := 2 ^ (c % 64) - 1) hget
            have hwn := hid (hwi2.setCell (p := ⟨b, c / 64, none⟩) hbi.out.1 hbi.out.2.1 (.int .u64 ((2 ^ (c % 64) - 1 : Nat) : Int)))
            have hx := hid (hfin.out _ _ hwn.out hnx (by rw [List.set_set, ← hNh.out, part_last c hrest]))
            clear hrep2 hws hnx
            go_wp2_with fail
            go_roundw
            case rel => exact ⟨k + 1, N, by omega, by omega, by go_num, by go_num, hid (by rw [← hNh.out, hcc.out]; rfl), hwn.out, hx.out⟩
            case measure => simp [intOf]; omega
    · go_wp2
      go_end0
      have ho := hm.out
      refine ⟨rfl, ⟨lv', hwi.cell hm.size ho, ?_, ho, hrep, hm.good.of hll (fun j b ws e => ?_) (fun x hx => hx)⟩, hwi⟩
      · rw [hll]; exact hwi.cell hm.levels ho
      · have hj : j < lv'.length := (List.getElem?_eq_some_iff.1 e).1
        rw [(hlev j b ws e).1 (by omega)]
        exact ⟨ones_length _, Level.ones n j⟩

end Go.Proofs.YtjkiagjgnfaknaaDoor
