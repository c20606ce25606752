/- 'covers', 'lowest', 'next': what is told of marks. -/
import Derived.Test.YtjkiagjgnfaknaaDoorTz
namespace Go.Proofs.YtjkiagjgnfaknaaDoor
open Go.RowKit

set_option maxHeartbeats 400000 in
theorem covers_yes (sb so n x : Nat) (w : World) (hs : w.cell? ⟨sb, so, none⟩ = some (.int .i64 (n : Int))) (hx : x < n) :
    Calls Tryd.prog 38 #[.pointer (some ⟨sb, so, none⟩), .int .i64 (x : Int)] w fun e w' => e = .returned (.bool true) ∧ w = w' := by
  have t0 : decide ((x : Int) < (n : Int)) = true := decide_eq_true (by omega)
  go_enter Tryd.func38, Tryd.ntmps38
  go_wp2
  go_ret
  exact ⟨rfl, rfl⟩

set_option maxHeartbeats 400000 in
theorem covers_low (sb so : Nat) (x : Int) (w : World) (hx : x < 0) :
    Calls Tryd.prog 38 #[.pointer (some ⟨sb, so, none⟩), .int .i64 x] w fun e w' => e = .returned (.bool false) ∧ w = w' := by
  have t0 : decide (x < 0) = true := decide_eq_true (by omega)
  have t1 : decide (0 ≤ x) = false := decide_eq_false (by omega)
  go_enter Tryd.func38, Tryd.ntmps38
  go_wp2
  go_ret
  exact ⟨rfl, rfl⟩

set_option maxHeartbeats 400000 in
theorem covers_high (sb so n : Nat) (x : Int) (w : World) (hs : w.cell? ⟨sb, so, none⟩ = some (.int .i64 (n : Int))) (hx : (n : Int) ≤ x) :
    Calls Tryd.prog 38 #[.pointer (some ⟨sb, so, none⟩), .int .i64 x] w fun e w' => e = .returned (.bool false) ∧ w = w' := by
  have t1 : decide (0 ≤ x) = true := decide_eq_true (by omega)
  have t2 : decide (x < (n : Int)) = false := decide_eq_false (by omega)
  go_enter Tryd.func38, Tryd.ntmps38
  go_wp2
  go_ret
  exact ⟨rfl, rfl⟩

set_option maxHeartbeats 1000000 in
theorem lowest (lo hi sb so n lb cap f k a : Nat) (P : Nat → Prop) (lv : List (Nat × List Nat)) (w : World) (hm : Marks w lo hi sb so n P lb cap lv) (hT : Tab w) (hk : k < lv.length) (hf : Found P f k a) :
    Calls Tryd.prog 55 #[.pointer (some ⟨sb, so, none⟩), .int .i64 (k : Int), .int .i64 (a : Int)] w fun e w' => ∃ x : Nat, e = .returned (.int .i64 (x : Int)) ∧ Least P f x ∧ w = w' := by
  have hn := hm.good.le
  have hlv := hm.levels
  have hfew : lv.length ≤ 1048576 := by simpa using hm.good.few
  go_enter Tryd.func55, Tryd.ntmps55
  go_wp2
  go_loopw [1, 2] (fun u v wr => ∃ j c : Nat, j ≤ k ∧ u = .int .i64 (j : Int) ∧ v = .int .i64 (c : Int) ∧ Hid (Found P f j c) ∧ wr = w)
    (fun u _ _ => (intOf u).toNat)
  case atStart => exact ⟨k, a, Nat.le_refl _, rfl, rfl, hf, rfl⟩
  case round =>
    obtain ⟨j, c, hj, rfl, rfl, hfj, rfl⟩ := hrel
    rcases Nat.eq_zero_or_pos j with rfl | hj0
    · go_wp2
      go_ret
      exact ⟨c, rfl, hfj.out.least, rfl⟩
    · obtain ⟨i, rfl⟩ : ∃ i, j = i + 1 := ⟨j - 1, by omega⟩
      obtain ⟨b, ws, e1, hrow, hlen, hlev, hws⟩ := hm.get (k := i) (by omega)
      have hc : c < ws.length := by rw [hlen]; exact hfj.out.lt hm.good.lt
      obtain ⟨v, hv⟩ : ∃ v, ws[c]? = some v := ⟨_, List.getElem?_eq_getElem hc⟩
      obtain ⟨hv0, hdown⟩ := hfj.out.down hlev hv
      have hvlt := hlev.lt hv
      have hcell := hws.cell hv
      have hdn := hid hdown
      have hctz := (ctz_bit hv0 hvlt).2.2
      have hcb : c ≤ 1048576 := by have := cd_le n (i + 1); omega
      clear hdown hv hlev hws hlen e1
      go_wp2_with (go_at_call 56; refine (tz _ v rfl hvlt hv0 _ hT).mono ?_; rintro e w' ⟨rfl, rfl⟩)
      go_roundw
      case rel => exact ⟨i, 64 * c + Lib.ctz 64 v, by omega, by go_num, by go_num, hdn, trivial⟩
      case measure => simp [intOf]

end Go.Proofs.YtjkiagjgnfaknaaDoor
