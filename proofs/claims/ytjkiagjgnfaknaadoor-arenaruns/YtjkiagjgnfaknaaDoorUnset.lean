/- 'unset': a mark is taken off. -/
import Derived.Test.YtjkiagjgnfaknaaDoorSet
namespace Go.Proofs.YtjkiagjgnfaknaaDoor
open Go.RowKit

theorem unset_step {wr : World} {lo hi lb n k b i x v V : Nat} {ws : List Nat} {P : Nat → Prop} {lv : List (Nat × List Nat)} (hrep : Rep wr lo hi lb lv)
    (hlev : ∀ (j b : Nat) (ws : List Nat), lv[j]? = some (b, ws) → ws.length = cd n (j + 1) ∧ Level ws j (fun y => P y ∧ (j < k → y ≠ x))) (hno : ¬ ∃ y, (P y ∧ y ≠ x) ∧ y / 64 ^ k = x / 64 ^ k)
    (e1 : lv[k]? = some (b, ws)) (hix : i = x / 64 ^ k / 64) (hv : ws[i]? = some v) (hV : ∀ c, V.testBit c = (v.testBit c && !decide (x / 64 ^ k % 64 = c))) :
    Rep (wr.setCell ⟨b, i, none⟩ (.int .u64 (V : Int))).drew lo hi lb (lv.set k (b, ws.set i V)) ∧
    (∀ (j b' : Nat) (ws' : List Nat), (lv.set k (b, ws.set i V))[j]? = some (b', ws') → ws'.length = cd n (j + 1) ∧ Level ws' j (fun y => P y ∧ (j < k + 1 → y ≠ x))) ∧
    (V = 0 → ¬ ∃ y, (P y ∧ y ≠ x) ∧ y / 64 ^ (k + 1) = x / 64 ^ (k + 1)) ∧
    (V ≠ 0 → ∃ y, (P y ∧ y ≠ x) ∧ y / 64 ^ (k + 1) = x / 64 ^ (k + 1)) := by
  subst hix
  obtain ⟨h1, h2⟩ := hlev _ _ _ e1
  have h2' : Level ws k P := h2.congr fun m => by simp
  have h3 := Level.unset h2' hv hV hno
  have hlen : x / 64 ^ k / 64 < ws.length := (List.getElem?_eq_some_iff.1 hv).1
  have hVg : (ws.set (x / 64 ^ k / 64) V)[x / 64 ^ k / 64]? = some V := by simp [hlen]
  refine ⟨(hrep.set e1).drew, fun j b' ws' he => ?_, fun h0 => ?_, fun h0 => ?_⟩
  · rw [List.getElem?_set] at he
    split at he
    · rename_i hj
      subst hj
      split at he
      · cases he
        exact ⟨by simpa using h1, h3.congr fun m => by simp⟩
      · cases he
    · rename_i hj
      obtain ⟨h1, h2⟩ := hlev _ _ _ he
      have : (fun y => P y ∧ (j < k + 1 → y ≠ x)) = (fun y => P y ∧ (j < k → y ≠ x)) := by
        funext y
        have : (j < k + 1) = (j < k) := propext (by omega)
        rw [this]
      exact ⟨h1, this ▸ h2⟩
  · subst h0
    rw [div_up]
    have := h3.bare hVg
    rintro ⟨y, hy, e⟩
    rw [div_up] at e
    exact this ⟨y, hy, e⟩
  · obtain ⟨y, hy, e⟩ := h3.marked hVg h0
    exact ⟨y, hy, by rw [div_up, div_up]; exact e⟩

theorem unset_rest {k x : Nat} {P : Nat → Prop} (hy : ∃ y, (P y ∧ y ≠ x) ∧ y / 64 ^ (k + 1) = x / 64 ^ (k + 1)) {j : Nat} {ws : List Nat} (h : Level ws j (fun y => P y ∧ (j < k + 1 → y ≠ x))) : Level ws j (fun y => P y ∧ y ≠ x) := by
  refine h.congr fun m => ⟨?_, ?_⟩
  · rintro ⟨z, ⟨hz, hz2⟩, e⟩
    by_cases hzx : z = x
    · subst hzx
      obtain ⟨y, hy, e2⟩ := hy
      refine ⟨y, hy, ?_⟩
      have hj : k + 1 ≤ j := by
        rcases Nat.lt_or_ge j (k + 1) with h | h
        · exact absurd rfl (hz2 h)
        · exact h
      rw [← e, show j = k + 1 + (j - (k + 1)) from by omega, Nat.pow_add, ← Nat.div_div_eq_div_mul, ← Nat.div_div_eq_div_mul, e2]
    · exact ⟨z, ⟨hz, hzx⟩, e⟩
  · rintro ⟨z, ⟨hz, hz2⟩, e⟩
    exact ⟨z, ⟨hz, fun _ => hz2⟩, e⟩

set_option maxHeartbeats 2000000 in
theorem unset (lo hi sb so n lb cap x : Nat) (P : Nat → Prop) (lv : List (Nat × List Nat)) (w : World) (hm : Marks w lo hi sb so n P lb cap lv) (hx : x < n) :
    Calls Tryd.prog 45 #[.pointer (some ⟨sb, so, none⟩), .int .i64 (x : Int)] w fun e w' => e = .returned (.tuple #[]) ∧ (∃ lv', Marks w' lo hi sb so n (fun y => P y ∧ y ≠ x) lb cap lv') ∧ Within lo hi w w' := by
  have hn := hm.good.le
  have hlv := hm.levels
  have hfew : lv.length ≤ 1048576 := by simpa using hm.good.few
  have fin : ∀ (wr : World) (lv' : List (Nat × List Nat)), Within lo hi w wr → lv'.length = lv.length → Rep wr lo hi lb lv' →
      (∀ (j b : Nat) (ws : List Nat), lv'[j]? = some (b, ws) → ws.length = cd n (j + 1) ∧ Level ws j (fun y => P y ∧ y ≠ x)) → ∃ lv', Marks wr lo hi sb so n (fun y => P y ∧ y ≠ x) lb cap lv' := by
    intro wr lv' hwi hll hrep hl
    have ho := hm.out
    refine ⟨lv', hwi.cell hm.size ho, ?_, ho, hrep, hm.good.of hll hl (fun y hy => hm.good.lt y hy.1)⟩
    rw [hll]; exact hwi.cell hm.levels ho
  have hfin := hid fin
  clear fin
  go_enter Tryd.func45, Tryd.ntmps45
  go_wp2
  go_loopw [1, 11] (fun u v wr => ∃ k a : Nat, k ≤ lv.length ∧ a ≤ 1048576 ∧ u = .int .i64 (a : Int) ∧ v = .int .i64 (k : Int) ∧ Hid (a = x / 64 ^ k) ∧ Within lo hi w wr ∧ Hid (¬ ∃ y, (P y ∧ y ≠ x) ∧ y / 64 ^ k = x / 64 ^ k) ∧ ∃ lv', lv'.length = lv.length ∧ Rep wr lo hi lb lv' ∧
      (∀ (j b : Nat) (ws : List Nat), lv'[j]? = some (b, ws) → ws.length = cd n (j + 1) ∧ Level ws j (fun y => P y ∧ (j < k → y ≠ x))))
    (fun _ v _ => lv.length - (intOf v).toNat)
  case atStart => exact ⟨0, x, Nat.zero_le _, by omega, by go_num, by go_num, hid (by simp), Within.refl _ _ _, hid (by rintro ⟨y, ⟨_, hy⟩, e⟩; simp at e; exact hy e), lv, rfl, hm.rep, fun j b ws e => by have := hm.good.each j b ws e; simpa using this⟩
  case round =>
    obtain ⟨k, a, hk, ha, rfl, rfl, hax, hwi, hno, lv', hll, hrep, hlev⟩ := hrel
    rcases Nat.lt_or_ge k lv.length with hlt | hge
    · obtain ⟨⟨b, ws⟩, e1⟩ : ∃ y, lv'[k]? = some y := ⟨_, List.getElem?_eq_getElem (by omega)⟩
      have hrow := hrep.row _ _ _ e1
      have hws := hrep.words _ _ _ e1
      have hl2 := hid (hlev _ _ _ e1)
      have hin : a / 64 < ws.length := by rw [hl2.out.1, hax.out, ← div_up]; exact div_lt_cd hx _
      obtain ⟨v, hv⟩ : ∃ v, ws[a / 64]? = some v := ⟨_, List.getElem?_eq_getElem hin⟩
      have hcell := hws.cell hv
      have hfro := hws.frozen (i := a / 64)
      have hand := and63 a (by omega)
      obtain ⟨V, hor, hV⟩ := andNot_nat v (a % 64) (hl2.out.2.lt hv) (by omega)
      have hst := hid (unset_step (x := x) (n := n) (P := P) hrep hlev hno.out e1 (by rw [hax.out]) hv (fun c => by rw [hV, hax.out]))
      have hbi := hid (hrep.inner _ _ _ e1)
      have hwi2 := hid ((hwi.setCell (p := ⟨b, a / 64, none⟩) hbi.out.1 hbi.out.2.1 (.int .u64 (V : Int))).drew)
      clear hv hV hlev hws hrep e1
      by_cases hV0 : V = 0
      · subst hV0
        go_wp2_with fail
        go_region
        go_wp2_with fail
        go_roundw
        case rel => exact ⟨k + 1, a / 64, by omega, by omega, by go_num, by go_num, hid (by rw [div_up, ← hax.out]), hwi2.out, hid (hst.out.2.2.1 (by first | rfl | trivial)), _, by simpa using hll, hst.out.1, hst.out.2.1⟩
        case measure => simp [intOf]; omega
      · have hd : decide ((V : Int) = 0) = false := decide_eq_false (by omega)
        go_wp2_with fail
        go_region
        go_wp2_with fail
        first | go_end0 | refine bodyPost_ret (results_none rfl _ _ _) rfl ?_
        exact ⟨rfl, hfin.out _ _ hwi2.out (by simpa using hll) hst.out.1 (fun j b ws e => ⟨(hst.out.2.1 j b ws e).1, unset_rest (hst.out.2.2.2 hV0) (hst.out.2.1 j b ws e).2⟩), hwi2.out⟩
    · go_wp2
      go_end0
      refine ⟨rfl, hfin.out _ _ hwi hll hrep (fun j b ws e => ?_), hwi⟩
      obtain ⟨h1, h2⟩ := hlev j b ws e
      have hj : j < lv'.length := (List.getElem?_eq_some_iff.1 e).1
      refine ⟨h1, h2.congr fun m => ?_⟩
      have hjk : j < k := by omega
      simp [hjk]

end Go.Proofs.YtjkiagjgnfaknaaDoor
