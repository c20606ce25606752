/- 'has', 'set' and 'unset': whether a place is marked; it is marked, its mark is taken off. -/
import Derived.Test.YtjkiagjgnfaknaaDoorNext
namespace Go.Proofs.YtjkiagjgnfaknaaDoor
open Go.RowKit

theorem wrap_pow (m : Nat) (hm : m < 64) : IntKind.u64.wrap (2 ^ m) = ((2 ^ m : Nat) : Int) := by
  have h : 2 ^ m < 2 ^ 64 := Nat.pow_lt_pow_right (by decide) hm
  have e : (2 : Int) ^ m = ((2 ^ m : Nat) : Int) := by rw [Int.natCast_pow]; rfl
  rw [IntKind.wrap_u64, e]
  generalize 2 ^ m = q at h
  omega

theorem or_nat (v m : Nat) (hv : v < 18446744073709551616) (hm : m < 64) : ∃ V : Nat, bits .or .u64 (v : Int) (IntKind.u64.wrap (2 ^ m)) = (V : Int) ∧ ∀ b, V.testBit b = (v.testBit b || decide (m = b)) := by
  have h : 2 ^ m < 2 ^ 64 := Nat.pow_lt_pow_right (by decide) hm
  refine ⟨v ||| 2 ^ m, ?_, fun b => ?_⟩
  · rw [wrap_pow m hm, bits_or_u64_nat v _ hv (by omega)]
  · rw [Nat.testBit_or, Nat.testBit_two_pow]

theorem andNot_nat (v m : Nat) (hv : v < 18446744073709551616) (hm : m < 64) : ∃ V : Nat, bits .andNot .u64 (v : Int) (IntKind.u64.wrap (2 ^ m)) = (V : Int) ∧ ∀ b, V.testBit b = (v.testBit b && !decide (m = b)) := by
  have h : 2 ^ m < 2 ^ 64 := Nat.pow_lt_pow_right (by decide) hm
  rw [wrap_pow m hm]
  have e : bits .andNot .u64 (v : Int) ((2 ^ m : Nat) : Int) = IntKind.u64.wrap ((BitVec.ofInt 64 (v : Int) &&& ~~~ BitVec.ofInt 64 ((2 ^ m : Nat) : Int)).toNat : Int) := rfl
  rw [e, BitVec.ofInt_natCast, BitVec.ofInt_natCast]
  refine ⟨(BitVec.ofNat 64 v &&& ~~~ BitVec.ofNat 64 (2 ^ m)).toNat, ?_, fun b => ?_⟩
  · rw [IntKind.wrap_u64]
    have := (BitVec.ofNat 64 v &&& ~~~ BitVec.ofNat 64 (2 ^ m)).isLt
    omega
  · rw [BitVec.testBit_toNat, BitVec.getLsbD_and, BitVec.getLsbD_not, BitVec.getLsbD_ofNat, BitVec.getLsbD_ofNat, Nat.testBit_two_pow]
    rcases Nat.lt_or_ge b 64 with hb | hb
    · simp [hb]
    · have : v.testBit b = false := Nat.testBit_lt_two_pow (Nat.lt_of_lt_of_le (show v < 2 ^ 64 by omega) (Nat.pow_le_pow_right (by decide) hb))
      simp [this]

theorem and1_nat (u : Nat) (hu : u < 18446744073709551616) : bits .and .u64 (u : Int) 1 = ((u % 2 : Nat) : Int) := by
  rw [show (1 : Int) = ((1 : Nat) : Int) from rfl, bits_and_u64_nat u 1 hu (by decide), show (1 : Nat) = 2 ^ 1 - 1 from rfl, Nat.and_two_pow_sub_one_eq_mod]

theorem Good.of {ls ls' : List (Nat × List Nat)} {n : Nat} {P Q : Nat → Prop} (g : Good (ls.map (·.2)) n P) (hl : ls'.length = ls.length)
    (h : ∀ (j b : Nat) (ws : List Nat), ls'[j]? = some (b, ws) → ws.length = cd n (j + 1) ∧ Level ws j Q) (hQ : ∀ x, Q x → x < n) : Good (ls'.map (·.2)) n Q := by
  have hget : ∀ (k : Nat) (ws : List Nat), (ls'.map (·.2))[k]? = some ws → ∃ b, ls'[k]? = some (b, ws) := by
    intro k ws e
    rw [List.getElem?_map] at e
    cases e2 : ls'[k]? with
    | none => rw [e2] at e; cases e
    | some y => rw [e2] at e; cases e; exact ⟨y.1, rfl⟩
  refine ⟨g.pos, g.le, by simpa [hl] using g.ne, by simpa [hl] using g.few, by simpa [hl] using g.top, fun k ws e => ?_, hQ, fun k ws e => ?_⟩
  · obtain ⟨b, e⟩ := hget k ws e; exact (h _ _ _ e).1
  · obtain ⟨b, e⟩ := hget k ws e; exact (h _ _ _ e).2

theorem Good.each {ls : List (Nat × List Nat)} {n : Nat} {P : Nat → Prop} (g : Good (ls.map (·.2)) n P) (j b : Nat) (ws : List Nat) (e : ls[j]? = some (b, ws)) : ws.length = cd n (j + 1) ∧ Level ws j P := by
  have e' : (ls.map (·.2))[j]? = some ws := by simp [e]
  exact ⟨g.size _ _ e', g.level _ _ e'⟩

set_option maxHeartbeats 1000000 in
theorem has_in (lo hi sb so n lb cap x : Nat) (P : Nat → Prop) (lv : List (Nat × List Nat)) (w : World) (hm : Marks w lo hi sb so n P lb cap lv) (hx : x < n) :
    Calls Tryd.prog 39 #[.pointer (some ⟨sb, so, none⟩), .int .i64 (x : Int)] w fun e w' => ∃ d : Bool, e = .returned (.bool d) ∧ (d = true ↔ P x) ∧ w = w' := by
  have hn := hm.good.le
  have hlv := hm.levels
  have hne : 1 ≤ lv.length := by simpa using hm.good.ne
  have hfew : lv.length ≤ 1048576 := by simpa using hm.good.few
  obtain ⟨b, ws, e1, hrow, hlen, hlev, hws⟩ := hm.get (k := 0) (by omega)
  have hin : x / 64 < ws.length := by rw [hlen]; have := div_lt_cd hx 1; simpa using this
  obtain ⟨v, hv⟩ : ∃ v, ws[x / 64]? = some v := ⟨_, List.getElem?_eq_getElem hin⟩
  have hcell := hws.cell hv
  have hand := and63 x (by omega)
  obtain ⟨u, hu⟩ : ∃ u, v >>> (x % 64) = u := ⟨_, rfl⟩
  have hshr : (v : Int) / 2 ^ (x % 64) = (u : Int) := by rw [shr_nat, hu]
  have hult : u < 18446744073709551616 := by
    have h1 := hlev.lt hv
    have h2 : v >>> (x % 64) ≤ v := by rw [Nat.shiftRight_eq_div_pow]; exact Nat.div_le_self _ _
    omega
  have hand1 := and1_nat u hult
  have hP : Hid (u % 2 = 1 ↔ P x) := by
    have h1 := hlev _ _ hv (x % 64)
    rw [Nat.testBit_eq_decide_div_mod_eq, decide_eq_true_eq, ← Nat.shiftRight_eq_div_pow, hu] at h1
    refine h1.trans ⟨?_, fun h => ⟨by omega, x, h, by simp; omega⟩⟩
    rintro ⟨_, y, hy, e⟩
    simp at e
    obtain rfl : y = x := by omega
    exact hy
  have hs := hm.size
  clear hu hv hlen hws hlev e1
  go_enter Tryd.func39, Tryd.ntmps39
  go_wp2_with (go_at_call 38; refine (covers_yes sb so n x _ hs hx).mono ?_; rintro e w' ⟨rfl, rfl⟩)
  go_ret
  exact ⟨_, rfl, (show ((u : Int) % 2 == 1) = true ↔ u % 2 = 1 by rw [beq_iff_eq]; omega).trans hP.out, rfl⟩

set_option maxHeartbeats 1000000 in
theorem has_out (sb so n : Nat) (X : Int) (w : World) (hs : w.cell? ⟨sb, so, none⟩ = some (.int .i64 (n : Int))) (hx : X < 0 ∨ (n : Int) ≤ X) :
    Calls Tryd.prog 39 #[.pointer (some ⟨sb, so, none⟩), .int .i64 X] w fun e w' => e = .returned (.bool false) ∧ w = w' := by
  have hc : Calls Tryd.prog 38 #[.pointer (some ⟨sb, so, none⟩), .int .i64 X] w fun e w' => e = .returned (.bool false) ∧ w = w' := by
    rcases hx with h | h
    · exact covers_low sb so X w h
    · exact covers_high sb so n X w hs h
  go_enter Tryd.func39, Tryd.ntmps39
  go_wp2_with (go_at_call 38; refine hc.mono ?_; rintro e w' ⟨rfl, rfl⟩)
  go_ret
  exact ⟨rfl, rfl⟩

theorem set_step {wr : World} {lo hi lb n k b i x v V : Nat} {ws : List Nat} {P : Nat → Prop} {lv : List (Nat × List Nat)} (hrep : Rep wr lo hi lb lv)
    (hlev : ∀ (j b : Nat) (ws : List Nat), lv[j]? = some (b, ws) → ws.length = cd n (j + 1) ∧ Level ws j (fun y => P y ∨ (j < k ∧ y = x))) (e1 : lv[k]? = some (b, ws)) (hix : i = x / 64 ^ k / 64) (hv : ws[i]? = some v)
    (hV : ∀ c, V.testBit c = (v.testBit c || decide (x / 64 ^ k % 64 = c))) :
    Rep (wr.setCell ⟨b, i, none⟩ (.int .u64 (V : Int))).drew lo hi lb (lv.set k (b, ws.set i V)) ∧
    ∀ (j b' : Nat) (ws' : List Nat), (lv.set k (b, ws.set i V))[j]? = some (b', ws') → ws'.length = cd n (j + 1) ∧ Level ws' j (fun y => P y ∨ (j < k + 1 ∧ y = x)) := by
  subst hix
  refine ⟨(hrep.set e1).drew, fun j b' ws' he => ?_⟩
  rw [List.getElem?_set] at he
  split at he
  · rename_i hj
    subst hj
    split at he
    · cases he
      obtain ⟨h1, h2⟩ := hlev _ _ _ e1
      refine ⟨by simpa using h1, (Level.set h2 hv hV).congr fun m => ?_⟩
      constructor
      · rintro ⟨y, ((hy | ⟨hy, _⟩) | hy), e⟩
        · exact ⟨y, Or.inl hy, e⟩
        · omega
        · exact ⟨y, Or.inr ⟨by omega, hy⟩, e⟩
      · rintro ⟨y, (hy | ⟨_, hy⟩), e⟩
        · exact ⟨y, Or.inl (Or.inl hy), e⟩
        · exact ⟨y, Or.inr hy, e⟩
    · cases he
  · rename_i hj
    obtain ⟨h1, h2⟩ := hlev _ _ _ he
    have : (fun y => P y ∨ (j < k + 1 ∧ y = x)) = (fun y => P y ∨ (j < k ∧ y = x)) := by
      funext y
      have : (j < k + 1) = (j < k) := propext (by omega)
      rw [this]
    exact ⟨h1, this ▸ h2⟩

set_option maxHeartbeats 2000000 in
theorem set_ (lo hi sb so n lb cap x : Nat) (P : Nat → Prop) (lv : List (Nat × List Nat)) (w : World) (hm : Marks w lo hi sb so n P lb cap lv) (hx : x < n) :
    Calls Tryd.prog 46 #[.pointer (some ⟨sb, so, none⟩), .int .i64 (x : Int)] w fun e w' => e = .returned (.tuple #[]) ∧ (∃ lv', Marks w' lo hi sb so n (fun y => P y ∨ y = x) lb cap lv') ∧ Within lo hi w w' := by
  have hn := hm.good.le
  have hlv := hm.levels
  have hfew : lv.length ≤ 1048576 := by simpa using hm.good.few
  go_enter Tryd.func46, Tryd.ntmps46
  go_wp2
  go_loopw [1, 11] (fun u v wr => ∃ k a : Nat, k ≤ lv.length ∧ a ≤ 1048576 ∧ u = .int .i64 (a : Int) ∧ v = .int .i64 (k : Int) ∧ Hid (a = x / 64 ^ k) ∧ Within lo hi w wr ∧ ∃ lv', lv'.length = lv.length ∧ Rep wr lo hi lb lv' ∧
      (∀ (j b : Nat) (ws : List Nat), lv'[j]? = some (b, ws) → ws.length = cd n (j + 1) ∧ Level ws j (fun y => P y ∨ (j < k ∧ y = x))))
    (fun _ v _ => lv.length - (intOf v).toNat)
  case atStart => exact ⟨0, x, Nat.zero_le _, by omega, by go_num, by go_num, hid (by simp), Within.refl _ _ _, lv, rfl, hm.rep, fun j b ws e => by have := hm.good.each j b ws e; simpa using this⟩
  case round =>
    obtain ⟨k, a, hk, ha, rfl, rfl, hax, hwi, lv', hll, hrep, hlev⟩ := hrel
    rcases Nat.lt_or_ge k lv.length with hlt | hge
    · obtain ⟨⟨b, ws⟩, e1⟩ : ∃ y, lv'[k]? = some y := ⟨_, List.getElem?_eq_getElem (by omega)⟩
      have hrow := hrep.row _ _ _ e1
      have hws := hrep.words _ _ _ e1
      have hl2 := hid (hlev _ _ _ e1)
      have hin : a / 64 < ws.length := by rw [hl2.out.1, hax.out, ← div_up]; exact div_lt_cd hx _
      obtain ⟨v, hv⟩ : ∃ v, ws[a / 64]? = some v := ⟨_, List.getElem?_eq_getElem hin⟩
      have hcell := hws.cell hv
      have hfro := hws.frozen (i := a / 64)
      have hand := and63 a (by omega)
      obtain ⟨V, hor, hV⟩ := or_nat v (a % 64) (hl2.out.2.lt hv) (by omega)
      have hst := hid (set_step (x := x) (n := n) (P := P) hrep hlev e1 (by rw [hax.out]) hv (fun c => by rw [hV, hax.out]))
      have hbi := hid (hrep.inner _ _ _ e1)
      have hwi2 := hid ((hwi.setCell (p := ⟨b, a / 64, none⟩) hbi.out.1 hbi.out.2.1 (.int .u64 (V : Int))).drew)
      clear hv hV hlev hws hrep e1
      go_wp2_with fail
      go_region
      go_wp2_with fail
      go_roundw
      case rel => exact ⟨k + 1, a / 64, by omega, by omega, by go_num, by go_num, hid (by rw [div_up, ← hax.out]), hwi2.out, _, by simpa using hll, hst.out.1, hst.out.2⟩
      case measure => simp [intOf]; omega
    · go_wp2
      go_end0
      have ho := hm.out
      refine ⟨rfl, ⟨lv', hwi.cell hm.size ho, ?_, ho, hrep, hm.good.of hll (fun j b ws e => ?_) ?_⟩, hwi⟩
      · rw [hll]; exact hwi.cell hm.levels ho
      · obtain ⟨h1, h2⟩ := hlev j b ws e
        have hj : j < lv'.length := (List.getElem?_eq_some_iff.1 e).1
        refine ⟨h1, h2.congr fun m => ?_⟩
        have hjk : j < k := by omega
        simp [hjk]
      · rintro y (hy | rfl)
        · exact hm.good.lt y hy
        · exact hx

end Go.Proofs.YtjkiagjgnfaknaaDoor
