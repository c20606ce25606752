/- The document's Cycles, walked. -/
import Derived.Test.YtjngdecpomogbaaDoorRef8
namespace Go.Proofs.YtjngdecpomogbaaDoor
open Go.RowKit
set_option linter.unusedVariables false

/-- The least of a number and the first ones of its cycle. -/
def lo (f : Nat → Nat) (x : Nat) : Nat → Nat
  | 0 => x
  | i + 1 => if it f i x < lo f x i then it f i x else lo f x i

theorem lo_le (f : Nat → Nat) (x : Nat) : ∀ i j, j < i → lo f x i ≤ it f j x
  | 0, j, h => by omega
  | i + 1, j, h => by
    unfold lo
    by_cases e : j = i
    · subst e; split <;> omega
    · have := lo_le f x i j (by omega)
      split <;> omega

theorem lo_top (f : Nat → Nat) (x : Nat) : ∀ i, lo f x i ≤ x
  | 0 => Nat.le_refl _
  | i + 1 => by
    have := lo_top f x i
    unfold lo
    split <;> omega

theorem lo_lst {f : Nat → Nat} {x : Nat} (h : lst f x) : ∀ i, lo f x i = x
  | 0 => rfl
  | i + 1 => by
    have := lo_lst h i
    have := h i
    unfold lo
    rw [if_neg (by omega)]
    omega

theorem Pm.lo_iff {n : Nat} {f : Nat → Nat} (h : Pm n f) {x : Nat} (hx : x < n) : lo f x (orb f x).length = x ↔ lst f x := by
  have hp := (h.per_is hx).1
  have hl : (orb f x).length = per f x := by unfold orb; simp
  rw [hl]
  constructor
  · intro e k
    rw [hp.mod]
    have := lo_le f x (per f x) (k % per f x) (Nat.mod_lt _ hp.pos)
    omega
  · exact fun hl => lo_lst hl _

set_option maxRecDepth 100000 in
set_option maxHeartbeats 4000000 in
theorem rcycles_ok (v : Value) (n : Nat) (f : Nat → Nat) (w : World) (hv : IV w v (cl (fl n f))) (h : Pm n f) (hn : n ≤ 1000) :
    Calls Tryd.prog 20 #[v] w fun e w' => ∃ u, e = .returned u ∧ Rg w.heap.size w' u (cyc f n) ∧ Below w.heap.size w w' := by
  obtain ⟨i1, hjf, hy0, hy1, hy2⟩ := info_parts infoInts
  have hcy : Hid (∀ x y, x < n → Below w.heap.size w y → _) := hid (fun x y hx hy => rorbit_ok v n x f y (hv.below hy) h hx hn)
  have hh := hid h
  obtain ⟨ad, n', cap, rfl, ha⟩ := hv
  obtain rfl : n' = n := by have := ha.len; simp at this; exact this.symm
  clear h ha
  have hst0 : Hid (Rg w.heap.size w (.slice none 0 0) (cyc f 0) ∧ Below w.heap.size w w) := by
    have : cyc f 0 = [] := by simp [cyc]
    rw [this]
    exact ⟨Rg.nil _ _, Below.refl _ _⟩
  go_enter Tryd.func20, Tryd.ntmps20
  go_wp2_with fail
  go_loopw [3, 4, 5, 6, 7] (fun o u _ _ _ wr => ∃ x : Nat, x ≤ n' ∧ u = .int .i64 (x : Int) ∧ Hid (Rg w.heap.size wr o (cyc f x) ∧ Below w.heap.size w wr))
    (fun _ u _ _ _ _ => n' - (intOf u).toNat)
  case atStart => exact ⟨0, by omega, by go_num, hst0⟩
  case round =>
    obtain ⟨x, hx, rfl, hst⟩ := hrel
    clear hst0
    rcases Nat.lt_or_ge x n' with hlt | hge
    · have hcx := hid (hcy.out x wr hlt hst.out.2)
      go_wp2_with fail
      refine hcx.out.mono ?_
      rintro e w3 ⟨c, rfl, hr, b3⟩
      have hst3 : Hid (Rg w.heap.size w3 u3 (cyc f x) ∧ Rw 0 w3 c (orb f x) ∧ Below w.heap.size w w3) :=
        ⟨hst.out.1.more b3, hr.low (Nat.zero_le _), hst.out.2.trans (b3.mono hst.out.2.size)⟩
      clear hcx hst hr b3
      obtain ⟨d, hd⟩ : ∃ d, (orb f x).length = d := ⟨_, rfl⟩
      have hdn : d ≤ 1000 := by
        have := (hh.out.per_is hlt).2
        have h2 : (orb f x).length = per f x := by unfold orb; simp
        omega
      have hlo := hid (hh.out.lo_iff hlt)
      rw [hd] at hlo
      obtain ⟨ac, q3, cc, rfl, hI⟩ := hst3.out.2.1.iv
      obtain rfl : q3 = d := by have := hI.len; simp at this; omega
      have hcell : Hid (∀ k, k < q3 → ∃ b o, ac = some ⟨b, o, none⟩ ∧ w3.cell? ⟨b, o + k, none⟩ = some (.int .i64 (it f k x : Int))) := fun k hk => by
        refine hI.cell k _ (cl_get ?_)
        unfold orb at hd ⊢
        rw [fl_length] at hd
        exact fl_get (by omega)
      clear hI
      replace hd := hid hd
      go_wp2_with fail
      go_loopw [6, 7] (fun t u wr => ∃ k : Nat, k ≤ q3 ∧ u = .int .i64 (k : Int) ∧ t = .int .i64 (lo f x k : Int) ∧ w3 = wr)
        (fun _ u _ => q3 - (intOf u).toNat)
      case atStart => exact ⟨0, by omega, by go_num, rfl, rfl⟩
      case round =>
        obtain ⟨k, hk, rfl, rfl, rfl⟩ := hrel
        rcases Nat.lt_or_ge k q3 with hkd | hkd
        · obtain ⟨b1, o1, rfl, c1⟩ := hcell.out k hkd
          have hnx : Hid (lo f x (k + 1) = if it f k x < lo f x k then it f k x else lo f x k) := hid rfl
          have htop := lo_top f x k
          generalize lo f x k = m at *
          generalize it f k x = z at *
          have j1 : (0 : Int) ≤ (k : Int) := by omega
          have j2 : (k : Int) < (q3 : Int) := by omega
          by_cases e : z < m
          · have hn2 : Hid (lo f x (k + 1) = z) := by rw [hnx.out, if_pos e]; exact hid rfl
            have e1 : (z : Int) < (m : Int) := by omega
            have e2 : ¬ ((m : Int) < (z : Int)) := by omega
            have e3 : ¬ ((m : Int) ≤ (z : Int)) := by omega
            clear hnx
            go_wp2_with fail
            go_roundw
            case rel => exact ⟨k + 1, by omega, by go_num, by rw [hn2.out], trivial⟩
            case measure => simp [intOf]; omega
          · have hn2 : Hid (lo f x (k + 1) = m) := by rw [hnx.out, if_neg e]; exact hid rfl
            have e1 : ¬ ((z : Int) < (m : Int)) := by omega
            have e3 : (m : Int) ≤ (z : Int) := by omega
            clear hnx
            go_wp2_with fail
            go_roundw
            case rel => exact ⟨k + 1, by omega, by go_num, by rw [hn2.out], trivial⟩
            case measure => simp [intOf]; omega
        · obtain rfl : k = q3 := by omega
          have htop := lo_top f x k
          obtain ⟨m, hm⟩ : ∃ m, lo f x k = m := ⟨_, rfl⟩
          rw [hm] at hlo htop ⊢
          by_cases e : m = x
          · have hyes : Hid (lst f x) := hid (hlo.out.1 e)
            subst e
            obtain ⟨⟨us, hus, ho, hrs⟩, hR, hb⟩ := hst3.out
            have hle := cyc_le f m
            have hba := balloc w3 (.cells #[.slice ac k cc] 22)
            have hszr := hb.size
            replace hrs := hid hrs
            replace hR := hid hR
            replace hba := hid hba
            replace hus := hid hus
            replace hb := hid hb
            clear hst3 hlo hm
            go_wp2_with (at_builtin; refine wpList_append_own _ rfl (.tmp 33) (.tmp 35) 35 rfl w.heap.size 22 i1 _ 1 24 Tryd.underlying35 hjf hy0 hy1 hy2 rfl (by decide) _ _ _ rfl (ho.alloc _) ⟨w3.heap.size, 0, none⟩ 1 1 [.slice ac k cc] rfl rfl (one_new w3 _ _) (by simp [Value.oneCell']) (by unfold maxLen; omega) (by omega) (by simp; omega) ?_; intro v5 w5 ho5 hg5 _; refine Hid.out ?_)
            have hnew : Hid (Rg w.heap.size w5 v5 (cyc f (m + 1)) ∧ Below w.heap.size w w5) := by
              refine ⟨?_, below_grown (hb.out.trans (hba.out.mono hszr)) (Nat.le_refl _) (ho.alloc _) (Nat.le_refl _) hg5⟩
              rw [cyc_yes hyes.out]
              exact Rg.push hus.out (ho.alloc _) (fun i l u hi hj => (hrs.out i l u hi hj).more hba.out) (hR.out.more hba.out) ho5 hg5
            clear ho5 hg5 ho hrs hR hb
            refine hid ?_
            go_wp2_with fail
            go_roundw
            case rel => exact ⟨m + 1, by omega, by go_num, hnew⟩
            case measure => simp [intOf]; omega
          · have hno : ¬ lst f x := fun hl => e (hlo.out.2 hl)
            have hnew : Hid (Rg w.heap.size w3 u3 (cyc f (x + 1)) ∧ Below w.heap.size w w3) := by rw [cyc_no hno]; exact ⟨hst3.out.1, hst3.out.2.2⟩
            have t1 : ((m : Int) == (x : Int)) = false := by simp; omega
            have t2 : ¬ ((m : Int) = (x : Int)) := by omega
            clear hst3 hlo hm hno
            go_wp2_with fail
            go_roundw
            case rel => exact ⟨x + 1, by omega, by go_num, hnew⟩
            case measure => simp [intOf]; omega
    · obtain rfl : x = n' := by omega
      go_wp2_with fail
      go_ret
      exact ⟨_, rfl, hst.out⟩

end Go.Proofs.YtjngdecpomogbaaDoor
