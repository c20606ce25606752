/- 'next': the least marked place from one on. -/
import Derived.Test.YtjkiagjgnfaknaaDoorLook
namespace Go.Proofs.YtjkiagjgnfaknaaDoor
open Go.RowKit

/-- What 'next' answers. -/
def Nexts (P : Nat → Prop) (f : Nat) (e : Ending) : Prop :=
  (∃ x : Nat, e = .returned (.tuple #[.int .i64 (x : Int), .bool true]) ∧ Least P f x) ∨ (e = .returned (.tuple #[.int .i64 0, .bool false]) ∧ ∀ x, P x → ¬ f ≤ x)

theorem and63 (a : Nat) (h : a < 9223372036854775808) : bits .and .i64 (a : Int) 63 = ((a % 64 : Nat) : Int) := by
  have e : bits .and .i64 (a : Int) (63 : Int) = IntKind.i64.wrap ((BitVec.ofInt 64 (a : Int) &&& BitVec.ofInt 64 (63 : Int)).toNat : Int) := rfl
  rw [e, BitVec.toNat_and, show (BitVec.ofInt 64 (63 : Int)).toNat = 2 ^ 6 - 1 from by decide, BitVec.ofInt_natCast, BitVec.toNat_ofNat, Nat.mod_eq_of_lt (show a < 2 ^ 64 by omega), Nat.and_two_pow_sub_one_eq_mod]
  simp [IntKind.wrap, IntKind.signed, IntKind.bits]
  omega

theorem shr_nat (v s : Nat) : (v : Int) / 2 ^ s = ((v >>> s : Nat) : Int) := by
  rw [Nat.shiftRight_eq_div_pow]
  simp

theorem Seek.up0 {k a f n : Nat} {P : Nat → Prop} (s : Seek P f k a) (hP : ∀ x, P x → x < n) (h : cd n (k + 1) ≤ a / 64) : ∀ x, P x → ¬ f ≤ x := by
  intro x hx hf
  have h1 := s.1 x hx hf
  have h2 := div_lt_cd (hP x hx) (k + 1)
  rw [div_up] at h2
  omega

theorem Seek.past {ls : List (List Nat)} {k a f n : Nat} {P : Nat → Prop} (s : Seek P f k a) (g : Good ls n P) (h : ls.length ≤ k) (hk : k ≤ ls.length) (h1 : 1 ≤ k → 1 ≤ a) : ∀ x, P x → ¬ f ≤ x := by
  obtain rfl : k = ls.length := by omega
  have := h1 g.ne
  have := g.top
  exact s.out g.lt (by omega)

set_option maxHeartbeats 2000000 in
theorem next_nat (lo hi sb so n lb cap : Nat) (f : Nat) (P : Nat → Prop) (lv : List (Nat × List Nat)) (w : World) (hm : Marks w lo hi sb so n P lb cap lv) (hT : Tab w) (hfb : f < 9223372036854775808) :
    Calls Tryd.prog 48 #[.pointer (some ⟨sb, so, none⟩), .int .i64 (f : Int)] w fun e w' => Nexts P f e ∧ w = w' := by
  have hn := hm.good.le
  have hlv := hm.levels
  have hfew : lv.length ≤ 1048576 := by simpa using hm.good.few
  go_enter Tryd.func48, Tryd.ntmps48
  go_wp2
  go_loopw [6, 17] (fun u v wr => ∃ k a : Nat, k ≤ lv.length ∧ (1 ≤ k → 1 ≤ a) ∧ a < 9223372036854775808 ∧ u = .int .i64 (a : Int) ∧ v = .int .i64 (k : Int) ∧ Hid (Seek P f k a) ∧ wr = w)
    (fun _ v _ => lv.length - (intOf v).toNat)
  case atStart => exact ⟨0, f, Nat.zero_le _, by omega, by omega, by go_num, by go_num, Seek.start P f, rfl⟩
  case round =>
    obtain ⟨k, a, hk, ha1, ha, rfl, rfl, hs, rfl⟩ := hrel
    rcases Nat.lt_or_ge k lv.length with hlt | hge
    · obtain ⟨b, ws, e1, hrow, hlen, hlev, hws⟩ := hm.get (k := k) hlt
      have hl2 := hid hlen
      clear hlen
      rcases Nat.lt_or_ge (a / 64) ws.length with hin | hout
      · obtain ⟨v, hv⟩ : ∃ v, ws[a / 64]? = some v := ⟨_, List.getElem?_eq_getElem hin⟩
        have hcell := hws.cell hv
        have hand := and63 a ha
        have hv1 := hid hv
        have hw2 : a ≤ 1048576 * 64 := by have := hl2.out; have := cd_le n (k + 1); omega
        obtain ⟨u, hu⟩ : ∃ u, v >>> (a % 64) = u := ⟨_, rfl⟩
        have hu1 := hid hu
        have hshr : (v : Int) / 2 ^ (a % 64) = (u : Int) := by rw [shr_nat, hu]
        clear hv hu
        by_cases hu0 : u = 0
        · subst hu0
          go_wp2_with fail
          go_roundw
          case rel => exact ⟨k + 1, a / 64 + 1, by omega, by omega, by omega, by go_num, by go_num, hs.out.up hlev hv1.out hu1.out, trivial⟩
          case measure => simp [intOf]; omega
        · have hd : decide ((u : Int) = 0) = false := decide_eq_false (by omega)
          have hne : v >>> (a % 64) ≠ 0 := by rw [hu1.out]; exact hu0
          have hfd := hid (hu1.out ▸ hs.out.found hlev hv1.out hne)
          have hult : u < 18446744073709551616 := by
            have h1 := hlev.lt hv1.out
            have h2 : v >>> (a % 64) ≤ v := by rw [Nat.shiftRight_eq_div_pow]; exact Nat.div_le_self _ _
            have h3 := hu1.out
            omega
          have hctz := (ctz_bit hu0 hult).2.2
          clear hne
          go_wp2_with (first
            | (go_at_call 56; refine (tz _ u rfl hult hu0 _ hT).mono ?_; rintro e w' ⟨rfl, rfl⟩)
            | (go_at_call 55; refine (lowest lo hi sb so n lb cap f k (a + Lib.ctz 64 u) P lv _ hm hT hlt hfd.out).mono ?_; rintro e w' ⟨x, rfl, hx, rfl⟩))
          go_ret2
          exact ⟨Or.inl ⟨x, rfl, hx⟩, rfl⟩
      · have ho := hid (hs.out.up0 hm.good.lt (by rw [← hl2.out]; exact hout))
        go_wp2
        go_ret2
        exact ⟨Or.inr ⟨rfl, ho.out⟩, rfl⟩
    · have ho := hid (hs.out.past hm.good (by simpa using hge) (by simpa using hk) ha1)
      go_wp2
      go_ret2
      exact ⟨Or.inr ⟨rfl, ho.out⟩, rfl⟩

set_option maxHeartbeats 2000000 in
theorem next_neg (lo hi sb so n lb cap : Nat) (F : Int) (P : Nat → Prop) (lv : List (Nat × List Nat)) (w : World) (hm : Marks w lo hi sb so n P lb cap lv) (hT : Tab w) (hF : F < 0) :
    Calls Tryd.prog 48 #[.pointer (some ⟨sb, so, none⟩), .int .i64 F] w fun e w' => Nexts P 0 e ∧ w = w' := by
  have hn := hm.good.le
  have hlv := hm.levels
  have hfew : lv.length ≤ 1048576 := by simpa using hm.good.few
  go_enter Tryd.func48, Tryd.ntmps48
  go_wp2
  go_loopw [6, 17] (fun u v wr => ∃ k a : Nat, k ≤ lv.length ∧ (1 ≤ k → 1 ≤ a) ∧ a < 9223372036854775808 ∧ u = .int .i64 (a : Int) ∧ v = .int .i64 (k : Int) ∧ Hid (Seek P 0 k a) ∧ wr = w)
    (fun _ v _ => lv.length - (intOf v).toNat)
  case atStart => exact ⟨0, 0, Nat.zero_le _, by omega, by omega, by go_num, by go_num, Seek.start P 0, rfl⟩
  case round =>
    obtain ⟨k, a, hk, ha1, ha, rfl, rfl, hs, rfl⟩ := hrel
    rcases Nat.lt_or_ge k lv.length with hlt | hge
    · obtain ⟨b, ws, e1, hrow, hlen, hlev, hws⟩ := hm.get (k := k) hlt
      have hl2 := hid hlen
      clear hlen
      rcases Nat.lt_or_ge (a / 64) ws.length with hin | hout
      · obtain ⟨v, hv⟩ : ∃ v, ws[a / 64]? = some v := ⟨_, List.getElem?_eq_getElem hin⟩
        have hcell := hws.cell hv
        have hand := and63 a ha
        have hv1 := hid hv
        have hw2 : a ≤ 1048576 * 64 := by have := hl2.out; have := cd_le n (k + 1); omega
        obtain ⟨u, hu⟩ : ∃ u, v >>> (a % 64) = u := ⟨_, rfl⟩
        have hu1 := hid hu
        have hshr : (v : Int) / 2 ^ (a % 64) = (u : Int) := by rw [shr_nat, hu]
        clear hv hu
        by_cases hu0 : u = 0
        · subst hu0
          go_wp2_with fail
          go_roundw
          case rel => exact ⟨k + 1, a / 64 + 1, by omega, by omega, by omega, by go_num, by go_num, hs.out.up hlev hv1.out hu1.out, trivial⟩
          case measure => simp [intOf]; omega
        · have hd : decide ((u : Int) = 0) = false := decide_eq_false (by omega)
          have hne : v >>> (a % 64) ≠ 0 := by rw [hu1.out]; exact hu0
          have hfd := hid (hu1.out ▸ hs.out.found hlev hv1.out hne)
          have hult : u < 18446744073709551616 := by
            have h1 := hlev.lt hv1.out
            have h2 : v >>> (a % 64) ≤ v := by rw [Nat.shiftRight_eq_div_pow]; exact Nat.div_le_self _ _
            have h3 := hu1.out
            omega
          have hctz := (ctz_bit hu0 hult).2.2
          clear hne
          go_wp2_with (first
            | (go_at_call 56; refine (tz _ u rfl hult hu0 _ hT).mono ?_; rintro e w' ⟨rfl, rfl⟩)
            | (go_at_call 55; refine (lowest lo hi sb so n lb cap 0 k (a + Lib.ctz 64 u) P lv _ hm hT hlt hfd.out).mono ?_; rintro e w' ⟨x, rfl, hx, rfl⟩))
          go_ret2
          exact ⟨Or.inl ⟨x, rfl, hx⟩, rfl⟩
      · have ho := hid (hs.out.up0 hm.good.lt (by rw [← hl2.out]; exact hout))
        go_wp2
        go_ret2
        exact ⟨Or.inr ⟨rfl, ho.out⟩, rfl⟩
    · have ho := hid (hs.out.past hm.good (by simpa using hge) (by simpa using hk) ha1)
      go_wp2
      go_ret2
      exact ⟨Or.inr ⟨rfl, ho.out⟩, rfl⟩

end Go.Proofs.YtjkiagjgnfaknaaDoor
