/- model's flat, walked. -/
import Derived.Test.YtboafgimjadboaaGreatDoorBcount
import Derived.Test.YtboafgimjadboaaGreatDoorBmm
import Derived.Test.YtboafgimjadboaaGreatDoorGood17
namespace Go.Proofs.YtboafgimjadboaaGreatDoor
open Go.RowKit
set_option linter.unusedVariables false

theorem load_at {V E : Nat} {u : Value} {ls : List (List Int)} {W : World} (a b : Int) (ha : a = (V : Int)) (hb : b = (E : Int)) (h1 : 1 ≤ V) (h2 : V ≤ 1048576) (h3 : 1 ≤ E) (h4 : E ≤ 1048576) (hu : RV W u ls) :
    Calls Tryz.prog 54 #[.int .i64 a, .int .i64 b, u] W fun x w' => Below W.heap.size W w' ∧ ((Good V E ls ∧ ∃ tb, x = .returned (.tuple #[.pointer (some ⟨tb, 0, none⟩), .nilIface]) ∧ TA w' W.heap.size tb V E (RR ls ls.length 0)) ∨ (¬ Good V E ls ∧ x = .returned (.tuple #[.pointer none, .iface 67 (.int .i64 3)]))) := by
  subst ha hb
  exact load_any h1 h2 h3 h4 hu

set_option maxRecDepth 100000 in
set_option maxHeartbeats 4000000 in
theorem flat_ok {w : World} {n : Int} {vv ev lv u lvv : Value} {m : Mo} (hm : Mp w vv ev lv m) (h : Told m) (hc : Cy m) (hvl : m.vs.length ≤ 1000) (hel : m.es.length ≤ 1000) (hr : RV w u (rwsI m)) (hl : RN w lvv (Ar.lives m.vs)) (z : Bool) (hz : z = true ↔ Xi (mV m) (mE m) (Rm m) = 0) :
    Calls Tryz.prog 26 #[.agg #[.int .i64 n, vv, ev, lv], u, lvv] w fun e w' => e = .returned (.bool z) ∧ Below w.heap.size w w' := by
  obtain ⟨va, vn, vc, rfl, hV, _, _, _⟩ := hm.vs
  obtain ⟨ea, en, ec, rfl, hE, _, _, _⟩ := hm.es
  have hvn := hV.len
  have hen := hE.len
  obtain ⟨V, hVe⟩ : ∃ V, mV m = V := ⟨_, rfl⟩
  obtain ⟨E, hEe⟩ : ∃ E, mE m = E := ⟨_, rfl⟩
  have v1 : V = max vn 1 := by rw [← hVe, ← hvn]; rfl
  have e1 : E = max en 1 := by rw [← hEe, ← hen]; rfl
  have hvV : m.vs.length ≤ V := by omega
  have heE : m.es.length ≤ E := by omega
  have m1 : max (vn : Int) 1 = (V : Int) := by omega
  have m2 : max (en : Int) 1 = (E : Int) := by omega
  rw [hVe, hEe] at hz
  have hb0 := hid (balloc w (.cells #[.int .i64 n, .slice va vn vc, .slice ea en ec, lv] 36))
  have hcs := boxd w n (.slice va vn vc) (.slice ea en ec) lv 36
  have hgood := hid (good17 h hc hvV heE)
  have hvlh := hid (rm_vl h hc hvV)
  have htw := hid (rm_tw h hc (E := E) hvV)
  have hll : Hid ((Ar.lives m.vs).length ≤ 1000) := by
    have := Ar.lives_count m.vs
    have := Ar.liveN_le m.vs
    show _ ≤ _
    omega
  have hrr := hid (rr_rm m)
  have hld := hid (fun a b ha hb => load_at (V := V) (E := E) a b ha hb (by omega) (by omega) (by omega) (by omega) (hr.below hb0.out))
  have m3 : Hid (max (vn : Int) 1 = (V : Int) ∧ max (en : Int) 1 = (E : Int)) := ⟨m1, m2⟩
  clear m1 m2
  replace hl := hid hl
  replace hz := hid hz
  have hE8 : E ≤ 1000 := by omega
  have hV1 : 1 ≤ V := by omega
  clear hr hm h hc hV hE hvV heE hvl hel v1 e1 hVe hEe hvn hen
  go_enter Tryz.func26, Tryz.ntmps26
  go_wp2_with fail
  all_goals
    refine Calls.mono (hld.out _ _ ?_ ?_) ?_
    · have := m3.out; omega
    · have := m3.out; omega
    rintro e w2 ⟨b2, ⟨_, tb, rfl, ha⟩ | ⟨hn, _⟩⟩
    · rw [hrr.out] at ha
      have hB := hid (hb0.out.trans (b2.mono hb0.out.size))
      have hsf := hid (sflat_ok ha htw.out hE8 hV1 lvv (Ar.lives m.vs) (hl.out.below hB.out) hll.out hvlh.out z hz.out)
      clear ha b2 hld
      go_wp2_with fail
      refine hsf.out.mono ?_
      rintro e w3 ⟨rfl, b3⟩
      have hB3 := hid (hB.out.trans (b3.mono hB.out.size))
      clear b3 hsf
      go_wp2_with fail
      go_ret
      exact ⟨rfl, hB3.out⟩
    · exact absurd hgood.out hn

end Go.Proofs.YtboafgimjadboaaGreatDoor
