/- 'Load', walked. -/
import Derived.Test.YtdlggnibgnflnaaDoorFillT10
import Derived.Test.YtdlggnibgnflnaaDoorPairT10
namespace Go.Proofs.YtdlggnibgnflnaaDoor
open Go.RowKit
set_option linter.unusedVariables false

/-- The lists are turns. -/
def Good (V E : Nat) (ls : List (List Int)) : Prop := ls.length ≤ V ∧ Ok V E ls ∧ Tw V E (RR ls ls.length 0)

set_option maxRecDepth 100000 in
set_option maxHeartbeats 4000000 in
theorem load_arg (v e : Int) (u : Value) (w : World) (h : ¬ (1 ≤ v ∧ v ≤ 1048576 ∧ 1 ≤ e ∧ e ≤ 1048576)) : Calls Tryd.prog 29 #[.int .i64 v, .int .i64 e, u] w fun x w' => x = .returned (.tuple #[.pointer none, .iface 65 (.int .i64 1)]) ∧ w = w' := by
  have hn := hid (new_bad v e w h)
  clear h
  go_enter Tryd.func29, Tryd.ntmps29
  go_wp2_with fail
  refine hn.out.mono ?_
  rintro x w1 ⟨rfl, rfl⟩
  go_wp2_with fail
  go_ret2
  exact ⟨rfl, rfl⟩

set_option maxRecDepth 100000 in
set_option maxHeartbeats 4000000 in
theorem load_any {V E : Nat} {u : Value} {ls : List (List Int)} {W : World} (h1 : 1 ≤ V) (h2 : V ≤ 1048576) (h3 : 1 ≤ E) (h4 : E ≤ 1048576) (hu : RV W u ls) :
    Calls Tryd.prog 29 #[.int .i64 (V : Int), .int .i64 (E : Int), u] W fun x w' => Below W.heap.size W w' ∧ ((Good V E ls ∧ ∃ tb, x = .returned (.tuple #[.pointer (some ⟨tb, 0, none⟩), .nilIface]) ∧ TA w' W.heap.size tb V E (RR ls ls.length 0)) ∨ (¬ Good V E ls ∧ x = .returned (.tuple #[.pointer none, .iface 65 (.int .i64 3)]))) := by
  obtain ⟨ad, n, cap, rfl, hs⟩ := hu
  have hlen := hs.len
  have hbig := hs.big
  replace hs := hid hs
  have hn := hid (new_ok V E W h1 h2 h3 h4)
  by_cases hl : n ≤ V
  · have t1 : decide ((n : Int) > (V : Int)) = false := decide_eq_false (by omega)
    have t1' : decide ((V : Int) < (n : Int)) = false := decide_eq_false (by omega)
    have t1'' : decide (V < n) = false := decide_eq_false (by omega)
    go_enter Tryd.func29, Tryd.ntmps29
    go_wp2_with fail
    refine hn.out.mono ?_
    rintro x w1 ⟨rfl, a1, b1⟩
    rw [← RR_zero ls] at a1
    replace a1 := hid a1
    replace b1 := hid b1
    go_wp2_with fail
    clear t1 t1' t1''
    go_loopw [10, 11, 28] (fun _ _ s28 wr => ∃ v : Nat, v ≤ n ∧ s28 = .int .i64 (v : Int) ∧ Hid (TA wr W.heap.size W.heap.size V E (RR ls v 0) ∧ Below W.heap.size W wr ∧ ∀ j l k d, j < v → ls[j]? = some l → l[k]? = some d → okD V E (RR ls j k) d)) (fun _ _ s28 _ => n - (intOf s28).toNat)
    case atStart => exact ⟨0, by omega, by go_num, a1.out, b1.out, fun j l k d hj => by omega⟩
    case round =>
      obtain ⟨v, hv, rfl, hst⟩ := hrel
      clear a1 b1 hn
      by_cases hc : v < n
      · have t1 : decide ((v : Int) < (n : Int)) = true := decide_eq_true (by omega)
        obtain ⟨l, hz⟩ : ∃ l, ls[v]? = some l := ⟨_, List.getElem?_eq_getElem (by omega)⟩
        obtain ⟨ab, ao, rw, rfl, cz, hiv⟩ := hs.out.cell v l hz
        have cz' := (hst.out.2.1.cell (World.block_lt_of_cell? W _ cz)).trans cz
        have hf := hid (fill_ok hst.out.1 hz (by omega) hiv hst.out.2.1)
        replace hz := hid hz
        clear cz hiv
        go_wp2_with fail
        refine hf.out.mono ?_
        rintro x w2 ⟨z, rfl, k2, hy, hno⟩
        have hb2 := hid (hst.out.2.1.trans (k2.below hst.out.2.1.size))
        replace hy := hid hy
        replace hno := hid hno
        clear k2 hf cz'
        cases z
        · go_wp2_with fail
          go_ret2
          refine ⟨hb2.out, .inr ⟨fun hq => ?_, rfl⟩⟩
          obtain ⟨k, d, hd, hn⟩ := hno.out (by simp)
          exact hn (hq.2.1 v l k d hz.out hd)
        · go_wp2_with fail
          go_roundw
          case rel =>
            refine ⟨v + 1, by omega, by go_num, (hy.out (by simp)).2, hb2.out, fun j l' k d hj hl' hd => ?_⟩
            by_cases q : j = v
            · subst q
              obtain rfl : l = l' := Option.some.inj (hz.out.symm.trans hl')
              exact (hy.out (by simp)).1 k d hd
            · exact hst.out.2.2 j l' k d (by omega) hl' hd
          case measure => simp [intOf]; omega
      · obtain rfl : n = v := by omega
        have t1 : decide ((n : Int) < (n : Int)) = false := decide_eq_false (by omega)
        have hpd := hid (paired_ok hst.out.1)
        go_wp2_with fail
        refine hpd.out.mono ?_
        rintro x w2 ⟨z, rfl, b2, hz⟩
        have hb2 := hid (hst.out.2.1.trans (b2.mono hst.out.2.1.size))
        have ha2 := hid (hst.out.1.more b2)
        replace hz := hid hz
        clear b2 hpd
        cases z
        · go_wp2_with fail
          go_ret2
          refine ⟨hb2.out, .inr ⟨fun hq => ?_, rfl⟩⟩
          have := hq.2.2
          rw [hlen] at this
          exact absurd (hz.out.2 this) (by decide)
        · go_wp2_with fail
          go_ret2
          refine ⟨hb2.out, .inl ⟨⟨by omega, fun j l k d hj hd => hst.out.2.2 j l k d (by have := (List.getElem?_eq_some_iff.1 hj).1; omega) hj hd, ?_⟩, _, rfl, ?_⟩⟩
          · rw [hlen]; exact hz.out.1 (by simp)
          · rw [hlen]; exact ha2.out
  · have t1 : decide ((n : Int) > (V : Int)) = true := decide_eq_true (by omega)
    have t1' : decide ((V : Int) < (n : Int)) = true := decide_eq_true (by omega)
    have t1'' : decide (V < n) = true := decide_eq_true (by omega)
    go_enter Tryd.func29, Tryd.ntmps29
    go_wp2_with fail
    refine hn.out.mono ?_
    rintro x w1 ⟨rfl, a1, b1⟩
    replace a1 := hid a1
    replace b1 := hid b1
    go_wp2_with fail
    go_ret2
    exact ⟨b1.out, .inr ⟨fun hq => by have := hq.1; omega, rfl⟩⟩

end Go.Proofs.YtdlggnibgnflnaaDoor
